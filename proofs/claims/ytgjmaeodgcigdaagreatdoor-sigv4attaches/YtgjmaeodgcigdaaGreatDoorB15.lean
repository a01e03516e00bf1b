/- What the document's plain and Encode answer. · Digits of a byte that is encoded. · What the document's Encode answers. · Slices of pairs: cut, and appended to one that the call owns. -/
import Derived.Test.YtgjmaeodgcigdaaGreatDoorB0
import Derived.Test.YtgjmaeodgcigdaaGreatDoorB2
import Derived.Test.YtgjmaeodgcigdaaGreatDoorB8
import Derived.Test.YtgjmaeodgcigdaaGreatDoorB14
import Derived.Laws.AppendOwnNone
namespace Go.Proofs.YtgjmaeodgcigdaaGreatDoor
open Go.RowKit

set_option maxHeartbeats 1000000 in
theorem refPlain (c : UInt8) (w : World) :
    Calls Tryz.prog 94 #[.int .u8 (c.toNat : Int)] w fun e w' => e = .returned (.bool (plainB c)) ∧ w' = w := by
  obtain ⟨n, hn⟩ : ∃ n, n = c.toNat := ⟨_, rfl⟩
  have H : Hid (plainB c = plainN n) := by unfold Hid plainB; rw [hn]
  have h256 : n < 256 := by rw [hn]; exact c.toNat_lt
  rw [← hn]
  clear hn
  by_cases c1 : n < 45
  · have i1 : (n : Int) < 45 := by omega
    clear c1
    go_enter Tryz.func94, Tryz.ntmps94
    go_wp2
    go_ret
    exact ⟨ret_b (by rw [H.out]; unfold plainN; rw [Bool.eq_iff_iff]; simp <;> omega), rfl⟩
  by_cases c2 : n = 45
  · subst c2
    clear c1
    go_enter Tryz.func94, Tryz.ntmps94
    go_wp2
    go_ret
    exact ⟨ret_b (by rw [H.out]; unfold plainN; rw [Bool.eq_iff_iff]; simp <;> omega), rfl⟩
  by_cases c3 : n = 46
  · subst c3
    clear c1 c2
    go_enter Tryz.func94, Tryz.ntmps94
    go_wp2
    go_ret
    exact ⟨ret_b (by rw [H.out]; unfold plainN; rw [Bool.eq_iff_iff]; simp <;> omega), rfl⟩
  by_cases c4 : n = 47
  · subst c4
    clear c1 c2 c3
    go_enter Tryz.func94, Tryz.ntmps94
    go_wp2
    go_ret
    exact ⟨ret_b (by rw [H.out]; unfold plainN; rw [Bool.eq_iff_iff]; simp <;> omega), rfl⟩
  by_cases c5 : n ≤ 57
  · have i1 : (48 : Int) ≤ (n : Int) := by omega
    have i2 : (n : Int) ≤ 57 := by omega
    clear c1 c2 c3 c4 c5
    go_enter Tryz.func94, Tryz.ntmps94
    go_wp2
    go_ret
    exact ⟨ret_b (by rw [H.out]; unfold plainN; rw [Bool.eq_iff_iff]; simp <;> omega), rfl⟩
  by_cases c6 : n < 65
  · have i1 : (57 : Int) < (n : Int) := by omega
    have i2 : (n : Int) < 65 := by omega
    clear c1 c2 c3 c4 c5 c6
    go_enter Tryz.func94, Tryz.ntmps94
    go_wp2
    go_ret
    exact ⟨ret_b (by rw [H.out]; unfold plainN; rw [Bool.eq_iff_iff]; simp <;> omega), rfl⟩
  by_cases c7 : n ≤ 90
  · have i1 : (65 : Int) ≤ (n : Int) := by omega
    have i2 : (n : Int) ≤ 90 := by omega
    clear c1 c2 c3 c4 c5 c6 c7
    go_enter Tryz.func94, Tryz.ntmps94
    go_wp2
    go_ret
    exact ⟨ret_b (by rw [H.out]; unfold plainN; rw [Bool.eq_iff_iff]; simp <;> omega), rfl⟩
  by_cases c8 : n = 95
  · subst c8
    clear c1 c2 c3 c4 c5 c6 c7
    go_enter Tryz.func94, Tryz.ntmps94
    go_wp2
    go_ret
    exact ⟨ret_b (by rw [H.out]; unfold plainN; rw [Bool.eq_iff_iff]; simp <;> omega), rfl⟩
  by_cases c9 : n < 97
  · have i1 : (90 : Int) < (n : Int) := by omega
    have i2 : (n : Int) < 97 := by omega
    have i3 : ¬ (n : Int) = 95 := by omega
    clear c1 c2 c3 c4 c5 c6 c7 c8 c9
    go_enter Tryz.func94, Tryz.ntmps94
    go_wp2
    go_ret
    exact ⟨ret_b (by rw [H.out]; unfold plainN; rw [Bool.eq_iff_iff]; simp <;> omega), rfl⟩
  by_cases c10 : n ≤ 122
  · have i1 : (97 : Int) ≤ (n : Int) := by omega
    have i2 : (n : Int) ≤ 122 := by omega
    clear c1 c2 c3 c4 c5 c6 c7 c8 c9 c10
    go_enter Tryz.func94, Tryz.ntmps94
    go_wp2
    go_ret
    exact ⟨ret_b (by rw [H.out]; unfold plainN; rw [Bool.eq_iff_iff]; simp <;> omega), rfl⟩
  by_cases c11 : n = 126
  · subst c11
    clear c1 c2 c3 c4 c5 c6 c7 c8 c9 c10
    go_enter Tryz.func94, Tryz.ntmps94
    go_wp2
    go_ret
    exact ⟨ret_b (by rw [H.out]; unfold plainN; rw [Bool.eq_iff_iff]; simp <;> omega), rfl⟩
  have i1 : (122 : Int) < (n : Int) := by omega
  have i3 : ¬ (n : Int) = 126 := by omega
  clear c1 c2 c3 c4 c5 c6 c7 c8 c9 c10 c11
  go_enter Tryz.func94, Tryz.ntmps94
  go_wp2
  go_ret
  exact ⟨ret_b (by rw [H.out]; unfold plainN; rw [Bool.eq_iff_iff]; simp <;> omega), rfl⟩
end Go.Proofs.YtgjmaeodgcigdaaGreatDoor
namespace Go.Proofs.YtgjmaeodgcigdaaGreatDoor
open Go.RowKit

theorem hexU_at (n : Nat) (h : n < 16) (hp : n < (ByteArray.mk #[48, 49, 50, 51, 52, 53, 54, 55, 56, 57, 65, 66, 67, 68, 69, 70]).size) : (ByteArray.mk #[48, 49, 50, 51, 52, 53, 54, 55, 56, 57, 65, 66, 67, 68, 69, 70])[n]'hp = hexU n := by
  have : n = 0 ∨ n = 1 ∨ n = 2 ∨ n = 3 ∨ n = 4 ∨ n = 5 ∨ n = 6 ∨ n = 7 ∨ n = 8 ∨ n = 9 ∨ n = 10 ∨ n = 11 ∨ n = 12 ∨ n = 13 ∨ n = 14 ∨ n = 15 := by omega
  rcases this with rfl | rfl | rfl | rfl | rfl | rfl | rfl | rfl | rfl | rfl | rfl | rfl | rfl | rfl | rfl | rfl <;> rfl
theorem ixU (k : IntKind) (n : Nat) (h : n < 16) (u : World) : (Instr.index 9 (.string (ByteArray.mk #[48, 49, 50, 51, 52, 53, 54, 55, 56, 57, 65, 66, 67, 68, 69, 70])) (.int k (n : Int))).run Tryz.prog u = .ok (.int .u8 ((hexU n).toNat : Int)) u := by
  have hs : (ByteArray.mk #[48, 49, 50, 51, 52, 53, 54, 55, 56, 57, 65, 66, 67, 68, 69, 70]).size = 16 := rfl
  rw [run_index_string u 9 _ k (n : Int) Tryz.underlying9]
  rw [dif_pos ⟨by omega, by rw [hs]; omega⟩]
  have := hexU_at n h (by rw [hs]; exact h)
  simp only [Int.toNat_natCast, this]
/-- one more byte, encoded -/
theorem enc_kept (s : Bool) (l : List UInt8) (k : Nat) (c : UInt8) (hk : k < l.length) (hc : nth l k = c) (h : keptB s c = true) : encL s (l.take (k + 1)) = encL s (l.take k) ++ [c] := by
  rw [encL_take s l k hk, hc, enc1, if_pos h]
theorem enc_hex (s : Bool) (l : List UInt8) (k : Nat) (c : UInt8) (hk : k < l.length) (hc : nth l k = c) (h : keptB s c = false) : encL s (l.take (k + 1)) = encL s (l.take k) ++ [37, hexU (c.toNat / 16), hexU (c.toNat % 16)] := by
  rw [encL_take s l k hk, hc, enc1, if_neg (by rw [h]; simp)]
end Go.Proofs.YtgjmaeodgcigdaaGreatDoor
namespace Go.Proofs.YtgjmaeodgcigdaaGreatDoor
open Go.RowKit

attribute [local go_sem ↓] ixs ixU

theorem refPlain47 (w : World) : Calls Tryz.prog 94 #[.int .u8 47] w fun e w' => e = .returned (.bool false) ∧ w' = w := refPlain 47 w

set_option maxHeartbeats 2000000 in
theorem refEncode (s : ByteArray) (sl : Bool) (w : World) (hs : s.size ≤ 40000000000000) :
    Calls Tryz.prog 44 #[.string s, .bool sl] w fun e w' => e = .returned (.string ⟨(encL sl s.data.toList).toArray⟩) ∧ Below w.heap.size w w' := by
  obtain ⟨l, hl⟩ : ∃ l, l = s.data.toList := ⟨_, rfl⟩
  have Hl : Hid (l = s.data.toList) := hl
  have HL : Hid (l.length = s.size) := by unfold Hid; rw [hl]; rfl
  rw [← hl]
  clear hl
  go_enter Tryz.func44, Tryz.ntmps44
  go_wp2
  go_loopw [6, 7] (fun v i wr => ∃ k : Nat, k ≤ s.size ∧ i = .int .i64 k ∧ OwnB wr w.heap.size v (encL sl (l.take k)) ∧ Below w.heap.size w wr) (fun _ i _ => s.size - (intOf i).toNat)
  case atStart => exact ⟨0, Nat.zero_le _, rfl, OwnB.nil _ _, Below.refl _ _⟩
  case round =>
    obtain ⟨k, hk, rfl, hown, hbel⟩ := hrel
    by_cases hlt : k < s.size
    · have hb0 : (0 : Int) ≤ (k : Int) := by omega
      have hb1 : (k : Int) < (s.size : Int) := by omega
      have hcn : nth l k = sb s (k : Int) := by rw [Hl.out]; rfl
      have hkl : k < l.length := by rw [HL.out]; exact hlt
      have HK : Hid ((encL sl (l.take k)).length ≤ 3 * k) := by
        have := encL_length sl (l.take k)
        rw [List.length_take] at this
        unfold Hid
        omega
      have HB := hown.blk
      have Hkept := enc_kept sl l k _ hkl hcn
      have Hhex := enc_hex sl l k _ hkl hcn
      clear hkl hcn
      by_cases hp : plainB (sb s (k : Int)) = true
      · have HT : Hid (encL sl (l.take (k + 1)) = encL sl (l.take k) ++ [sb s (k : Int)]) := Hkept (by unfold keptB; rw [hp]; rfl)
        clear Hkept Hhex
        go_wp2_with (first | (go_at_call 94; refine (refPlain _ _).mono ?_; rintro e w' ⟨rfl, hww⟩; rw [hww, hp]; clear hww w') | (at_builtin; refine list_app1 _ rfl _ _ rfl w.heap.size _ (encL sl (l.take k)) rfl (hown.alloc _) wr.heap.size 1 [sb s (k : Int)] rfl rfl (heap_alloc_new wr _) (by have := HK.out; omega) (by have := hbel.size; simp; omega) ?_; intro v1 w1 hown1 hgrow))
        go_roundw
        case rel => exact ⟨k + 1, by omega, by go_num, by rw [HT.out]; exact hown1, (hbel.alloc hbel.size _).grown hgrow (by have := hbel.size; simp; omega) (fun j hj => (HB j hj).1)⟩
        case measure => simp [intOf]; omega
      · have hp' : plainB (sb s (k : Int)) = false := by simpa using hp
        clear hp
        cases sl with
        | true =>
          by_cases hq : sb s (k : Int) = 47
          · have HT : Hid (encL true (l.take (k + 1)) = encL true (l.take k) ++ [47]) := by have := Hkept (by unfold keptB; rw [hq]; simp); rw [hq] at this; exact this
            have hq' : ((sb s (k : Int)).toNat : Int) = 47 := by rw [hq]; rfl
            clear Hkept Hhex hq hp'
            go_wp2_with (first | (go_at_call 94; refine (refPlain47 _).mono ?_; rintro e w' ⟨rfl, hww⟩; rw [hww]; clear hww w') | (at_builtin; refine list_app1 _ rfl _ _ rfl w.heap.size _ (encL true (l.take k)) rfl (hown.alloc _) wr.heap.size 1 [47] rfl rfl (heap_alloc_new wr _) (by have := HK.out; omega) (by have := hbel.size; simp; omega) ?_; intro v1 w1 hown1 hgrow))
            go_roundw
            case rel => exact ⟨k + 1, by omega, by go_num, by rw [HT.out]; exact hown1, (hbel.alloc hbel.size _).grown hgrow (by have := hbel.size; simp; omega) (fun j hj => (HB j hj).1)⟩
            case measure => simp [intOf]; omega
          · have hq' : ¬ ((sb s (k : Int)).toNat : Int) = 47 := by intro e; exact hq (UInt8.toNat_inj.1 (by have : (47 : UInt8).toNat = 47 := rfl; omega))
            have HT : Hid (encL true (l.take (k + 1)) = encL true (l.take k) ++ [37, hexU ((sb s (k : Int)).toNat / 16), hexU ((sb s (k : Int)).toNat % 16)]) := Hhex (by unfold keptB; rw [hp']; simp [hq])
            clear Hkept Hhex
            have hx0 : (0 : Int) ≤ ((sb s (k : Int)).toNat : Int) := by omega
            have hx1 : ((sb s (k : Int)).toNat : Int) ≤ 255 := by have := (sb s (k : Int)).toNat_lt; omega
            obtain ⟨hi, hhi⟩ : ∃ n, n = (sb s (k : Int)).toNat / 16 := ⟨_, rfl⟩
            obtain ⟨lo, hlo⟩ : ∃ n, n = (sb s (k : Int)).toNat % 16 := ⟨_, rfl⟩
            have hq1 : ((sb s (k : Int)).toNat : Int) / 16 = (hi : Int) := by omega
            have hq2 : (((sb s (k : Int)).toNat : Int)).tmod 16 = (lo : Int) := by rw [Int.tmod_eq_emod_of_nonneg (by omega)]; omega
            have hq3 : hi < 16 := by omega
            have hq4 : lo < 16 := by omega
            have hw := wrap8_nat hi (by omega)
            rw [← hhi, ← hlo] at HT
            clear hhi hlo
            go_wp2_with (go_at_call 94; refine (refPlain _ _).mono ?_; rintro e w' ⟨rfl, hww⟩; rw [hww, hp']; clear hww w')
            go_region_held3 (fun w' => True) (trivial)
              ((refine step_app8 _ (by rfl) _ _ (by rfl) w.heap.size _ (encL true (l.take k)) (by rfl) ((hown.alloc _).heap rfl) wr.heap.size 3 3 [37, hexU hi, hexU lo] (by rfl) (by rfl) (heap_alloc_new wr _) (by omega) (by have := HK.out; omega) (by have := hbel.size; simp; omega) (wr.heap.size + 1) (by simp) ?_; intro gg cap w1 hown1 hgrow hat hlt1))
            all_goals
              go_wp2
              go_roundw
              case rel => exact ⟨k + 1, by omega, by go_num, by rw [HT.out]; exact hown1, ((hbel.alloc hbel.size _).drew).grown hgrow (by have := hbel.size; simp; omega) (fun j hj => (HB j hj).1)⟩
              case measure => simp [intOf]; omega
        | false =>
          have HT : Hid (encL false (l.take (k + 1)) = encL false (l.take k) ++ [37, hexU ((sb s (k : Int)).toNat / 16), hexU ((sb s (k : Int)).toNat % 16)]) := Hhex (by unfold keptB; rw [hp']; rfl)
          clear Hkept Hhex
          have hx0 : (0 : Int) ≤ ((sb s (k : Int)).toNat : Int) := by omega
          have hx1 : ((sb s (k : Int)).toNat : Int) ≤ 255 := by have := (sb s (k : Int)).toNat_lt; omega
          obtain ⟨hi, hhi⟩ : ∃ n, n = (sb s (k : Int)).toNat / 16 := ⟨_, rfl⟩
          obtain ⟨lo, hlo⟩ : ∃ n, n = (sb s (k : Int)).toNat % 16 := ⟨_, rfl⟩
          have hq1 : ((sb s (k : Int)).toNat : Int) / 16 = (hi : Int) := by omega
          have hq2 : (((sb s (k : Int)).toNat : Int)).tmod 16 = (lo : Int) := by rw [Int.tmod_eq_emod_of_nonneg (by omega)]; omega
          have hq3 : hi < 16 := by omega
          have hq4 : lo < 16 := by omega
          have hw := wrap8_nat hi (by omega)
          rw [← hhi, ← hlo] at HT
          clear hhi hlo
          go_wp2_with (go_at_call 94; refine (refPlain _ _).mono ?_; rintro e w' ⟨rfl, hww⟩; rw [hww, hp']; clear hww w')
          go_region_held3 (fun w' => True) (trivial)
            ((refine step_app8 _ (by rfl) _ _ (by rfl) w.heap.size _ (encL false (l.take k)) (by rfl) ((hown.alloc _).heap rfl) wr.heap.size 3 3 [37, hexU hi, hexU lo] (by rfl) (by rfl) (heap_alloc_new wr _) (by omega) (by have := HK.out; omega) (by have := hbel.size; simp; omega) (wr.heap.size + 1) (by simp) ?_; intro gg cap w1 hown1 hgrow hat hlt1))
          all_goals
            go_wp2
            go_roundw
            case rel => exact ⟨k + 1, by omega, by go_num, by rw [HT.out]; exact hown1, ((hbel.alloc hbel.size _).drew).grown hgrow (by have := hbel.size; simp; omega) (fun j hj => (HB j hj).1)⟩
            case measure => simp [intOf]; omega
    · have hcv := conv_own wr w.heap.size _ _ hown
      go_wp2
      go_ret
      have : k = s.size := by omega
      subst this
      exact ⟨ret_str (by rw [List.take_of_length_le (by rw [HL.out]; exact Nat.le_refl _)]), hbel⟩
end Go.Proofs.YtgjmaeodgcigdaaGreatDoor
namespace Go.Proofs.YtgjmaeodgcigdaaGreatDoor
open Go.RowKit

/-- a value that is a slice of these pairs -/
def IsPV (w : World) (v : Value) (l : List Pr) : Prop := ∃ a cap, v = .slice a l.length cap ∧ IsP w a l.length cap l
theorem IsPV.below {w w' : World} {n : Nat} {v : Value} {l : List Pr} (h : IsPV w v l) (hb : Below n w w') (hn : n = w.heap.size) : IsPV w' v l := by
  obtain ⟨a, cap, e, hi⟩ := h
  exact ⟨a, cap, e, hi.below hb hn⟩
theorem OwnP.isPV {e : TypeId} {w : World} {base : Nat} {v : Value} {l : List Pr} (h : OwnP e w base v l) : IsPV w v l := h.isP
theorem nthP_take (l : List Pr) (k i : Nat) (h : i < k) : nthP (l.take k) i = nthP l i := by
  unfold nthP; rw [List.getD_eq_getElem?_getD, List.getD_eq_getElem?_getD, List.getElem?_take, if_pos h]
theorem nthP_drop (l : List Pr) (k i : Nat) : nthP (l.drop k) i = nthP l (k + i) := by
  unfold nthP; rw [List.getD_eq_getElem?_getD, List.getD_eq_getElem?_getD, List.getElem?_drop]

theorem run_size (st e : TypeId) (hinfo : (Tryz.prog.info? e).map (fun i => (i.zero, i.size, i.bytes)) = some (some (.agg #[.string ⟨#[]⟩, .string ⟨#[]⟩]), 2, 32)) (he : Tryz.prog.elem st = e) (w : World) : (sizeOf (Tryz.prog.elem st)).run Tryz.prog w = .ok 2 w := by
  obtain ⟨i0, hi, hz0, hz1, hz2⟩ := info_parts hinfo
  rw [he]; simp [sizeOf, typeInfo, hi, hz1]
/-- l[:k] -/
theorem cutHead (st e : TypeId) (hu : Tryz.prog.underlying st = some (.slice e)) (hinfo : (Tryz.prog.info? e).map (fun i => (i.zero, i.size, i.bytes)) = some (some (.agg #[.string ⟨#[]⟩, .string ⟨#[]⟩]), 2, 32)) (he : Tryz.prog.elem st = e)
    {w : World} {v : Value} {l : List Pr} (h : IsPV w v l) (k : Nat) (hk : k ≤ l.length) : ∃ v1, (∀ u, (Instr.slice st v none (some (.int .i64 (k : Int))) none).run Tryz.prog u = .ok v1 u) ∧ IsPV w v1 (l.take k) := by
  obtain ⟨a, cap, rfl, hi⟩ := h
  have hle := hi.le
  refine ⟨.slice a k cap, fun u => ?_, a, cap, by rw [List.length_take, Nat.min_eq_left hk], ?_⟩
  · rw [run_slice_h u st a l.length cap (by rw [he]; exact hu) .i64 (k : Int) (by omega) (by omega), run_size st e hinfo he]
    simp only [Result.andThen, sliced, Int.toNat_natCast, Nat.zero_mul, Nat.sub_zero]
    cases a with
    | none => simp
    | some x =>
      obtain ⟨b, o, s⟩ := x
      simp only [Option.map_some]
      have : (⟨b, o, s⟩ : Addr).add 0 = ⟨b, o, s⟩ := by unfold Addr.add; split <;> simp_all
      rw [this]; simp
  · refine ⟨rfl, by rw [List.length_take]; omega, hi.max, hi.nil, fun hp => ?_⟩
    rw [List.length_take] at hp
    obtain ⟨b, off, e1, hc⟩ := hi.cells (by omega)
    refine ⟨b, off, e1, fun i hi2 => ?_⟩
    rw [List.length_take] at hi2
    rw [nthP_take l k i (by omega)]
    exact hc i (by omega)
/-- l[k:] -/
theorem cutTail (st e : TypeId) (hu : Tryz.prog.underlying st = some (.slice e)) (hinfo : (Tryz.prog.info? e).map (fun i => (i.zero, i.size, i.bytes)) = some (some (.agg #[.string ⟨#[]⟩, .string ⟨#[]⟩]), 2, 32)) (he : Tryz.prog.elem st = e)
    {w : World} {v : Value} {l : List Pr} (h : IsPV w v l) (k : Nat) (hk : k ≤ l.length) : ∃ v1, (∀ u, (Instr.slice st v (some (.int .i64 (k : Int))) none none).run Tryz.prog u = .ok v1 u) ∧ IsPV w v1 (l.drop k) := by
  obtain ⟨a, cap, rfl, hi⟩ := h
  have hle := hi.le
  have hmx := hi.max
  refine ⟨sliced a k l.length cap 2, fun u => ?_, if cap = k then a else a.map (·.add (k * 2)), cap - k, ?_, ?_⟩
  · rw [run_slice_l u st a l.length cap (by rw [he]; exact hu) .i64 (k : Int) (by omega) (by omega), run_size st e hinfo he]
    simp only [Result.andThen, Int.toNat_natCast]
  · unfold sliced; rw [List.length_drop]
  · refine ⟨rfl, by rw [List.length_drop]; omega, by omega, fun e1 => ?_, fun hp => ?_⟩
    · by_cases hc : cap = k
      · omega
      · rw [if_neg hc] at e1
        cases a with
        | none => have := hi.nil rfl; omega
        | some x => simp at e1
    · rw [List.length_drop] at hp
      obtain ⟨b, off, e1, hc⟩ := hi.cells (by omega)
      subst e1
      refine ⟨b, off + k * 2, ?_, fun i hi2 => ?_⟩
      · rw [if_neg (by omega), Option.map_some, Addr.add_lit]
      · rw [List.length_drop] at hi2
        have := hc (k + i) (by omega)
        rw [nthP_drop, show off + k * 2 + i * 2 = off + (k + i) * 2 by omega]
        exact this

theorem OwnP.empty (e : TypeId) (w : World) (base : Nat) (hb : base ≤ w.heap.size) : OwnP e (w.alloc (.cells #[] e)) base (.slice (some ⟨w.heap.size, 0, none⟩) 0 0) [] :=
  World.ownsRow_made w #[] 0 hb (Nat.zero_le _) rfl

/-- append(l, m...), at an operation -/
theorem wp_appV {o : Oper} {a : Act} {K : Act → World → Prop} {Q : Exit → Act → World → Prop} (st e : TypeId) (hu : Tryz.prog.underlying st = some (.slice e))
    (hinfo : (Tryz.prog.info? e).map (fun i => (i.zero, i.size, i.bytes)) = some (some (.agg #[.string ⟨#[]⟩, .string ⟨#[]⟩]), 2, 32)) (w : World) (s x : Operand)
    (ho : o.op = .call { callee := .builtin .append, args := #[s, x], argTypes := #[st, st] }) (base : Nat)
    (v : Value) (l : List Pr) (hs : a.eval s = v) (hown : OwnP e w base v l) (vx : Value) (m : List Pr) (hx : a.eval x = vx) (hm : IsPV w vx m)
    (hbytes : (l.length + m.length) * 32 ≤ 140737488355328) (hbase : base ≤ w.heap.size)
    (h : ∀ v' w', OwnP e w' base v' (l ++ m) → w.grownBy w' v.ownBlock → K (a.put o.dst v') w') : o.wp Tryz.prog a w K Q := by
  obtain ⟨i0, hi, hz0, hz1, hz2⟩ := info_parts hinfo
  obtain ⟨ad, cap, rfl, hp⟩ := hm
  cases ad with
  | none =>
    have h0 := hp.nil rfl
    have hle := hp.le
    have hn : m = [] := List.eq_nil_of_length_eq_zero (by omega)
    subst hn h0
    have hrun := run_append_owned_none (P := Tryz.prog) (w := w) base st o.type e i0 2 hu hi v l.length (pcs l) hown
    unfold Oper.wp
    simp only [List.length_nil] at hx
    simp [execOp, ho, resolve, invoke, builtin, hs, hx, hrun, Result.andThen]
    exact h v w (by rw [List.append_nil]; exact hown) (World.grownBy.refl _ _)
  | some ad =>
    refine wp_append_own w s x st ho base e i0 (.agg #[.string ⟨#[]⟩, .string ⟨#[]⟩]) 2 32 hu hi hz0 hz1 hz2 rfl (by omega) v l.length (pcs l) hs hown ad m.length cap (pcs m) hx (pcs_length m) ?_ (pcs_one m) (by unfold maxLen; omega) hbytes hbase ?_
    · intro j u hj
      have hjl : j < m.length * 2 := by
        rcases Nat.lt_or_ge j (m.length * 2) with h | h
        · exact h
        · rw [List.getElem?_eq_none (by rw [pcs_length]; exact h)] at hj; cases hj
      obtain ⟨b, off, e1, hc⟩ := hp.cells (by omega)
      have e1 := Option.some.inj e1
      have hcj := hc (j / 2) (by omega)
      have hpj := pcs_at m (j / 2) (by omega)
      rw [e1, Addr.add_lit]
      rcases Nat.mod_two_eq_zero_or_one j with h0 | h0
      · have ej : j / 2 * 2 = j := by omega
        rw [ej] at hcj hpj
        rw [hcj.1, ← hpj.1]; exact hj
      · have ej : j / 2 * 2 + 1 = j := by omega
        have ej2 : off + j / 2 * 2 + 1 = off + j := by omega
        rw [ej2] at hcj
        rw [ej] at hpj
        rw [hcj.2, ← hpj.2]; exact hj
    · intro v' w' h1 h2 _
      exact h v' w' (by unfold OwnP; rw [pcs_append, List.length_append]; exact h1) h2
/-- the same at a step of a region that draws -/
theorem step_appV {ops : Array Oper} {o : Oper} {a : Act} {K : Act → World → Prop} {Q : Exit → Act → World → Prop} {E : Prop} (st e : TypeId) (hu : Tryz.prog.underlying st = some (.slice e))
    (hinfo : (Tryz.prog.info? e).map (fun i => (i.zero, i.size, i.bytes)) = some (some (.agg #[.string ⟨#[]⟩, .string ⟨#[]⟩]), 2, 32)) (w : World) (hgd : o.guard = none) (s x : Operand)
    (ho : o.op = .call { callee := .builtin .append, args := #[s, x], argTypes := #[st, st] }) (base : Nat)
    (v : Value) (l : List Pr) (hs : a.eval s = v) (hown : OwnP e w base v l) (vx : Value) (m : List Pr) (hx : a.eval x = vx) (hm : IsPV w vx m)
    (hbytes : (l.length + m.length) * 32 ≤ 140737488355328) (hbase : base ≤ w.heap.size)
    (h : ∀ v' w', OwnP e w' base v' (l ++ m) → w.grownBy w' v.ownBlock → K (a.put o.dst v') w') :
    if Region.wanted o (yielded ops a.tmps) = true then Oper.wp Tryz.prog o a w K Q else E := by
  have hw : Region.wanted o (yielded ops a.tmps) = true := by simp [Region.wanted, hgd]
  rw [if_pos hw]
  exact wp_appV st e hu hinfo w s x ho base v l hs hown vx m hx hm hbytes hbase h
/-- one pair in a block of its own -/
theorem isPV_one {w : World} {B : Nat} {e : TypeId} (n1 n2 : List UInt8) (hb : w.heap[B]? = some (.cells #[.string (str n1), .string (str n2)] e (0, 0))) : IsPV w (.slice (some ⟨B, 0, none⟩) 1 1) [(n1, n2)] := by
  refine ⟨some ⟨B, 0, none⟩, 1, rfl, rfl, Nat.le_refl _, by unfold maxLen; decide, fun e => (by cases e), fun _ => ⟨B, 0, rfl, fun i hi => ?_⟩⟩
  have : i = 0 := by simpa using hi
  subst this
  rw [cell_of_row w B _ _ _ _ hb, cell_of_row w B _ _ _ _ hb]
  exact ⟨rfl, rfl⟩
end Go.Proofs.YtgjmaeodgcigdaaGreatDoor
