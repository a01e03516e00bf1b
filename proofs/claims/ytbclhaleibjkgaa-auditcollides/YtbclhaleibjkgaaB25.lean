/- What the document's k256, bytes and words answer. · What the document's padded answers. -/
import Derived.Test.YtbclhaleibjkgaaOwnW
import Derived.Test.YtbclhaleibjkgaaSched
import Derived.Test.YtbclhaleibjkgaaB21
import Derived.Test.YtbclhaleibjkgaaB19
import Derived.Test.YtbclhaleibjkgaaB2
import Derived.Laws.AppendOwnNone
namespace Go.Proofs.Ytbclhaleibjkgaa
open Go.RowKit
attribute [local go_sem ↓] Go.wp_at_zero Go.wp_at_succ

set_option maxRecDepth 20000 in
set_option maxHeartbeats 1000000 in
theorem refK256 (w : World) :
    Calls Try.prog 55 #[] w fun e w' => e = .returned (.slice (some ⟨w.heap.size, 0, none⟩) 64 64) ∧ Blk w' w.heap.size 69 (wv kL) ∧ Below w.heap.size w w' := by
  go_enter Try.func55, Try.ntmps55
  go_wp2
  go_ret
  exact ⟨rfl, Blk.newAt w _ _ _ (wv kL) rfl rfl, (Below.refl _ _).alloc (Nat.le_refl _) _⟩

theorem outB_four (ws : List UInt32) (k : Nat) : outB ws (4 * (k + 1)) = outB ws (4 * k) ++ [dgW ws (4 * k), dgW ws (4 * k + 1), dgW ws (4 * k + 2), dgW ws (4 * k + 3)] := by
  have e : 4 * (k + 1) = 4 * k + 1 + 1 + 1 + 1 := by omega
  rw [e, outB_succ, outB_succ, outB_succ, outB_succ]; simp
theorem dgB_four (ws : List UInt32) (k : Nat) :
    IntKind.u8.wrap (((nthW ws k).toNat : Int) / 16777216) = ((dgW ws (4 * k)).toNat : Int) ∧ IntKind.u8.wrap (((nthW ws k).toNat : Int) / 65536) = ((dgW ws (4 * k + 1)).toNat : Int) ∧ IntKind.u8.wrap (((nthW ws k).toNat : Int) / 256) = ((dgW ws (4 * k + 2)).toNat : Int) ∧ IntKind.u8.wrap ((nthW ws k).toNat : Int) = ((dgW ws (4 * k + 3)).toNat : Int) := by
  have h : ∀ r, r < 4 → ((nthW ws k).toNat : Int) / 2 ^ (24 - 8 * r) % 256 = ((dgW ws (4 * k + r)).toNat : Int) := by
    intro r hr
    have := dgW_val ws (4 * k + r)
    rw [show (4 * k + r) / 4 = k by omega, show (4 * k + r) % 4 = r by omega] at this
    exact this
  rw [wrap8_mod, wrap8_mod, wrap8_mod, wrap8_mod]
  refine ⟨h 0 (by omega), h 1 (by omega), h 2 (by omega), ?_⟩
  have := h 3 (by omega)
  simpa using this

set_option maxRecDepth 20000 in
set_option maxHeartbeats 1000000 in
theorem refBytes (a : Option Addr) (len cap : Nat) (ws : List UInt32) (w : World) (h : IsW w a len cap ws) (hl : len ≤ 8) :
    Calls Try.prog 59 #[.slice a len cap] w fun e w' => ∃ v, e = .returned v ∧ OwnB w' w.heap.size v (outB ws (4 * len)) ∧ Below w.heap.size w w' := by
  have H : Hid (IsW w a len cap ws) := h
  have hle := h.le
  clear h
  go_enter Try.func59, Try.ntmps59
  go_wp2
  go_loopw [3, 4] (fun v i wr => ∃ k : Nat, k ≤ len ∧ i = .int .i64 k ∧ OwnB wr w.heap.size v (outB ws (4 * k)) ∧ Below w.heap.size w wr) (fun _ i _ => len - (intOf i).toNat)
  case atStart => exact ⟨0, Nat.zero_le _, rfl, OwnB.nil _ _, Below.refl _ _⟩
  case round =>
    obtain ⟨k, hk, rfl, hown, hbel⟩ := hrel
    by_cases hlt : k < len
    · obtain ⟨b0, o0, rfl, hc0⟩ := H.out.cells (by omega)
      have g0 := hc0 k hlt
      have gb : b0 < w.heap.size := cell_lt g0
      have g1 := (hbel.cell (p := ⟨b0, o0 + k, none⟩) gb).trans g0
      have gz : b0 < wr.heap.size := Nat.lt_of_lt_of_le gb hbel.size
      clear hc0 g0
      have hlt' : (k : Int) < (len : Int) := by omega
      have HO : Hid (outB ws (4 * (k + 1)) = outB ws (4 * k) ++ [dgW ws (4 * k), dgW ws (4 * k + 1), dgW ws (4 * k + 2), dgW ws (4 * k + 3)]) := outB_four ws k
      have HL : Hid ((outB ws (4 * k)).length = 4 * k) := outB_length ws (4 * k)
      obtain ⟨d0, d1, d2, d3⟩ := dgB_four ws k
      have u0 := (dgW ws (4 * k)).toNat_lt
      have HB := hown.blk
      go_wp2
      go_region_held3 (fun w' => w'.cell? ⟨b0, o0 + k, none⟩ = some (.int .u32 ((nthW ws k).toNat : Int)))
        (first | go_keep | (rw [hgrow.cell_far _ (by simp; omega) (fun e => by have := (HB _ e.symm).1; simp at this; omega)]; assumption))
        ((refine step_app8 _ (by rfl) _ _ (by rfl) w.heap.size _ (outB ws (4 * k)) (by rfl) ((hown.alloc _).heap rfl) wr.heap.size 4 4 [dgW ws (4 * k), dgW ws (4 * k + 1), dgW ws (4 * k + 2), dgW ws (4 * k + 3)] (by rfl) (by rfl) (heap_alloc_new wr _) (by omega) (by rw [HL.out]; omega) (by have := hbel.size; simp; omega) (wr.heap.size + 1) (by simp) ?_; intro gg cap w1 hown1 hgrow hat hlt1))
      all_goals
        go_wp2
        go_roundw
        case rel => exact ⟨k + 1, by omega, by go_num, by rw [HO.out]; exact hown1, ((hbel.alloc hbel.size _).drew).grown hgrow (by have := hbel.size; simp; omega) (fun j hj => (HB j hj).1)⟩
        case measure => simp [intOf]; omega
    · have e : k = len := by omega
      rw [e] at hown
      go_wp2
      go_ret
      exact ⟨_, rfl, hown, hbel⟩
end Go.Proofs.Ytbclhaleibjkgaa
namespace Go.Proofs.Ytbclhaleibjkgaa
open Go.RowKit
attribute [local go_sem ↓] Go.wp_at_zero Go.wp_at_succ

def padZ (l : List UInt8) (k : Nat) : List UInt8 := l ++ (128 :: List.replicate k 0)
theorem padZ_length (l : List UInt8) (k : Nat) : (padZ l k).length = l.length + 1 + k := by simp [padZ]; omega
theorem padZ_succ (l : List UInt8) (k : Nat) : padZ l (k + 1) = padZ l k ++ [0] := by
  unfold padZ; rw [List.replicate_succ']; simp
def padB (l : List UInt8) (j : Nat) : List UInt8 := padZ l (zN l.length) ++ (List.range j).map (be (l.length * 8))
theorem padB_length (l : List UInt8) (j : Nat) : (padB l j).length = l.length + 1 + zN l.length + j := by simp [padB, padZ_length]
theorem padB_succ (l : List UInt8) (j : Nat) : padB l (j + 1) = padB l j ++ [be (l.length * 8) j] := by
  unfold padB; rw [List.range_succ, List.map_append]; simp
theorem padB_all (l : List UInt8) : padB l 8 = l ++ padOf l.length := by
  unfold padB padZ padOf be8; simp
theorem pad_stop (n k : Nat) (h : k ≤ zN n) : ((n + 1 + k) % 64 = 56) ↔ k = zN n := by
  unfold zN at *; omega

/-- a slice's length, for a measure -/
def sliceLen2 : Value → Nat | .slice _ k _ => k | _ => 0

set_option maxRecDepth 20000 in
set_option maxHeartbeats 1000000 in
theorem refPadded (a : Option Addr) (len cap : Nat) (l : List UInt8) (w : World) (h : IsB w a len cap l) (hn : len < 4294967296) :
    Calls Try.prog 56 #[.slice a len cap] w fun e w' => ∃ v, e = .returned v ∧ OwnB w' w.heap.size v (l ++ padOf l.length) ∧ Below w.heap.size w w' := by
  have H : Hid (IsB w a len cap l) := h
  have HE : Hid (l.length = len) := h.len_eq
  have hle := h.le
  have hmx := h.max
  unfold maxLen at hmx
  clear h
  go_enter Try.func56, Try.ntmps56
  go_wp2_with (first | (at_builtin; refine list_appS _ rfl (.tmp 6) (.tmp 7) rfl w.heap.size _ [] rfl (OwnB.empty w _ (Nat.le_refl _)) a len cap l rfl (H.out.below ((Below.refl _ _).alloc (Nat.le_refl _) _) rfl) (by simp; omega) (by simp) ?_; intro v1 w1 hown1 hgrow1) | (at_builtin; refine list_app8 _ rfl (.tmp 8) (.tmp 9) rfl w.heap.size v1 ([] ++ l) rfl (hown1.alloc _) w1.heap.size 1 1 [128] rfl rfl (heap_alloc_new w1 _) (by omega) (by have := HE.out; simp; omega) (by have := hgrow1.size; simp at this ⊢; omega) _ rfl ?_; intro g2 cap2 w2 hown2 hgrow2 hat2 hlt2))
  have hbel1 : Below w.heap.size w w1 := ((Below.refl _ _).alloc (Nat.le_refl _) _).grown hgrow1 (by simp) (fun k hk => Nat.le_of_eq (Option.some.inj hk))
  have hbel2 : Below w.heap.size w w2 := (hbel1.alloc hbel1.size _).grown hgrow2 (by have := hbel1.size; simp; omega) (fun k hk => (hown1.blk k hk).1)
  have hown0 : OwnB w2 w.heap.size (.slice (some ⟨g2, 0, none⟩) (([] ++ l).length + 1) cap2) (padZ l 0) := hown2
  clear hown1 hgrow1 hown2 hgrow2 hbel1 hat2 hlt2
  go_loopw [3] (fun v wr => ∃ k : Nat, Hid (k ≤ zN l.length) ∧ OwnB wr w.heap.size v (padZ l k) ∧ Below w.heap.size w wr) (fun v _ => len + 70 - sliceLen2 v)
  case atStart => exact ⟨0, Nat.zero_le _, hown0, hbel2⟩
  case round =>
    clear hown0 hbel2
    obtain ⟨k, hk, hown, hbel⟩ := hrel
    obtain ⟨a3, cap3, rfl, hle3, hmx3⟩ := hown.length_of
    have HL3 : Hid ((padZ l k).length = len + 1 + k) := by unfold Hid; rw [padZ_length, HE.out]
    have hz64 := zN_lt l.length
    have hk' := hk.out
    generalize hm3 : (padZ l k).length = m3 at *
    have HM3 : Hid ((padZ l k).length = m3) := hm3
    clear hm3
    have hm3b : m3 = len + 1 + k := HL3.out
    have hmx4 : m3 ≤ 9223372036854775807 := by omega
    by_cases hst : k = zN l.length
    · have hmod : (m3 : Int) % 64 = 56 := by have := (pad_stop l.length k hk').2 hst; rw [HE.out] at this; omega
      have HB : Hid (OwnB wr w.heap.size (.slice a3 m3 cap3) (padB l 0)) := by
        have e : padB l 0 = padZ l k := by unfold padB; rw [hst]; simp
        rw [e]; exact hown
      clear hown hk hst hm3b hk' HM3 HL3
      go_wp2
      clear hmod
      go_loopw [3, 5] (fun v i wr => ∃ j : Nat, j ≤ 8 ∧ i = .int .i64 (7 - (j : Int)) ∧ OwnB wr w.heap.size v (padB l j) ∧ Below w.heap.size w wr) (fun _ i _ => (intOf i + 1).toNat)
      case atStart => exact ⟨0, by omega, rfl, HB.out, hbel⟩
      case round =>
        clear HB hbel
        obtain ⟨j, hj, rfl, hown, hbel⟩ := hrel
        have HL4 : Hid ((padB l j).length = len + 1 + zN l.length + j) := by unfold Hid; rw [padB_length, HE.out]
        by_cases hlt : j < 8
        · obtain ⟨t, ht⟩ : ∃ t : Nat, 7 - (j : Int) = (t : Int) := ⟨7 - j, by omega⟩
          have HT : Hid (7 - (j : Int) = (t : Int)) := ht
          have ht8 : t < 8 := by omega
          have htj : t = 7 - j := by omega
          have HV : Hid ((len : Int) * 8 / 2 ^ (8 * t) % 256 = ((be (l.length * 8) j).toNat : Int)) := by
            have := be_val len j
            unfold Hid; rw [HE.out, ← this, htj]; congr 3; omega
          have HVw : IntKind.u8.wrap ((len : Int) * 8 / 2 ^ (8 * t)) = ((be (l.length * 8) j).toNat : Int) := by rw [wrap8_mod]; exact HV.out
          have HO : Hid (padB l (j + 1) = padB l j ++ [be (l.length * 8) j]) := padB_succ l j
          have HB := hown.blk
          clear htj
          rw [ht]
          clear ht
          have h8 : (8 * (t : Int)).toNat = 8 * t := by omega
          go_wp2_with (at_builtin; refine list_app8 _ rfl (.tmp 26) (.tmp 33) rfl w.heap.size _ (padB l j) rfl (hown.alloc _) wr.heap.size 1 1 [be (l.length * 8) j] rfl rfl (heap_alloc_new wr _) (by omega) (by rw [HL4.out]; omega) (by have := hbel.size; simp; omega) _ rfl ?_; intro g4 cap4 w4 hown4 hgrow4 hat4 hlt4)
          go_roundw
          case rel => exact ⟨j + 1, by omega, by have := HT.out; go_num, by rw [HO.out]; exact hown4, (hbel.alloc hbel.size _).grown hgrow4 (by have := hbel.size; simp; omega) (fun q hq => (HB q hq).1)⟩
          case measure => simp [intOf]
        · have e : j = 8 := by omega
          have hge : ¬ ((0 : Int) ≤ 7 - (j : Int)) := by omega
          have HO : Hid (OwnB wr w.heap.size u3 (l ++ padOf l.length)) := by
            have := hown
            rw [e, padB_all] at this; exact this
          clear hown e
          go_wp2
          go_ret
          exact ⟨_, rfl, HO.out, hbel⟩
    · have hmod : ((m3 : Int) % 64 == 56) = false := by
        have := mt (pad_stop l.length k hk').1 hst; rw [HE.out] at this; simp; omega
      have HO : Hid (padZ l (k + 1) = padZ l k ++ [0]) := padZ_succ l k
      have hk1 : k + 1 ≤ zN l.length := by omega
      have HB := hown.blk
      clear hst
      go_wp2_with (at_builtin; refine list_app8 _ rfl (.tmp 15) (.tmp 16) rfl w.heap.size _ (padZ l k) rfl (hown.alloc _) wr.heap.size 1 1 [0] rfl rfl (heap_alloc_new wr _) (by omega) (by rw [HM3.out]; omega) (by have := hbel.size; simp; omega) _ rfl ?_; intro g4 cap4 w4 hown4 hgrow4 hat4 hlt4)
      go_roundw
      case rel => exact ⟨k + 1, hk1, by rw [HO.out]; exact hown4, (hbel.alloc hbel.size _).grown hgrow4 (by have := hbel.size; simp; omega) (fun q hq => (HB q hq).1)⟩
      case measure => simp [sliceLen2]; rw [HM3.out]; omega
end Go.Proofs.Ytbclhaleibjkgaa
