/- What uri.Encode answers. -/
import Derived.Test.YtabhifhmhojpbabCodUri1
import Derived.Test.YtabhifhmhojpbabHexU
namespace Go.Proofs.Ytabhifhmhojpbab
open Go.RowKit

attribute [local go_sem ↓] ixs ixU

theorem and_lo8 (x : UInt8) : bits .and .u8 (x.toNat : Int) 15 = ((x.toNat % 16 : Nat) : Int) := by
  have h := bits_and8 x 15
  have e : (x &&& 15).toNat = x.toNat % 16 := by
    rw [UInt8.toNat_and]
    exact Nat.and_two_pow_sub_one_eq_mod x.toNat 4
  rw [e] at h; exact h
theorem codPlain47 (w : World) : Calls Try.prog 23 #[.int .u8 47] w fun e w' => e = .returned (.bool false) ∧ w' = w := codPlain 47 w

set_option maxHeartbeats 2000000 in
theorem codEncode (s : ByteArray) (sl : Bool) (w : World) (hs : s.size ≤ 40000000000000) :
    Calls Try.prog 10 #[.string s, .bool sl] w fun e w' => e = .returned (.string ⟨(encL sl s.data.toList).toArray⟩) ∧ Below w.heap.size w w' := by
  obtain ⟨l, hl⟩ : ∃ l, l = s.data.toList := ⟨_, rfl⟩
  have Hl : Hid (l = s.data.toList) := hl
  have HL : Hid (l.length = s.size) := by unfold Hid; rw [hl]; rfl
  rw [← hl]
  clear hl
  go_enter Try.func10, Try.ntmps10
  go_wp2_with (at_make; refine make_own8 _ rfl _ _ rfl w.heap.size .i64 .i64 _ s.size rfl rfl (by omega) (by omega) (Nat.le_refl _) ?_; intro w1 hown1 hgrow1)
  go_loopw [5, 13] (fun v i wr => ∃ k : Nat, k ≤ s.size ∧ i = .int .i64 k ∧ OwnB wr w.heap.size v (encL sl (l.take k)) ∧ Below w.heap.size w wr) (fun _ i _ => s.size - (intOf i).toNat)
  case atStart => exact ⟨0, Nat.zero_le _, rfl, hown1, (Below.refl _ _).grown hgrow1 (Nat.le_refl _) (fun k h => by cases h)⟩
  case round =>
    obtain ⟨k, hk, rfl, hown, hbel⟩ := hrel
    clear hown1 hgrow1
    by_cases hlt : k < s.size
    · have hb0 : (0 : Int) ≤ (k : Int) := by omega
      have hb1 : (k : Int) < (s.size : Int) := by omega
      have hcn : nth l k = sb s (k : Int) := by rw [Hl.out]; rfl
      have hkl : k < l.length := by rw [HL.out]; exact hlt
      have HK : Hid ((encL sl (l.take k)).length ≤ 3 * k) := by
        have := encL_length sl (l.take k)
        rw [List.length_take] at this
        unfold Hid
        omega
      have HB := hown.blk
      have Hkept := enc_kept sl l k _ hkl hcn
      have Hhex := enc_hex sl l k _ hkl hcn
      clear hkl hcn
      by_cases hp : plainB (sb s (k : Int)) = true
      · have HT : Hid (encL sl (l.take (k + 1)) = encL sl (l.take k) ++ [sb s (k : Int)]) := Hkept (by unfold keptB; rw [hp]; rfl)
        clear Hkept Hhex
        go_wp2_with (first | (go_at_call 23; refine (codPlain _ _).mono ?_; rintro e w' ⟨rfl, hww⟩; rw [hww, hp]; clear hww w') | (at_builtin; refine list_app1 _ rfl _ _ rfl w.heap.size _ (encL sl (l.take k)) rfl (hown.alloc _) wr.heap.size 1 [sb s (k : Int)] rfl rfl (heap_alloc_new wr _) (by have := HK.out; omega) (by have := hbel.size; simp; omega) ?_; intro v1 w1 hown1 hgrow))
        go_roundw
        case rel => exact ⟨k + 1, by omega, by go_num, by rw [HT.out]; exact hown1, (hbel.alloc hbel.size _).grown hgrow (by have := hbel.size; simp; omega) (fun j hj => (HB j hj).1)⟩
        case measure => simp [intOf]; omega
      · have hp' : plainB (sb s (k : Int)) = false := by simpa using hp
        clear hp
        cases sl with
        | true =>
          by_cases hq : sb s (k : Int) = 47
          · have HT : Hid (encL true (l.take (k + 1)) = encL true (l.take k) ++ [47]) := by have := Hkept (by unfold keptB; rw [hq]; simp); rw [hq] at this; exact this
            have hq' : ((sb s (k : Int)).toNat : Int) = 47 := by rw [hq]; rfl
            clear Hkept Hhex hq hp'
            go_wp2_with (first | (go_at_call 23; refine (codPlain47 _).mono ?_; rintro e w' ⟨rfl, hww⟩; rw [hww]; clear hww w') | (at_builtin; refine list_app1 _ rfl _ _ rfl w.heap.size _ (encL true (l.take k)) rfl (hown.alloc _) wr.heap.size 1 [47] rfl rfl (heap_alloc_new wr _) (by have := HK.out; omega) (by have := hbel.size; simp; omega) ?_; intro v1 w1 hown1 hgrow))
            go_roundw
            case rel => exact ⟨k + 1, by omega, by go_num, by rw [HT.out]; exact hown1, (hbel.alloc hbel.size _).grown hgrow (by have := hbel.size; simp; omega) (fun j hj => (HB j hj).1)⟩
            case measure => simp [intOf]; omega
          · have hq' : ¬ ((sb s (k : Int)).toNat : Int) = 47 := by intro e; exact hq (UInt8.toNat_inj.1 (by have : (47 : UInt8).toNat = 47 := rfl; omega))
            have HT : Hid (encL true (l.take (k + 1)) = encL true (l.take k) ++ [37, hexU ((sb s (k : Int)).toNat / 16), hexU ((sb s (k : Int)).toNat % 16)]) := Hhex (by unfold keptB; rw [hp']; simp [hq])
            clear Hkept Hhex
            have hx0 : (0 : Int) ≤ ((sb s (k : Int)).toNat : Int) := by omega
            have hx1 : ((sb s (k : Int)).toNat : Int) ≤ 255 := by have := (sb s (k : Int)).toNat_lt; omega
            obtain ⟨hi, hhi⟩ : ∃ n, n = (sb s (k : Int)).toNat / 16 := ⟨_, rfl⟩
            obtain ⟨lo, hlo⟩ : ∃ n, n = (sb s (k : Int)).toNat % 16 := ⟨_, rfl⟩
            have hq1 : ((sb s (k : Int)).toNat : Int) / 16 = (hi : Int) := by omega
            have hq2 : bits .and .u8 ((sb s (k : Int)).toNat : Int) 15 = (lo : Int) := by rw [and_lo8, hlo]
            have hq3 : hi < 16 := by omega
            have hq4 : lo < 16 := by omega
            have hw := wrap8_nat hi (by omega)
            rw [← hhi, ← hlo] at HT
            clear hhi hlo
            go_wp2_with (go_at_call 23; refine (codPlain _ _).mono ?_; rintro e w' ⟨rfl, hww⟩; rw [hww, hp']; clear hww w')
            go_region_held3 (fun w' => True) (trivial)
              ((refine step_app8 _ (by rfl) _ _ (by rfl) w.heap.size _ (encL true (l.take k)) (by rfl) ((hown.alloc _).heap rfl) wr.heap.size 3 3 [37, hexU hi, hexU lo] (by rfl) (by rfl) (heap_alloc_new wr _) (by omega) (by have := HK.out; omega) (by have := hbel.size; simp; omega) (wr.heap.size + 1) (by simp) ?_; intro gg cap w1 hown1 hgrow hat hlt1))
            all_goals
              go_wp2
              go_roundw
              case rel => exact ⟨k + 1, by omega, by go_num, by rw [HT.out]; exact hown1, ((hbel.alloc hbel.size _).drew).grown hgrow (by have := hbel.size; simp; omega) (fun j hj => (HB j hj).1)⟩
              case measure => simp [intOf]; omega
        | false =>
          have HT : Hid (encL false (l.take (k + 1)) = encL false (l.take k) ++ [37, hexU ((sb s (k : Int)).toNat / 16), hexU ((sb s (k : Int)).toNat % 16)]) := Hhex (by unfold keptB; rw [hp']; rfl)
          clear Hkept Hhex
          have hx0 : (0 : Int) ≤ ((sb s (k : Int)).toNat : Int) := by omega
          have hx1 : ((sb s (k : Int)).toNat : Int) ≤ 255 := by have := (sb s (k : Int)).toNat_lt; omega
          obtain ⟨hi, hhi⟩ : ∃ n, n = (sb s (k : Int)).toNat / 16 := ⟨_, rfl⟩
          obtain ⟨lo, hlo⟩ : ∃ n, n = (sb s (k : Int)).toNat % 16 := ⟨_, rfl⟩
          have hq1 : ((sb s (k : Int)).toNat : Int) / 16 = (hi : Int) := by omega
          have hq2 : bits .and .u8 ((sb s (k : Int)).toNat : Int) 15 = (lo : Int) := by rw [and_lo8, hlo]
          have hq3 : hi < 16 := by omega
          have hq4 : lo < 16 := by omega
          have hw := wrap8_nat hi (by omega)
          rw [← hhi, ← hlo] at HT
          clear hhi hlo
          go_wp2_with (go_at_call 23; refine (codPlain _ _).mono ?_; rintro e w' ⟨rfl, hww⟩; rw [hww, hp']; clear hww w')
          go_region_held3 (fun w' => True) (trivial)
            ((refine step_app8 _ (by rfl) _ _ (by rfl) w.heap.size _ (encL false (l.take k)) (by rfl) ((hown.alloc _).heap rfl) wr.heap.size 3 3 [37, hexU hi, hexU lo] (by rfl) (by rfl) (heap_alloc_new wr _) (by omega) (by have := HK.out; omega) (by have := hbel.size; simp; omega) (wr.heap.size + 1) (by simp) ?_; intro gg cap w1 hown1 hgrow hat hlt1))
          all_goals
            go_wp2
            go_roundw
            case rel => exact ⟨k + 1, by omega, by go_num, by rw [HT.out]; exact hown1, ((hbel.alloc hbel.size _).drew).grown hgrow (by have := hbel.size; simp; omega) (fun j hj => (HB j hj).1)⟩
            case measure => simp [intOf]; omega
    · have hcv := conv_own wr w.heap.size _ _ hown
      go_wp2
      go_ret
      have : k = s.size := by omega
      subst this
      exact ⟨ret_str (by rw [List.take_of_length_le (by rw [HL.out]; exact Nat.le_refl _)]), hbel⟩
end Go.Proofs.Ytabhifhmhojpbab
