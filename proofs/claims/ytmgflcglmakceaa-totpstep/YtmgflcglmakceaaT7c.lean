/- What totp.Unbase32 answers. -/
import Derived.Test.YtmgflcglmakceaaT7b
import Derived.Test.YtmgflcglmakceaaStrb
namespace Go.Proofs.Ytmgflcglmakceaa
open Go.RowKit
theorem heldU_or (v : Nat → Nat) (i : Nat) (h : v i < 32) : bits .or .u16 (IntKind.u16.wrap ((heldU v i : Int) * 32)) (v i : Int) = (heldU v (i + 1) : Int) := by
  show _ = ((heldU v i * 32 % 65536 + v i : Nat) : Int)
  rw [wrap16_mod]
  have e : (heldU v i : Int) * 32 % 65536 = ((2 ^ 5 * (heldU v i % 2048) : Nat) : Int) := by omega
  rw [e, or16_add _ _ 5 (by omega) (by omega) (by omega)]
  congr 1; omega
theorem wrap8_rem (z : Int) : IntKind.u8.wrap z = z % 256 := by
  simp [IntKind.wrap, IntKind.signed, IntKind.bits]
theorem mask_is (r : Nat) (h : r < 5) : IntKind.u16.wrap (IntKind.u16.wrap (2 ^ r) - 1) = ((2 ^ r - 1 : Nat) : Int) := by
  obtain rfl | rfl | rfl | rfl | rfl : r = 0 ∨ r = 1 ∨ r = 2 ∨ r = 3 ∨ r = 4 := by omega
  all_goals decide
theorem and_mask (N r : Nat) (hN : N < 65536) (h : r < 5) : bits .and .u16 (N : Int) ((2 ^ r - 1 : Nat) : Int) = ((N % 2 ^ r : Nat) : Int) := by
  have h2 : 2 ^ r ≤ 2 ^ 4 := Nat.pow_le_pow_right (by omega) (by omega)
  rw [bits_and16 N _ hN (by omega), Nat.and_two_pow_sub_one_eq_mod]
theorem sgV_yes {c : UInt8} (h : sgv c < 32) : sgV c = sgv c := by unfold sgV; rw [if_pos h]
theorem sgK_yes {c : UInt8} (h : sgv c < 32) : sgK c = true := decide_eq_true h
theorem sgK_no {c : UInt8} (h : ¬ sgv c < 32) : sgK c = false := decide_eq_false h
theorem ret_un7 {v : Value} {e e' : Int} (h : e = e') : Ending.returned (.tuple #[v, .int .i64 e]) = .returned (.tuple #[v, .int .i64 e']) := by rw [h]

set_option maxHeartbeats 1000000 in
theorem codUnbase32 (s : ByteArray) (w : World) (hs : s.size ≤ 1000000) :
    Calls Try.prog 14 #[.string s] w fun e w' => ∃ v, e = .returned (.tuple #[v, .int .i64 (unErr s.data.toList)]) ∧ OwnB w' w.heap.size v (unRes s.data.toList) ∧ Below w.heap.size w w' := by
  obtain ⟨l, hl⟩ : ∃ l, l = s.data.toList := ⟨_, rfl⟩
  have HS : Hid (l = s.data.toList) := hl
  have HL : Hid (l.length = s.size) := by unfold Hid; rw [hl, Array.length_toList]; rfl
  rw [← hl]
  clear hl
  obtain ⟨cp, hcp⟩ : ∃ cp : Nat, (s.size : Int) / 8 * 5 + 5 = (cp : Int) := ⟨s.size / 8 * 5 + 5, by omega⟩
  have hcp1 : cp ≤ 10000000 := by omega
  go_enter Try.func14, Try.ntmps14
  go_wp2_with (at_make; refine make_own8 _ rfl _ _ rfl w.heap.size .i64 .i64 _ cp rfl rfl (by omega) (by omega) (Nat.le_refl _) ?_; intro w1 hown1 hgrow1)
  clear hcp
  go_loopw [4, 5, 6, 18] (fun h b v i wr => ∃ k r m : Nat, k ≤ s.size ∧ i = .int .i64 (k : Int) ∧ h = .int .u16 (heldU (vals l) k : Int) ∧ b = .int .i64 (r : Int) ∧ 8 * m + r = 5 * k ∧ r < 8 ∧ Hid (goodV l k) ∧ OwnB wr w.heap.size v (unTo l m) ∧ Below w.heap.size w wr) (fun _ _ _ i _ => s.size - (intOf i).toNat)
  case atStart => exact ⟨0, 0, 0, Nat.zero_le _, rfl, rfl, rfl, rfl, by omega, fun j hj => absurd hj (Nat.not_lt_zero _), hown1, (Below.refl _ _).grown hgrow1 (Nat.le_refl _) (fun k h => by cases h)⟩
  case round =>
    obtain ⟨k, r, m, hk, rfl, rfl, rfl, hmr, hr8, hgood, hown, hbel⟩ := hrel
    clear hown1 hgrow1
    by_cases hlt : k < s.size
    · have hlt' : (k : Int) < (s.size : Int) := by omega
      have hix := fun u => ixs s (k : Int) (by omega) hlt' u
      have hc : sb s (k : Int) = nth l k := by unfold sb; rw [Int.toNat_natCast, HS.out]
      rw [hc] at hix
      clear hc
      obtain ⟨c, hc⟩ : ∃ c, c = nth l k := ⟨_, rfl⟩
      rw [← hc] at hix
      have HV : Hid (vals l k = sgv c) := by unfold Hid vals; rw [hc]
      clear hc
      by_cases hg : sgv c < 32
      · have hK := sgK_yes hg
        have hV := sgV_yes hg
        have HG : Hid (goodV l (k + 1)) := fun j hj => by
          by_cases e : j = k
          · rw [e, HV.out]; exact hg
          · exact hgood.out j (by omega)
        have hor := heldU_or (vals l) k (by rw [HV.out]; exact hg)
        rw [HV.out] at hor
        have hheld := heldU_lt (vals l) (k + 1) HG.out
        obtain ⟨N, hN⟩ : ∃ N, N = heldU (vals l) (k + 1) := ⟨_, rfl⟩
        have HN : Hid (N = heldU (vals l) (k + 1)) := hN
        rw [← hN] at hor hheld
        clear hN
        generalize heldU (vals l) k = N0 at *
        by_cases h8 : 8 ≤ r + 5
        · have h8' : (8 : Int) ≤ (r : Int) + 5 := by omega
          obtain ⟨sh, hsh⟩ : ∃ sh : Nat, (r : Int) + 5 - 8 = (sh : Int) := ⟨r + 5 - 8, by omega⟩
          have HE : Hid (N / 2 ^ sh % 256 = eightOf (bitV (vals l)) (8 * m)) := by
            unfold Hid; rw [HN.out]; exact held_eight _ _ _ _ HG.out (by omega) (by omega)
          obtain ⟨x, hx⟩ : ∃ x : UInt8, x = UInt8.ofNat (eightOf (bitV (vals l)) (8 * m)) := ⟨_, rfl⟩
          have hw8 : IntKind.u8.wrap ((N : Int) / 2 ^ sh) = (x.toNat : Int) := by
            rw [wrap8_rem, hx, ← HE.out, UInt8.toNat_ofNat']
            simp
          have HO : Hid (unTo l (m + 1) = unTo l m ++ [x]) := by unfold Hid; rw [unTo_succ, hx]
          have HLn : Hid ((unTo l m).length = m) := unTo_length l m
          have HB := hown.blk
          have hks : Hid (8 * (m + 1) + sh = 5 * (k + 1)) := by unfold Hid; omega
          have hsh5 : sh < 5 := by omega
          have hm7 : m ≤ 10000000 := by omega
          clear hx hmr h8
          go_wp2_with (first | (go_at_call 25; refine (codSignValue _ _).mono ?_; rintro e w' ⟨rfl, hq⟩; obtain rfl := hq.symm) | (at_builtin; refine list_app8 _ rfl (.tmp 40) (.tmp 45) rfl w.heap.size _ (unTo l m) rfl (hown.alloc _) wr.heap.size 1 1 [x] rfl rfl (heap_alloc_new wr _) (by omega) (by rw [HLn.out]; omega) (by have := hbel.size; simp; omega) _ rfl ?_; intro g4 cap4 w4 hown4 hgrow4 hat4 hlt4))
          go_roundw
          case rel => exact ⟨k + 1, sh, m + 1, by omega, by go_num, by rw [HN.out], rfl, hks.out, by omega, HG.out, by rw [HO.out]; exact hown4, (hbel.alloc hbel.size _).grown hgrow4 (by have := hbel.size; simp; omega) (fun q hq => (HB q hq).1)⟩
          case measure => simp [intOf]; omega
        · have h8' : ¬ (8 : Int) ≤ (r : Int) + 5 := by omega
          go_wp2_with (go_at_call 25; refine (codSignValue _ _).mono ?_; rintro e w' ⟨rfl, hq⟩; obtain rfl := hq.symm)
          go_roundw
          case rel => exact ⟨k + 1, r + 5, m, by omega, by go_num, by rw [HN.out], by go_num, by omega, by omega, HG.out, hown, hbel⟩
          case measure => simp [intOf]; omega
      · have hK := sgK_no hg
        have HA : Hid (unOk l = false) := by unfold Hid unOk; rw [goodV_no l k (by rw [HL.out]; exact hlt) (by rw [HV.out]; exact hg)]; rfl
        go_wp2_with (go_at_call 25; refine (codSignValue _ _).mono ?_; rintro e w' ⟨rfl, hq⟩; obtain rfl := hq.symm)
        go_ret2
        exact ⟨.slice none 0 0, ret_un7 (by unfold unErr; rw [HA.out]; rfl), by unfold unRes; rw [HA.out]; exact OwnB.nil _ _, hbel⟩
    · have hkl : k = s.size := by omega
      have HKL : Hid (l.length = k) := by unfold Hid; rw [HL.out, hkl]
      have HA : Hid (allV l = true) := goodV_all l (by rw [HKL.out]; exact hgood.out)
      have HR : Hid (r = 5 * l.length % 8) := by unfold Hid; rw [HKL.out]; omega
      clear hkl
      by_cases hr5 : r < 5
      · have hr5' : ¬ (5 : Int) ≤ (r : Int) := by omega
        have hM := mask_is r hr5
        have hA := and_mask (heldU (vals l) k) r (heldU_lt _ _ hgood.out) hr5
        have HZ : Hid (heldU (vals l) k % 2 ^ r = vals l (l.length - 1) % 2 ^ r) := by
          have := held_rest l r (by rw [HKL.out]; exact hgood.out) HR.out hr5
          rw [HKL.out] at this ⊢; exact this
        generalize 2 ^ r - 1 = M at *
        rw [HZ.out] at hA
        clear HZ
        obtain ⟨Z, hZ⟩ : ∃ Z, Z = vals l (l.length - 1) % 2 ^ r := ⟨_, rfl⟩
        have HZ : Hid (Z = vals l (l.length - 1) % 2 ^ r) := hZ
        rw [← hZ] at hA
        clear hZ
        by_cases hz : Z = 0
        · have hz1 : ((Z : Int) != 0) = false := by rw [hz]; rfl
          have HO : Hid (unOk l = true) := by
            unfold Hid unOk endOk; rw [HA.out, Bool.true_and, decide_eq_true_iff, ← HR.out]
            exact ⟨hr5, by rw [← HZ.out, hz]⟩
          have HF : Hid (unTo l m = unRes l) := by
            unfold Hid unRes; rw [HO.out, if_pos rfl]; exact unTo_all l m (by rw [HKL.out]; omega)
          rw [HF.out] at hown
          clear hz hmr
          go_wp2
          go_ret2
          exact ⟨_, ret_un7 (by unfold unErr; rw [HO.out]; rfl), hown, hbel⟩
        · have hz1 : ((Z : Int) != 0) = true := by simp; omega
          have HO : Hid (unOk l = false) := by
            unfold Hid unOk endOk; rw [HA.out, Bool.true_and, decide_eq_false_iff_not]
            rintro ⟨_, h2⟩; rw [← HR.out, ← HZ.out] at h2; exact hz h2
          clear hz hmr
          go_wp2
          go_ret2
          exact ⟨.slice none 0 0, ret_un7 (by unfold unErr; rw [HO.out]; rfl), by unfold unRes; rw [HO.out]; exact OwnB.nil _ _, hbel⟩
      · have hr5' : (5 : Int) ≤ (r : Int) := by omega
        have HO : Hid (unOk l = false) := by
          unfold Hid unOk endOk; rw [HA.out, Bool.true_and, decide_eq_false_iff_not]
          rintro ⟨h1, _⟩; rw [← HR.out] at h1; omega
        go_wp2
        go_ret2
        exact ⟨.slice none 0 0, ret_un7 (by unfold unErr; rw [HO.out]; rfl), by unfold unRes; rw [HO.out]; exact OwnB.nil _ _, hbel⟩
end Go.Proofs.Ytmgflcglmakceaa
