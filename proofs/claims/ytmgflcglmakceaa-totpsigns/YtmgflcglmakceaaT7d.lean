/- What the document's bits answers. -/
import Derived.Test.YtmgflcglmakceaaT7c
namespace Go.Proofs.Ytmgflcglmakceaa
open Go.RowKit
theorem and1_8 (n : Nat) (h : n < 256) : bits .and .u8 (n : Int) 1 = ((n % 2 : Nat) : Int) := by
  have e := bits_and8 (UInt8.ofNat n) 1
  rw [UInt8.toNat_and, UInt8.toNat_ofNat', Nat.mod_eq_of_lt h] at e
  rw [show (n &&& (1 : UInt8).toNat) = n % 2 from Nat.and_two_pow_sub_one_eq_mod n 1] at e
  exact e
/-- the bits, each a byte -/
def bt (l : List UInt8) (j : Nat) : UInt8 := UInt8.ofNat (bitB l j)
theorem bt_toNat (l : List UInt8) (j : Nat) : (bt l j).toNat = bitB l j := by
  unfold bt; rw [UInt8.toNat_ofNat']; have := bitB_lt l j; omega
def btTo (l : List UInt8) (m : Nat) : List UInt8 := (List.range m).map (bt l)
theorem btTo_succ (l : List UInt8) (m : Nat) : btTo l (m + 1) = btTo l m ++ [bt l m] := by
  unfold btTo; rw [List.range_succ, List.map_append]; rfl
theorem btTo_length (l : List UInt8) (m : Nat) : (btTo l m).length = m := by simp [btTo]
theorem btTo_at (l : List UInt8) (m i : Nat) (h : i < m) : nth (btTo l m) i = bt l i := by
  rw [nth_eq _ _ (by rw [btTo_length]; exact h)]; simp [btTo]

set_option maxHeartbeats 1000000 in
theorem refBits7 (a0 : Option Addr) (len0 cap0 : Nat) (l : List UInt8) (w : World) (w0 : IsB w a0 len0 cap0 l) (hs : len0 ≤ 1000000) :
    Calls Try.prog 28 #[.slice a0 len0 cap0] w fun e w' => ∃ v, e = .returned v ∧ OwnB w' w.heap.size v (btTo l (8 * len0)) ∧ Below w.heap.size w w' := by
  have hl0 := w0.le
  have hm0 := w0.max
  have c0 : Hid (IsB w a0 len0 cap0 l) := w0
  clear w0
  unfold maxLen at hm0
  go_enter Try.func28, Try.ntmps28
  go_wp2
  go_loopw [3, 4] (fun v i wr => ∃ p : Nat, p ≤ len0 ∧ i = .int .i64 (p : Int) ∧ OwnB wr w.heap.size v (btTo l (8 * p)) ∧ Below w.heap.size w wr) (fun _ i _ => len0 - (intOf i).toNat)
  case atStart => exact ⟨0, Nat.zero_le _, rfl, OwnB.nil _ _, Below.refl _ _⟩
  case round =>
    obtain ⟨p, hp, rfl, hown, hbel⟩ := hrel
    by_cases hlt : p < len0
    · obtain ⟨b0, o0, rfl, hc0⟩ := c0.out.cells (by omega)
      have hlt' : (p : Int) < (len0 : Int) := by omega
      go_wp2
      go_loopw [3, 5] (fun v i wr => ∃ j : Nat, j ≤ 8 ∧ i = .int .i64 (7 - (j : Int)) ∧ OwnB wr w.heap.size v (btTo l (8 * p + j)) ∧ Below w.heap.size w wr) (fun _ i _ => (intOf i + 1).toNat)
      case atStart => exact ⟨0, by omega, rfl, hown, hbel⟩
      case round =>
        clear hown hbel
        obtain ⟨j, hj, rfl, hown, hbel⟩ := hrel
        by_cases hj8 : j < 8
        · have g0 := hc0 p hlt
          have gb : b0 < w.heap.size := cell_lt g0
          have g1 := (hbel.cell (p := ⟨b0, o0 + p, none⟩) gb).trans g0
          clear hc0
          obtain ⟨t, ht⟩ : ∃ t : Nat, 7 - (j : Int) = (t : Int) := ⟨7 - j, by omega⟩
          have HT : Hid (7 - (j : Int) = (t : Int)) := ht
          have ht8 : t < 8 := by omega
          obtain ⟨y, hy⟩ : ∃ y, y = bt l (8 * p + j) := ⟨_, rfl⟩
          have HV : bits .and .u8 (((nth l p).toNat : Int) / 2 ^ t) 1 = (y.toNat : Int) := by
            rw [hy, bt_toNat, bitB_at l p j hj8, show 7 - j = t by omega]
            have := and1_8 (nb l p / 2 ^ t) (Nat.lt_of_le_of_lt (Nat.div_le_self _ _) (nb_lt l p))
            rw [← this]
            unfold nb
            simp
          have HO : Hid (btTo l (8 * p + (j + 1)) = btTo l (8 * p + j) ++ [y]) := by unfold Hid; rw [← Nat.add_assoc, btTo_succ, hy]
          have HL : Hid ((btTo l (8 * p + j)).length = 8 * p + j) := btTo_length _ _
          have HB := hown.blk
          rw [ht]
          clear ht hy
          have hbd : 8 * p + j ≤ 10000000 := by omega
          generalize btTo l (8 * p + j) = q at *
          go_wp2_with (at_builtin; refine list_app8 _ rfl (.tmp 16) (.tmp 25) rfl w.heap.size _ q rfl (hown.alloc _) wr.heap.size 1 1 [y] rfl rfl (heap_alloc_new wr _) (by omega) (by rw [HL.out]; omega) (by have := hbel.size; simp; omega) _ rfl ?_; intro g4 cap4 w4 hown4 hgrow4 hat4 hlt4)
          go_roundw
          case rel => exact ⟨j + 1, by omega, by have := HT.out; go_num, by rw [HO.out]; exact hown4, (hbel.alloc hbel.size _).grown hgrow4 (by have := hbel.size; simp; omega) (fun q hq => (HB q hq).1)⟩
          case measure => simp [intOf]
        · have hge : ¬ ((0 : Int) ≤ 7 - (j : Int)) := by omega
          have e : 8 * p + j = 8 * (p + 1) := by omega
          rw [e] at hown
          clear e
          go_wp2
          go_roundw
          case rel => exact ⟨p + 1, by omega, by go_num, hown, hbel⟩
          case measure => simp [intOf]; omega
    · have e : p = len0 := by omega
      rw [e] at hown
      clear e
      go_wp2
      go_ret
      exact ⟨_, rfl, hown, hbel⟩
end Go.Proofs.Ytmgflcglmakceaa
