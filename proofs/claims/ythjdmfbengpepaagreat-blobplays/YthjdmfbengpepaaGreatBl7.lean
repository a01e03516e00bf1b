/- The statements' filled of stage 12. -/
import Derived.Test.YthjdmfbengpepaaGreatB29
namespace Go.Proofs.YthjdmfbengpepaaGreat
open Go.RowKit

def filledL (n : Nat) (y : UInt8) : List UInt8 := (List.range n).map fun i => y + UInt8.ofNat (i % 7)
theorem filled_len (n : Nat) (y : UInt8) : (filledL n y).length = n := by unfold filledL; rw [List.length_map, List.length_range]
/-- filled up to k -/
def fillTo (n k : Nat) (y : UInt8) : List UInt8 := (List.range n).map fun i => if i < k then y + UInt8.ofNat (i % 7) else 0
theorem fillTo_len (n k : Nat) (y : UInt8) : (fillTo n k y).length = n := by unfold fillTo; rw [List.length_map, List.length_range]
theorem fillTo_zero (n : Nat) (y : UInt8) : fillTo n 0 y = List.replicate n 0 := by
  unfold fillTo
  apply List.ext_getElem
  · simp
  · intro i h1 h2; simp
theorem fillTo_all (n : Nat) (y : UInt8) : fillTo n n y = filledL n y := by
  unfold fillTo filledL
  apply List.map_congr_left
  intro i hi
  rw [if_pos (List.mem_range.1 hi)]
theorem fillTo_set (n k : Nat) (y : UInt8) : (fillTo n k y).set k (y + UInt8.ofNat (k % 7)) = fillTo n (k + 1) y := by
  unfold fillTo
  apply List.ext_getElem
  · simp
  · intro i h1 h2
    simp only [List.getElem_set, List.getElem_map, List.getElem_range]
    by_cases e : k = i
    · subst e; rw [if_pos rfl, if_pos (by omega)]
    · rw [if_neg e]
      by_cases h : i < k
      · rw [if_pos h, if_pos (by omega)]
      · rw [if_neg h, if_neg (by omega)]
set_option maxRecDepth 20000 in
set_option maxHeartbeats 1000000 in
theorem lawFilled12 (n : Nat) (y : UInt8) (w : World) (hn : n ≤ 100000) :
    Calls Tryz.prog 18 #[.int .i64 (n : Int), .int .u8 (y.toNat : Int)] w fun e w' => ∃ v, e = .returned v ∧ OwnB w' w.heap.size v (filledL n y) ∧ Below w.heap.size w w' := by
  go_enter Tryz.func18, Tryz.ntmps18
  go_wp2_with (at_make; refine make_full8 w rfl _ _ rfl w.heap.size .i64 .i64 _ _ n rfl rfl rfl rfl (by omega) (Nat.le_refl _) ?_; intro w1 ho1 hg1; have HB1 : Hid (Below w.heap.size w w1) := (Below.refl _ w).grown hg1 (Nat.le_refl _) (fun k e => by cases e); have HO1 := mkHid ho1; clear ho1 hg1)
  generalize hH : w.heap.size = H at *
  have HH := mkHid hH
  clear hH
  rw [← fillTo_zero n y] at HO1
  go_loopw [6] (fun i wr => ∃ k : Nat, k ≤ n ∧ i = .int .i64 (k : Int) ∧ Hid (OwnB wr H (.slice (some ⟨H, 0, none⟩) n n) (fillTo n k y)) ∧ Hid (Below H w wr)) (fun i _ => n - (Go.RowKit.intOf i).toNat)
  case atStart => exact ⟨0, Nat.zero_le _, rfl, HO1, HB1⟩
  case round =>
    obtain ⟨k, hk, rfl, HO, HB⟩ := hrel
    by_cases hlt : k < n
    · have hlt' : (k : Int) < (n : Int) := by omega
      have c0 := HO.out.cellAt (fillTo_len n k y) k hlt
      have f0 := HO.out.frozenAt (fillTo_len n k y) k
      have HO2 := mkHid (HO.out.set (fillTo_len n k y) k (y + UInt8.ofNat (k % 7)))
      rw [fillTo_set n k y] at HO2
      have HB2 : Hid (Below H w (wr.setCell ⟨H, k, none⟩ (.int .u8 ((y + UInt8.ofNat (k % 7)).toNat : Int)))) := HB.out.setCell (p := ⟨H, k, none⟩) (Nat.le_refl _) _
      have hm : (k : Int).tmod 7 = ((k % 7 : Nat) : Int) := by rw [Int.tmod_eq_emod_of_nonneg (by omega)]; omega
      have hv : ((y.toNat : Int) + ((k % 7 : Nat) : Int)) % 256 = ((y + UInt8.ofNat (k % 7)).toNat : Int) := by
        rw [UInt8.toNat_add, UInt8.toNat_ofNat']; omega
      have h7 : k % 7 < 7 := Nat.mod_lt _ (by omega)
      generalize k % 7 = r at *
      generalize y + UInt8.ofNat r = x at *
      clear HO
      go_wp2_with fail
      go_roundw
      case rel => exact ⟨k + 1, by omega, by go_num, HO2, HB2⟩
      case measure => simp [Go.RowKit.intOf]; omega
    · have hlt' : ¬ (k : Int) < (n : Int) := by omega
      obtain rfl : k = n := by omega
      rw [fillTo_all] at HO
      go_wp2_with fail
      go_ret
      refine ⟨_, rfl, ?_, ?_⟩
      · rw [HH.out]; exact HO.out
      · rw [HH.out]; exact HB.out
end Go.Proofs.YthjdmfbengpepaaGreat
