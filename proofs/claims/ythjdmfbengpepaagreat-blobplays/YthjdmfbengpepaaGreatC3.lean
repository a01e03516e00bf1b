/- The statements' filled of stage 12. · What the document's Same says of two refs that are the same; its Show. -/
import Derived.Test.YthjdmfbengpepaaGreatB29
namespace Go.Proofs.YthjdmfbengpepaaGreat
open Go.RowKit

def filledL (n : Nat) (y : UInt8) : List UInt8 := (List.range n).map fun i => y + UInt8.ofNat (i % 7)
theorem filled_len (n : Nat) (y : UInt8) : (filledL n y).length = n := by unfold filledL; rw [List.length_map, List.length_range]
/-- filled up to k -/
def fillTo (n k : Nat) (y : UInt8) : List UInt8 := (List.range n).map fun i => if i < k then y + UInt8.ofNat (i % 7) else 0
theorem fillTo_len (n k : Nat) (y : UInt8) : (fillTo n k y).length = n := by unfold fillTo; rw [List.length_map, List.length_range]
theorem fillTo_zero (n : Nat) (y : UInt8) : fillTo n 0 y = List.replicate n 0 := by
  unfold fillTo
  apply List.ext_getElem
  · simp
  · intro i h1 h2; simp
theorem fillTo_all (n : Nat) (y : UInt8) : fillTo n n y = filledL n y := by
  unfold fillTo filledL
  apply List.map_congr_left
  intro i hi
  rw [if_pos (List.mem_range.1 hi)]
theorem fillTo_set (n k : Nat) (y : UInt8) : (fillTo n k y).set k (y + UInt8.ofNat (k % 7)) = fillTo n (k + 1) y := by
  unfold fillTo
  apply List.ext_getElem
  · simp
  · intro i h1 h2
    simp only [List.getElem_set, List.getElem_map, List.getElem_range]
    by_cases e : k = i
    · subst e; rw [if_pos rfl, if_pos (by omega)]
    · rw [if_neg e]
      by_cases h : i < k
      · rw [if_pos h, if_pos (by omega)]
      · rw [if_neg h, if_neg (by omega)]
set_option maxRecDepth 20000 in
set_option maxHeartbeats 1000000 in
theorem lawFilled12 (n : Nat) (y : UInt8) (w : World) (hn : n ≤ 100000) :
    Calls Tryz.prog 18 #[.int .i64 (n : Int), .int .u8 (y.toNat : Int)] w fun e w' => ∃ v, e = .returned v ∧ OwnB w' w.heap.size v (filledL n y) ∧ Below w.heap.size w w' := by
  go_enter Tryz.func18, Tryz.ntmps18
  go_wp2_with (at_make; refine make_full8 w rfl _ _ rfl w.heap.size .i64 .i64 _ _ n rfl rfl rfl rfl (by omega) (Nat.le_refl _) ?_; intro w1 ho1 hg1; have HB1 : Hid (Below w.heap.size w w1) := (Below.refl _ w).grown hg1 (Nat.le_refl _) (fun k e => by cases e); have HO1 := mkHid ho1; clear ho1 hg1)
  generalize hH : w.heap.size = H at *
  have HH := mkHid hH
  clear hH
  rw [← fillTo_zero n y] at HO1
  go_loopw [6] (fun i wr => ∃ k : Nat, k ≤ n ∧ i = .int .i64 (k : Int) ∧ Hid (OwnB wr H (.slice (some ⟨H, 0, none⟩) n n) (fillTo n k y)) ∧ Hid (Below H w wr)) (fun i _ => n - (Go.RowKit.intOf i).toNat)
  case atStart => exact ⟨0, Nat.zero_le _, rfl, HO1, HB1⟩
  case round =>
    obtain ⟨k, hk, rfl, HO, HB⟩ := hrel
    by_cases hlt : k < n
    · have hlt' : (k : Int) < (n : Int) := by omega
      have c0 := HO.out.cellAt (fillTo_len n k y) k hlt
      have f0 := HO.out.frozenAt (fillTo_len n k y) k
      have HO2 := mkHid (HO.out.set (fillTo_len n k y) k (y + UInt8.ofNat (k % 7)))
      rw [fillTo_set n k y] at HO2
      have HB2 : Hid (Below H w (wr.setCell ⟨H, k, none⟩ (.int .u8 ((y + UInt8.ofNat (k % 7)).toNat : Int)))) := HB.out.setCell (p := ⟨H, k, none⟩) (Nat.le_refl _) _
      have hm : (k : Int).tmod 7 = ((k % 7 : Nat) : Int) := by rw [Int.tmod_eq_emod_of_nonneg (by omega)]; omega
      have hv : ((y.toNat : Int) + ((k % 7 : Nat) : Int)) % 256 = ((y + UInt8.ofNat (k % 7)).toNat : Int) := by
        rw [UInt8.toNat_add, UInt8.toNat_ofNat']; omega
      have h7 : k % 7 < 7 := Nat.mod_lt _ (by omega)
      generalize k % 7 = r at *
      generalize y + UInt8.ofNat r = x at *
      clear HO
      go_wp2_with fail
      go_roundw
      case rel => exact ⟨k + 1, by omega, by go_num, HO2, HB2⟩
      case measure => simp [Go.RowKit.intOf]; omega
    · have hlt' : ¬ (k : Int) < (n : Int) := by omega
      obtain rfl : k = n := by omega
      rw [fillTo_all] at HO
      go_wp2_with fail
      go_ret
      refine ⟨_, rfl, ?_, ?_⟩
      · rw [HH.out]; exact HO.out
      · rw [HH.out]; exact HB.out
end Go.Proofs.YthjdmfbengpepaaGreat
namespace Go.Proofs.YthjdmfbengpepaaGreat
open Go.RowKit

set_option maxRecDepth 20000 in
set_option maxHeartbeats 2000000 in
theorem refSame12 (r : Rf) (q1 q2 : RfA) (w : World) (h1 : IsRf w r q1) (h2 : IsRf w r q2) (hz : r.secs.length ≤ 100000) :
    Calls Tryz.prog 20 #[.agg (rfc r q1).toArray, .agg (rfc r q2).toArray] w fun e w' => e = .returned (.bool true) ∧ Below w.heap.size w w' := by
  obtain ⟨rl, rs, rz⟩ := r
  obtain ⟨qa, qc, qb, qd⟩ := q1
  obtain ⟨pa, pc, pb, pd⟩ := q2
  have H1 := mkHid h1
  have H2 := mkHid h2
  change rz.length ≤ 100000 at hz
  clear h1 h2
  simp only [rfc]
  go_enter Tryz.func20, Tryz.ntmps20
  go_wp2_with fail
  have kA := Blk.new w 46 [.int .i64 rl, .slice qa rs.length qc, .slice qb rz.length qd]
  have hA : Below w.heap.size w (w.alloc (.cells #[.int .i64 rl, .slice qa rs.length qc, .slice qb rz.length qd] 46)) := (Below.refl _ w).alloc (Nat.le_refl _) _
  generalize hW1 : w.alloc (.cells #[.int .i64 rl, .slice qa rs.length qc, .slice qb rz.length qd] 46) = Y1 at *
  have hz1 : Y1.heap.size = w.heap.size + 1 := by rw [← hW1]; exact Array.size_push _
  have kB := Blk.new Y1 46 [.int .i64 rl, .slice pa rs.length pc, .slice pb rz.length pd]
  have hB : Below Y1.heap.size Y1 (Y1.alloc (.cells #[.int .i64 rl, .slice pa rs.length pc, .slice pb rz.length pd] 46)) := (Below.refl _ Y1).alloc (Nat.le_refl _) _
  have kA2 := Blk.on kA hB
  rw [hz1] at kB
  have HBel : Hid (Below w.heap.size w (Y1.alloc (.cells #[.int .i64 rl, .slice pa rs.length pc, .slice pb rz.length pd] 46))) := hA.trans (hB.mono hA.size)
  clear hB hA kA hW1 hz1
  generalize Y1.alloc (.cells #[.int .i64 rl, .slice pa rs.length pc, .slice pb rz.length pd] 46) = Y at *
  have a2 : Y.cell? ⟨w.heap.size, 2, none⟩ = some (.slice qb rz.length qd) := Blk.cell kA2 2
  have b2 : Y.cell? ⟨w.heap.size + 1, 2, none⟩ = some (.slice pb rz.length pd) := Blk.cell kB 2
  have HSm := refSame qa rs.length qc rs pa rs.length pc rs Y (H1.out.sum.below HBel.out rfl) (H2.out.sum.below HBel.out rfl)
  rw [eqB_self] at HSm
  have HZ1 := mkHid (H1.out.secs.below HBel.out)
  have HZ2 := mkHid (H2.out.secs.below HBel.out)
  clear H1 H2 kA2 kB
  refine HSm.mono ?_
  rintro e y1 ⟨rfl, m1, rfl⟩
  generalize hn : rz.length = n at *
  clear hn HSm
  have a2d : ∀ x, (Y.drewN x).cell? ⟨w.heap.size, 2, none⟩ = some (.slice qb n qd) := fun _ => a2
  have b2d : ∀ x, (Y.drewN x).cell? ⟨w.heap.size + 1, 2, none⟩ = some (.slice pb n pd) := fun _ => b2
  have a3 := a2d m1
  have b3 := b2d m1
  go_wp2_with fail
  go_loopw [5] (fun i wr => ∃ k x : Nat, wr = Y.drewN x ∧ k ≤ n ∧ i = .int .i64 (k : Int)) (fun i _ => n - (Go.RowKit.intOf i).toNat)
  case atStart => exact ⟨0, m1, rfl, Nat.zero_le _, rfl⟩
  case round =>
    obtain ⟨k, x, rfl, hk, rfl⟩ := hrel
    have a4 := a2d x
    have b4 := b2d x
    by_cases hlt : k < n
    · have hlt' : (k : Int) < (n : Int) := by omega
      obtain ⟨g1, o1, rfl, _, hc1⟩ := HZ1.out.cells (by omega)
      obtain ⟨g2, o2, rfl, _, hc2⟩ := HZ2.out.cells (by omega)
      have f1 := hc1 k hlt
      have f2 := hc2 k hlt
      clear hc1 hc2
      generalize rz.getD k 0 = y at *
      go_wp2_with fail
      go_quiet (fail)
      go_wp2_with fail
      go_roundw
      case rel => exact ⟨k + 1, x + nq, by first | rfl | exact World.drewN_drewN .., by omega, by go_num⟩
      case measure => simp [Go.RowKit.intOf]; omega
    · have hlt' : ¬ (k : Int) < (n : Int) := by omega
      go_wp2_with fail
      go_ret
      exact ⟨rfl, bel_drewN HBel.out x⟩
end Go.Proofs.YthjdmfbengpepaaGreat
