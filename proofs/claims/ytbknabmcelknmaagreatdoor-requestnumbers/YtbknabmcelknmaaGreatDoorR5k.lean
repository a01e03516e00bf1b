/- request: what is recovered. -/
import Derived.Test.YtbknabmcelknmaaGreatDoorR5j
import Derived.Defers
import Derived.Recover
import Derived.Laws.Pointers
namespace Go.Proofs.YtbknabmcelknmaaGreatDoor
open Go.RowKit

theorem catchIdle (Q E : Nat) (w : World) :
    CallsD Tryz.prog 45 #[.pointer (some ⟨Q, 0, none⟩), .pointer (some ⟨E, 0, none⟩)] .returning w fun e u' w' => e = .returned (.tuple #[]) ∧ u' = .returning ∧ w' = w := by
  refine callsD_of_wpS Tryz.func45 rfl fun c₀ cs hu => ?_
  apply wpS_seq
  apply wpS_region
  simp [wpOpsS, go_sem, recoverD, hu, Tryz.ntmps45, Exit.thenS]
  apply wpS_seq
  apply wpS_region
  simp [wpOpsS, go_sem, Exit.thenS]
  refine wpS_cond (t := false) (by simp [Act.eval, Array.replicate]) ?_
  simp only [Bool.false_eq_true, if_false]
  refine wpS_of_wp (wp_skip ?_)
  cases c₀
  simp_all [bodyPostS, results, Tryz.results45]

theorem Blk.drew1 {w : World} {B t : Nat} {cs : List Value} (h : Blk w B t cs) : Blk w.drew B t cs := h
def rqZero : List Value := [.string ⟨#[]⟩, .string ⟨#[]⟩, .string ⟨#[]⟩, .slice none 0 0, .slice none 0 0]
set_option maxRecDepth 20000 in
set_option maxHeartbeats 2000000 in
theorem catchPanic (Q E n : Nat) (k : Int) (older : List PanicEntry) (w : World) (c0 c1 c2 c3 c4 v : Value) (hQ : Blk w Q 25 [c0, c1, c2, c3, c4]) (hE : Blk w E 26 [v]) (hne : Q ≠ E) (hnQ : n ≤ Q) (hnE : n ≤ E) :
    CallsD Tryz.prog 45 #[.pointer (some ⟨Q, 0, none⟩), .pointer (some ⟨E, 0, none⟩)] (.panicking ({ v := .iface 26 (.int .i64 k), recovered := false } :: older)) w fun e u' w' =>
      e = .returned (.tuple #[]) ∧ u' = .panicking ({ v := .iface 26 (.int .i64 k), recovered := true } :: older) ∧ (Blk w' Q 25 rqZero ∧ Blk w' E 26 [.int .i64 k] ∧ Below n w w') := by
  have q0 : w.cell? ⟨Q, 0, none⟩ = some c0 := hQ.cell 0
  have q1 : w.cell? ⟨Q, 1, none⟩ = some c1 := hQ.cell 1
  have q2 : w.cell? ⟨Q, 2, none⟩ = some c2 := hQ.cell 2
  have q3 : w.cell? ⟨Q, 3, none⟩ = some c3 := hQ.cell 3
  have q4 : w.cell? ⟨Q, 4, none⟩ = some c4 := hQ.cell 4
  have f0 := hQ.frozen 0
  have f1 := hQ.frozen 1
  have f2 := hQ.frozen 2
  have f3 := hQ.frozen 3
  have f4 := hQ.frozen 4
  have e0 : w.cell? ⟨E, 0, none⟩ = some v := hE.cell 0
  have fe := hE.frozen 0
  have hne' : E ≠ Q := Ne.symm hne
  have hta : ∀ W, (Instr.typeAssert (.iface 26 (.int .i64 k)) 20 26 false).run Tryz.prog W = .ok (.int .i64 k) W := fun W => by first | kernel_rfl | rfl | simp [go_sem, Instr.typeAssert]
  refine callsD_of_wpS Tryz.func45 rfl fun c₀ cs hu => ?_
  apply wpS_seq
  apply wpS_region
  simp [wpOpsS, go_sem, recoverD, hu, Tryz.ntmps45, Exit.thenS]
  apply wpS_seq
  apply wpS_region
  simp [wpOpsS, go_sem, Exit.thenS]
  refine wpS_cond (t := true) (by simp [Act.eval, Array.replicate]) ?_
  simp only [if_true]
  refine wpS_of_wp ?_
  refine (show Code.wp Tryz.prog _ _ { tmps := #[.pointer (some ⟨Q, 0, none⟩), .pointer (some ⟨E, 0, none⟩), .iface 26 (.int .i64 k), .iface 26 (.int .i64 k), .iface 26 (.int .i64 k), .bool true, undef, undef, undef], defers := [] } w from ?_)
  go_region
  refine ⟨rfl, _, rfl, _, results_none rfl _ _ _, rfl, rfl, ?_, ?_, ?_⟩
  · exact ((((((hQ.set 0 (.string ⟨#[]⟩)).set 1 (.string ⟨#[]⟩)).set 2 (.string ⟨#[]⟩)).set 3 (.slice none 0 0)).set 4 (.slice none 0 0)).other ⟨E, 0, none⟩ (.int .i64 k) hne).drew1
  · exact ((((((hE.other ⟨Q, 0, none⟩ (.string ⟨#[]⟩) hne').other ⟨Q, 1, none⟩ (.string ⟨#[]⟩) hne').other ⟨Q, 2, none⟩ (.string ⟨#[]⟩) hne').other ⟨Q, 3, none⟩ (.slice none 0 0) hne').other ⟨Q, 4, none⟩ (.slice none 0 0) hne').set 0 (.int .i64 k)).drew1
  · exact (((((((Below.refl n w).setCell (p := ⟨Q, 0, none⟩) hnQ _).setCell (p := ⟨Q, 1, none⟩) hnQ _).setCell (p := ⟨Q, 2, none⟩) hnQ _).setCell (p := ⟨Q, 3, none⟩) hnQ _).setCell (p := ⟨Q, 4, none⟩) hnQ _).setCell (p := ⟨E, 0, none⟩) hnE _).drew

end Go.Proofs.YtbknabmcelknmaaGreatDoor
