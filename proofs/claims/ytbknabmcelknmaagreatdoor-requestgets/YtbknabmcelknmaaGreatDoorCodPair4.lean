/- What uri.pair answers. -/
import Derived.Test.YtbknabmcelknmaaGreatDoorCodPath
import Derived.Test.YtbknabmcelknmaaGreatDoorJ8
import Derived.Laws.ResultCell
import Derived.Laws.Rows
namespace Go.Proofs.YtbknabmcelknmaaGreatDoor
open Go.RowKit

theorem results_cellrow_tmp {P : Program} {fn : Func} {p u : Tmp} {ty : TypeId} (h : fn.results = #[.cell p ty, .tmp u]) (tmps : Array Value) (w : World) (g : Nat) (t : TypeId) (cs : Array Value) (fr : Nat × Nat) (d : TypeDesc)
    (hp : tmps.getD p undef = .pointer (some ⟨g, 0, none⟩)) (hg : w.heap[g]? = some (.cells cs t fr))
    (hu : P.underlying ty = some d) (hd : (match d with | .struct _ | .array _ _ => true | _ => false) = true) (hi : (P.info? ty).map (·.size) = some cs.size) :
    (results fn tmps).run P w = .ok (.tuple #[.agg cs, tmps.getD u undef]) w := by
  rw [results_cell_tmp h, hp]
  simp [asAddr, Result.andThen, run_loadVar_row w g t ty cs fr d hg hu hd hi]

def PairR (l m : List UInt8) : Ending := .returned (.tuple #[.agg #[.string (str (bothA l m)), .string (str (bothB l m))], .int .i64 (bothC l m)])

set_option maxHeartbeats 1000000 in
theorem codPair (p : List UInt8) (w : World) (hs : p.length ≤ 40000000000000) :
    Calls Tryz.prog 98 #[.string (str p)] w fun e w' => e = PairR (headL 61 p) (tailL 61 p) ∧ Below w.heap.size w w' := by
  have HC := fun w => codCut p 61 w hs
  have l1 := headL_length 61 p
  have l2 := tailL_length 61 p
  have HB := fun w => codBoth (headL 61 p) (tailL 61 p) w (by omega) (by omega)
  unfold PairR
  unfold BothR at HB
  clear hs l1 l2
  generalize str (bothA (headL 61 p) (tailL 61 p)) = r1 at *
  generalize str (bothB (headL 61 p) (tailL 61 p)) = r2 at *
  generalize bothC (headL 61 p) (tailL 61 p) = r3 at *
  generalize str (headL 61 p) = s1 at *
  generalize str (tailL 61 p) = s2 at *
  generalize str p = s3 at *
  generalize hasL 61 p = b3 at *
  go_enter Tryz.func98, Tryz.ntmps98
  go_wp2_with (go_at_call 65; refine (HC _).mono ?_; rintro e x1 ⟨rfl, b1⟩)
  have K1 := (Blk.newAt w w.heap.size 142 _ [.string ⟨#[]⟩, .string ⟨#[]⟩] rfl rfl).on b1
  have T1 : Below w.heap.size w x1 := ((Below.refl _ w).alloc (Nat.le_refl _) _).trans (b1.mono (by simp))
  refine (HB x1).mono ?_
  rintro e x2 ⟨rfl, c2⟩
  have K2 := K1.on c2
  have T2 := T1.trans (c2.mono T1.size)
  have g0 : x2.cell? ⟨w.heap.size, 0, none⟩ = some (.string ⟨#[]⟩) := K2.cell 0
  have g1 : x2.cell? ⟨w.heap.size, 1, none⟩ = some (.string ⟨#[]⟩) := K2.cell 1
  have f0 := K2.frozen 0
  have f1 := K2.frozen 1
  clear c2 T1 K1 b1 HB HC
  go_wp2
  have K4 : Blk ((x2.setCell ⟨w.heap.size, 0, none⟩ (.string r1)).setCell ⟨w.heap.size, 1, none⟩ (.string r2)) w.heap.size 142 [.string r1, .string r2] := (K2.set 0 (.string r1)).set 1 (.string r2)
  (try simp only [Exit.inBlock, Exit.then])
  refine bodyPost_ret (results_cellrow_tmp (P := Tryz.prog) rfl _ _ w.heap.size 142 #[.string r1, .string r2] (0, 0) _ rfl K4 Tryz.underlying142 rfl (by kernel_rfl)) rfl ⟨rfl, ?_⟩
  exact (T2.setCell (p := ⟨w.heap.size, 0, none⟩) (Nat.le_refl _) _).setCell (p := ⟨w.heap.size, 1, none⟩) (Nat.le_refl _) _
end Go.Proofs.YtbknabmcelknmaaGreatDoor
