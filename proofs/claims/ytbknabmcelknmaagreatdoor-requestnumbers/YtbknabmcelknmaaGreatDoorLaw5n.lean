/- For every text and every bound the program's Number answers as the document's does, and the chapter's example is read. -/
import Derived.Test.YtbknabmcelknmaaGreatDoorR5q
import Derived.Test.YtbknabmcelknmaaGreatDoorR5r
import Derived.Test.YtbknabmcelknmaaGreatDoorNum5
import Derived.Test.YtbknabmcelknmaaGreatDoorEnv5
import Derived.Test.YtbknabmcelknmaaGreatDoorCards
import Derived.Test.YtbknabmcelknmaaGreatDoorTie
import Derived.ProofKit
import Derived.OpenShut
import Derived.Lay
import Derived.SevenTiedAt
namespace Go.Proofs.YtbknabmcelknmaaGreatDoor
open Go.RowKit

set_option maxRecDepth 20000 in
set_option maxHeartbeats 2000000 in
theorem walkNumbers (l : List UInt8) (most : Nat) (w : World) (hl : l.length ≤ 200000000000000) (hm : most < 18446744073709551616) (hE : Env w) (hg : 9 ≤ w.heap.size) :
    Calls Tryz.prog 6 #[.string (str l), .int .u64 (most : Int)] w fun e w' => e = .returned (.bool true) ∧ Below w.heap.size w w' := by
  have HC := codNumber l most w hl hE
  have HR := fun w => refNumber l most w hl hm
  obtain ⟨e1, e2⟩ := num_same l most hm
  rw [e1, e2] at HC
  have HA : ∀ w1, Below w.heap.size w w1 → Calls Tryz.prog 13 #[] w1 fun e w' => e = .returned (.bool true) ∧ Below w1.heap.size w1 w' := fun w1 hb => lawAlive w1 (hE.below hb) (Nat.le_trans hg hb.size)
  generalize numV l most = nv at *
  generalize numE l most = ne at *
  generalize str l = s at *
  clear e1 e2
  go_enter Tryz.func6, Tryz.ntmps6
  go_wp2_with (first | (go_at_call 20; refine HC.mono ?_; rintro e w1 ⟨rfl, hb1⟩) | (go_at_call 21; refine (HR _).mono ?_; rintro e w2 ⟨rfl, hww⟩; rw [hww]; clear hww w2) | (go_at_call 13; refine (HA _ hb1).mono ?_; rintro e w3 ⟨rfl, hb3⟩))
  go_ret
  exact ⟨rfl, hb1.trans (hb3.mono hb1.size)⟩
end Go.Proofs.YtbknabmcelknmaaGreatDoor
