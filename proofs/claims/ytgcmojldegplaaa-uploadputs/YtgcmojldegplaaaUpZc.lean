/- The program's upload: where a part stands (the closure). -/
import Derived.Test.YtgcmojldegplaaaUp5
namespace Go.Proofs.Ytgcmojldegplaaa
open Go.RowKit

set_option maxRecDepth 20000 in
/-- is the number at a place at least n? -/
theorem codFind1 (a : Option Addr) (n cap : Nat) (l : List Pq) (z : Int) (B1 B2 k : Nat) (w : World) (h : RowC 2 pac w a n l) (hk : k < n) (h1 : Blk w B1 23 [.slice a n cap]) (h2 : Blk w B2 3 [.int .i64 z]) :
    Calls Try.prog 23 #[.int .i64 (k : Int), .pointer (some ⟨B1, 0, none⟩), .pointer (some ⟨B2, 0, none⟩)] w fun e w' => e = .returned (.bool (decide (z ≤ (l.map (fun p => p.1.n)).getD k 0))) ∧ Below w.heap.size w w' := by
  obtain ⟨B, off, p, rfl, hBl, hp, hc⟩ := h.at k hk
  have e0 : w.cell? ⟨B, off + k * 2, none⟩ = some (.int .i64 p.1.n) := hc 0 _ rfl
  have HE : Hid ((l.map (fun p => p.1.n)).getD k 0 = p.1.n) := by unfold Hid; rw [List.getD_eq_getElem?_getD, List.getElem?_map, hp]; rfl
  have c1 : w.cell? ⟨B1, 0, none⟩ = some (.slice (some ⟨B, off, none⟩) n cap) := h1.cell 0
  have c2 : w.cell? ⟨B2, 0, none⟩ = some (.int .i64 z) := h2.cell 0
  have hk' : (k : Int) < (n : Int) := by omega
  have hk0 : (0 : Int) ≤ (k : Int) := by omega
  rw [HE.out]
  generalize p.1.n = pn at *
  clear hc hp h h1 h2 hBl hk
  go_enter Try.func23, Try.ntmps23
  go_wp2_with fail
  go_quiet (fail)
  go_wp2_with fail
  go_ret
  exact ⟨ret_b (by first | rfl | (rw [Bool.eq_iff_iff]; simp)), bel_drewN (Below.refl _ _) _⟩
end Go.Proofs.Ytgcmojldegplaaa
