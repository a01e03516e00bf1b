/- The chapter's example, and LockWords. -/
import Derived.Test.YtbfmcljjbdaglaaLk3
namespace Go.Proofs.Ytbfmcljjbdaglaa
open Go.RowKit

attribute [local go_sem] undef
/-- three retentions in a world -/
structure ThR (w y : World) : Prop where
  g : Blk y w.heap.size 24 [.int .i64 1, .int .u64 100]
  c : Blk y (w.heap.size + 1) 24 [.int .i64 2, .int .u64 100]
  t : Blk y (w.heap.size + 1 + 1) 24 [.int .i64 1, .int .u64 60]
  bel : Below w.heap.size w y
theorem ThR.on {w y y' : World} (h : ThR w y) (hb : Below y.heap.size y y') : ThR w y' := ⟨h.g.on hb, h.c.on hb, h.t.on hb, h.bel.trans (hb.mono h.bel.size)⟩
set_option maxHeartbeats 1000000 in
theorem lawAlive15 (w : World) : Calls Try.prog 15 #[] w fun e w' => e = .returned (.bool true) ∧ Below w.heap.size w w' := by
  have H1 := codMaySet 1 100 1 60 50 false
  have H2 := codMaySet 1 100 1 60 50 true
  have H3 := codMaySet 2 100 1 60 50 true
  have H4 := codMaySet 2 100 2 100 50 false
  rw [show maySetK 1 100 1 60 50 false = 37 by decide] at H1
  rw [show maySetK 1 100 1 60 50 true = 0 by decide] at H2
  rw [show maySetK 2 100 1 60 50 true = 37 by decide] at H3
  rw [show maySetK 2 100 2 100 50 false = 0 by decide] at H4
  have hT : Hid (ThR w (((w.alloc (.cells #[.int .i64 1, .int .u64 100] 24)).alloc (.cells #[.int .i64 2, .int .u64 100] 24)).alloc (.cells #[.int .i64 1, .int .u64 60] 24))) :=
    ⟨((Blk.new w 24 [.int .i64 1, .int .u64 100]).alloc _).alloc _, (Blk.newAt _ _ _ _ [.int .i64 2, .int .u64 100] (World.size_alloc _ _) rfl).alloc _, Blk.newAt _ _ _ _ [.int .i64 1, .int .u64 60] (by rw [World.size_alloc, World.size_alloc]) rfl, (two_below w _ _).alloc (two_below w _ _).size _⟩
  go_enter Try.func15, Try.ntmps15
  go_wp2_with fail
  generalize World.alloc _ _ = y at *
  refine (H1 _).mono ?_
  rintro e y1 ⟨rfl, hb⟩
  have h1 := mkHid (hT.out.on hb)
  clear hb hT
  have a0 := h1.out.g.cell 0
  have a1 := h1.out.g.cell 1
  have b0 := h1.out.c.cell 0
  have b1 := h1.out.c.cell 1
  have c0 := h1.out.t.cell 0
  have c1 := h1.out.t.cell 1
  simp only [List.getElem?_cons_zero, List.getElem?_cons_succ] at a0 a1 b0 b1 c0 c1
  go_wp2_with fail
  refine (H2 _).mono ?_
  rintro e y2 ⟨rfl, hb⟩
  have h2 := mkHid (h1.out.on hb)
  clear hb h1 a0 a1 b0 b1 c0 c1
  have a0 := h2.out.g.cell 0
  have a1 := h2.out.g.cell 1
  have b0 := h2.out.c.cell 0
  have b1 := h2.out.c.cell 1
  have c0 := h2.out.t.cell 0
  have c1 := h2.out.t.cell 1
  simp only [List.getElem?_cons_zero, List.getElem?_cons_succ] at a0 a1 b0 b1 c0 c1
  go_wp2_with fail
  refine (H3 _).mono ?_
  rintro e y3 ⟨rfl, hb⟩
  have h3 := mkHid (h2.out.on hb)
  clear hb h2 a0 a1 b0 b1 c0 c1
  have a0 := h3.out.g.cell 0
  have a1 := h3.out.g.cell 1
  have b0 := h3.out.c.cell 0
  have b1 := h3.out.c.cell 1
  have c0 := h3.out.t.cell 0
  have c1 := h3.out.t.cell 1
  simp only [List.getElem?_cons_zero, List.getElem?_cons_succ] at a0 a1 b0 b1 c0 c1
  go_wp2_with fail
  refine (H4 _).mono ?_
  rintro e y4 ⟨rfl, hb⟩
  have h4 := mkHid (h3.out.on hb)
  clear hb h3 a0 a1 b0 b1 c0 c1
  go_wp2_with fail
  go_ret
  exact ⟨rfl, h4.out.bel⟩
end Go.Proofs.Ytbfmcljjbdaglaa
