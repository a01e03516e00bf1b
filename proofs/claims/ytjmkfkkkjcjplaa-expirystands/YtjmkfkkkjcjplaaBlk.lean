/- Blocks that are known whole. -/
import Derived.Test.YtjmkfkkkjcjplaaOwnS
namespace Go.Proofs.Ytjmkfkkkjcjplaa
open Go.RowKit

/-- the world under a name of its own: what is known of it, and no more -/
theorem wp_named {P : Program} {c : Code} {Q : Exit → Act → World → Prop} {a : Act} {w : World} (R : World → Prop) (hR : R w) (h : ∀ w', R w' → Code.wp P c Q a w') : Code.wp P c Q a w := h w hR

def Blk (w : World) (B t : Nat) (cs : List Value) : Prop := w.heap[B]? = some (.cells cs.toArray t (0, 0))
theorem Blk.lt {w : World} {B t : Nat} {cs : List Value} (h : Blk w B t cs) : B < w.heap.size := (Array.getElem?_eq_some_iff.1 h).1
theorem Blk.cell {w : World} {B t : Nat} {cs : List Value} (h : Blk w B t cs) (j : Nat) : w.cell? ⟨B, j, none⟩ = cs[j]? := by
  rw [cell_of_row w B j _ _ _ h]; simp
theorem Blk.frozen {w : World} {B t : Nat} {cs : List Value} (h : Blk w B t cs) (j : Nat) : w.frozen? ⟨B, j, none⟩ = false := frozen_of_row w B j _ _ h
theorem Blk.below {w w' : World} {n B t : Nat} {cs : List Value} (h : Blk w B t cs) (hb : Below n w w') (hn : B < n) : Blk w' B t cs := by
  unfold Blk; rw [hb.block B hn]; exact h
theorem Blk.on {w w' : World} {B t : Nat} {cs : List Value} (h : Blk w B t cs) (hb : Below w.heap.size w w') : Blk w' B t cs := h.below hb h.lt
theorem Blk.alloc {w : World} {B t : Nat} {cs : List Value} (h : Blk w B t cs) (o : Obj) : Blk (w.alloc o) B t cs := by
  unfold Blk; rw [Below.heap_alloc w o B h.lt]; exact h
theorem Blk.drewN {w : World} {B t : Nat} {cs : List Value} (h : Blk w B t cs) (n : Nat) : Blk (w.drewN n) B t cs := h
theorem Blk.new (w : World) (t : Nat) (cs : List Value) : Blk (w.alloc (.cells cs.toArray t)) w.heap.size t cs := heap_alloc_new w _
theorem Blk.newAt (w : World) (B t : Nat) (arr : Array Value) (cs : List Value) (hB : w.heap.size = B) (hc : arr = cs.toArray) : Blk (w.alloc (.cells arr t)) B t cs := by
  subst hB hc; exact heap_alloc_new w _
theorem Blk.set {w : World} {B t : Nat} {cs : List Value} (h : Blk w B t cs) (j : Nat) (u : Value) : Blk (w.setCell ⟨B, j, none⟩ u) B t (cs.set j u) := by
  unfold Blk; rw [heap_setCell_same w B j _ t u h]; simp
theorem Blk.row {w : World} {B t : Nat} {cs : List Value} (h : Blk w B t cs) (ds : List Value) : Blk (w.setRow B ds.toArray) B t ds := setRow_heap w B _ _ t _ h
theorem Blk.rowOther {w : World} {B t : Nat} {cs : List Value} (h : Blk w B t cs) (g : Nat) (c : Array Value) (hne : B ≠ g) : Blk (w.setRow g c) B t cs := by
  unfold Blk; rw [setRow_other w g B c hne]; exact h
theorem bel_row {B g : Nat} {a w : World} (h : Below B a w) (hg : B ≤ g) (c : Array Value) : Below B a (w.setRow g c) :=
  h.trans ⟨rfl, rfl, rfl, by simp [World.setRow], fun k hk => setRow_other w g k c (by omega)⟩
theorem Blk.other {w : World} {B t : Nat} {cs : List Value} (h : Blk w B t cs) (a : Addr) (u : Value) (hne : B ≠ a.block) : Blk (w.setCell a u) B t cs := by
  unfold Blk; rw [heap_setCell_other w a B u hne]; exact h
end Go.Proofs.Ytjmkfkkkjcjplaa
