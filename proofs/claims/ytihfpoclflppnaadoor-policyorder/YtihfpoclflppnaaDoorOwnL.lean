/- Rows of truths that a call makes. -/
import Derived.Test.YtihfpoclflppnaaDoorOwn
namespace Go.Proofs.YtihfpoclflppnaaDoor
open Go.RowKit

theorem infoL : (Tryd.prog.info? 4).map (fun i => (i.zero, i.size, i.bytes)) = some (some (.bool false), 1, 1) := by kernel_rfl
def lv (l : List Bool) : List Value := l.map Value.bool
def nthB (l : List Bool) (i : Nat) : Bool := l.getD i false
theorem nthB_eq (l : List Bool) (i : Nat) (h : i < l.length) : nthB l i = l[i] := by
  unfold nthB; rw [List.getD_eq_getElem?_getD, List.getElem?_eq_getElem h]; rfl
theorem lv_at (l : List Bool) (i : Nat) (h : i < l.length) : (lv l)[i]? = some (.bool (nthB l i)) := by
  rw [nthB_eq l i h]; simp [lv, List.getElem?_eq_getElem h]
/-- v owns the truths l, in blocks from base on -/
def OwnL (w : World) (base : Nat) (v : Value) (l : List Bool) : Prop := w.ownsRow base 4 1 v l.length (lv l)
theorem OwnL.blk {w : World} {base : Nat} {v : Value} {l : List Bool} (h : OwnL w base v l) : ∀ k, v.ownBlock = some k → base ≤ k ∧ k < w.heap.size := World.ownsRow.lt h
theorem OwnL.base {w : World} {base base' : Nat} {v : Value} {l : List Bool} (h : OwnL w base v l) (hb : base' ≤ base) : OwnL w base' v l := by
  refine ⟨h.1, ?_⟩
  rcases h.2 with h2 | ⟨g, cap, cur, h3, h4, h5⟩
  · exact .inl h2
  · exact .inr ⟨g, cap, cur, h3, Nat.le_trans hb h4, h5⟩
theorem OwnL.below {w w' : World} {base : Nat} {v : Value} {l : List Bool} (h : OwnL w base v l) (hb : Below w.heap.size w w') : OwnL w' base v l := by
  have hk := h.blk
  refine ⟨h.1, ?_⟩
  rcases h.2 with h2 | ⟨g, cap, cur, h3, h4, h5, h6⟩
  · exact .inl h2
  · exact .inr ⟨g, cap, cur, h3, h4, by rw [hb.block g (hk g (by rw [h3]; rfl)).2]; exact h5, h6⟩
theorem OwnL.cellAt {w : World} {base g cap : Nat} {l : List Bool} {n : Nat} (h : OwnL w base (.slice (some ⟨g, 0, none⟩) n cap) l) (hn : l.length = n) (j : Nat) (hj : j < n) : w.cell? ⟨g, j, none⟩ = some (.bool (nthB l j)) := by
  subst hn
  rw [World.ownsRow.cellAt h j (by omega), lv_at l j hj]
theorem OwnL.frozenAt {w : World} {base g cap : Nat} {l : List Bool} {n : Nat} (h : OwnL w base (.slice (some ⟨g, 0, none⟩) n cap) l) (hn : l.length = n) (j : Nat) : w.frozen? ⟨g, j, none⟩ = false := by
  subst hn
  exact World.ownsRow.frozenAt h j
theorem OwnL.set {w : World} {base g cap : Nat} {l : List Bool} {n : Nat} (h : OwnL w base (.slice (some ⟨g, 0, none⟩) n cap) l) (hn : l.length = n) (j : Nat) (x : Bool) : OwnL (w.setCell ⟨g, j, none⟩ (.bool x)) base (.slice (some ⟨g, 0, none⟩) n cap) (l.set j x) := by
  subst hn
  have := (World.ownsRow.stored h j (.bool x)).1
  unfold OwnL
  rw [List.length_set, show lv (l.set j x) = (lv l).set j (.bool x) from List.map_set ..]; exact this
theorem made_falses (n : Nat) : (madeCells (Value.bool false).cells (n * 1)).toList = lv (List.replicate n false) := by
  simp only [madeCells, Value.cells, lv, List.map_replicate]
  rw [List.eq_replicate_iff]
  simp [Nat.mod_one]
/-- make([]bool, n) -/
theorem make_fullL {ops : Array Oper} {rest : List Oper} {o : Oper} {a : Act} {Q : Exit → Act → World → Prop} (w : World)
    (hg : o.guard = none) (l c : Operand) (hop : o.op = Op.makeSlice 72 l c) (base : Nat)
    (kl kc : IntKind) (L C : Int) (n : Nat) (hl : a.eval l = .int kl L) (hc : a.eval c = .int kc C) (hL : L = (n : Int)) (hC : C = (n : Int)) (b2 : n ≤ 281474976710656) (b4 : base ≤ w.heap.size)
    (hK : ∀ w', OwnL w' base (.slice (some ⟨w.heap.size, 0, none⟩) n n) (List.replicate n false) → w.grownBy w' none → wpList Tryd.prog ops Q rest (a.put o.dst (.slice (some ⟨w.heap.size, 0, none⟩) n n)) w') :
    wpList Tryd.prog ops Q (o :: rest) a w := by
  obtain ⟨i0, hi, hz0, hz1, hz2⟩ := info_parts infoL
  exact wpList_make_full w hg l c 72 hop base 4 i0 (.bool false) 1 Tryd.underlying72 hi hz0 hz1 kl kc L C n hl hc hL hC (by rw [hz2]; omega) (by unfold maxLen; omega) b4
    (fun w' h g => hK w' (by unfold OwnL; rw [List.length_replicate]; rw [made_falses] at h; exact h) g)
end Go.Proofs.YtihfpoclflppnaaDoor
