/- Rules, as slices in a world, and those that a call makes. -/
import Derived.Test.YtihfpoclflppnaaDoorPol1
import Derived.Test.YtihfpoclflppnaaDoorB5
namespace Go.Proofs.YtihfpoclflppnaaDoor
open Go.RowKit

def nthR (l : List Ru) (i : Nat) : Ru := l.getD i ⟨false, [], [], []⟩
theorem nthR_eq (l : List Ru) (i : Nat) (h : i < l.length) : nthR l i = l[i] := by
  unfold nthR; rw [List.getD_eq_getElem?_getD, List.getElem?_eq_getElem h]; rfl
theorem takeR (l : List Ru) (k : Nat) (h : k < l.length) : l.take (k + 1) = l.take k ++ [nthR l k] := by
  rw [nthR_eq l k h, ← List.take_append_getElem h]
/-- a rule's cells from here on -/
def RuAt (w : World) (b off : Nat) (r : Ru) : Prop :=
  w.cell? ⟨b, off, none⟩ = some (.bool r.deny) ∧ w.cell? ⟨b, off + 1, none⟩ = some (.string (str r.who)) ∧ w.cell? ⟨b, off + 2, none⟩ = some (.string (str r.act)) ∧ w.cell? ⟨b, off + 3, none⟩ = some (.string (str r.res))
theorem RuAt.below {w w' : World} {n b off : Nat} {r : Ru} (h : RuAt w b off r) (hb : Below n w w') (hn : b < n) : RuAt w' b off r := by
  obtain ⟨h0, h1, h2, h3⟩ := h
  exact ⟨(hb.cell (p := ⟨b, off, none⟩) hn).trans h0, (hb.cell (p := ⟨b, off + 1, none⟩) hn).trans h1, (hb.cell (p := ⟨b, off + 2, none⟩) hn).trans h2, (hb.cell (p := ⟨b, off + 3, none⟩) hn).trans h3⟩
/-- a slice of rules in a world -/
structure IsRs (w : World) (a : Option Addr) (n cap : Nat) (l : List Ru) : Prop where
  len_eq : l.length = n
  le : n ≤ cap
  max : cap ≤ maxLen
  nil : a = none → cap = 0
  cells : 0 < n → ∃ b off, a = some ⟨b, off, none⟩ ∧ ∀ i, i < n → RuAt w b (off + i * 4) (nthR l i)
theorem IsRs.below {w w' : World} {n m : Nat} {a : Option Addr} {cap : Nat} {l : List Ru} (h : IsRs w a m cap l) (hb : Below n w w') (hn : n = w.heap.size) : IsRs w' a m cap l :=
  ⟨h.len_eq, h.le, h.max, h.nil, fun hp => by
    obtain ⟨b, off, e, hc⟩ := h.cells hp
    exact ⟨b, off, e, fun i hi => (hc i hi).below hb (by rw [hn]; exact cell_lt (hc i hi).1)⟩⟩
theorem isRs_nil (w : World) : IsRs w none 0 0 [] := ⟨rfl, Nat.le_refl _, Nat.zero_le _, fun _ => rfl, fun h => absurd h (Nat.lt_irrefl 0)⟩
/-- rules as cells -/
def rcs : List Ru → List Value
  | [] => []
  | r :: l => .bool r.deny :: sv r.who :: sv r.act :: sv r.res :: rcs l
theorem rcs_append (l m : List Ru) : rcs (l ++ m) = rcs l ++ rcs m := by
  induction l with
  | nil => rfl
  | cons p l ih => simp only [List.cons_append, rcs, ih]
theorem rcs_length (l : List Ru) : (rcs l).length = l.length * 4 := by
  induction l with
  | nil => rfl
  | cons p l ih => simp only [rcs, List.length_cons, ih]; omega
theorem rcs_at (l : List Ru) (i : Nat) (h : i < l.length) : (rcs l)[i * 4]? = some (.bool (nthR l i).deny) ∧ (rcs l)[i * 4 + 1]? = some (.string (str (nthR l i).who)) ∧ (rcs l)[i * 4 + 2]? = some (.string (str (nthR l i).act)) ∧ (rcs l)[i * 4 + 3]? = some (.string (str (nthR l i).res)) := by
  induction l generalizing i with
  | nil => simp at h
  | cons p l ih =>
    cases i with
    | zero => exact ⟨rfl, rfl, rfl, rfl⟩
    | succ i =>
      have := ih i (by simpa using h)
      rw [show (i + 1) * 4 = i * 4 + 1 + 1 + 1 + 1 by omega]
      exact this
/-- v owns the rules l, in blocks from base on; e: the rules' type -/
def OwnR (e : TypeId) (w : World) (base : Nat) (v : Value) (l : List Ru) : Prop := w.ownsRow base e 4 v l.length (rcs l)
theorem OwnR.nil (e : TypeId) (w : World) (base : Nat) : OwnR e w base (.slice none 0 0) [] := World.ownsRow_nil _ _ _ _
theorem OwnR.blk {e : TypeId} {w : World} {base : Nat} {v : Value} {l : List Ru} (h : OwnR e w base v l) : ∀ k, v.ownBlock = some k → base ≤ k ∧ k < w.heap.size := World.ownsRow.lt h
theorem OwnR.alloc {e : TypeId} {w : World} {base : Nat} {v : Value} {l : List Ru} (h : OwnR e w base v l) (o : Obj) : OwnR e (w.alloc o) base v l := World.ownsRow.alloc h o
theorem OwnR.heap {e : TypeId} {w w' : World} {base : Nat} {v : Value} {l : List Ru} (h : OwnR e w base v l) (eq : w'.heap = w.heap) : OwnR e w' base v l := by
  unfold OwnR World.ownsRow at *; rw [eq]; exact h
theorem OwnR.on {e : TypeId} {w w' : World} {base : Nat} {v : Value} {l : List Ru} (h : OwnR e w base v l) (hb : Below w.heap.size w w') : OwnR e w' base v l := by
  refine ⟨h.1, ?_⟩
  rcases h.2 with h2 | ⟨g, cap, cur, h3, h4, h5, h6⟩
  · exact .inl h2
  · exact .inr ⟨g, cap, cur, h3, h4, by rw [hb.block g (Array.getElem?_eq_some_iff.1 h5).1]; exact h5, h6⟩
theorem OwnR.base {e : TypeId} {w : World} {base base' : Nat} {v : Value} {l : List Ru} (h : OwnR e w base v l) (hb : base' ≤ base) : OwnR e w base' v l := by
  refine ⟨h.1, ?_⟩
  rcases h.2 with h2 | ⟨g, cap, cur, h3, h4, h5⟩
  · exact .inl h2
  · exact .inr ⟨g, cap, cur, h3, Nat.le_trans hb h4, h5⟩
theorem OwnR.isRs {e : TypeId} {w : World} {base : Nat} {v : Value} {l : List Ru} (h : OwnR e w base v l) : ∃ a cap, v = .slice a l.length cap ∧ IsRs w a l.length cap l := by
  obtain ⟨h1, h2⟩ := h
  rcases h2 with ⟨rfl, h0⟩ | ⟨g, cap, cur, rfl, hb, hg, hle, hmax, hsz, htk⟩
  · have : l = [] := List.eq_nil_of_length_eq_zero h0
    subst this
    exact ⟨none, 0, rfl, isRs_nil w⟩
  · refine ⟨_, cap, rfl, rfl, hle, hmax, fun e => (by cases e), fun hp => ⟨g, 0, rfl, fun i hi => ?_⟩⟩
    have hown : w.ownsRow base e 4 (.slice (some ⟨g, 0, none⟩) l.length cap) l.length (rcs l) := ⟨h1, .inr ⟨g, cap, cur, rfl, hb, hg, hle, hmax, hsz, htk⟩⟩
    obtain ⟨p0, p1, p2, p3⟩ := rcs_at l i hi
    unfold RuAt
    rw [Nat.zero_add, World.ownsRow.cellAt hown (i * 4) (by omega), World.ownsRow.cellAt hown (i * 4 + 1) (by omega), World.ownsRow.cellAt hown (i * 4 + 2) (by omega), World.ownsRow.cellAt hown (i * 4 + 3) (by omega)]
    exact ⟨p0, p1, p2, p3⟩
/-- the cells of one rule -/
def ruc (r : Ru) : List Value := [.bool r.deny, .string (str r.who), .string (str r.act), .string (str r.res)]
theorem ruc_one (r : Ru) : ∀ u ∈ ruc r, u.oneCell' = true := by
  intro u hu
  simp only [ruc, List.mem_cons, List.not_mem_nil, or_false] at hu
  rcases hu with rfl | rfl | rfl | rfl <;> rfl
def ruZ : Value := .agg #[.bool false, .string ⟨#[]⟩, .string ⟨#[]⟩, .string ⟨#[]⟩]

/-- append(l, r), r a rule -/
theorem list_appR {ops : Array Oper} {rest : List Oper} {o : Oper} {a : Act} {Q : Exit → Act → World → Prop} (st e : TypeId) (hu : Tryd.prog.underlying st = some (.slice e))
    (hinfo : (Tryd.prog.info? e).map (fun i => (i.zero, i.size, i.bytes)) = some (some ruZ, 4, 56)) (w : World) (hgd : o.guard = none) (s x : Operand)
    (ho : o.op = .call { callee := .builtin .append, args := #[s, x], argTypes := #[st, st] }) (base : Nat)
    (v : Value) (l : List Ru) (hs : a.eval s = v) (hown : OwnR e w base v l) (B : Nat) (r : Ru) (hx : a.eval x = .slice (some ⟨B, 0, none⟩) 1 1)
    (hb : w.heap[B]? = some (.cells (ruc r).toArray e (0, 0))) (hbytes : (l.length + 1) * 56 ≤ 140737488355328) (hbase : base ≤ w.heap.size)
    (h : ∀ v' w', OwnR e w' base v' (l ++ [r]) → w.grownBy w' v.ownBlock → wpList Tryd.prog ops Q rest (a.put o.dst v') w') :
    wpList Tryd.prog ops Q (o :: rest) a w := by
  obtain ⟨i0, hi, hz0, hz1, hz2⟩ := info_parts hinfo
  refine wpList_append_own w hgd s x st ho base e i0 ruZ 4 56 hu hi hz0 hz1 hz2 rfl (by omega) v l.length (rcs l) hs hown ⟨B, 0, none⟩ 1 1 (ruc r) hx rfl
    (fun j u hu => World.news_of_block hb j u (by simpa using hu)) (ruc_one r) (by unfold maxLen; omega) hbytes hbase ?_
  intro v' w' h1 h2 _
  exact h v' w' (by unfold OwnR; rw [rcs_append, List.length_append]; exact h1) h2
/-- the same in a region that draws -/
theorem step_appR {ops : Array Oper} {o : Oper} {a : Act} {K : Act → World → Prop} {Q : Exit → Act → World → Prop} {E : Prop} (st e : TypeId) (hu : Tryd.prog.underlying st = some (.slice e))
    (hinfo : (Tryd.prog.info? e).map (fun i => (i.zero, i.size, i.bytes)) = some (some ruZ, 4, 56)) (w : World) (hgd : o.guard = none) (s x : Operand)
    (ho : o.op = .call { callee := .builtin .append, args := #[s, x], argTypes := #[st, st] }) (base : Nat)
    (v : Value) (l : List Ru) (hs : a.eval s = v) (hown : OwnR e w base v l) (B : Nat) (r : Ru) (hx : a.eval x = .slice (some ⟨B, 0, none⟩) 1 1)
    (hb : w.heap[B]? = some (.cells (ruc r).toArray e (0, 0))) (hbytes : (l.length + 1) * 56 ≤ 140737488355328) (hbase : base ≤ w.heap.size) (H : Nat) (hH : w.heap.size = H)
    (h : ∀ g cap w', OwnR e w' base (.slice (some ⟨g, 0, none⟩) (l.length + 1) cap) (l ++ [r]) → w.grownBy w' v.ownBlock → (v.ownBlock = some g ∨ g = H) → g < w'.heap.size → K (a.put o.dst (.slice (some ⟨g, 0, none⟩) (l.length + 1) cap)) w') :
    if Region.wanted o (yielded ops a.tmps) = true then Oper.wp Tryd.prog o a w K Q else E := by
  obtain ⟨i0, hi, hz0, hz1, hz2⟩ := info_parts hinfo
  refine step_append_lies w hgd s x st ho base e i0 ruZ 4 56 hu hi hz0 hz1 hz2 rfl (by omega) v l.length (rcs l) hs hown ⟨B, 0, none⟩ 1 1 (ruc r) hx rfl
    (fun j u hu => World.news_of_block hb j u (by simpa using hu)) (ruc_one r) (by omega) (by unfold maxLen; omega) hbytes hbase H hH ?_
  intro g cap w' h1 h2 h3 h4
  exact h g cap w' (by unfold OwnR; rw [rcs_append, List.length_append]; exact h1) h2 h3 h4
theorem infoRef8 : (Tryd.prog.info? 38).map (fun i => (i.zero, i.size, i.bytes)) = some (some ruZ, 4, 56) := by kernel_rfl
theorem infoPol8 : (Tryd.prog.info? 37).map (fun i => (i.zero, i.size, i.bytes)) = some (some ruZ, 4, 56) := by kernel_rfl
end Go.Proofs.YtihfpoclflppnaaDoor
