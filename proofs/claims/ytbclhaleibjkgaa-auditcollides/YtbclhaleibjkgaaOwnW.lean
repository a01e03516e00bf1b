/- Slices of words that a call itself makes and appends to: laws at this program's types. -/
import Derived.Test.YtbclhaleibjkgaaWords
namespace Go.Proofs.Ytbclhaleibjkgaa
open Go.RowKit

theorem info32 : (Try.prog.info? 69).map (fun i => (i.zero, i.size, i.bytes)) = some (some (.int .u32 0), 1, 4) := by kernel_rfl

/-- a slice of words in a world -/
structure IsW (w : World) (a : Option Addr) (len cap : Nat) (l : List UInt32) : Prop where
  len_eq : l.length = len
  le : len ≤ cap
  max : cap ≤ maxLen
  nil : a = none → cap = 0
  cells : 0 < len → ∃ b off, a = some ⟨b, off, none⟩ ∧ ∀ i, i < len → w.cell? ⟨b, off + i, none⟩ = some (.int .u32 ((nthW l i).toNat : Int))

theorem IsW.below {w w' : World} {n : Nat} {a : Option Addr} {len cap : Nat} {l : List UInt32} (h : IsW w a len cap l) (hb : Below n w w') (hn : n = w.heap.size) : IsW w' a len cap l :=
  ⟨h.len_eq, h.le, h.max, h.nil, fun hp => by
    obtain ⟨b, off, e, hc⟩ := h.cells hp
    refine ⟨b, off, e, fun i hi => ?_⟩
    have := hc i hi
    have hlt : b < w.heap.size := cell_lt this
    rw [hb.cell (p := ⟨b, off + i, none⟩) (by simpa [hn] using hlt)]; exact this⟩

/-- v owns the words l, in blocks from base on -/
def OwnW (w : World) (base : Nat) (v : Value) (l : List UInt32) : Prop := w.ownsRow base 69 1 v l.length (wv l)

theorem OwnW.nil (w : World) (base : Nat) : OwnW w base (.slice none 0 0) [] := World.ownsRow_nil _ _ _ _

theorem OwnW.heap {w w' : World} {base : Nat} {v : Value} {l : List UInt32} (h : OwnW w base v l) (e : w'.heap = w.heap) : OwnW w' base v l := by
  unfold OwnW World.ownsRow at *; rw [e]; exact h

theorem OwnW.base {w : World} {base base' : Nat} {v : Value} {l : List UInt32} (h : OwnW w base v l) (hb : base' ≤ base) : OwnW w base' v l := by
  refine ⟨h.1, ?_⟩
  rcases h.2 with h2 | ⟨g, cap, cur, h3, h4, h5⟩
  · exact .inl h2
  · exact .inr ⟨g, cap, cur, h3, Nat.le_trans hb h4, h5⟩

theorem OwnW.alloc {w : World} {base : Nat} {v : Value} {l : List UInt32} (h : OwnW w base v l) (o : Obj) : OwnW (w.alloc o) base v l := World.ownsRow.alloc h o

theorem OwnW.blk {w : World} {base : Nat} {v : Value} {l : List UInt32} (h : OwnW w base v l) : ∀ k, v.ownBlock = some k → base ≤ k ∧ k < w.heap.size := World.ownsRow.lt h

/-- as a slice of words -/
theorem OwnW.isB {w : World} {base : Nat} {v : Value} {l : List UInt32} (h : OwnW w base v l) : ∃ a cap, v = .slice a l.length cap ∧ IsW w a l.length cap l := by
  obtain ⟨h1, h2⟩ := h
  rcases h2 with ⟨rfl, h0⟩ | ⟨g, cap, cur, rfl, hb, hg, hle, hmax, hsz, htk⟩
  · have : l = [] := List.eq_nil_of_length_eq_zero h0
    subst this
    exact ⟨none, 0, rfl, rfl, Nat.le_refl _, Nat.zero_le _, fun _ => rfl, fun hp => absurd hp (Nat.lt_irrefl 0)⟩
  · refine ⟨_, cap, rfl, rfl, hle, hmax, fun e => (by cases e), fun hp => ⟨g, 0, rfl, fun i hi => ?_⟩⟩
    have hc := World.ownsRow.cells (w := w) (base := base) (e := 69) (size := 1) (v := .slice (some ⟨g, 0, none⟩) l.length cap) (n := l.length) (xs := wv l) ⟨h1, .inr ⟨g, cap, cur, rfl, hb, hg, hle, hmax, hsz, htk⟩⟩ (g := g) rfl i _ (wv_at l i hi)
    rw [Addr.add_lit] at hc; exact hc

/-- a byte of it; a byte of it turned -/
theorem OwnW.cellAt {w : World} {base g cap : Nat} {l : List UInt32} {n : Nat} (h : OwnW w base (.slice (some ⟨g, 0, none⟩) n cap) l) (hn : l.length = n) (j : Nat) (hj : j < n) : w.cell? ⟨g, j, none⟩ = some (.int .u32 ((nthW l j).toNat : Int)) := by
  subst hn
  rw [World.ownsRow.cellAt h j (by omega), wv_at l j hj]
theorem OwnW.frozenAt {w : World} {base g cap : Nat} {l : List UInt32} {n : Nat} (h : OwnW w base (.slice (some ⟨g, 0, none⟩) n cap) l) (hn : l.length = n) (j : Nat) : w.frozen? ⟨g, j, none⟩ = false := by
  subst hn
  exact World.ownsRow.frozenAt h j
theorem OwnW.set {w : World} {base g cap : Nat} {l : List UInt32} {n : Nat} (h : OwnW w base (.slice (some ⟨g, 0, none⟩) n cap) l) (hn : l.length = n) (j : Nat) (x : UInt32) : OwnW (w.setCell ⟨g, j, none⟩ (.int .u32 (x.toNat : Int))) base (.slice (some ⟨g, 0, none⟩) n cap) (l.set j x) := by
  subst hn
  have := (World.ownsRow.stored h j (.int .u32 (x.toNat : Int))).1
  unfold OwnW
  rw [List.length_set]
  have e : wv (l.set j x) = (wv l).set j (.int .u32 (x.toNat : Int)) := by unfold wv; rw [List.map_set]
  rw [e]; exact this

/-- words in a block of their own -/
theorem IsW.ofBlock {w : World} {B : Nat} (l : List UInt32) (hm : l.length ≤ maxLen) (hb : w.heap[B]? = some (.cells (wv l).toArray 69 (0, 0))) : IsW w (some ⟨B, 0, none⟩) l.length l.length l :=
  ⟨rfl, Nat.le_refl _, hm, fun e => (by cases e), fun _ => ⟨B, 0, rfl, fun i hi => by
    rw [cell_of_row w B (0 + i) _ _ _ hb, Nat.zero_add]
    simpa using wv_at l i hi⟩⟩

/-- make([]byte, 0, n) -/
theorem make_own32 {ops : Array Oper} {rest : List Oper} {o : Oper} {a : Act} {Q : Exit → Act → World → Prop} (w : World)
    (hg : o.guard = none) (l c : Operand) (hop : o.op = Op.makeSlice 76 l c) (base : Nat)
    (kl kc : IntKind) (C : Int) (n : Nat) (hl : a.eval l = .int kl 0) (hc : a.eval c = .int kc C) (hC : C = (n : Int)) (b2 : n ≤ 70368744177664) (b4 : base ≤ w.heap.size)
    (hK : ∀ w', OwnW w' base (.slice (some ⟨w.heap.size, 0, none⟩) 0 n) [] → w.grownBy w' none → wpList Try.prog ops Q rest (a.put o.dst (.slice (some ⟨w.heap.size, 0, none⟩) 0 n)) w') :
    wpList Try.prog ops Q (o :: rest) a w := by
  obtain ⟨i0, hi, hz0, hz1, hz2⟩ := info_parts info32
  exact wpList_make_own w hg l c 76 hop base 69 i0 (.int .u32 0) 1 Try.underlying76 hi hz0 hz1 kl kc C n hl hc hC (by rw [hz2]; omega) (by unfold maxLen; omega) b4 hK

theorem made_zerosW (n : Nat) : (madeCells (Value.int .u32 0).cells (n * 1)).toList = wv (List.replicate n 0) := by
  simp only [madeCells, Value.cells, wv, List.map_replicate]
  rw [List.eq_replicate_iff]
  simp [Nat.mod_one]

/-- make([]byte, n) -/
theorem make_full32 {ops : Array Oper} {rest : List Oper} {o : Oper} {a : Act} {Q : Exit → Act → World → Prop} (w : World)
    (hg : o.guard = none) (l c : Operand) (hop : o.op = Op.makeSlice 76 l c) (base : Nat)
    (kl kc : IntKind) (L C : Int) (n : Nat) (hl : a.eval l = .int kl L) (hc : a.eval c = .int kc C) (hL : L = (n : Int)) (hC : C = (n : Int)) (b2 : n ≤ 70368744177664) (b4 : base ≤ w.heap.size)
    (hK : ∀ w', OwnW w' base (.slice (some ⟨w.heap.size, 0, none⟩) n n) (List.replicate n 0) → w.grownBy w' none → wpList Try.prog ops Q rest (a.put o.dst (.slice (some ⟨w.heap.size, 0, none⟩) n n)) w') :
    wpList Try.prog ops Q (o :: rest) a w := by
  obtain ⟨i0, hi, hz0, hz1, hz2⟩ := info_parts info32
  exact wpList_make_full w hg l c 76 hop base 69 i0 (.int .u32 0) 1 Try.underlying76 hi hz0 hz1 kl kc L C n hl hc hL hC (by rw [hz2]; omega) (by unfold maxLen; omega) b4
    (fun w' h g => hK w' (by unfold OwnW; rw [List.length_replicate]; rw [made_zerosW] at h; exact h) g)

/-- append of words that lie in a block of their own, in a region that draws -/
theorem step_app32 {ops : Array Oper} {o : Oper} {a : Act} {K : Act → World → Prop} {Q : Exit → Act → World → Prop} {E : Prop} (w : World) (hgd : o.guard = none) (s x : Operand)
    (ho : o.op = .call { callee := .builtin .append, args := #[s, x], argTypes := #[76, 76] }) (base : Nat)
    (v : Value) (l : List UInt32) (hs : a.eval s = v) (hown : OwnW w base v l) (B m c : Nat) (news : List UInt32) (hx : a.eval x = .slice (some ⟨B, 0, none⟩) m c) (hl : news.length = m)
    (hb : w.heap[B]? = some (.cells (wv news).toArray 69 (0, 0))) (hm : 0 < m) (hbytes : l.length + m ≤ 35184372088832) (hbase : base ≤ w.heap.size) (H : Nat) (hH : w.heap.size = H)
    (h : ∀ g cap w', OwnW w' base (.slice (some ⟨g, 0, none⟩) (l.length + m) cap) (l ++ news) → w.grownBy w' v.ownBlock → (v.ownBlock = some g ∨ g = H) → g < w'.heap.size → K (a.put o.dst (.slice (some ⟨g, 0, none⟩) (l.length + m) cap)) w') :
    if Region.wanted o (yielded ops a.tmps) = true then Oper.wp Try.prog o a w K Q else E := by
  obtain ⟨i0, hi, hz0, hz1, hz2⟩ := info_parts info32
  refine step_append_lies w hgd s x 76 ho base 69 i0 (.int .u32 0) 1 4 Try.underlying76 hi hz0 hz1 hz2 rfl (by omega) v l.length (wv l) hs hown ⟨B, 0, none⟩ m c (wv news) hx (by rw [wv_length]; omega)
    (fun j u hu => World.news_of_block hb j u (by simpa using hu)) (wv_one news) hm (by unfold maxLen; omega) (by omega) hbase H hH ?_
  intro g cap w' h1 h2 h3 h4
  exact h g cap w' (by unfold OwnW; rw [wv_append, List.length_append, hl]; exact h1) h2 h3 h4

/-- the same in a plain region -/
theorem list_app32 {ops : Array Oper} {rest : List Oper} {o : Oper} {a : Act} {Q : Exit → Act → World → Prop} (w : World) (hgd : o.guard = none) (s x : Operand)
    (ho : o.op = .call { callee := .builtin .append, args := #[s, x], argTypes := #[76, 76] }) (base : Nat)
    (v : Value) (l : List UInt32) (hs : a.eval s = v) (hown : OwnW w base v l) (B m c : Nat) (news : List UInt32) (hx : a.eval x = .slice (some ⟨B, 0, none⟩) m c) (hl : news.length = m)
    (hb : w.heap[B]? = some (.cells (wv news).toArray 69 (0, 0))) (hm : 0 < m) (hbytes : l.length + m ≤ 35184372088832) (hbase : base ≤ w.heap.size) (H : Nat) (hH : w.heap.size = H)
    (h : ∀ g cap w', OwnW w' base (.slice (some ⟨g, 0, none⟩) (l.length + m) cap) (l ++ news) → w.grownBy w' v.ownBlock → (v.ownBlock = some g ∨ g = H) → g < w'.heap.size → wpList Try.prog ops Q rest (a.put o.dst (.slice (some ⟨g, 0, none⟩) (l.length + m) cap)) w') :
    wpList Try.prog ops Q (o :: rest) a w := by
  obtain ⟨i0, hi, hz0, hz1, hz2⟩ := info_parts info32
  refine wpList_append_lies w hgd s x 76 ho base 69 i0 (.int .u32 0) 1 4 Try.underlying76 hi hz0 hz1 hz2 rfl (by omega) v l.length (wv l) hs hown ⟨B, 0, none⟩ m c (wv news) hx (by rw [wv_length]; omega)
    (fun j u hu => World.news_of_block hb j u (by simpa using hu)) (wv_one news) hm (by unfold maxLen; omega) (by omega) hbase H hH ?_
  intro g cap w' h1 h2 h3 h4
  exact h g cap w' (by unfold OwnW; rw [wv_append, List.length_append, hl]; exact h1) h2 h3 h4

end Go.Proofs.Ytbclhaleibjkgaa
