/- Writes as slices in a world; blocks of other types stay. -/
import Derived.Test.YtbclhaleibjkgaaB0
import Derived.Test.YtbclhaleibjkgaaB2
import Derived.Laws.AppendOwnNone
import Derived.Deep.RegionHeld3
namespace Go.Proofs.Ytbclhaleibjkgaa
open Go.RowKit

def nthG (l : List Wg) (i : Nat) : Wg := l.getD i ⟨0, [], none, 0⟩
theorem nthG_eq (l : List Wg) (i : Nat) (h : i < l.length) : nthG l i = l[i] := by
  unfold nthG; rw [List.getD_eq_getElem?_getD, List.getElem?_eq_getElem h]; rfl
theorem takeW (l : List Wg) (k : Nat) (h : k < l.length) : l.take (k + 1) = l.take k ++ [nthG l k] := by
  rw [nthG_eq l k h, ← List.take_append_getElem h]
/-- the cells of one write -/
def wgc (g : Wg) : List Value := [.int .i64 (g.at_ : Int), .slice g.ad g.b.length g.cap]
def wgs : List Wg → List Value
  | [] => []
  | g :: l => .int .i64 (g.at_ : Int) :: .slice g.ad g.b.length g.cap :: wgs l
theorem wgs_append (l m : List Wg) : wgs (l ++ m) = wgs l ++ wgs m := by
  induction l with
  | nil => rfl
  | cons p l ih => simp only [List.cons_append, wgs, ih]
theorem wgs_length (l : List Wg) : (wgs l).length = l.length * 2 := by
  induction l with
  | nil => rfl
  | cons p l ih => simp only [wgs, List.length_cons, ih]; omega
theorem wgs_at (l : List Wg) (i : Nat) (h : i < l.length) : (wgs l)[i * 2]? = some (.int .i64 ((nthG l i).at_ : Int)) ∧ (wgs l)[i * 2 + 1]? = some (.slice (nthG l i).ad (nthG l i).b.length (nthG l i).cap) := by
  induction l generalizing i with
  | nil => simp at h
  | cons p l ih =>
    cases i with
    | zero => exact ⟨rfl, rfl⟩
    | succ i =>
      have := ih i (by simpa using h)
      rw [show (i + 1) * 2 = i * 2 + 1 + 1 by omega]
      exact this
theorem wgc_one (g : Wg) : ∀ u ∈ wgc g, u.oneCell' = true := by
  intro u hu
  simp only [wgc, List.mem_cons, List.not_mem_nil, or_false] at hu
  rcases hu with rfl | rfl <;> rfl
/-- v owns the writes l -/
def OwnG (e : TypeId) (w : World) (base : Nat) (v : Value) (l : List Wg) : Prop := w.ownsRow base e 2 v l.length (wgs l)
theorem OwnG.nil (e : TypeId) (w : World) (base : Nat) : OwnG e w base (.slice none 0 0) [] := World.ownsRow_nil _ _ _ _
theorem OwnG.blk {e : TypeId} {w : World} {base : Nat} {v : Value} {l : List Wg} (h : OwnG e w base v l) : ∀ k, v.ownBlock = some k → base ≤ k ∧ k < w.heap.size := World.ownsRow.lt h
theorem OwnG.alloc {e : TypeId} {w : World} {base : Nat} {v : Value} {l : List Wg} (h : OwnG e w base v l) (o : Obj) : OwnG e (w.alloc o) base v l := World.ownsRow.alloc h o
theorem OwnG.heap {e : TypeId} {w w' : World} {base : Nat} {v : Value} {l : List Wg} (h : OwnG e w base v l) (eq : w'.heap = w.heap) : OwnG e w' base v l := by
  unfold OwnG World.ownsRow at *; rw [eq]; exact h
theorem OwnG.on {e : TypeId} {w w' : World} {base : Nat} {v : Value} {l : List Wg} (h : OwnG e w base v l) (hb : Below w.heap.size w w') : OwnG e w' base v l := by
  refine ⟨h.1, ?_⟩
  rcases h.2 with h2 | ⟨g, cap, cur, h3, h4, h5, h6⟩
  · exact .inl h2
  · exact .inr ⟨g, cap, cur, h3, h4, by rw [hb.block g (Array.getElem?_eq_some_iff.1 h5).1]; exact h5, h6⟩
theorem OwnG.base {e : TypeId} {w : World} {base base' : Nat} {v : Value} {l : List Wg} (h : OwnG e w base v l) (hb : base' ≤ base) : OwnG e w base' v l := by
  refine ⟨h.1, ?_⟩
  rcases h.2 with h2 | ⟨g, cap, cur, h3, h4, h5⟩
  · exact .inl h2
  · exact .inr ⟨g, cap, cur, h3, Nat.le_trans hb h4, h5⟩
/-- the form of what is owned, and its cells -/
theorem OwnG.form {e : TypeId} {w : World} {base : Nat} {v : Value} {l : List Wg} (h : OwnG e w base v l) : ∃ a cap, v = .slice a l.length cap ∧ l.length ≤ cap ∧ cap ≤ maxLen ∧ (a = none → cap = 0) ∧
    (0 < l.length → ∃ g, a = some ⟨g, 0, none⟩ ∧ base ≤ g ∧ g < w.heap.size ∧ ∀ i, i < l.length → w.cell? ⟨g, i * 2, none⟩ = some (.int .i64 ((nthG l i).at_ : Int)) ∧ w.cell? ⟨g, i * 2 + 1, none⟩ = some (.slice (nthG l i).ad (nthG l i).b.length (nthG l i).cap)) := by
  obtain ⟨h1, h2⟩ := h
  rcases h2 with ⟨rfl, h0⟩ | ⟨g, cap, cur, rfl, hb, hg, hle, hmax, hsz, htk⟩
  · have : l = [] := List.eq_nil_of_length_eq_zero h0
    subst this
    exact ⟨none, 0, rfl, Nat.le_refl _, Nat.zero_le _, fun _ => rfl, fun h => absurd h (Nat.lt_irrefl 0)⟩
  · refine ⟨_, cap, rfl, hle, hmax, fun e => (by cases e), fun hp => ⟨g, rfl, hb, (Array.getElem?_eq_some_iff.1 hg).1, fun i hi => ?_⟩⟩
    have hown : w.ownsRow base e 2 (.slice (some ⟨g, 0, none⟩) l.length cap) l.length (wgs l) := ⟨h1, .inr ⟨g, cap, cur, rfl, hb, hg, hle, hmax, hsz, htk⟩⟩
    obtain ⟨p0, p1⟩ := wgs_at l i hi
    rw [World.ownsRow.cellAt hown (i * 2) (by omega), World.ownsRow.cellAt hown (i * 2 + 1) (by omega)]
    exact ⟨p0, p1⟩
def wgZ : Value := .agg #[.int .i64 0, .slice none 0 0]
/-- append(l, g), g one write in a block of its own -/
theorem list_appG {ops : Array Oper} {rest : List Oper} {o : Oper} {a : Act} {Q : Exit → Act → World → Prop} (st e : TypeId) (hu : Try.prog.underlying st = some (.slice e))
    (hinfo : (Try.prog.info? e).map (fun i => (i.zero, i.size, i.bytes)) = some (some wgZ, 2, 32)) (w : World) (hgd : o.guard = none) (s x : Operand)
    (ho : o.op = .call { callee := .builtin .append, args := #[s, x], argTypes := #[st, st] }) (base : Nat)
    (v : Value) (l : List Wg) (hs : a.eval s = v) (hown : OwnG e w base v l) (B : Nat) (g : Wg) (hx : a.eval x = .slice (some ⟨B, 0, none⟩) 1 1)
    (hb : w.heap[B]? = some (.cells (wgc g).toArray e (0, 0))) (hbytes : (l.length + 1) * 32 ≤ 140737488355328) (hbase : base ≤ w.heap.size)
    (h : ∀ v' w', OwnG e w' base v' (l ++ [g]) → w.grownBy w' v.ownBlock → wpList Try.prog ops Q rest (a.put o.dst v') w') :
    wpList Try.prog ops Q (o :: rest) a w := by
  obtain ⟨i0, hi, hz0, hz1, hz2⟩ := info_parts hinfo
  refine wpList_append_own w hgd s x st ho base e i0 wgZ 2 32 hu hi hz0 hz1 hz2 rfl (by omega) v l.length (wgs l) hs hown ⟨B, 0, none⟩ 1 1 (wgc g) hx rfl
    (fun j u hu => World.news_of_block hb j u (by simpa using hu)) (wgc_one g) (by unfold maxLen; omega) hbytes hbase ?_
  intro v' w' h1 h2 _
  exact h v' w' (by unfold OwnG; rw [wgs_append, List.length_append]; exact h1) h2

/-- the same at a step of a region that draws -/
theorem step_appG {ops : Array Oper} {o : Oper} {a : Act} {K : Act → World → Prop} {Q : Exit → Act → World → Prop} {E : Prop} (st e : TypeId) (hu : Try.prog.underlying st = some (.slice e))
    (hinfo : (Try.prog.info? e).map (fun i => (i.zero, i.size, i.bytes)) = some (some wgZ, 2, 32)) (w : World) (hgd : o.guard = none) (s x : Operand)
    (ho : o.op = .call { callee := .builtin .append, args := #[s, x], argTypes := #[st, st] }) (base : Nat)
    (v : Value) (l : List Wg) (hs : a.eval s = v) (hown : OwnG e w base v l) (B : Nat) (g : Wg) (hx : a.eval x = .slice (some ⟨B, 0, none⟩) 1 1)
    (hb : w.heap[B]? = some (.cells (wgc g).toArray e (0, 0))) (hbytes : (l.length + 1) * 32 ≤ 140737488355328) (hbase : base ≤ w.heap.size)
    (h : ∀ v' w', OwnG e w base v l → OwnG e w' base v' (l ++ [g]) → w.grownBy w' v.ownBlock → K (a.put o.dst v') w') :
    if Region.wanted o (yielded ops a.tmps) = true then Oper.wp Try.prog o a w K Q else E := by
  have hw : Region.wanted o (yielded ops a.tmps) = true := by simp [Region.wanted, hgd]
  rw [if_pos hw]
  obtain ⟨i0, hi, hz0, hz1, hz2⟩ := info_parts hinfo
  refine wp_append_own w s x st ho base e i0 wgZ 2 32 hu hi hz0 hz1 hz2 rfl (by omega) v l.length (wgs l) hs hown ⟨B, 0, none⟩ 1 1 (wgc g) hx rfl
    (fun j u hu => World.news_of_block hb j u (by simpa using hu)) (wgc_one g) (by unfold maxLen; omega) hbytes hbase ?_
  intro v' w' h1 h2 _
  exact h v' w' hown (by unfold OwnG; rw [wgs_append, List.length_append]; exact h1) h2

/-- every block of another type than these stays -/
structure KeepT (ts : List TypeId) (w w' : World) : Prop where
  size : w.heap.size ≤ w'.heap.size
  same : ∀ (k : Nat) (o : Obj), w.heap[k]? = some o → (∀ c t fz, o = .cells c t fz → t ∉ ts) → w'.heap[k]? = some o
theorem KeepT.refl (ts : List TypeId) (w : World) : KeepT ts w w := ⟨Nat.le_refl _, fun _ _ h _ => h⟩
theorem KeepT.trans {ts : List TypeId} {a b c : World} (h : KeepT ts a b) (k : KeepT ts b c) : KeepT ts a c := ⟨Nat.le_trans h.size k.size, fun i o hi ho => k.same i o (h.same i o hi ho) ho⟩
theorem KeepT.of_below {ts : List TypeId} {w w' : World} (h : Below w.heap.size w w') : KeepT ts w w' := ⟨h.4, fun k _ hk _ => (h.5 k (Array.getElem?_eq_some_iff.1 hk).1).trans hk⟩
theorem KeepT.alloc {ts : List TypeId} {a w : World} (h : KeepT ts a w) (o : Obj) : KeepT ts a (w.alloc o) := h.trans (KeepT.of_below ((Below.refl _ w).alloc (Nat.le_refl _) o))
theorem KeepT.drewN {ts : List TypeId} {a w : World} (h : KeepT ts a w) (n : Nat) : KeepT ts a (w.drewN n) := h.trans (KeepT.of_below (bel_drewN (Below.refl _ w) n))
theorem KeepT.set {ts : List TypeId} {a w : World} (h : KeepT ts a w) {B t : Nat} {cs : List Value} (hb : Blk w B t cs) (ht : t ∈ ts) (j : Nat) (u : Value) : KeepT ts a (w.setCell ⟨B, j, none⟩ u) :=
  h.trans ⟨(Nat.le_of_eq (by simp [World.setCell])), fun k o hk ho => by
    by_cases e : k = B
    · subst e
      have : o = .cells cs.toArray t (0, 0) := Option.some.inj (hk.symm.trans hb)
      exact absurd ht (ho _ _ _ this)
    · exact (Below.heap_setCell _ _ _ _ (by exact e)).trans hk⟩
theorem KeepT.grown {ts : List TypeId} {a w w' : World} (h : KeepT ts a w) {e : TypeId} {base : Nat} {v : Value} {l : List Wg} (ho : OwnG e w base v l) (hg : w.grownBy w' v.ownBlock) (he : e ∈ ts) : KeepT ts a w' :=
  h.trans ⟨hg.size, fun k o hk hno => by
    refine (hg.block k (Array.getElem?_eq_some_iff.1 hk).1 (fun eb => ?_)).trans hk
    rcases ho.2 with ⟨rfl, _⟩ | ⟨g, cap, cur, rfl, _, hgb, _⟩
    · simp [Value.ownBlock] at eb
    · have hkg : k = g := by simpa [Value.ownBlock] using eb
      subst hkg
      have : o = .cells cur e (0, 0) := Option.some.inj (hk.symm.trans hgb)
      exact hno _ _ _ this he⟩
theorem KeepT.blk {ts : List TypeId} {w w' : World} (h : KeepT ts w w') {B t : Nat} {cs : List Value} (hb : Blk w B t cs) (ht : t ∉ ts) : Blk w' B t cs :=
  h.same B _ hb (fun c t' fz e => by injection e with _ h2 _; rw [← h2]; exact ht)
/-- all blocks but these, and new ones, stay -/
structure KeepE (E : Nat → Prop) (w w' : World) : Prop where
  size : w.heap.size ≤ w'.heap.size
  same : ∀ k, k < w.heap.size → ¬ E k → w'.heap[k]? = w.heap[k]?
theorem KeepE.refl (E : Nat → Prop) (w : World) : KeepE E w w := ⟨Nat.le_refl _, fun _ _ _ => rfl⟩
theorem KeepE.trans {E : Nat → Prop} {a b c : World} (h : KeepE E a b) (k : KeepE E b c) : KeepE E a c := ⟨Nat.le_trans h.size k.size, fun i hi he => (k.same i (Nat.lt_of_lt_of_le hi h.size) he).trans (h.same i hi he)⟩
theorem KeepE.of_below {E : Nat → Prop} {w w' : World} (h : Below w.heap.size w w') : KeepE E w w' := ⟨h.4, fun k hk _ => h.5 k hk⟩
theorem KeepE.set {E : Nat → Prop} {a w : World} (h : KeepE E a w) {B t : Nat} {cs : List Value} (_ : Blk w B t cs) (hE : E B) (j : Nat) (u : Value) : KeepE E a (w.setCell ⟨B, j, none⟩ u) :=
  h.trans ⟨(Nat.le_of_eq (by simp [World.setCell])), fun k _ hk => Below.heap_setCell _ _ _ _ (fun e => hk (by rw [e]; exact hE))⟩
theorem KeepE.grown {E : Nat → Prop} {a w w' : World} (h : KeepE E a w) {v : Value} (hg : w.grownBy w' v.ownBlock) (hE : ∀ k, v.ownBlock = some k → E k) : KeepE E a w' :=
  h.trans ⟨hg.size, fun k hk he => hg.block k hk (fun e => he (hE k e.symm))⟩
theorem KeepE.toT {E : Nat → Prop} {w w' : World} (h : KeepE E w w') {ts : List TypeId} (hE : ∀ k, E k → k < w.heap.size → ∃ c t fz, w.heap[k]? = some (.cells c t fz) ∧ t ∈ ts) : KeepT ts w w' :=
  ⟨h.size, fun k o hk ho => by
    have hl := (Array.getElem?_eq_some_iff.1 hk).1
    by_cases e : E k
    · obtain ⟨c, t, fz, h1, h2⟩ := hE k e hl
      exact absurd h2 (ho c t fz (Option.some.inj (hk.symm.trans h1)))
    · exact (h.same k hl e).trans hk⟩
theorem KeepE.blk {E : Nat → Prop} {w w' : World} (h : KeepE E w w') {B t : Nat} {cs : List Value} (hb : Blk w B t cs) (he : ¬ E B) : Blk w' B t cs := (h.same B hb.lt he).trans hb
theorem KeepE.more {E F : Nat → Prop} {w w' : World} (h : KeepE E w w') (hf : ∀ k, k < w.heap.size → E k → F k) : KeepE F w w' := ⟨h.size, fun k hk he => h.same k hk (fun e => he (hf k hk e))⟩
end Go.Proofs.Ytbclhaleibjkgaa
