/- Writes as slices in a world; blocks of other types stay. · Small facts on what is handed back. · The document's disk in a world; New, is, last. -/
import Derived.Test.YthjdmfbengpepaaGreatB0
import Derived.Laws.AppendOwnNone
import Derived.Deep.RegionHeld3
namespace Go.Proofs.YthjdmfbengpepaaGreat
open Go.RowKit

def nthG (l : List Wg) (i : Nat) : Wg := l.getD i ⟨0, [], none, 0⟩
theorem nthG_eq (l : List Wg) (i : Nat) (h : i < l.length) : nthG l i = l[i] := by
  unfold nthG; rw [List.getD_eq_getElem?_getD, List.getElem?_eq_getElem h]; rfl
theorem takeW (l : List Wg) (k : Nat) (h : k < l.length) : l.take (k + 1) = l.take k ++ [nthG l k] := by
  rw [nthG_eq l k h, ← List.take_append_getElem h]
/-- the cells of one write -/
def wgc (g : Wg) : List Value := [.int .i64 (g.at_ : Int), .slice g.ad g.b.length g.cap]
def wgs : List Wg → List Value
  | [] => []
  | g :: l => .int .i64 (g.at_ : Int) :: .slice g.ad g.b.length g.cap :: wgs l
theorem wgs_append (l m : List Wg) : wgs (l ++ m) = wgs l ++ wgs m := by
  induction l with
  | nil => rfl
  | cons p l ih => simp only [List.cons_append, wgs, ih]
theorem wgs_length (l : List Wg) : (wgs l).length = l.length * 2 := by
  induction l with
  | nil => rfl
  | cons p l ih => simp only [wgs, List.length_cons, ih]; omega
theorem wgs_at (l : List Wg) (i : Nat) (h : i < l.length) : (wgs l)[i * 2]? = some (.int .i64 ((nthG l i).at_ : Int)) ∧ (wgs l)[i * 2 + 1]? = some (.slice (nthG l i).ad (nthG l i).b.length (nthG l i).cap) := by
  induction l generalizing i with
  | nil => simp at h
  | cons p l ih =>
    cases i with
    | zero => exact ⟨rfl, rfl⟩
    | succ i =>
      have := ih i (by simpa using h)
      rw [show (i + 1) * 2 = i * 2 + 1 + 1 by omega]
      exact this
theorem wgc_one (g : Wg) : ∀ u ∈ wgc g, u.oneCell' = true := by
  intro u hu
  simp only [wgc, List.mem_cons, List.not_mem_nil, or_false] at hu
  rcases hu with rfl | rfl <;> rfl
/-- v owns the writes l -/
def OwnG (e : TypeId) (w : World) (base : Nat) (v : Value) (l : List Wg) : Prop := w.ownsRow base e 2 v l.length (wgs l)
theorem OwnG.nil (e : TypeId) (w : World) (base : Nat) : OwnG e w base (.slice none 0 0) [] := World.ownsRow_nil _ _ _ _
theorem OwnG.blk {e : TypeId} {w : World} {base : Nat} {v : Value} {l : List Wg} (h : OwnG e w base v l) : ∀ k, v.ownBlock = some k → base ≤ k ∧ k < w.heap.size := World.ownsRow.lt h
theorem OwnG.alloc {e : TypeId} {w : World} {base : Nat} {v : Value} {l : List Wg} (h : OwnG e w base v l) (o : Obj) : OwnG e (w.alloc o) base v l := World.ownsRow.alloc h o
theorem OwnG.heap {e : TypeId} {w w' : World} {base : Nat} {v : Value} {l : List Wg} (h : OwnG e w base v l) (eq : w'.heap = w.heap) : OwnG e w' base v l := by
  unfold OwnG World.ownsRow at *; rw [eq]; exact h
theorem OwnG.on {e : TypeId} {w w' : World} {base : Nat} {v : Value} {l : List Wg} (h : OwnG e w base v l) (hb : Below w.heap.size w w') : OwnG e w' base v l := by
  refine ⟨h.1, ?_⟩
  rcases h.2 with h2 | ⟨g, cap, cur, h3, h4, h5, h6⟩
  · exact .inl h2
  · exact .inr ⟨g, cap, cur, h3, h4, by rw [hb.block g (Array.getElem?_eq_some_iff.1 h5).1]; exact h5, h6⟩
theorem OwnG.base {e : TypeId} {w : World} {base base' : Nat} {v : Value} {l : List Wg} (h : OwnG e w base v l) (hb : base' ≤ base) : OwnG e w base' v l := by
  refine ⟨h.1, ?_⟩
  rcases h.2 with h2 | ⟨g, cap, cur, h3, h4, h5⟩
  · exact .inl h2
  · exact .inr ⟨g, cap, cur, h3, Nat.le_trans hb h4, h5⟩
/-- the form of what is owned, and its cells -/
theorem OwnG.form {e : TypeId} {w : World} {base : Nat} {v : Value} {l : List Wg} (h : OwnG e w base v l) : ∃ a cap, v = .slice a l.length cap ∧ l.length ≤ cap ∧ cap ≤ maxLen ∧ (a = none → cap = 0) ∧
    (0 < l.length → ∃ g, a = some ⟨g, 0, none⟩ ∧ base ≤ g ∧ g < w.heap.size ∧ ∀ i, i < l.length → w.cell? ⟨g, i * 2, none⟩ = some (.int .i64 ((nthG l i).at_ : Int)) ∧ w.cell? ⟨g, i * 2 + 1, none⟩ = some (.slice (nthG l i).ad (nthG l i).b.length (nthG l i).cap)) := by
  obtain ⟨h1, h2⟩ := h
  rcases h2 with ⟨rfl, h0⟩ | ⟨g, cap, cur, rfl, hb, hg, hle, hmax, hsz, htk⟩
  · have : l = [] := List.eq_nil_of_length_eq_zero h0
    subst this
    exact ⟨none, 0, rfl, Nat.le_refl _, Nat.zero_le _, fun _ => rfl, fun h => absurd h (Nat.lt_irrefl 0)⟩
  · refine ⟨_, cap, rfl, hle, hmax, fun e => (by cases e), fun hp => ⟨g, rfl, hb, (Array.getElem?_eq_some_iff.1 hg).1, fun i hi => ?_⟩⟩
    have hown : w.ownsRow base e 2 (.slice (some ⟨g, 0, none⟩) l.length cap) l.length (wgs l) := ⟨h1, .inr ⟨g, cap, cur, rfl, hb, hg, hle, hmax, hsz, htk⟩⟩
    obtain ⟨p0, p1⟩ := wgs_at l i hi
    rw [World.ownsRow.cellAt hown (i * 2) (by omega), World.ownsRow.cellAt hown (i * 2 + 1) (by omega)]
    exact ⟨p0, p1⟩
def wgZ : Value := .agg #[.int .i64 0, .slice none 0 0]
/-- append(l, g), g one write in a block of its own -/
theorem list_appG {ops : Array Oper} {rest : List Oper} {o : Oper} {a : Act} {Q : Exit → Act → World → Prop} (st e : TypeId) (hu : Tryz.prog.underlying st = some (.slice e))
    (hinfo : (Tryz.prog.info? e).map (fun i => (i.zero, i.size, i.bytes)) = some (some wgZ, 2, 32)) (w : World) (hgd : o.guard = none) (s x : Operand)
    (ho : o.op = .call { callee := .builtin .append, args := #[s, x], argTypes := #[st, st] }) (base : Nat)
    (v : Value) (l : List Wg) (hs : a.eval s = v) (hown : OwnG e w base v l) (B : Nat) (g : Wg) (hx : a.eval x = .slice (some ⟨B, 0, none⟩) 1 1)
    (hb : w.heap[B]? = some (.cells (wgc g).toArray e (0, 0))) (hbytes : (l.length + 1) * 32 ≤ 140737488355328) (hbase : base ≤ w.heap.size)
    (h : ∀ v' w', OwnG e w' base v' (l ++ [g]) → w.grownBy w' v.ownBlock → wpList Tryz.prog ops Q rest (a.put o.dst v') w') :
    wpList Tryz.prog ops Q (o :: rest) a w := by
  obtain ⟨i0, hi, hz0, hz1, hz2⟩ := info_parts hinfo
  refine wpList_append_own w hgd s x st ho base e i0 wgZ 2 32 hu hi hz0 hz1 hz2 rfl (by omega) v l.length (wgs l) hs hown ⟨B, 0, none⟩ 1 1 (wgc g) hx rfl
    (fun j u hu => World.news_of_block hb j u (by simpa using hu)) (wgc_one g) (by unfold maxLen; omega) hbytes hbase ?_
  intro v' w' h1 h2 _
  exact h v' w' (by unfold OwnG; rw [wgs_append, List.length_append]; exact h1) h2

/-- the same at a step of a region that draws -/
theorem step_appG {ops : Array Oper} {o : Oper} {a : Act} {K : Act → World → Prop} {Q : Exit → Act → World → Prop} {E : Prop} (st e : TypeId) (hu : Tryz.prog.underlying st = some (.slice e))
    (hinfo : (Tryz.prog.info? e).map (fun i => (i.zero, i.size, i.bytes)) = some (some wgZ, 2, 32)) (w : World) (hgd : o.guard = none) (s x : Operand)
    (ho : o.op = .call { callee := .builtin .append, args := #[s, x], argTypes := #[st, st] }) (base : Nat)
    (v : Value) (l : List Wg) (hs : a.eval s = v) (hown : OwnG e w base v l) (B : Nat) (g : Wg) (hx : a.eval x = .slice (some ⟨B, 0, none⟩) 1 1)
    (hb : w.heap[B]? = some (.cells (wgc g).toArray e (0, 0))) (hbytes : (l.length + 1) * 32 ≤ 140737488355328) (hbase : base ≤ w.heap.size)
    (h : ∀ v' w', OwnG e w base v l → OwnG e w' base v' (l ++ [g]) → w.grownBy w' v.ownBlock → K (a.put o.dst v') w') :
    if Region.wanted o (yielded ops a.tmps) = true then Oper.wp Tryz.prog o a w K Q else E := by
  have hw : Region.wanted o (yielded ops a.tmps) = true := by simp [Region.wanted, hgd]
  rw [if_pos hw]
  obtain ⟨i0, hi, hz0, hz1, hz2⟩ := info_parts hinfo
  refine wp_append_own w s x st ho base e i0 wgZ 2 32 hu hi hz0 hz1 hz2 rfl (by omega) v l.length (wgs l) hs hown ⟨B, 0, none⟩ 1 1 (wgc g) hx rfl
    (fun j u hu => World.news_of_block hb j u (by simpa using hu)) (wgc_one g) (by unfold maxLen; omega) hbytes hbase ?_
  intro v' w' h1 h2 _
  exact h v' w' hown (by unfold OwnG; rw [wgs_append, List.length_append]; exact h1) h2

/-- every block of another type than these stays -/
structure KeepT (ts : List TypeId) (w w' : World) : Prop where
  size : w.heap.size ≤ w'.heap.size
  same : ∀ (k : Nat) (o : Obj), w.heap[k]? = some o → (∀ c t fz, o = .cells c t fz → t ∉ ts) → w'.heap[k]? = some o
theorem KeepT.refl (ts : List TypeId) (w : World) : KeepT ts w w := ⟨Nat.le_refl _, fun _ _ h _ => h⟩
theorem KeepT.trans {ts : List TypeId} {a b c : World} (h : KeepT ts a b) (k : KeepT ts b c) : KeepT ts a c := ⟨Nat.le_trans h.size k.size, fun i o hi ho => k.same i o (h.same i o hi ho) ho⟩
theorem KeepT.of_below {ts : List TypeId} {w w' : World} (h : Below w.heap.size w w') : KeepT ts w w' := ⟨h.4, fun k _ hk _ => (h.5 k (Array.getElem?_eq_some_iff.1 hk).1).trans hk⟩
theorem KeepT.alloc {ts : List TypeId} {a w : World} (h : KeepT ts a w) (o : Obj) : KeepT ts a (w.alloc o) := h.trans (KeepT.of_below ((Below.refl _ w).alloc (Nat.le_refl _) o))
theorem KeepT.drewN {ts : List TypeId} {a w : World} (h : KeepT ts a w) (n : Nat) : KeepT ts a (w.drewN n) := h.trans (KeepT.of_below (bel_drewN (Below.refl _ w) n))
theorem KeepT.set {ts : List TypeId} {a w : World} (h : KeepT ts a w) {B t : Nat} {cs : List Value} (hb : Blk w B t cs) (ht : t ∈ ts) (j : Nat) (u : Value) : KeepT ts a (w.setCell ⟨B, j, none⟩ u) :=
  h.trans ⟨(Nat.le_of_eq (by simp [World.setCell])), fun k o hk ho => by
    by_cases e : k = B
    · subst e
      have : o = .cells cs.toArray t (0, 0) := Option.some.inj (hk.symm.trans hb)
      exact absurd ht (ho _ _ _ this)
    · exact (Below.heap_setCell _ _ _ _ (by exact e)).trans hk⟩
theorem KeepT.grown {ts : List TypeId} {a w w' : World} (h : KeepT ts a w) {e : TypeId} {base : Nat} {v : Value} {l : List Wg} (ho : OwnG e w base v l) (hg : w.grownBy w' v.ownBlock) (he : e ∈ ts) : KeepT ts a w' :=
  h.trans ⟨hg.size, fun k o hk hno => by
    refine (hg.block k (Array.getElem?_eq_some_iff.1 hk).1 (fun eb => ?_)).trans hk
    rcases ho.2 with ⟨rfl, _⟩ | ⟨g, cap, cur, rfl, _, hgb, _⟩
    · simp [Value.ownBlock] at eb
    · have hkg : k = g := by simpa [Value.ownBlock] using eb
      subst hkg
      have : o = .cells cur e (0, 0) := Option.some.inj (hk.symm.trans hgb)
      exact hno _ _ _ this he⟩
theorem KeepT.blk {ts : List TypeId} {w w' : World} (h : KeepT ts w w') {B t : Nat} {cs : List Value} (hb : Blk w B t cs) (ht : t ∉ ts) : Blk w' B t cs :=
  h.same B _ hb (fun c t' fz e => by injection e with _ h2 _; rw [← h2]; exact ht)
/-- all blocks but these, and new ones, stay -/
structure KeepE (E : Nat → Prop) (w w' : World) : Prop where
  size : w.heap.size ≤ w'.heap.size
  same : ∀ k, k < w.heap.size → ¬ E k → w'.heap[k]? = w.heap[k]?
theorem KeepE.refl (E : Nat → Prop) (w : World) : KeepE E w w := ⟨Nat.le_refl _, fun _ _ _ => rfl⟩
theorem KeepE.trans {E : Nat → Prop} {a b c : World} (h : KeepE E a b) (k : KeepE E b c) : KeepE E a c := ⟨Nat.le_trans h.size k.size, fun i hi he => (k.same i (Nat.lt_of_lt_of_le hi h.size) he).trans (h.same i hi he)⟩
theorem KeepE.of_below {E : Nat → Prop} {w w' : World} (h : Below w.heap.size w w') : KeepE E w w' := ⟨h.4, fun k hk _ => h.5 k hk⟩
theorem KeepE.set {E : Nat → Prop} {a w : World} (h : KeepE E a w) {B t : Nat} {cs : List Value} (_ : Blk w B t cs) (hE : E B) (j : Nat) (u : Value) : KeepE E a (w.setCell ⟨B, j, none⟩ u) :=
  h.trans ⟨(Nat.le_of_eq (by simp [World.setCell])), fun k _ hk => Below.heap_setCell _ _ _ _ (fun e => hk (by rw [e]; exact hE))⟩
theorem KeepE.grown {E : Nat → Prop} {a w w' : World} (h : KeepE E a w) {v : Value} (hg : w.grownBy w' v.ownBlock) (hE : ∀ k, v.ownBlock = some k → E k) : KeepE E a w' :=
  h.trans ⟨hg.size, fun k hk he => hg.block k hk (fun e => he (hE k e.symm))⟩
theorem KeepE.toT {E : Nat → Prop} {w w' : World} (h : KeepE E w w') {ts : List TypeId} (hE : ∀ k, E k → k < w.heap.size → ∃ c t fz, w.heap[k]? = some (.cells c t fz) ∧ t ∈ ts) : KeepT ts w w' :=
  ⟨h.size, fun k o hk ho => by
    have hl := (Array.getElem?_eq_some_iff.1 hk).1
    by_cases e : E k
    · obtain ⟨c, t, fz, h1, h2⟩ := hE k e hl
      exact absurd h2 (ho c t fz (Option.some.inj (hk.symm.trans h1)))
    · exact (h.same k hl e).trans hk⟩
theorem KeepE.blk {E : Nat → Prop} {w w' : World} (h : KeepE E w w') {B t : Nat} {cs : List Value} (hb : Blk w B t cs) (he : ¬ E B) : Blk w' B t cs := (h.same B hb.lt he).trans hb
theorem KeepE.more {E F : Nat → Prop} {w w' : World} (h : KeepE E w w') (hf : ∀ k, k < w.heap.size → E k → F k) : KeepE F w w' := ⟨h.size, fun k hk he => h.same k hk (fun e => he (hf k hk e))⟩
end Go.Proofs.YthjdmfbengpepaaGreat
namespace Go.Proofs.YthjdmfbengpepaaGreat
open Go.RowKit

theorem ret_b {a b : Bool} (h : a = b) : Ending.returned (.bool a) = .returned (.bool b) := by rw [h]
theorem ret_i {a b : Int} (h : a = b) : Ending.returned (.int .i64 a) = .returned (.int .i64 b) := by rw [h]
theorem ret_sc {a b : List UInt8} {e f : Int} (h : a = b) (h2 : e = f) : Ending.returned (.tuple #[.string ⟨a.toArray⟩, .int .i64 e]) = .returned (.tuple #[.string ⟨b.toArray⟩, .int .i64 f]) := by rw [h, h2]
theorem ret_ss {a b c d : ByteArray} (h : a = b) (h2 : c = d) : Ending.returned (.tuple #[.string a, .string c]) = .returned (.tuple #[.string b, .string d]) := by rw [h, h2]
theorem ret_sb {a b : ByteArray} {c d : Bool} (h : a = b) (h2 : c = d) : Ending.returned (.tuple #[.string a, .bool c]) = .returned (.tuple #[.string b, .bool d]) := by rw [h, h2]
end Go.Proofs.YthjdmfbengpepaaGreat
namespace Go.Proofs.YthjdmfbengpepaaGreat
open Go.RowKit

/-- how the document's disk stands -/
structure Rd where
  n : Nat
  S : List Wg
  C : List Wg
  off : Bool
  armed : Bool
  left : Nat
  wr : Nat
  fl : Nat
def rdc (r : Rd) (vS vC : Value) : List Value := [.int .i64 (r.n : Int), vS, vC, .bool r.off, .bool r.armed, .int .i64 (r.left : Int), .int .u64 (r.wr : Int), .int .u64 (r.fl : Int)]
/-- the bytes of writes, each in a block of its own -/
def Bys (w : World) (base : Nat) (l : List Wg) : Prop := ∀ g ∈ l, g.b.length = 512 ∧ OwnB w base (.slice g.ad g.b.length g.cap) g.b
structure IsRD (w : World) (D base : Nat) (r : Rd) (vS vC : Value) : Prop where
  blk : Blk w D 81 (rdc r vS vC)
  low : base ≤ D
  ownS : OwnG 88 w base vS r.S
  ownC : OwnG 88 w base vC r.C
  bS : Bys w base r.S
  bC : Bys w base r.C
  apart : ∀ k, vS.ownBlock = some k → vC.ownBlock ≠ some k
theorem own_keep {ts : List TypeId} {w w' : World} (h : KeepT ts w w') {e : TypeId} {base size n : Nat} {v : Value} {xs : List Value} (ho : w.ownsRow base e size v n xs) (he : e ∉ ts) : w'.ownsRow base e size v n xs := by
  refine ⟨ho.1, ?_⟩
  rcases ho.2 with h2 | ⟨g, cap, cur, h3, h4, h5, h6⟩
  · exact .inl h2
  · exact .inr ⟨g, cap, cur, h3, h4, h.same g _ h5 (fun c t fz e1 => by injection e1 with _ h7 _; rw [← h7]; exact he), h6⟩
theorem Bys.keep {ts : List TypeId} {w w' : World} (h : KeepT ts w w') {base : Nat} {l : List Wg} (hb : Bys w base l) (he : 5 ∉ ts) : Bys w' base l := fun g hg => ⟨(hb g hg).1, own_keep h (hb g hg).2 he⟩
theorem Bys.mem {w : World} {base : Nat} {l m : List Wg} (hb : Bys w base l) (h : ∀ g ∈ m, g ∈ l) : Bys w base m := fun g hg => hb g (h g hg)
theorem Bys.append {w : World} {base : Nat} {l m : List Wg} (h1 : Bys w base l) (h2 : Bys w base m) : Bys w base (l ++ m) := fun g hg => (List.mem_append.1 hg).elim (h1 g) (h2 g)
theorem IsRD.keep {ts : List TypeId} {w w' : World} {D base : Nat} {r : Rd} {vS vC : Value} (h : IsRD w D base r vS vC) (hk : KeepT ts w w') (h1 : 81 ∉ ts) (h2 : 88 ∉ ts) (h3 : 5 ∉ ts) : IsRD w' D base r vS vC :=
  ⟨hk.blk h.blk h1, h.low, own_keep hk h.ownS h2, own_keep hk h.ownC h2, h.bS.keep hk h3, h.bC.keep hk h3, h.apart⟩
theorem IsRD.on {w w' : World} {D base : Nat} {r : Rd} {vS vC : Value} (h : IsRD w D base r vS vC) (hb : Below w.heap.size w w') : IsRD w' D base r vS vC :=
  h.keep (ts := []) (KeepT.of_below hb) (by simp) (by simp) (by simp)

set_option maxRecDepth 20000 in
theorem refNew9 (z : Int) (w : World) :
    Calls Tryz.prog 9 #[.int .i64 z] w fun e w' => (if 64 ≤ z ∧ z ≤ 4096 then e = .returned (.pointer (some ⟨w.heap.size, 0, none⟩)) ∧ IsRD w' w.heap.size w.heap.size ⟨z.toNat, [], [], false, false, 0, 0, 0⟩ (.slice none 0 0) (.slice none 0 0) else e = .returned (.pointer none)) ∧ Below w.heap.size w w' := by
  by_cases h1 : z < 64
  · have d1 : decide (z < 64) = true := decide_eq_true h1
    have HN : Hid (¬ (64 ≤ z ∧ z ≤ 4096)) := fun h => by omega
    go_enter Tryz.func9, Tryz.ntmps9
    go_wp2
    go_ret
    exact ⟨by first | rfl | (rw [if_neg HN.out]; rfl), Below.refl _ _⟩
  · have d1 : decide (z < 64) = false := decide_eq_false h1
    by_cases h2 : 4096 < z
    · have d2 : decide (4096 < z) = true := decide_eq_true h2
      have HN : Hid (¬ (64 ≤ z ∧ z ≤ 4096)) := fun h => by omega
      go_enter Tryz.func9, Tryz.ntmps9
      go_wp2
      go_ret
      exact ⟨by first | rfl | (rw [if_neg HN.out]; rfl), Below.refl _ _⟩
    · have d2 : decide (4096 < z) = false := decide_eq_false h2
      have HN : Hid (64 ≤ z ∧ z ≤ 4096) := ⟨by omega, by omega⟩
      have HZ : Hid (((z.toNat : Nat) : Int) = z) := by unfold Hid; omega
      go_enter Tryz.func9, Tryz.ntmps9
      go_wp2
      go_ret
      refine ⟨?_, (Below.refl _ w).alloc (Nat.le_refl _) _⟩
      (try rw [if_pos HN.out])
      refine ⟨rfl, ⟨?_, Nat.le_refl _, OwnG.nil _ _ _, OwnG.nil _ _ _, fun g hg => (by cases hg), fun g hg => (by cases hg), fun k hk => (by simp [Value.ownBlock] at hk)⟩⟩
      refine Blk.newAt w _ _ _ _ rfl ?_
      unfold rdc
      rw [HZ.out]
      rfl

set_option maxRecDepth 20000 in
theorem refIs9 (D n : Nat) (i : Int) (w : World) (hc : w.cell? ⟨D, 0, none⟩ = some (.int .i64 (n : Int))) :
    Calls Tryz.prog 84 #[.pointer (some ⟨D, 0, none⟩), .int .i64 i] w fun e w' => e = .returned (.bool (decide (0 ≤ i ∧ i < n))) ∧ w' = w := by
  by_cases h0 : 0 ≤ i
  · have d0 : decide (0 ≤ i) = true := decide_eq_true h0
    have HV : Hid (decide (i < (n : Int)) = decide (0 ≤ i ∧ i < n)) := by
      unfold Hid; congr 1; exact propext ⟨fun h => ⟨h0, h⟩, fun h => h.2⟩
    go_enter Tryz.func84, Tryz.ntmps84
    go_wp2
    go_ret
    exact ⟨ret_b (by first | rfl | exact HV.out), rfl⟩
  · have d0 : decide (0 ≤ i) = false := decide_eq_false h0
    have h0' : i < 0 := by omega
    have HV : Hid (false = decide (0 ≤ i ∧ i < n)) := by unfold Hid; exact (decide_eq_false (fun h => h0 h.1)).symm
    go_enter Tryz.func84, Tryz.ntmps84
    go_wp2
    go_ret
    exact ⟨ret_b (by first | rfl | exact HV.out), rfl⟩

theorem lastW_drop {l : List Wg} {k i : Nat} (hk : k < l.length) : lastW (l.drop k) i = match lastW (l.drop (k + 1)) i with | some b => some b | none => if (nthG l k).at_ = i then some (nthG l k).b else none := by
  rw [List.drop_eq_getElem_cons hk, lastW, nthG_eq l k hk]
  cases lastW (l.drop (k + 1)) i <;> rfl
theorem lastW_found {l : List Wg} {k i : Nat} (hk : k < l.length) (h : lastW (l.drop (k + 1)) i = none) (ha : (nthG l k).at_ = i) : lastW l i = some (nthG l k).b := by
  have h2 := lastW_drop (l := l) (i := i) hk
  rw [h, if_pos ha] at h2
  have h3 := lastW_append (l.take k) (l.drop k) i
  rw [List.take_append_drop, h2] at h3
  exact h3
theorem lastW_more {l : List Wg} {k i : Nat} (hk : k < l.length) (h : lastW (l.drop (k + 1)) i = none) (ha : ¬ (nthG l k).at_ = i) : lastW (l.drop k) i = none := by
  have h2 := lastW_drop (l := l) (i := i) hk
  rw [h, if_neg ha] at h2
  exact h2

set_option maxRecDepth 20000 in
set_option maxHeartbeats 1000000 in
theorem refLast9 (v : Value) (l : List Wg) (base i : Nat) (w : World) (ho : OwnG 88 w base v l) (hb : Bys w base l) (hl : l.length ≤ 1000000000) :
    Calls Tryz.prog 85 #[v, .int .i64 (i : Int)] w fun e w' => ∃ v', e = .returned (.tuple #[v', .bool (lastW l i).isSome]) ∧ OwnB w' w.heap.size v' ((lastW l i).getD zero512) ∧ Below w.heap.size w w' := by
  obtain ⟨a, cap, rfl, hle, hmx, hnl, hcs⟩ := ho.form
  obtain ⟨n, hn⟩ : ∃ n, n = l.length := ⟨_, rfl⟩
  have HN : Hid (n = l.length) := hn
  rw [← hn] at hle hcs hl ⊢
  have HCs : Hid (0 < n → ∃ g, a = some ⟨g, 0, none⟩ ∧ base ≤ g ∧ g < w.heap.size ∧ ∀ i, i < n → w.cell? ⟨g, i * 2, none⟩ = some (.int .i64 ((nthG l i).at_ : Int)) ∧ w.cell? ⟨g, i * 2 + 1, none⟩ = some (.slice (nthG l i).ad (nthG l i).b.length (nthG l i).cap)) := hcs
  have HB : Hid (Bys w base l) := hb
  clear hn hcs hb ho
  go_enter Tryz.func85, Tryz.ntmps85
  go_wp2
  go_loopw [6] (fun kv wr => ∃ k : Nat, k ≤ n ∧ kv = .int .i64 ((k : Int) - 1) ∧ Hid (lastW (l.drop k) i = none) ∧ wr = w) (fun kv _ => (intOf kv + 1).toNat)
  case atStart => exact ⟨n, Nat.le_refl _, by go_num, by unfold Hid; rw [HN.out, List.drop_length]; rfl, rfl⟩
  case round =>
    obtain ⟨k, hk, rfl, HD, hwr⟩ := hrel
    subst hwr
    by_cases h0 : 0 < k
    · obtain ⟨j, rfl⟩ : ∃ j, k = j + 1 := ⟨k - 1, by omega⟩
      obtain ⟨g, rfl, hg1, hg2, hc⟩ := HCs.out (by omega)
      obtain ⟨c0, c1⟩ := hc j (by omega)
      have e1 : ((j + 1 : Nat) : Int) - 1 = (j : Int) := by omega
      rw [e1]
      have hj0 : (0 : Int) ≤ (j : Int) := by omega
      have hjn : (j : Int) < (n : Int) := by omega
      have HjL : Hid (j < l.length) := by unfold Hid; rw [← HN.out]; omega
      have hmem : nthG l j ∈ l := by rw [nthG_eq l j HjL.out]; exact List.getElem_mem HjL.out
      obtain ⟨hb512, hbo⟩ := HB.out _ hmem
      by_cases ha : (nthG l j).at_ = i
      · have hai : ((nthG l j).at_ : Int) = (i : Int) := by omega
        have HF := lastW_found HjL.out HD.out ha
        obtain ⟨ab, cb, eb, hib⟩ := hbo.isB
        simp only [Value.slice.injEq] at eb
        obtain ⟨rfl, _, rfl⟩ := eb
        have HI : Hid (IsB wr (nthG l j).ad (nthG l j).b.length (nthG l j).cap (nthG l j).b) := hib
        have HR : Hid ((lastW l i).isSome = true ∧ (lastW l i).getD zero512 = (nthG l j).b) := by unfold Hid; rw [HF]; exact ⟨rfl, rfl⟩
        have h512 : (nthG l j).b.length ≤ 512 := by omega
        clear HF hib ha hc hbo
        generalize (nthG l j).ad = ad at *
        generalize (nthG l j).cap = cb at *
        generalize hbl : (nthG l j).b = bb at *
        generalize (nthG l j).at_ = at2 at *
        generalize hbn : bb.length = bn at *
        subst hb512
        clear h512
        go_wp2_with (at_builtin; go_loud (refine list_appS _ rfl (.tmp 21) (.tmp 26) rfl wr.heap.size (.slice (some ⟨wr.heap.size, 0, none⟩) 0 0) [] rfl (OwnB.empty wr _ (Nat.le_refl _)) ad 512 cb bb rfl (HI.out.below ((Below.refl _ wr).alloc (Nat.le_refl _) _) rfl) (by simp) (by simp) ?_; intro v1 w1 ho1 hg1; have D1 : Below wr.heap.size wr w1 := grow_bel ((Below.refl _ wr).alloc (Nat.le_refl _) _) (OwnB.empty wr _ (Nat.le_refl _)) hg1))
        go_ret2
        refine ⟨v1, ?_, ?_, D1⟩
        · rw [HR.out.1]; rfl
        · rw [HR.out.2]; exact ho1
      · have hai : (((nthG l j).at_ : Int) == (i : Int)) = false := by rw [beq_eq_false_iff_ne]; omega
        have hai' : ¬ ((nthG l j).at_ : Int) = (i : Int) := by omega
        have HM : Hid (lastW (l.drop j) i = none) := lastW_more HjL.out HD.out ha
        clear ha hc HD hbo
        generalize (nthG l j).at_ = at2 at *
        go_wp2
        go_roundw
        case rel => exact ⟨j, by omega, by go_num, HM, by first | rfl | trivial⟩
        case measure => first | (simp [intOf]; done) | (simp [intOf]; omega)
    · have hk0 : k = 0 := by omega
      subst hk0
      have HR : Hid (lastW l i = none) := by have := HD.out; rw [List.drop_zero] at this; exact this
      have hneg : ((0 : Nat) : Int) - 1 = -1 := by omega
      rw [hneg]
      clear HD
      go_wp2_with (at_make; refine make_full8 _ rfl _ _ rfl wr.heap.size .i64 .i64 _ _ 512 rfl rfl rfl rfl (by omega) (Nat.le_refl _) ?_; intro w1 ho1 hg1)
      go_ret2
      refine ⟨_, by rw [HR.out]; rfl, by rw [HR.out]; exact ho1, ?_⟩
      exact ⟨hg1.1, hg1.2, hg1.3, hg1.4, fun j hj => hg1.5 j hj (by simp)⟩
end Go.Proofs.YthjdmfbengpepaaGreat
