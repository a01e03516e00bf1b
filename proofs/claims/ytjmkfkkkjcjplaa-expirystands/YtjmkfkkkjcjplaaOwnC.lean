/- Rows of structs that the call made, whatever the struct: appends, cuts; a row that came in as a source. -/
import Derived.Test.YtjmkfkkkjcjplaaKeepC
import Derived.Test.YtjmkfkkkjcjplaaRowC
import Derived.Deep.CutBlock
import Derived.Laws.AppendOwnNone
namespace Go.Proofs.Ytjmkfkkkjcjplaa
open Go.RowKit

/-- what is known of a slice's type: its element's, how many cells and bytes it has, what stands for nothing, the cells of a thing -/
structure RT (α : Type) where
  S : TypeId
  E : TypeId
  k : Nat
  by_ : Nat
  z : Value
  c : α → List Value
/-- and that it is so -/
structure RtOK {α : Type} (R : RT α) : Prop where
  hu : Try.prog.underlying R.S = some (.slice R.E)
  hi : (Try.prog.info? R.E).map (fun i => (i.zero, i.size, i.bytes)) = some (some R.z, R.k, R.by_)
  hz : R.z.cells.toList.length = R.k
  ho : ∀ u ∈ R.z.cells.toList, u.oneCell' = true
  k1 : 0 < R.k
  b1 : 0 < R.by_
  len : ∀ x, (R.c x).length = R.k
  one : ∀ x, ∀ u ∈ R.c x, u.oneCell' = true
variable {α : Type} {R : RT α}
def cellsC (R : RT α) : List α → List Value
  | [] => []
  | x :: l => R.c x ++ cellsC R l
theorem cellsC_length (ok : RtOK R) (l : List α) : (cellsC R l).length = l.length * R.k := by
  induction l with
  | nil => simp [cellsC]
  | cons x l ih => rw [cellsC, List.length_append, ih, ok.len, List.length_cons, Nat.succ_mul]; omega
theorem cellsC_append (l m : List α) : cellsC R (l ++ m) = cellsC R l ++ cellsC R m := by
  induction l with
  | nil => rfl
  | cons x l ih => rw [List.cons_append, cellsC, cellsC, ih, List.append_assoc]
theorem cellsC_take (ok : RtOK R) (l : List α) (k : Nat) : cellsC R (l.take k) = (cellsC R l).take (k * R.k) := by
  induction k generalizing l with
  | zero => simp [cellsC]
  | succ k ih =>
    cases l with
    | nil => simp [cellsC]
    | cons x l =>
      have h1 : (k + 1) * R.k = k * R.k + R.k := Nat.succ_mul k R.k
      rw [List.take_succ_cons, cellsC, cellsC, ih, List.take_append, ok.len, List.take_of_length_le (l := R.c x) (by rw [ok.len]; omega), show (k + 1) * R.k - R.k = k * R.k by omega]
theorem cellsC_drop (ok : RtOK R) (l : List α) (k : Nat) : cellsC R (l.drop k) = (cellsC R l).drop (k * R.k) := by
  induction k generalizing l with
  | zero => simp
  | succ k ih =>
    cases l with
    | nil => simp [cellsC]
    | cons x l =>
      have h1 : (k + 1) * R.k = k * R.k + R.k := Nat.succ_mul k R.k
      rw [List.drop_succ_cons, cellsC, ih, List.drop_append, ok.len, List.drop_of_length_le (l := R.c x) (by rw [ok.len]; omega), List.nil_append, show (k + 1) * R.k - R.k = k * R.k by omega]
theorem cellsC_at (ok : RtOK R) (l : List α) (k j : Nat) (hk : k < l.length) (hj : j < R.k) : (cellsC R l)[k * R.k + j]? = (R.c (l[k]))[j]? := by
  have e : (cellsC R l)[k * R.k + j]? = ((cellsC R l).drop (k * R.k))[j]? := by rw [List.getElem?_drop]
  rw [e, ← cellsC_drop ok, List.drop_eq_getElem_cons hk, cellsC, List.getElem?_append_left (by rw [ok.len]; exact hj)]
theorem cellsC_one (ok : RtOK R) (l : List α) : ∀ u ∈ cellsC R l, u.oneCell' = true := by
  induction l with
  | nil => intro u hu; cases hu
  | cons x l ih =>
    intro u hu
    rw [cellsC] at hu
    rcases List.mem_append.1 hu with hu | hu
    · exact ok.one x u hu
    · exact ih u hu
/-- a row that the call made -/
def OwnRw (R : RT α) (w : World) (base : Nat) (v : Value) (l : List α) : Prop := w.ownsRow base R.E R.k v l.length (cellsC R l)
theorem OwnRw.nil (R : RT α) (w : World) (base : Nat) : OwnRw R w base (.slice none 0 0) [] := World.ownsRow_nil _ _ _ _
theorem OwnRw.keep {w w' : World} {us : List TypeId} {base : Nat} {v : Value} {l : List α} (h : OwnRw R w base v l) (hk : KeepO us w w') (he : R.E ∈ us) : OwnRw R w' base v l := own_keepO hk h he
theorem OwnRw.on {w w' : World} {base : Nat} {v : Value} {l : List α} (h : OwnRw R w base v l) (hb : Below w.heap.size w w') : OwnRw R w' base v l := h.keep (us := [R.E]) (KeepO.of_below hb) (List.mem_singleton.2 rfl)
theorem OwnRw.base {w : World} {base base' : Nat} {v : Value} {l : List α} (h : OwnRw R w base v l) (hb : base' ≤ base) : OwnRw R w base' v l := own_base h hb
theorem OwnRw.empty (w : World) (base : Nat) (hb : base ≤ w.heap.size) : OwnRw R (w.alloc (.cells #[] R.E)) base (.slice (some ⟨w.heap.size, 0, none⟩) 0 0) [] := by
  have := World.ownsRow_made (e := R.E) (size := R.k) w #[] 0 hb (Nat.zero_le _) (by simp)
  simpa [OwnRw, cellsC] using this
theorem OwnRw.form (ok : RtOK R) {w : World} {base : Nat} {v : Value} {l : List α} (h : OwnRw R w base v l) : ∃ a cap, v = .slice a l.length cap ∧ l.length ≤ cap ∧ (a = none ∨ ∃ g, a = some ⟨g, 0, none⟩) ∧
    (0 < l.length → ∃ g, a = some ⟨g, 0, none⟩ ∧ base ≤ g ∧ g < w.heap.size ∧ ∀ k (hk : k < l.length), ∀ j, j < R.k → w.cell? ⟨g, k * R.k + j, none⟩ = (R.c (l[k]))[j]?) := by
  obtain ⟨h1, h2⟩ := h
  rcases h2 with ⟨rfl, h0⟩ | ⟨g, cap, cur, rfl, hb, hg, hle, hmax, hsz, htk⟩
  · have : l = [] := List.eq_nil_of_length_eq_zero h0
    subst this
    exact ⟨none, 0, rfl, Nat.le_refl _, .inl rfl, fun h => absurd h (Nat.lt_irrefl 0)⟩
  · refine ⟨_, cap, rfl, hle, .inr ⟨g, rfl⟩, fun hp => ⟨g, rfl, hb, (Array.getElem?_eq_some_iff.1 hg).1, fun k hk j hj => ?_⟩⟩
    have hown : w.ownsRow base R.E R.k (.slice (some ⟨g, 0, none⟩) l.length cap) l.length (cellsC R l) := ⟨h1, .inr ⟨g, cap, cur, rfl, hb, hg, hle, hmax, hsz, htk⟩⟩
    have hlt : k * R.k + j < l.length * R.k := by
      have : (k + 1) * R.k ≤ l.length * R.k := Nat.mul_le_mul_right _ hk
      rw [Nat.succ_mul] at this; omega
    rw [World.ownsRow.cellAt hown (k * R.k + j) hlt, cellsC_at ok l k j hk hj]
/-- as a row that is read -/
theorem OwnRw.row (ok : RtOK R) {w : World} {base : Nat} {a : Option Addr} {n cap : Nat} {l : List α} (h : OwnRw R w base (.slice a n cap) l) : RowC R.k R.c w a n l := by
  obtain ⟨a', c', e, _, _, hc⟩ := h.form ok
  injection e with e1 e2 e3
  subst e1 e2 e3
  refine ⟨rfl, fun hp => ?_⟩
  obtain ⟨g, e4, _, hl, h3⟩ := hc hp
  refine ⟨g, 0, e4, hl, fun k x hx j v hv => ?_⟩
  have hj : j < R.k := by have := (List.getElem?_eq_some_iff.1 hv).1; rw [ok.len] at this; exact this
  obtain ⟨hk, rfl⟩ := List.getElem?_eq_some_iff.1 hx
  rw [Nat.zero_add, h3 k hk j hj]
  exact hv
theorem OwnRw.lt {w : World} {base : Nat} {v : Value} {l : List α} (h : OwnRw R w base v l) {g : Nat} (hg : v.ownBlock = some g) : base ≤ g ∧ g < w.heap.size := World.ownsRow.lt h g hg
theorem KeepT.grownC {w w' : World} {base : Nat} {v : Value} {l : List α} (ho : OwnRw R w base v l) (hg : w.grownBy w' v.ownBlock) : KeepT [R.E] w w' :=
  ⟨hg.size, fun k o hk hno => by
    refine (hg.block k (Array.getElem?_eq_some_iff.1 hk).1 (fun eb => ?_)).trans hk
    rcases ho.2 with ⟨rfl, _⟩ | ⟨g, cap, cur, rfl, _, hgb, _⟩
    · simp [Value.ownBlock] at eb
    · have hkg : k = g := by simpa [Value.ownBlock] using eb
      subst hkg
      have : o = .cells cur R.E (0, 0) := Option.some.inj (hk.symm.trans hgb)
      exact hno _ _ _ this (List.mem_singleton.2 rfl)⟩
/-- things that can be appended -/
structure SrcC (R : RT α) (w : World) (sa : Option Addr) (m c : Nat) (l : List α) : Prop where
  len : l.length = m
  nil : sa = none → m = 0 ∧ c = 0
  cells : ∀ ad, sa = some ad → ∀ j u, (cellsC R l)[j]? = some u → w.cell? (ad.add j) = some u
def cutC (R : RT α) (a : Option Addr) (cap k : Nat) : Option Addr := if cap = k then a else a.map (·.add (k * R.k))
theorem SrcC.below {w w' : World} {sa : Option Addr} {m c : Nat} {l : List α} (h : SrcC R w sa m c l) (hb : Below w.heap.size w w') : SrcC R w' sa m c l :=
  ⟨h.len, h.nil, fun ad e j u hu => by have := h.cells ad e j u hu; exact (hb.cell (cell_lt this)).trans this⟩
/-- a row that is read, as a source: whole, its head, its tail -/
theorem RowC.src (ok : RtOK R) {w : World} {a : Option Addr} {n cap : Nat} {l : List α} (h : RowC R.k R.c w a n l) (ha : a = none → n = 0 ∧ cap = 0) : SrcC R w a n cap l :=
  ⟨h.len, ha, fun ad e j u hu => by
    have hj := (List.getElem?_eq_some_iff.1 hu).1
    rw [cellsC_length ok] at hj
    have hp : 0 < n := by rcases Nat.eq_zero_or_pos n with h0 | h0; (rw [h.len, h0, Nat.zero_mul] at hj; omega); exact h0
    obtain ⟨g, off, e2, hl, hc⟩ := h.cells hp
    rw [e] at e2
    obtain rfl := Option.some.inj e2
    have hk : j / R.k < l.length := (Nat.div_lt_iff_lt_mul ok.k1).2 hj
    have hjj : j = j / R.k * R.k + j % R.k := by have := Nat.div_add_mod j R.k; rw [Nat.mul_comm] at this; omega
    rw [hjj, cellsC_at ok l (j / R.k) (j % R.k) hk (Nat.mod_lt _ ok.k1)] at hu
    have := hc (j / R.k) _ (List.getElem?_eq_getElem hk) (j % R.k) u hu
    rw [Addr.add_lit]
    rw [show off + j = off + j / R.k * R.k + j % R.k by omega]
    exact this⟩
theorem SrcC.head (ok : RtOK R) {w : World} {a : Option Addr} {n cap : Nat} {l : List α} (h : SrcC R w a n cap l) (k : Nat) (hk : k ≤ n) : SrcC R w a k cap (l.take k) :=
  ⟨by rw [List.length_take, h.len]; omega, fun e => by obtain ⟨h1, h2⟩ := h.nil e; exact ⟨by omega, h2⟩, fun ad e j u hu => by
    rw [cellsC_take ok] at hu
    have hj : j < k * R.k := by
      have := (List.getElem?_eq_some_iff.1 hu).1
      rw [List.length_take] at this; omega
    rw [List.getElem?_take_of_lt hj] at hu
    exact h.cells ad e j u hu⟩
theorem SrcC.tail (ok : RtOK R) {w : World} {a : Option Addr} {n cap : Nat} {l : List α} (h : SrcC R w a n cap l) (k : Nat) (hk : k ≤ n) (hcap : n ≤ cap) : SrcC R w (cutC R a cap k) (n - k) (cap - k) (l.drop k) :=
  ⟨by rw [List.length_drop, h.len], (fun e => by
    unfold cutC at e
    split at e
    · rename_i hc; obtain ⟨h1, h2⟩ := h.nil e; omega
    · cases a with
      | none => obtain ⟨h1, h2⟩ := h.nil rfl; omega
      | some ad => cases e), fun ad e j u hu => by
    rw [cellsC_drop ok, List.getElem?_drop] at hu
    unfold cutC at e
    split at e
    · rename_i hc
      have := (List.getElem?_eq_some_iff.1 hu).1
      rw [cellsC_length ok, h.len] at this
      have h1 : n * R.k ≤ k * R.k := Nat.mul_le_mul_right _ (by omega)
      omega
    · cases a with
      | none => cases e
      | some ad0 =>
        have e2 : ad0.add (k * R.k) = ad := Option.some.inj e
        rw [← e2]
        obtain ⟨g, off, sp⟩ := ad0
        have := h.cells ⟨g, off, sp⟩ rfl (k * R.k + j) u hu
        rw [Deep.add_add]
        exact this⟩
theorem OwnRw.src (ok : RtOK R) {w : World} {base : Nat} {a : Option Addr} {n cap : Nat} {l : List α} (h : OwnRw R w base (.slice a n cap) l) : SrcC R w a n cap l := by
  refine RowC.src ok (h.row ok) (fun e => ?_)
  rcases h.2 with ⟨h1, h2⟩ | ⟨g, cap', cur, h3, _⟩
  · injection h1 with e1 e2 e3
    exact ⟨e2, e3⟩
  · injection h3 with e1 _ _
    rw [e] at e1; cases e1
theorem Blk.srcC {w : World} {B : Nat} {x : α} (h : Blk w B R.E (R.c x)) : SrcC R w (some ⟨B, 0, none⟩) 1 1 [x] :=
  ⟨rfl, (fun e => by cases e), fun ad e j u hu => by
    obtain rfl := Option.some.inj e
    rw [cellsC, cellsC, List.append_nil] at hu
    rw [Addr.add_lit, h.cell, Nat.zero_add]
    exact hu⟩
theorem bytes_max {n b : Nat} (hb : 0 < b) (h : n * b ≤ 140737488355328) : n ≤ maxLen := by
  have : n * 1 ≤ n * b := Nat.mul_le_mul_left _ hb
  unfold maxLen; omega
/-- append(l, news...), in a list of operations -/
theorem list_appC (ok : RtOK R) {ops : Array Oper} {rest : List Oper} {o : Oper} {a : Act} {Q : Exit → Act → World → Prop} (w : World) (hgd : o.guard = none) (s x : Operand)
    (ho : o.op = .call { callee := .builtin .append, args := #[s, x], argTypes := #[R.S, R.S] }) (base : Nat)
    (v : Value) (l : List α) (hs : a.eval s = v) (hown : OwnRw R w base v l) (sa : Option Addr) (m c : Nat) (news : List α) (hx : a.eval x = .slice sa m c) (hsrc : SrcC R w sa m c news)
    (hbytes : (l.length + m) * R.by_ ≤ 140737488355328) (hbase : base ≤ w.heap.size)
    (h : ∀ v' w', OwnRw R w' base v' (l ++ news) → w.grownBy w' v.ownBlock → wpList Try.prog ops Q rest (a.put o.dst v') w') :
    wpList Try.prog ops Q (o :: rest) a w := by
  obtain ⟨i0, hi, hz0, hz1, hz2⟩ := info_parts ok.hi
  cases sa with
  | none =>
    obtain ⟨hm, hc⟩ := hsrc.nil rfl
    have hn : news = [] := List.eq_nil_of_length_eq_zero (by rw [hsrc.len, hm])
    subst hn hm hc
    refine wpList_append_own_none hgd s x R.S ho base R.E i0 R.k ok.hu hi v l.length (cellsC R l) hs hown hx ?_
    exact h v w (by rw [List.append_nil]; exact hown) (World.grownBy.refl _ _)
  | some ad =>
    refine wpList_append_own w hgd s x R.S ho base R.E i0 R.z R.k R.by_ ok.hu hi hz0 hz1 hz2 (by have := ok.hz; simpa using this) ok.k1 v l.length (cellsC R l) hs hown ad m c (cellsC R news) hx (by rw [cellsC_length ok, hsrc.len]) (hsrc.cells ad rfl) (cellsC_one ok news) (bytes_max ok.b1 hbytes) hbytes hbase ?_
    intro v' w' h1 h2 _
    exact h v' w' (by unfold OwnRw; rw [cellsC_append, List.length_append, hsrc.len]; exact h1) h2
/-- append(l, news...), in a region that draws -/
theorem step_appRw (ok : RtOK R) {ops : Array Oper} {o : Oper} {a : Act} {K : Act → World → Prop} {Q : Exit → Act → World → Prop} {E : Prop} (w : World) (hgd : o.guard = none) (s x : Operand)
    (ho : o.op = .call { callee := .builtin .append, args := #[s, x], argTypes := #[R.S, R.S] }) (base : Nat)
    (v : Value) (l : List α) (hs : a.eval s = v) (hown : OwnRw R w base v l) (sa : Option Addr) (m c : Nat) (news : List α) (hx : a.eval x = .slice sa m c) (hsrc : SrcC R w sa m c news)
    (hbytes : (l.length + m) * R.by_ ≤ 140737488355328) (hbase : base ≤ w.heap.size) (d : Tmp) (hd : o.dst = some d)
    (h : ∀ v' w', OwnRw R w' base v' (l ++ news) → w.grownBy w' v.ownBlock → K (a.put (some d) v') w') :
    if Region.wanted o (yielded ops a.tmps) = true then Oper.wp Try.prog o a w K Q else E := by
  have hw : Region.wanted o (yielded ops a.tmps) = true := by simp [Region.wanted, hgd]
  rw [if_pos hw]
  obtain ⟨i0, hi, hz0, hz1, hz2⟩ := info_parts ok.hi
  cases sa with
  | none =>
    obtain ⟨hm, hc⟩ := hsrc.nil rfl
    have hn : news = [] := List.eq_nil_of_length_eq_zero (by rw [hsrc.len, hm])
    subst hn hm hc
    have hrun := run_append_owned_none (P := Try.prog) (w := w) base R.S o.type R.E i0 R.k ok.hu hi v l.length (cellsC R l) hown
    rw [← hd] at h
    unfold Oper.wp
    simp [execOp, ho, resolve, invoke, builtin, hs, hx, hrun, Result.andThen]
    exact h v w (by rw [List.append_nil]; exact hown) (World.grownBy.refl _ _)
  | some ad =>
    refine wp_append_own w s x R.S ho base R.E i0 R.z R.k R.by_ ok.hu hi hz0 hz1 hz2 (by have := ok.hz; simpa using this) ok.k1 v l.length (cellsC R l) hs hown ad m c (cellsC R news) hx (by rw [cellsC_length ok, hsrc.len]) (hsrc.cells ad rfl) (cellsC_one ok news) (bytes_max ok.b1 hbytes) hbytes hbase ?_
    intro v' w' h1 h2 _
    rw [hd]
    exact h v' w' (by unfold OwnRw; rw [cellsC_append, List.length_append, hsrc.len]; exact h1) h2
/-- the two cuts -/
theorem slHC (ok : RtOK R) (a : Option Addr) (n cap k : Nat) (hk : k ≤ cap) (w : World) : (Instr.slice R.S (.slice a n cap) none (some (.int .i64 (k : Int))) none).run Try.prog w = .ok (.slice a k cap) w := by
  have he : Try.prog.elem R.S = R.E := by simp [Program.elem, ok.hu]
  have hz : (sizeOf R.E).run Try.prog w = .ok R.k w := by
    obtain ⟨i0, hi, hz0, hz1, hz2⟩ := info_parts ok.hi
    simp [sizeOf, typeInfo, hi, hz1]
  rw [run_slice_h w R.S _ n cap (by rw [he]; exact ok.hu) .i64 (k : Int) (by omega) (by omega), he, hz]
  simp only [Result.andThen, sliced, Int.toNat_natCast, Nat.zero_mul, Nat.sub_zero]
  cases a with
  | none => split <;> rfl
  | some ad =>
    have h0 : ad.add 0 = ad := by obtain ⟨b, o, sp⟩ := ad; cases sp <;> simp [Addr.add]
    split <;> simp [h0]
theorem slLC (ok : RtOK R) (a : Option Addr) (n cap k : Nat) (hk : k ≤ n) (w : World) : (Instr.slice R.S (.slice a n cap) (some (.int .i64 (k : Int))) none none).run Try.prog w = .ok (.slice (cutC R a cap k) (n - k) (cap - k)) w := by
  have he : Try.prog.elem R.S = R.E := by simp [Program.elem, ok.hu]
  have hz : (sizeOf R.E).run Try.prog w = .ok R.k w := by
    obtain ⟨i0, hi, hz0, hz1, hz2⟩ := info_parts ok.hi
    simp [sizeOf, typeInfo, hi, hz1]
  rw [run_slice_l w R.S _ n cap (by rw [he]; exact ok.hu) .i64 (k : Int) (by omega) (by omega), he, hz]
  simp only [Result.andThen, sliced, Int.toNat_natCast, cutC]
end Go.Proofs.Ytjmkfkkkjcjplaa
