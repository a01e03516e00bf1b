/- The program's disk in a world. · The document's disk among other things: what its calls leave alone. -/
import Derived.Test.YtdeoankmmolebaaGreatB5
import Derived.Deep.MidRow
namespace Go.Proofs.YtdeoankmmolebaaGreat
open Go.RowKit

/-- the cells of one write -/
def wq (g : Nat × List UInt8) : List Value := .int .i64 (g.1 : Int) :: bv g.2
def wqs : List (Nat × List UInt8) → List Value
  | [] => []
  | g :: l => wq g ++ wqs l
def nthQ (l : List (Nat × List UInt8)) (i : Nat) : Nat × List UInt8 := l.getD i (0, [])
theorem nthQ_eq (l : List (Nat × List UInt8)) (i : Nat) (h : i < l.length) : nthQ l i = l[i] := by
  unfold nthQ; rw [List.getD_eq_getElem?_getD, List.getElem?_eq_getElem h]; rfl
theorem nthQ_mem (l : List (Nat × List UInt8)) (i : Nat) (h : i < l.length) : nthQ l i ∈ l := by rw [nthQ_eq l i h]; exact List.getElem_mem h
theorem wq_length {g : Nat × List UInt8} (h : g.2.length = 512) : (wq g).length = 513 := by simp only [wq, List.length_cons, bv_length, h]
theorem wqs_append (l m : List (Nat × List UInt8)) : wqs (l ++ m) = wqs l ++ wqs m := by
  induction l with
  | nil => rfl
  | cons p l ih => rw [List.cons_append, wqs, wqs, ih, List.append_assoc]
theorem wqs_length (l : List (Nat × List UInt8)) (h : ∀ g ∈ l, g.2.length = 512) : (wqs l).length = l.length * 513 := by
  induction l with
  | nil => rfl
  | cons p l ih =>
    rw [wqs, List.length_append, wq_length (h p (by simp)), ih (fun g hg => h g (by simp [hg])), List.length_cons]; omega
theorem wqs_at (l : List (Nat × List UInt8)) (h : ∀ g ∈ l, g.2.length = 512) (i j : Nat) (hi : i < l.length) (hj : j < 513) : (wqs l)[i * 513 + j]? = (wq (nthQ l i))[j]? := by
  induction l generalizing i with
  | nil => simp at hi
  | cons p l ih =>
    have hp := wq_length (h p (by simp))
    cases i with
    | zero =>
      rw [wqs, Nat.zero_mul, Nat.zero_add, List.getElem?_append_left (by omega)]
      rfl
    | succ i =>
      rw [wqs, List.getElem?_append_right (by omega), hp, show (i + 1) * 513 + j - 513 = i * 513 + j by omega]
      exact ih (fun g hg => h g (by simp [hg])) i (by simpa using hi)
theorem wq_one (g : Nat × List UInt8) : ∀ u ∈ wq g, u.oneCell' = true := by
  intro u hu
  rcases List.mem_cons.1 hu with rfl | hu
  · rfl
  · exact bv_one _ u hu

/-- the cells of the sectors -/
def stc (n : Nat) (st : Nat → List UInt8) : List Value := (List.range (n * 512)).map fun k => .int .u8 ((nth (st (k / 512)) (k % 512)).toNat : Int)
theorem stc_length (n : Nat) (st : Nat → List UInt8) : (stc n st).length = n * 512 := by simp [stc]
theorem stc_at (n : Nat) (st : Nat → List UInt8) (k : Nat) (h : k < n * 512) : (stc n st)[k]? = some (.int .u8 ((nth (st (k / 512)) (k % 512)).toNat : Int)) := by
  simp [stc, h]

/-- cells put in the place of others -/
def putL : List Value → Nat → List Value → List Value
  | cs, _, [] => cs
  | cs, o, v :: vs => putL (cs.set o v) (o + 1) vs
theorem putL_length (vs cs : List Value) (o : Nat) : (putL cs o vs).length = cs.length := by
  induction vs generalizing cs o with
  | nil => rfl
  | cons v vs ih => rw [putL, ih, List.length_set]
theorem putL_at (vs cs : List Value) (o k : Nat) (h : o + vs.length ≤ cs.length) : (putL cs o vs)[k]? = if o ≤ k ∧ k < o + vs.length then vs[k - o]? else cs[k]? := by
  induction vs generalizing cs o with
  | nil => rw [putL, if_neg (by simp <;> omega)]
  | cons v vs ih =>
    rw [List.length_cons] at h
    rw [putL, ih _ _ (by rw [List.length_set]; omega), List.length_cons]
    by_cases h1 : o + 1 ≤ k ∧ k < o + 1 + vs.length
    · rw [if_pos h1, if_pos (by omega), show k - o = (k - (o + 1)) + 1 by omega, List.getElem?_cons_succ]
    · rw [if_neg h1]
      by_cases h2 : k = o
      · subst h2
        rw [if_pos (by omega), Nat.sub_self, List.getElem?_cons_zero, List.getElem?_set_self (by omega)]
      · rw [if_neg (by omega), List.getElem?_set_ne (by omega)]
theorem Blk.setCells9 {B t : Nat} (vs : List Value) : ∀ {w : World} {cs : List Value} (o : Nat), Blk w B t cs → Blk (w.setCells B o vs) B t (putL cs o vs) := by
  induction vs with
  | nil => intro w cs o h; exact h
  | cons v vs ih => intro w cs o h; exact ih (o + 1) (h.set o v)
theorem gr_setCells (B : Nat) (vs : List Value) : ∀ (w : World) (o : Nat), w.grownBy (w.setCells B o vs) (some B) := by
  induction vs with
  | nil => intro w o; exact ⟨rfl, rfl, rfl, Nat.le_refl _, fun _ _ _ => rfl⟩
  | cons v vs ih =>
    intro w o
    have h1 : w.grownBy (w.setCell ⟨B, o, none⟩ v) (some B) := ⟨rfl, rfl, rfl, by simp [World.setCell], fun k _ hk => Below.heap_setCell _ _ _ _ (fun e => hk (by rw [e]))⟩
    exact h1.trans (ih (w.setCell ⟨B, o, none⟩ v) (o + 1))
theorem putL_stc (n : Nat) (st : Nat → List UInt8) (i : Nat) (b : List UInt8) (hi : i < n) (hb : b.length = 512) : putL (stc n st) (i * 512) (bv b) = stc n (Pl.put st (i, b)) := by
  apply List.ext_getElem?
  intro k
  have hfit : i * 512 + (bv b).length ≤ (stc n st).length := by
    rw [bv_length, hb, stc_length]
    have : (i + 1) * 512 ≤ n * 512 := Nat.mul_le_mul_right _ hi
    omega
  rw [putL_at _ _ _ _ hfit, bv_length, hb]
  by_cases hk : k < n * 512
  · rw [stc_at _ _ k hk, stc_at _ _ k hk]
    by_cases h1 : i * 512 ≤ k ∧ k < i * 512 + 512
    · have e1 : k / 512 = i := by omega
      have e2 : k - i * 512 = k % 512 := by omega
      rw [if_pos h1, e1, e2, bv_at _ _ (by rw [hb]; omega)]
      simp [Pl.put]
    · have e1 : ¬ i = k / 512 := by omega
      rw [if_neg h1]
      simp [Pl.put, e1]
  · have h2 : ¬ (i * 512 ≤ k ∧ k < i * 512 + 512) := by
      have : (i + 1) * 512 ≤ n * 512 := Nat.mul_le_mul_right _ hi
      omega
    have h3 : ∀ s2, (stc n s2)[k]? = none := fun s2 => List.getElem?_eq_none (by rw [stc_length]; exact Nat.le_of_not_lt hk)
    rw [if_neg h2, h3, h3]
theorem div512 (i j : Nat) (h : j < 512) : (i * 512 + j) / 512 = i := by omega
theorem mod512 (i j : Nat) (h : j < 512) : (i * 512 + j) % 512 = j := by omega
/-- a sector's cells in the block -/
theorem Blk.sector {w : World} {S t n : Nat} {st : Nat → List UInt8} (h : Blk w S t (stc n st)) (i : Nat) (hi : i < n) (hl : (st i).length = 512) : w.rangeAt S (i * 512) (bv (st i)) := by
  intro j v hv
  have hj : j < 512 := by
    have := (List.getElem?_eq_some_iff.1 hv).1
    rwa [bv_length, hl] at this
  have hk : i * 512 + j < n * 512 := by
    have : (i + 1) * 512 ≤ n * 512 := Nat.mul_le_mul_right _ hi
    omega
  rw [h.cell, stc_at _ _ _ hk, ← hv, div512 i j hj, mod512 i j hj, bv_at _ _ (by rw [hl]; exact hj)]
theorem Blk.there9 {w : World} {B t : Nat} {cs : List Value} (h : Blk w B t cs) (o m : Nat) (hm : o + m ≤ cs.length) : w.there B o m := fun j hj =>
  ⟨by rw [h.cell, List.getElem?_eq_getElem (by omega)]; rfl, h.frozen _⟩

/-- v owns the writes l -/
def OwnC (w : World) (base : Nat) (v : Value) (l : List (Nat × List UInt8)) : Prop := w.ownsRow base 158 513 v l.length (wqs l)
theorem OwnC.nil (w : World) (base : Nat) : OwnC w base (.slice none 0 0) [] := World.ownsRow_nil _ _ _ _
theorem OwnC.form {w : World} {base : Nat} {v : Value} {l : List (Nat × List UInt8)} (h : OwnC w base v l) (h5 : ∀ g ∈ l, g.2.length = 512) : ∃ a cap, v = .slice a l.length cap ∧ l.length ≤ cap ∧ cap ≤ maxLen ∧ (a = none → cap = 0) ∧
    (0 < l.length → ∃ g, a = some ⟨g, 0, none⟩ ∧ base ≤ g ∧ g < w.heap.size ∧ ∀ i, i < l.length → w.rangeAt g (i * 513) (wq (nthQ l i))) := by
  obtain ⟨h1, h2⟩ := h
  rcases h2 with ⟨rfl, h0⟩ | ⟨g, cap, cur, rfl, hb, hg, hle, hmax, hsz, htk⟩
  · have : l = [] := List.eq_nil_of_length_eq_zero h0
    subst this
    exact ⟨none, 0, rfl, Nat.le_refl _, Nat.zero_le _, fun _ => rfl, fun h => absurd h (Nat.lt_irrefl 0)⟩
  · refine ⟨_, cap, rfl, hle, hmax, fun e => (by cases e), fun hp => ⟨g, rfl, hb, (Array.getElem?_eq_some_iff.1 hg).1, fun i hi j u hu => ?_⟩⟩
    have hown : w.ownsRow base 158 513 (.slice (some ⟨g, 0, none⟩) l.length cap) l.length (wqs l) := ⟨h1, .inr ⟨g, cap, cur, rfl, hb, hg, hle, hmax, hsz, htk⟩⟩
    have hj : j < 513 := by
      have := (List.getElem?_eq_some_iff.1 hu).1
      rwa [wq_length (h5 _ (nthQ_mem l i hi))] at this
    have hk : i * 513 + j < l.length * 513 := by
      have : (i + 1) * 513 ≤ l.length * 513 := Nat.mul_le_mul_right _ hi
      omega
    rw [World.ownsRow.cellAt hown _ hk, wqs_at l h5 i j hi hj, hu]
/-- the disk's cells -/
def pdc (S : Nat) (vC : Value) (arm : Int) (p : Pl) : List Value := [.slice (some ⟨S, 0, none⟩) p.n p.n, vC, .int .i64 arm, .int .u32 (flag p.off), .int .u64 (p.wr : Int), .int .u64 (p.fl : Int)]
def armOf (arm : Int) : Option Nat := if 0 ≤ arm then some arm.toNat else none
/-- the disk at block P, its sectors in block S, its cache vC -/
structure IsPd (X : Nat → Prop) (w : World) (P base S : Nat) (vC : Value) (arm : Int) (p : Pl) : Prop where
  blk : Blk w P 79 (pdc S vC arm p)
  low : base ≤ P
  st : Blk w S 112 (stc p.n p.st)
  lowS : base ≤ S
  len : ∀ i, i < p.n → (p.st i).length = 512
  ca : OwnC w base vC p.ca
  armd : p.arm = armOf arm
  lo : -9223372036854775808 ≤ arm
  hi : arm ≤ 9223372036854775807
  pos : 0 < p.n
  xP : ¬ X P
  xS : ¬ X S
  xC : ∀ k, vC.ownBlock = some k → ¬ X k
  xlt : ∀ k, X k → k < w.heap.size
def IsD (X : Nat → Prop) (w : World) (P base : Nat) (p : Pl) : Prop := ∃ S vC arm, IsPd X w P base S vC arm p

theorem blk_ne {w : World} {B B' t t' : Nat} {cs cs' : List Value} (h : Blk w B t cs) (h' : Blk w B' t' cs') (ht : t ≠ t') : B ≠ B' := fun e => by
  subst e
  have := Option.some.inj (h.symm.trans h')
  injection this with _ e2 _
  exact ht e2
theorem own_ne {w : World} {B t : Nat} {cs : List Value} (h : Blk w B t cs) {e : TypeId} {base size n : Nat} {v : Value} {xs : List Value} (ho : w.ownsRow base e size v n xs) (ht : t ≠ e) : v.ownBlock = none ∨ v.ownBlock ≠ some B := by
  rcases ho.2 with ⟨rfl, _⟩ | ⟨g, cap, cur, rfl, _, hg, _⟩
  · exact .inl rfl
  · refine .inr fun e2 => ?_
    have e3 : g = B := by simpa [Value.ownBlock] using e2
    subst e3
    have := Option.some.inj (h.symm.trans hg)
    injection this with _ e4 _
    exact ht e4
theorem IsPd.keep {X : Nat → Prop} {w w' : World} {P base S : Nat} {vC : Value} {arm : Int} {p : Pl} (h : IsPd X w P base S vC arm p) {ts : List TypeId} (hk : KeepT ts w w') (h1 : 79 ∉ ts) (h2 : 112 ∉ ts) (h3 : 158 ∉ ts) : IsPd X w' P base S vC arm p :=
  { h with blk := hk.blk h.blk h1, st := hk.blk h.st h2, ca := own_keep hk h.ca h3, xlt := fun k hx => Nat.lt_of_lt_of_le (h.xlt k hx) hk.size }
theorem IsPd.on {X : Nat → Prop} {w w' : World} {P base S : Nat} {vC : Value} {arm : Int} {p : Pl} (h : IsPd X w P base S vC arm p) (hb : Below w.heap.size w w') : IsPd X w' P base S vC arm p := h.keep (ts := []) (KeepT.of_below hb) (by simp) (by simp) (by simp)
/-- another set of blocks that it leaves alone -/
theorem IsPd.more {X : Nat → Prop} {w : World} {P base S : Nat} {vC : Value} {arm : Int} {p : Pl} (h : IsPd X w P base S vC arm p) (Y : Nat → Prop) (hP : ¬ Y P) (hS : ¬ Y S) (hC : ∀ k, vC.ownBlock = some k → ¬ Y k) (hl : ∀ k, Y k → k < w.heap.size) : IsPd Y w P base S vC arm p :=
  { h with xP := hP, xS := hS, xC := hC, xlt := hl }
/-- the disk's own block is another one -/
theorem IsPd.turn {X : Nat → Prop} {w w' : World} {P base S : Nat} {vC : Value} {arm : Int} {p : Pl} (h : IsPd X w P base S vC arm p) (hg : w.grownBy w' (some P)) {vC' : Value} {arm' : Int} {p' : Pl} (hb : Blk w' P 79 (pdc S vC' arm' p')) (hn : p'.n = p.n) (hst : p'.st = p.st)
    (hca : OwnC w base vC' p'.ca) (hx : ∀ k, vC'.ownBlock = some k → ¬ X k) (ha : p'.arm = armOf arm') (hlo : -9223372036854775808 ≤ arm') (hhi : arm' ≤ 9223372036854775807) : IsPd X w' P base S vC' arm' p' :=
  { blk := hb, low := h.low, st := by rw [hn, hst]; exact (hg.block S h.st.lt (fun e => blk_ne h.blk h.st (by decide) (Option.some.inj e).symm)).trans h.st, lowS := h.lowS, len := by rw [hn, hst]; exact h.len
    ca := World.ownsRow.kept hca hg (own_ne h.blk hca (by decide)), armd := ha, lo := hlo, hi := hhi, pos := by rw [hn]; exact h.pos, xP := h.xP, xS := h.xS, xC := hx, xlt := fun k hk => Nat.lt_of_lt_of_le (h.xlt k hk) hg.size }
/-- one sector is another one -/
theorem IsPd.settle {X : Nat → Prop} {w : World} {P base S : Nat} {vC : Value} {arm : Int} {p : Pl} (h : IsPd X w P base S vC arm p) (g : Nat × List UInt8) (hi : g.1 < p.n) (hb : g.2.length = 512) : IsPd X (w.setCells S (g.1 * 512) (bv g.2)) P base S vC arm { p with st := Pl.put p.st g } :=
  { h with
    blk := ((gr_setCells S _ w _).block P h.blk.lt (fun e => blk_ne h.blk h.st (by decide) (Option.some.inj e))).trans h.blk
    st := by have := h.st.setCells9 (bv g.2) (g.1 * 512); rw [putL_stc p.n p.st g.1 g.2 hi hb] at this; exact this
    len := fun i hn => by
      show (Pl.put p.st g i).length = 512
      unfold Pl.put
      split
      · exact hb
      · exact h.len i hn
    ca := World.ownsRow.kept h.ca (gr_setCells S _ w _) (own_ne h.st h.ca (by decide))
    xlt := fun k hk => Nat.lt_of_lt_of_le (h.xlt k hk) (gr_setCells S _ w _).size }

/-- the blocks X stay -/
structure KeepB (X : Nat → Prop) (w w' : World) : Prop where
  size : w.heap.size ≤ w'.heap.size
  x : ∀ k, X k → k < w.heap.size → w'.heap[k]? = w.heap[k]?
theorem KeepB.of_below {X : Nat → Prop} {w w' : World} (h : Below w.heap.size w w') : KeepB X w w' := ⟨h.size, fun k _ hk => h.5 k hk⟩
theorem KeepB.refl (X : Nat → Prop) (w : World) : KeepB X w w := KeepB.of_below (Below.refl _ w)
theorem KeepB.trans {X : Nat → Prop} {a b c : World} (h : KeepB X a b) (k : KeepB X b c) : KeepB X a c := ⟨Nat.le_trans h.size k.size, fun i hi hl => (k.x i hi (Nat.lt_of_lt_of_le hl h.size)).trans (h.x i hi hl)⟩
theorem KeepB.less {X Y : Nat → Prop} {w w' : World} (h : KeepB X w w') (hy : ∀ k, Y k → X k) : KeepB Y w w' := ⟨h.size, fun k hk => h.x k (hy k hk)⟩
/-- what one block's turning keeps -/
theorem KeepB.one {X : Nat → Prop} {w w' : World} {B : Nat} (hg : w.grownBy w' (some B)) (hx : ¬ X B) : KeepB X w w' :=
  ⟨hg.size, fun k hk hl => hg.block k hl (fun e => hx ((Option.some.inj e) ▸ hk))⟩
theorem KeepB.none {X : Nat → Prop} {w w' : World} (hg : w.grownBy w' none) : KeepB X w w' := ⟨hg.size, fun k _ hl => hg.block k hl (by simp)⟩
theorem bel_one {w w' : World} {B base : Nat} (hg : w.grownBy w' (some B)) (hb : base ≤ B) (hl : B < w.heap.size) : Below base w w' :=
  (Below.refl _ w).grown hg (by omega) (fun k e => by have := Option.some.inj e; omega)
end Go.Proofs.YtdeoankmmolebaaGreat
namespace Go.Proofs.YtdeoankmmolebaaGreat
open Go.RowKit

abbrev RD : List TypeId := [82, 98]
/-- the document's disk, none of whose blocks that it turns is of X -/
def IsRk (X : Nat → Prop) (w : World) (D base m : Nat) (p : Pl) : Prop :=
  ∃ r vS vC, IsRD w D base r vS vC ∧ plOf r = p ∧ FewR r m ∧ ¬ X D ∧ (∀ k, vS.ownBlock = some k ∨ vC.ownBlock = some k → ¬ X k) ∧ (∀ k, X k → k < w.heap.size)
theorem IsRk.keep {X : Nat → Prop} {w w' : World} {D base m : Nat} {p : Pl} (h : IsRk X w D base m p) {ts : List TypeId} (hk : KeepT ts w w') (h1 : 82 ∉ ts) (h2 : 98 ∉ ts) (h3 : 5 ∉ ts) : IsRk X w' D base m p := by
  obtain ⟨r, vS, vC, a, b, c, d, e, f⟩ := h
  exact ⟨r, vS, vC, a.keep hk h1 h2 h3, b, c, d, e, fun k hx => Nat.lt_of_lt_of_le (f k hx) hk.size⟩
theorem IsRk.on {X : Nat → Prop} {w w' : World} {D base m : Nat} {p : Pl} (h : IsRk X w D base m p) (hb : Below w.heap.size w w') : IsRk X w' D base m p := h.keep (ts := []) (KeepT.of_below hb) (by simp) (by simp) (by simp)
theorem IsRk.thin {X Y : Nat → Prop} {w : World} {D base m : Nat} {p : Pl} (h : IsRk Y w D base m p) (hy : ∀ k, X k → Y k) : IsRk X w D base m p := by
  obtain ⟨r, vS, vC, a, b, c, d, e, f⟩ := h
  exact ⟨r, vS, vC, a, b, c, fun hx => d (hy _ hx), fun k hk hx => e k hk (hy _ hx), fun k hx => f k (hy _ hx)⟩
/-- blocks that came since are none of its -/
theorem IsRk.wider {X Y : Nat → Prop} {w w' : World} {D base m : Nat} {p : Pl} (h : IsRk X w D base m p) (hb : Below w.heap.size w w') (hy : ∀ k, Y k → (X k ∨ w.heap.size ≤ k) ∧ k < w'.heap.size) : IsRk Y w' D base m p := by
  obtain ⟨r, vS, vC, a, b, c, d, e, f⟩ := h
  refine ⟨r, vS, vC, a.on hb, b, c, fun hx => ?_, fun k hk hx => ?_, fun k hx => (hy k hx).2⟩
  · rcases (hy _ hx).1 with h1 | h1
    · exact d h1
    · have := a.blk.lt; omega
  · rcases (hy _ hx).1 with h1 | h1
    · exact e k hk h1
    · rcases hk with hk | hk
      · have := (a.ownS.blk k hk).2; omega
      · have := (a.ownC.blk k hk).2; omega
theorem IsRk.more {X : Nat → Prop} {w : World} {D base m n : Nat} {p : Pl} (h : IsRk X w D base m p) (hn : m ≤ n) : IsRk X w D base n p := by
  obtain ⟨r, vS, vC, a, b, ⟨c1, c2, c3, c4, c5, c6⟩, d⟩ := h
  exact ⟨r, vS, vC, a, b, ⟨c1, by omega, c3, by omega, by omega, c6⟩, d⟩
theorem IsRk.few {X : Nat → Prop} {w : World} {D base m : Nat} {p : Pl} (h : IsRk X w D base m p) (hm : m ≤ 100000) : FewP p := by
  obtain ⟨r, vS, vC, a, b, c, d⟩ := h
  rw [← b]; exact c.few hm
theorem IsRk.low {X : Nat → Prop} {w : World} {D base m : Nat} {p : Pl} (h : IsRk X w D base m p) : base ≤ w.heap.size := by
  obtain ⟨r, vS, vC, a, _⟩ := h
  have := a.low
  have := a.blk.lt
  omega
theorem IsRk.cellN {X : Nat → Prop} {w : World} {D base m : Nat} {p : Pl} (h : IsRk X w D base m p) : w.cell? ⟨D, 0, none⟩ = some (.int .i64 (p.n : Int)) := by
  obtain ⟨r, vS, vC, a, b, _⟩ := h
  rw [← b]; exact a.blk.cell 0

theorem rkRead {X : Nat → Prop} (D base m : Nat) (p : Pl) (i : Int) (w : World) (h : IsRk X w D base m p) (hm : m ≤ 100000) :
    Calls Tryz.prog 40 #[.pointer (some ⟨D, 0, none⟩), .int .i64 i] w fun e w' => ∃ v, e = .returned (.tuple #[v, .int .i64 (p.rdE i)]) ∧ OwnB w' w.heap.size v (p.rdB i) ∧ Below w.heap.size w w' := by
  obtain ⟨r, vS, vC, a, rfl, c, _⟩ := h
  rw [← pl_rdE, ← pl_rdB]
  exact refRead9 D base r vS vC i w a (by have := c.sc; unfold Few; omega)
theorem rkStable {X : Nat → Prop} (D base m : Nat) (p : Pl) (i : Int) (w : World) (h : IsRk X w D base m p) (hm : m ≤ 100000) :
    Calls Tryz.prog 24 #[.pointer (some ⟨D, 0, none⟩), .int .i64 i] w fun e w' => ∃ v, e = .returned (.tuple #[v, .int .i64 (p.stE i)]) ∧ OwnB w' w.heap.size v (p.stB i) ∧ Below w.heap.size w w' := by
  obtain ⟨r, vS, vC, a, rfl, c, _⟩ := h
  rw [← pl_stE, ← pl_stB]
  exact refStable9 D base r vS vC i w a (by have := c.sc; unfold Few; omega)
theorem rkWrite {X : Nat → Prop} (D base m : Nat) (p : Pl) (i : Int) (ba : Option Addr) (bc : Nat) (b : List UInt8) (w : World) (h : IsRk X w D base m p) (hm : m ≤ 100000) (hl : b.length ≤ 140737488351232)
    (hB : ∀ W, KeepT RD w W → Below base w W → IsB W ba b.length bc b) :
    Calls Tryz.prog 42 #[.pointer (some ⟨D, 0, none⟩), .int .i64 i, .slice ba b.length bc] w fun e w' => e = .returned (.int .i64 (p.wrE i b)) ∧ IsRk X w' D base (m + 1) (p.write i b) ∧ KeepT RD w w' ∧ KeepB X w w' ∧ Below base w w' := by
  obtain ⟨r, vS, vC, a, rfl, c, d, e, f⟩ := h
  have H := refWrite9E D base r vS vC i ba bc b w a (by have := c.sc; omega) (by have := c.wr; omega) c.left (fun W hW => hB W (hW.toT a.eC)) hl
  rw [pl_wrE] at H
  refine H.mono ?_
  rintro e2 w' ⟨h1, ⟨r', vC', h2, h3, h6⟩, h4, h5⟩
  have hx : KeepB X w w' := ⟨h4.size, fun k hk hl2 => h4.same k hl2 (fun e3 => e3.elim (fun e3 => d (e3 ▸ hk)) (fun e3 => e k (.inr e3) hk))⟩
  refine ⟨h1, ⟨r', vS, vC', h2, pl_write h3, c.write h3, d, fun k hk hx2 => ?_, fun k hx2 => Nat.lt_of_lt_of_le (f k hx2) h4.size⟩, h4.toT a.eC, hx, h5⟩
  rcases hk with hk | hk
  · exact e k (.inl hk) hx2
  · rcases h6 k hk with h7 | h7
    · exact e k (.inr h7) hx2
    · have := f k hx2; omega
theorem rkFlush {X : Nat → Prop} (D base m : Nat) (p : Pl) (w : World) (h : IsRk X w D base m p) (hm : m ≤ 100000) :
    Calls Tryz.prog 43 #[.pointer (some ⟨D, 0, none⟩)] w fun e w' => e = .returned (.int .i64 p.flE) ∧ IsRk X w' D base (m + 1) p.flush ∧ KeepT RD w w' ∧ KeepB X w w' ∧ Below base w w' := by
  obtain ⟨r, vS, vC, a, rfl, c, d, e, f⟩ := h
  have H := refFlush9E D base r vS vC w a (by have := c.sc; omega) (by have := c.fl; omega)
  rw [pl_flE] at H
  refine H.mono ?_
  rintro e2 w' ⟨h1, ⟨vS', h2, h6⟩, h4, h5⟩
  have hx : KeepB X w w' := ⟨h4.size, fun k hk hl2 => h4.same k hl2 (fun e3 => d (e3 ▸ hk))⟩
  refine ⟨h1, ⟨flushR r, vS', _, h2, pl_flush r, c.flush, d, fun k hk hx2 => ?_, fun k hx2 => Nat.lt_of_lt_of_le (f k hx2) h4.size⟩, h4.toT a.eD, hx, h5⟩
  rcases hk with hk | hk
  · rcases h6 k hk with h7 | h7
    · exact e k (.inl h7) hx2
    · have := f k hx2; omega
  · unfold fluC at hk
    split at hk
    · exact e k (.inr hk) hx2
    · cases hk
end Go.Proofs.YtdeoankmmolebaaGreat
