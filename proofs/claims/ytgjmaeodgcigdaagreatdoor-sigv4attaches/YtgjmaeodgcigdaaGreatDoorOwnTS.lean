/- Slices of texts: cut, and appended to one that the call owns. -/
import Derived.Test.YtgjmaeodgcigdaaGreatDoorS6a
import Derived.Test.YtgjmaeodgcigdaaGreatDoorB15
namespace Go.Proofs.YtgjmaeodgcigdaaGreatDoor
open Go.RowKit

/-- a value that is a slice of these texts -/
def IsTV (w : World) (v : Value) (l : List (List UInt8)) : Prop := ∃ a cap, v = .slice a l.length cap ∧ IsT w a l.length cap l
theorem IsTV.below {w w' : World} {n : Nat} {v : Value} {l : List (List UInt8)} (h : IsTV w v l) (hb : Below n w w') (hn : n = w.heap.size) : IsTV w' v l := by
  obtain ⟨a, cap, e, hi⟩ := h
  exact ⟨a, cap, e, hi.below hb hn⟩
theorem OwnT.isTV {w : World} {base : Nat} {v : Value} {l : List (List UInt8)} (h : OwnT w base v l) : IsTV w v l := h.isT
theorem nthT_take (l : List (List UInt8)) (k i : Nat) (h : i < k) : nthT (l.take k) i = nthT l i := by
  unfold nthT; rw [List.getD_eq_getElem?_getD, List.getD_eq_getElem?_getD, List.getElem?_take, if_pos h]
theorem nthT_drop (l : List (List UInt8)) (k i : Nat) : nthT (l.drop k) i = nthT l (k + i) := by
  unfold nthT; rw [List.getD_eq_getElem?_getD, List.getD_eq_getElem?_getD, List.getElem?_drop]
theorem run_sizeT (w : World) : (sizeOf (Tryz.prog.elem 26)).run Tryz.prog w = .ok 1 w := by
  obtain ⟨i0, hi, hz0, hz1, hz2⟩ := info_parts infoS
  rw [show Tryz.prog.elem 26 = 9 by kernel_rfl]; simp [sizeOf, typeInfo, hi, hz1]
/-- l[:k] -/
theorem cutHeadT {w : World} {v : Value} {l : List (List UInt8)} (h : IsTV w v l) (k : Nat) (hk : k ≤ l.length) : ∃ v1, (∀ u, (Instr.slice 26 v none (some (.int .i64 (k : Int))) none).run Tryz.prog u = .ok v1 u) ∧ IsTV w v1 (l.take k) := by
  obtain ⟨a, cap, rfl, hi⟩ := h
  have hle := hi.le
  have he : Tryz.prog.elem 26 = 9 := by kernel_rfl
  refine ⟨.slice a k cap, fun u => ?_, a, cap, by rw [List.length_take, Nat.min_eq_left hk], ?_⟩
  · rw [run_slice_h u 26 a l.length cap (by rw [he]; exact Tryz.underlying26) .i64 (k : Int) (by omega) (by omega), run_sizeT]
    simp only [Result.andThen, sliced, Int.toNat_natCast, Nat.zero_mul, Nat.sub_zero]
    cases a with
    | none => simp
    | some x =>
      obtain ⟨b, o, s⟩ := x
      simp only [Option.map_some]
      have : (⟨b, o, s⟩ : Addr).add 0 = ⟨b, o, s⟩ := by unfold Addr.add; split <;> simp_all
      rw [this]; simp
  · refine ⟨rfl, by rw [List.length_take]; omega, hi.max, hi.nil, fun hp => ?_⟩
    rw [List.length_take] at hp
    obtain ⟨b, off, e1, hc⟩ := hi.cells (by omega)
    refine ⟨b, off, e1, fun i hi2 => ?_⟩
    rw [List.length_take] at hi2
    rw [nthT_take l k i (by omega)]
    exact hc i (by omega)
/-- l[k:] -/
theorem cutTailT {w : World} {v : Value} {l : List (List UInt8)} (h : IsTV w v l) (k : Nat) (hk : k ≤ l.length) : ∃ v1, (∀ u, (Instr.slice 26 v (some (.int .i64 (k : Int))) none none).run Tryz.prog u = .ok v1 u) ∧ IsTV w v1 (l.drop k) := by
  obtain ⟨a, cap, rfl, hi⟩ := h
  have hle := hi.le
  have hmx := hi.max
  have he : Tryz.prog.elem 26 = 9 := by kernel_rfl
  refine ⟨sliced a k l.length cap 1, fun u => ?_, if cap = k then a else a.map (·.add (k * 1)), cap - k, ?_, ?_⟩
  · rw [run_slice_l u 26 a l.length cap (by rw [he]; exact Tryz.underlying26) .i64 (k : Int) (by omega) (by omega), run_sizeT]
    simp only [Result.andThen, Int.toNat_natCast]
  · unfold sliced; rw [List.length_drop]
  · refine ⟨rfl, by rw [List.length_drop]; omega, by omega, fun e1 => ?_, fun hp => ?_⟩
    · by_cases hc : cap = k
      · omega
      · rw [if_neg hc] at e1
        cases a with
        | none => have := hi.nil rfl; omega
        | some x => simp at e1
    · rw [List.length_drop] at hp
      obtain ⟨b, off, e1, hc⟩ := hi.cells (by omega)
      subst e1
      refine ⟨b, off + k * 1, ?_, fun i hi2 => ?_⟩
      · rw [if_neg (by omega), Option.map_some, Addr.add_lit]
      · rw [List.length_drop] at hi2
        have := hc (k + i) (by omega)
        rw [nthT_drop, show off + k * 1 + i = off + (k + i) by omega]
        exact this
theorem OwnT.empty (w : World) (base : Nat) (hb : base ≤ w.heap.size) : OwnT (w.alloc (.cells #[] 9)) base (.slice (some ⟨w.heap.size, 0, none⟩) 0 0) [] :=
  World.ownsRow_made w #[] 0 hb (Nat.zero_le _) rfl
theorem OwnT.nil (w : World) (base : Nat) : OwnT w base (.slice none 0 0) [] := World.ownsRow_nil _ _ _ _
theorem OwnT.heap {w w' : World} {base : Nat} {v : Value} {l : List (List UInt8)} (h : OwnT w base v l) (eq : w'.heap = w.heap) : OwnT w' base v l := by
  unfold OwnT World.ownsRow at *; rw [eq]; exact h
theorem OwnT.base {w : World} {base base' : Nat} {v : Value} {l : List (List UInt8)} (h : OwnT w base v l) (hb : base' ≤ base) : OwnT w base' v l := by
  refine ⟨h.1, ?_⟩
  rcases h.2 with h2 | ⟨g, cap, cur, h3, h4, h5⟩
  · exact .inl h2
  · exact .inr ⟨g, cap, cur, h3, Nat.le_trans hb h4, h5⟩

/-- append(l, m...), at an operation -/
theorem wp_appT {o : Oper} {a : Act} {K : Act → World → Prop} {Q : Exit → Act → World → Prop} (w : World) (s x : Operand)
    (ho : o.op = .call { callee := .builtin .append, args := #[s, x], argTypes := #[26, 26] }) (base : Nat)
    (v : Value) (l : List (List UInt8)) (hs : a.eval s = v) (hown : OwnT w base v l) (vx : Value) (m : List (List UInt8)) (hx : a.eval x = vx) (hm : IsTV w vx m)
    (hbytes : (l.length + m.length) * 16 ≤ 140737488355328) (hbase : base ≤ w.heap.size)
    (h : ∀ v' w', OwnT w' base v' (l ++ m) → w.grownBy w' v.ownBlock → K (a.put o.dst v') w') : o.wp Tryz.prog a w K Q := by
  obtain ⟨i0, hi, hz0, hz1, hz2⟩ := info_parts infoS
  obtain ⟨ad, cap, rfl, hp⟩ := hm
  cases ad with
  | none =>
    have h0 := hp.nil rfl
    have hle := hp.le
    have hn : m = [] := List.eq_nil_of_length_eq_zero (by omega)
    subst hn h0
    have hrun := run_append_owned_none (P := Tryz.prog) (w := w) base 26 o.type 9 i0 1 Tryz.underlying26 hi v l.length (l.map sv) hown
    unfold Oper.wp
    simp only [List.length_nil] at hx
    simp [execOp, ho, resolve, invoke, builtin, hs, hx, hrun, Result.andThen]
    exact h v w (by rw [List.append_nil]; exact hown) (World.grownBy.refl _ _)
  | some ad =>
    refine wp_append_own w s x 26 ho base 9 i0 (.string ⟨#[]⟩) 1 16 Tryz.underlying26 hi hz0 hz1 hz2 rfl (by omega) v l.length (l.map sv) hs hown ad m.length cap (m.map sv) hx (by rw [List.length_map]; omega) ?_ (sv_one m) (by unfold maxLen; omega) hbytes hbase ?_
    · intro j u hj
      have hjl : j < m.length := by
        rcases Nat.lt_or_ge j m.length with h | h
        · exact h
        · rw [List.getElem?_eq_none (by rw [List.length_map]; exact h)] at hj; cases hj
      obtain ⟨b, off, e1, hc⟩ := hp.cells (by omega)
      have e1 := Option.some.inj e1
      rw [e1, Addr.add_lit, hc j hjl, ← sv_at m j hjl]; exact hj
    · intro v' w' h1 h2 _
      exact h v' w' (by unfold OwnT; rw [List.map_append, List.length_append]; exact h1) h2
/-- the same at a step of a region that draws -/
theorem step_appTs {ops : Array Oper} {o : Oper} {a : Act} {K : Act → World → Prop} {Q : Exit → Act → World → Prop} {E : Prop} (w : World) (hgd : o.guard = none) (s x : Operand)
    (ho : o.op = .call { callee := .builtin .append, args := #[s, x], argTypes := #[26, 26] }) (base : Nat)
    (v : Value) (l : List (List UInt8)) (hs : a.eval s = v) (hown : OwnT w base v l) (vx : Value) (m : List (List UInt8)) (hx : a.eval x = vx) (hm : IsTV w vx m)
    (hbytes : (l.length + m.length) * 16 ≤ 140737488355328) (hbase : base ≤ w.heap.size)
    (h : ∀ v' w', OwnT w' base v' (l ++ m) → w.grownBy w' v.ownBlock → K (a.put o.dst v') w') :
    if Region.wanted o (yielded ops a.tmps) = true then Oper.wp Tryz.prog o a w K Q else E := by
  have hw : Region.wanted o (yielded ops a.tmps) = true := by simp [Region.wanted, hgd]
  rw [if_pos hw]
  exact wp_appT w s x ho base v l hs hown vx m hx hm hbytes hbase h
/-- one text in a block of its own -/
theorem isTV_one {w : World} {B : Nat} (x : List UInt8) (hb : w.heap[B]? = some (.cells #[.string (str x)] 9 (0, 0))) : IsTV w (.slice (some ⟨B, 0, none⟩) 1 1) [x] := by
  refine ⟨some ⟨B, 0, none⟩, 1, rfl, rfl, Nat.le_refl _, by unfold maxLen; decide, fun e => (by cases e), fun _ => ⟨B, 0, rfl, fun i hi => ?_⟩⟩
  have : i = 0 := by simpa using hi
  subst this
  rw [cell_of_row w B _ _ _ _ hb]
  rfl

/-- where a text comes to stand, from behind -/
def insKT (out : List (List UInt8)) (p : List UInt8) : Nat → Nat
  | 0 => 0
  | k + 1 => if Op.bytesLess p (nthT out k) then insKT out p k else k + 1
def insT (out : List (List UInt8)) (p : List UInt8) : List (List UInt8) := out.take (insKT out p out.length) ++ p :: out.drop (insKT out p out.length)
def leT (x y : List UInt8) : Bool := !Op.bytesLess y x
theorem leT_trans (x y z : List UInt8) (h1 : leT x y = true) (h2 : leT y z = true) : leT x z = true := by
  unfold leT at *
  simp only [Bool.not_eq_true'] at *
  cases h : Op.bytesLess z x with
  | false => rfl
  | true =>
    rcases bless_total y z with h3 | h3 | h3
    · rw [bless_trans _ _ _ h3 h] at h1; cases h1
    · subst h3; rw [h] at h1; cases h1
    · rw [h3] at h2; cases h2
theorem leT_antisymm (x y : List UInt8) (h1 : leT x y = true) (h2 : leT y x = true) : x = y := by
  unfold leT at *
  simp only [Bool.not_eq_true'] at *
  rcases bless_total x y with h3 | h3 | h3
  · rw [h3] at h2; cases h2
  · exact h3
  · rw [h3] at h1; cases h1
theorem leT_of_less {x y : List UInt8} (h : Op.bytesLess x y = true) : leT x y = true := by
  unfold leT
  rw [less_no h]; rfl
theorem leT_total (x y : List UInt8) : leT x y = true ∨ leT y x = true := by
  rcases bless_total x y with h3 | h3 | h3
  · exact .inl (leT_of_less h3)
  · subst h3; left; unfold leT; rw [bless_irrefl]; rfl
  · exact .inr (leT_of_less h3)
theorem insKT_le (out : List (List UInt8)) (p : List UInt8) (k : Nat) : insKT out p k ≤ k := by
  induction k with
  | zero => exact Nat.le_refl _
  | succ k ih => rw [insKT]; split <;> omega
theorem insT_perm (out : List (List UInt8)) (p : List UInt8) : (insT out p).Perm (p :: out) := by
  unfold insT
  refine List.perm_middle.trans ?_
  rw [List.take_append_drop]
theorem insKT_ahead (out : List (List UInt8)) (p : List UInt8) (k : Nat) (h : 0 < insKT out p k) : Op.bytesLess p (nthT out (insKT out p k - 1)) = false := by
  induction k with
  | zero => exact absurd h (Nat.lt_irrefl 0)
  | succ k ih =>
    rw [insKT] at h ⊢
    by_cases hg : Op.bytesLess p (nthT out k) = true
    · rw [if_pos hg] at h ⊢; exact ih h
    · rw [if_neg hg]; simpa using hg
theorem insKT_behind (out : List (List UInt8)) (p : List UInt8) (k i : Nat) (h1 : insKT out p k ≤ i) (h2 : i < k) : Op.bytesLess p (nthT out i) = true := by
  induction k with
  | zero => omega
  | succ k ih =>
    rw [insKT] at h1
    by_cases hg : Op.bytesLess p (nthT out k) = true
    · rw [if_pos hg] at h1
      rcases Nat.lt_or_ge i k with h | h
      · exact ih h1 h
      · have : i = k := by omega
        subst this; exact hg
    · rw [if_neg hg] at h1; omega
theorem insT_sorted (out : List (List UInt8)) (p : List UInt8) (h : out.Pairwise (fun a b => leT a b = true)) : (insT out p).Pairwise (fun a b => leT a b = true) := by
  have hk := insKT_le out p out.length
  unfold insT
  rw [List.pairwise_append]
  have h' := h
  rw [← List.take_append_drop (insKT out p out.length) out, List.pairwise_append] at h'
  obtain ⟨s1, s2, s3⟩ := h'
  have behind : ∀ q ∈ out.drop (insKT out p out.length), leT p q = true := by
    intro q hq
    obtain ⟨i, hi, rfl⟩ := List.getElem_of_mem hq
    rw [List.length_drop] at hi
    have := insKT_behind out p out.length (insKT out p out.length + i) (by omega) (by omega)
    rw [List.getElem_drop]
    rw [nthT_eq _ _ (by omega)] at this
    exact leT_of_less this
  have ahead : ∀ q ∈ out.take (insKT out p out.length), leT q p = true := by
    intro q hq
    obtain ⟨i, hi, rfl⟩ := List.getElem_of_mem hq
    rw [List.length_take] at hi
    have h0 : 0 < insKT out p out.length := by omega
    have hl := insKT_ahead out p out.length h0
    rw [nthT_eq _ _ (by omega)] at hl
    have hle : leT (out[insKT out p out.length - 1]'(by omega)) p = true := by unfold leT; rw [hl]; rfl
    rw [List.getElem_take]
    rcases Nat.lt_or_ge i (insKT out p out.length - 1) with hlt | hge
    · exact leT_trans _ _ _ (List.pairwise_iff_getElem.1 h i (insKT out p out.length - 1) (by omega) (by omega) hlt) hle
    · have : i = insKT out p out.length - 1 := by omega
      subst this; exact hle
  refine ⟨s1, List.pairwise_cons.2 ⟨behind, s2⟩, fun a ha b hb => ?_⟩
  rcases List.mem_cons.1 hb with rfl | hb
  · exact ahead a ha
  · exact s3 a ha b hb
def sortT (l : List (List UInt8)) : List (List UInt8) := l.foldl insT []
theorem sortT_take (l : List (List UInt8)) (k : Nat) (h : k < l.length) : sortT (l.take (k + 1)) = insT (sortT (l.take k)) (nthT l k) := by
  rw [takeT l k h]; unfold sortT; rw [List.foldl_append]; rfl
theorem sortT_all (l : List (List UInt8)) : ∀ acc : List (List UInt8), acc.Pairwise (fun a b => leT a b = true) → (l.foldl insT acc).Pairwise (fun a b => leT a b = true) ∧ (l.foldl insT acc).Perm (acc ++ l) := by
  induction l with
  | nil => intro acc h; exact ⟨h, by simp⟩
  | cons p l ih =>
    intro acc h
    obtain ⟨h1, h2⟩ := ih (insT acc p) (insT_sorted acc p h)
    refine ⟨h1, ?_⟩
    refine h2.trans ?_
    refine ((insT_perm acc p).append_right l).trans ?_
    exact List.perm_middle.symm
theorem sortT_length (l : List (List UInt8)) : (sortT l).length = l.length := by
  have := (sortT_all l [] List.Pairwise.nil).2.length_eq
  show (l.foldl insT []).length = _
  simpa using this
/-- the document's order is mergeSort's -/
theorem sortT_merge (l : List (List UInt8)) : sortT l = l.mergeSort (fun x y => leT x y) := by
  obtain ⟨h1, h2⟩ := sortT_all l [] List.Pairwise.nil
  refine List.Perm.eq_of_pairwise (fun a b _ _ h1 h2 => leT_antisymm a b h1 h2) h1 ?_ (h2.trans (List.mergeSort_perm _ _).symm)
  exact List.pairwise_mergeSort (fun a b c => leT_trans a b c) (fun a b => by simpa using leT_total a b) _
end Go.Proofs.YtgjmaeodgcigdaaGreatDoor
