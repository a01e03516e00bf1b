/- Plain facts: the canonical text is read as the same pairs. -/
import Derived.Test.YtabhifhmhojpbabUri4
import Derived.Test.YtabhifhmhojpbabUri5
namespace Go.Proofs.Ytabhifhmhojpbab

/-- encoded bytes are none of the signs that part pairs -/
theorem hexU_clean (n : Nat) (h : n < 16) : hexU n ≠ 38 ∧ hexU n ≠ 61 := by
  have : ∀ n : Nat, n < 16 → hexU n ≠ 38 ∧ hexU n ≠ 61 := by decide
  exact this n h
theorem enc_clean (x : List UInt8) : ∀ c ∈ encL false x, c ≠ 38 ∧ c ≠ 61 := by
  induction x with
  | nil => intro c hc; cases hc
  | cons a x ih =>
    intro c hc
    rw [encL, List.mem_append] at hc
    rcases hc with hc | hc
    · unfold enc1 at hc
      by_cases h : keptB false a = true
      · rw [if_pos h, List.mem_singleton] at hc
        subst hc
        constructor
        · rintro rfl; exact absurd h (by decide)
        · rintro rfl; exact absurd h (by decide)
      · rw [if_neg h] at hc
        have ha := a.toNat_lt
        simp only [List.mem_cons, List.not_mem_nil, or_false] at hc
        rcases hc with rfl | rfl | rfl
        · decide
        · exact hexU_clean _ (by omega)
        · exact hexU_clean _ (by omega)
    · exact ih c hc
/-- signs that don't part are gathered -/
theorem step_clean (c a : UInt8) (init : List (List UInt8)) (last : List UInt8) (h : a ≠ c) : cutStep c (init ++ [last]) a = init ++ [last ++ [a]] := by
  unfold cutStep
  rw [if_neg h, List.length_append, List.length_singleton, Nat.add_sub_cancel]
  have e : nthT (init ++ [last]) init.length = last := by
    rw [nthT_eq _ _ (by simp)]; simp
  rw [e, List.set_append_right _ _ (Nat.le_refl _), Nat.sub_self]; rfl
theorem fold_clean (c : UInt8) (x : List UInt8) : ∀ (init : List (List UInt8)) (last : List UInt8), (∀ a ∈ x, a ≠ c) → x.foldl (cutStep c) (init ++ [last]) = init ++ [last ++ x] := by
  induction x with
  | nil => intro init last _; simp
  | cons a x ih =>
    intro init last h
    rw [List.foldl_cons, step_clean c a init last (h a List.mem_cons_self), ih init (last ++ [a]) (fun b hb => h b (List.mem_cons_of_mem a hb))]
    simp
theorem cut_sep (c : UInt8) (y x : List UInt8) (h : ∀ a ∈ x, a ≠ c) : cutL c (y ++ [c] ++ x) = cutL c y ++ [x] := by
  unfold cutL
  rw [List.foldl_append, List.foldl_append]
  have e : [c].foldl (cutStep c) (y.foldl (cutStep c) [[]]) = y.foldl (cutStep c) [[]] ++ [[]] := by
    rw [List.foldl_cons, List.foldl_nil]; unfold cutStep; rw [if_pos rfl]
  rw [e, fold_clean c x _ [] h]; simp
theorem cut_one (c : UInt8) (x : List UInt8) (h : ∀ a ∈ x, a ≠ c) : cutL c x = [x] := by
  unfold cutL
  have := fold_clean c x [] [] h
  simpa using this
/-- a pair's text -/
def pt (p : Pr) : List UInt8 := p.1 ++ [61] ++ p.2
def CleanP (p : Pr) : Prop := (∀ c ∈ p.1, c ≠ 38 ∧ c ≠ 61) ∧ ∀ c ∈ p.2, c ≠ 38 ∧ c ≠ 61
theorem pt_clean {p : Pr} (h : CleanP p) : ∀ a ∈ pt p, a ≠ 38 := by
  intro a ha
  unfold pt at ha
  rw [List.mem_append, List.mem_append, List.mem_singleton] at ha
  rcases ha with (ha | rfl) | ha
  · exact (h.1 a ha).1
  · decide
  · exact (h.2 a ha).1
theorem cut_join (ps : List Pr) (h : ∀ i, i < ps.length → CleanP (nthP ps i)) (k : Nat) (hk : k + 1 ≤ ps.length) : cutL 38 (joinK ps (k + 1)) = (ps.take (k + 1)).map pt := by
  induction k with
  | zero =>
    have e : joinK ps (0 + 1) = pt (nthP ps 0) := by simp [joinK, pt]
    rw [e, cut_one 38 _ (pt_clean (h 0 (by omega))), take_nthP ps 0 (by omega)]; simp
  | succ k ih =>
    have e : joinK ps (k + 1 + 1) = joinK ps (k + 1) ++ [38] ++ pt (nthP ps (k + 1)) := by
      rw [joinK, if_pos (by omega)]; unfold pt; simp
    rw [e, cut_sep 38 _ _ (pt_clean (h (k + 1) (by omega))), ih (by omega), take_nthP ps (k + 1) (by omega), List.map_append]; rfl
theorem cut_joinL (ps : List Pr) (h : ∀ i, i < ps.length → CleanP (nthP ps i)) (hn : 0 < ps.length) : cutL 38 (joinL ps) = ps.map pt := by
  unfold joinL
  obtain ⟨k, hk⟩ : ∃ k, ps.length = k + 1 := ⟨ps.length - 1, by omega⟩
  rw [hk, cut_join ps h k (by omega), ← hk, List.take_length]
theorem head_pt {p : Pr} (h : CleanP p) : headL 61 (pt p) = p.1 ∧ tailL 61 (pt p) = p.2 := by
  have e : pt p = p.1 ++ 61 :: p.2 := by simp [pt]
  rw [e]
  have n1 : ∀ i (hi : i < p.1.length), nth (p.1 ++ 61 :: p.2) i = p.1[i] := by
    intro i hi
    unfold nth; rw [List.getD_eq_getElem?_getD, List.getElem?_append_left hi, List.getElem?_eq_getElem hi]; rfl
  have n2 : nth (p.1 ++ 61 :: p.2) p.1.length = 61 := by
    unfold nth; rw [List.getD_eq_getElem?_getD, List.getElem?_append_right (Nat.le_refl _), Nat.sub_self]; rfl
  have := head_at 61 (p.1 ++ 61 :: p.2) p.1.length (by simp) (fun i hi => by rw [n1 i hi]; exact (h.1 _ (List.getElem_mem _)).2) n2
  rw [this.1, this.2]
  constructor
  · simp
  · rw [← List.drop_drop]; simp

/-- pairs as a query may have them -/
structure GoodP (l : List Pr) : Prop where
  named : ∀ p ∈ l, p.1 ≠ []
  apart : l.Pairwise (fun a b => a.1 ≠ b.1)
theorem find_mem (l : List Pr) (h : l.Pairwise (fun a b => a.1 ≠ b.1)) (p : Pr) (hp : p ∈ l) : findL l p.1 = some p.2 := by
  induction l with
  | nil => cases hp
  | cons q l ih =>
    rw [List.pairwise_cons] at h
    unfold findL
    by_cases e : q.1 = p.1
    · rw [List.find?_cons_of_pos (by simpa using e)]
      rcases List.mem_cons.1 hp with rfl | hp'
      · rfl
      · exact absurd e (h.1 p hp')
    · rw [List.find?_cons_of_neg (by simpa using e)]
      rcases List.mem_cons.1 hp with rfl | hp'
      · exact absurd rfl e
      · exact ih h.2 hp'
theorem find_not (l : List Pr) (n : List UInt8) (h : ∀ p ∈ l, p.1 ≠ n) : findL l n = none := by
  unfold findL
  rw [List.find?_eq_none.2 (fun p hp => by simpa using h p hp)]; rfl
theorem find_some_mem {l : List Pr} {n : List UInt8} (h : (findL l n).isSome = true) : ∃ p ∈ l, p.1 = n := by
  unfold findL at h
  cases e : l.find? (fun p => p.1 == n) with
  | none => rw [e] at h; cases h
  | some p => exact ⟨p, List.mem_of_find?_eq_some e, by simpa using List.find?_some e⟩

/-- the parts of encoded pairs are read as the pairs -/
theorem fold_pts (m : List Pr) : ∀ out : List Pr, GoodP (out ++ m) → ((m.map encP).map pt).foldl qStep (some out) = some (out ++ m) := by
  induction m with
  | nil => intro out _; simp
  | cons p m ih =>
    intro out h
    have hc : CleanP (encP p) := ⟨enc_clean p.1, enc_clean p.2⟩
    obtain ⟨h1, h2⟩ := head_pt hc
    rw [List.map_cons, List.map_cons, List.foldl_cons]
    have hs : qStep (some out) (pt (encP p)) = some (out ++ [p]) := by
      unfold qStep
      have d1 : decL (headL 61 (pt (encP p))) = some p.1 := by rw [h1]; exact dec_enc false p.1
      have d2 : decL (tailL 61 (pt (encP p))) = some p.2 := by rw [h2]; exact dec_enc false p.2
      simp only [d1, d2]
      have hne : p.1 ≠ [] := h.named p (by simp)
      have hnf : findL out p.1 = none := by
        refine find_not out p.1 fun q hq => ?_
        have := h.apart
        rw [List.pairwise_append] at this
        exact this.2.2 q hq p List.mem_cons_self
      rw [if_neg (by rw [hnf]; simp [hne])]
    rw [hs, ih (out ++ [p]) (by rw [List.append_assoc]; exact h)]
    simp
theorem encP_inj {p q : Pr} (h : encP p = encP q) : p = q := by
  unfold encP at h
  injection h with h1 h2
  exact Prod.ext (encL_inj false _ _ h1) (encL_inj false _ _ h2)
theorem GoodP.perm {l m : List Pr} (h : GoodP l) (hp : m.Perm l) : GoodP m :=
  ⟨fun p hm => h.named p (hp.mem_iff.1 hm), (hp.symm.pairwise h.apart (fun hab => hab.symm))⟩
/-- sorted pairs, and what they stand for -/
theorem sort_back (l : List Pr) : ∃ m : List Pr, m.Perm l ∧ sortL l = m.map encP := by
  have hp := sortL_perm l
  have key : ∀ (xs ys : List Pr), xs.Perm (ys.map encP) → ∃ m : List Pr, m.Perm ys ∧ xs = m.map encP := by
    intro xs
    induction xs with
    | nil =>
      intro ys h
      have : ys = [] := by
        have := h.length_eq
        simp at this
        exact List.eq_nil_of_length_eq_zero this.symm
      subst this
      exact ⟨[], List.Perm.refl _, rfl⟩
    | cons x xs ih =>
      intro ys h
      have hx : x ∈ ys.map encP := h.mem_iff.1 List.mem_cons_self
      obtain ⟨p, hp, rfl⟩ := List.mem_map.1 hx
      have hy := List.perm_cons_erase hp
      have h2 : xs.Perm ((ys.erase p).map encP) := by
        have h3 := h.trans (hy.map encP)
        rw [List.map_cons] at h3
        exact List.Perm.cons_inv h3
      obtain ⟨m, hm, e⟩ := ih _ h2
      exact ⟨p :: m, (hm.cons p).trans hy.symm, by rw [e, List.map_cons]⟩
  exact key _ _ hp
theorem query_canon (l : List Pr) (h : GoodP l) (hn : 0 < l.length) (h24 : l.length ≤ 24) : ∃ m : List Pr, m.Perm l ∧ queryL (canonL l) = some m := by
  obtain ⟨m, hm, e⟩ := sort_back l
  refine ⟨m, hm, ?_⟩
  have hml : m.length = l.length := hm.length_eq
  have hcl : ∀ i, i < (m.map encP).length → CleanP (nthP (m.map encP) i) := by
    intro i hi
    rw [nthP_eq _ _ hi, List.getElem_map]
    exact ⟨enc_clean _, enc_clean _⟩
  have hcut : cutL 38 (canonL l) = (m.map encP).map pt := by
    unfold canonL; rw [e]; exact cut_joinL _ hcl (by rw [List.length_map]; omega)
  have hne : canonL l ≠ [] := by
    intro h0
    have hl := congrArg List.length hcut
    rw [h0] at hcut
    have h1 : [[]] = (m.map encP).map pt := hcut
    match m, hml with
    | [], hh => simp at hh; omega
    | p :: m', _ =>
      rw [List.map_cons, List.map_cons] at h1
      injection h1 with h1 _
      unfold pt at h1
      have := congrArg List.length h1
      simp at this
  unfold queryL
  rw [if_neg hne, hcut, if_neg (by simp; omega)]
  have := fold_pts m [] (by rw [List.nil_append]; exact h.perm hm)
  rw [this]; rfl
/-- what a query has been read as -/
theorem fold_good (ps : List (List UInt8)) : ∀ (out res : List Pr), GoodP out → ps.foldl qStep (some out) = some res → GoodP res ∧ res.length = out.length + ps.length := by
  induction ps with
  | nil =>
    intro out res h e
    injection e with e
    subst e
    exact ⟨h, rfl⟩
  | cons p ps ih =>
    intro out res h e
    rw [List.foldl_cons] at e
    cases hs : qStep (some out) p with
    | none => rw [hs, qStep_none] at e; cases e
    | some out' =>
      rw [hs] at e
      unfold qStep at hs
      cases d1 : decL (headL 61 p) with
      | none => simp only [d1] at hs; cases hs
      | some n =>
        cases d2 : decL (tailL 61 p) with
        | none => simp only [d1, d2] at hs; cases hs
        | some v =>
          simp only [d1, d2] at hs
          by_cases hc : n = [] ∨ (findL out n).isSome = true
          · rw [if_pos hc] at hs; cases hs
          · rw [if_neg hc] at hs
            injection hs with hs
            subst hs
            have hg : GoodP (out ++ [(n, v)]) := by
              constructor
              · intro q hq
                rcases List.mem_append.1 hq with hq | hq
                · exact h.named q hq
                · rw [List.mem_singleton.1 hq]; exact fun e0 => hc (.inl e0)
              · rw [List.pairwise_append]
                refine ⟨h.apart, List.pairwise_singleton _ _, fun a ha b hb => ?_⟩
                rw [List.mem_singleton.1 hb]
                intro e0
                apply hc
                right
                have e0' : a.1 = n := e0
                rw [← e0', find_mem out h.apart a ha]; rfl
            obtain ⟨r1, r2⟩ := ih _ _ hg e
            exact ⟨r1, by rw [r2]; simp; omega⟩
theorem query_good {s : List UInt8} {l : List Pr} (h : queryL s = some l) : GoodP l ∧ l.length ≤ 24 := by
  unfold queryL at h
  by_cases h0 : s = []
  · rw [if_pos h0] at h
    injection h with h
    subst h
    exact ⟨⟨fun p hp => (by cases hp), List.Pairwise.nil⟩, by simp⟩
  · rw [if_neg h0] at h
    by_cases h1 : 24 < (cutL 38 s).length
    · rw [if_pos h1] at h; cases h
    · rw [if_neg h1] at h
      obtain ⟨g, e⟩ := fold_good _ [] l ⟨fun p hp => (by cases hp), List.Pairwise.nil⟩ h
      exact ⟨g, by rw [e]; simp; omega⟩
end Go.Proofs.Ytabhifhmhojpbab
