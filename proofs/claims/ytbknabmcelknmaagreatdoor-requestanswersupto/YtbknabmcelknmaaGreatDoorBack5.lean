/- Plain facts: what is shown is parsed as it was. -/
import Derived.Test.YtbknabmcelknmaaGreatDoorReq5
namespace Go.Proofs.YtbknabmcelknmaaGreatDoor

theorem line_app (a rest : List UInt8) (h : ∀ c ∈ a, ¬ c = 13) : lineL (a ++ [13, 10] ++ rest) = some (a, rest) := by
  induction a with
  | nil => rfl
  | cons x a ih =>
    have hx : ¬ x = 13 := h x (List.mem_cons_self ..)
    have ih := ih (fun c hc => h c (List.mem_cons_of_mem _ hc))
    show lineL (x :: (a ++ [13, 10] ++ rest)) = _
    rw [lineL, if_neg (fun e => hx e.1), ih]; rfl
theorem head_app (c : UInt8) (a b : List UInt8) (h : ∀ x ∈ a, ¬ x = c) : headL c (a ++ c :: b) = a ∧ tailL c (a ++ c :: b) = b ∧ hasL c (a ++ c :: b) = true := by
  induction a with
  | nil => exact ⟨by simp [headL], by simp [tailL], by simp [hasL]⟩
  | cons x a ih =>
    have hx : ¬ x = c := h x (List.mem_cons_self ..)
    obtain ⟨h1, h2, h3⟩ := ih (fun y hy => h y (List.mem_cons_of_mem _ hy))
    refine ⟨?_, ?_, by simp [hasL]⟩
    · show headL c (x :: (a ++ c :: b)) = _
      unfold headL at h1 ⊢; rw [List.takeWhile_cons_of_pos (by simpa using hx), h1]
    · show tailL c (x :: (a ++ c :: b)) = _
      unfold tailL at h2 ⊢; rw [List.dropWhile_cons_of_pos (by simpa using hx), h2]
theorem head_no (c : UInt8) (a : List UInt8) (h : ∀ x ∈ a, ¬ x = c) : headL c a = a ∧ tailL c a = [] := by
  induction a with
  | nil => exact ⟨rfl, rfl⟩
  | cons x a ih =>
    have hx : ¬ x = c := h x (List.mem_cons_self ..)
    obtain ⟨h1, h2⟩ := ih (fun y hy => h y (List.mem_cons_of_mem _ hy))
    refine ⟨?_, ?_⟩
    · unfold headL at h1 ⊢; rw [List.takeWhile_cons_of_pos (by simpa using hx), h1]
    · unfold tailL at h2 ⊢; rw [List.dropWhile_cons_of_pos (by simpa using hx), h2]
theorem has_no {c : UInt8} {a : List UInt8} (h : hasL c a = false) : ∀ x ∈ a, ¬ x = c := by
  intro x hx e
  subst e
  unfold hasL at h
  exact absurd (of_decide_eq_false h) (fun k => k hx)
theorem suffix_app (t p : List UInt8) : Lib.hasSuffix (t ++ p) p = true ∧ Lib.trimSuffix (t ++ p) p = t := by
  have h : Lib.hasSuffix (t ++ p) p = true := by unfold Lib.hasSuffix; rw [List.isSuffixOf_iff_suffix]; exact List.suffix_append ..
  refine ⟨h, ?_⟩
  unfold Lib.trimSuffix
  rw [if_pos h]
  simp
theorem betw_all {lo hi most : Nat} {l : List UInt8} (h : betwL lo hi most l = true) : (∀ c ∈ l, lo ≤ c.toNat ∧ c.toNat ≤ hi) ∧ l.length ≤ most := by
  unfold betwL at h
  rw [Bool.and_eq_true] at h
  refine ⟨fun c hc => ?_, of_decide_eq_true h.2⟩
  have := List.all_eq_true.1 h.1 c hc
  unfold betwB at this
  exact of_decide_eq_true this
theorem betw_mk {lo hi most : Nat} {l : List UInt8} (h : ∀ c ∈ l, lo ≤ c.toNat ∧ c.toNat ≤ hi) (h2 : l.length ≤ most) : betwL lo hi most l = true := by
  unfold betwL
  rw [Bool.and_eq_true]
  exact ⟨List.all_eq_true.2 fun c hc => by unfold betwB; exact decide_eq_true (h c hc), decide_eq_true h2⟩
theorem token_no {l : List UInt8} (h : tokenL l = true) : (∀ c ∈ l, tokB c = true) ∧ 1 ≤ l.length ∧ l.length ≤ 64 := by
  unfold tokenL at h
  rw [Bool.and_eq_true] at h
  exact ⟨List.all_eq_true.1 h.1, of_decide_eq_true h.2⟩
theorem tok_ne {c : UInt8} (h : tokB c = true) : ¬ c = 58 ∧ ¬ c = 13 := by
  unfold tokB tokN at h
  have := of_decide_eq_true h
  constructor
  · rintro rfl; revert this; decide
  · rintro rfl; revert this; decide
/-- a header that can be shown; a path and a query; what stands against a request -/
def hsC (p : Pr) : Bool := tokenL p.1 && decide (p.1 = lowC p.1) && valC p.2
def pathOkC (r : Rq) : Bool := !hasL 63 r.p && betwL 33 126 1024 r.p && betwL 33 126 1024 (63 :: r.q)
def fitsC (r : Rq) : Int := if methodL r.m = false then 10 else if pathOkC r = false then 13 else if r.hs.all hsC = false then 11 else 0
theorem hsC_iff {p : Pr} (h : hsC p = true) : tokenL p.1 = true ∧ p.1 = lowC p.1 ∧ valC p.2 = true := by
  unfold hsC at h
  rw [Bool.and_eq_true, Bool.and_eq_true] at h
  exact ⟨h.1.1, of_decide_eq_true h.1.2, h.2⟩
theorem hsC_mk {p : Pr} (h1 : tokenL p.1 = true) (h2 : p.1 = lowC p.1) (h3 : valC p.2 = true) : hsC p = true := by
  unfold hsC; rw [h1, h3, decide_eq_true h2]; rfl
theorem fits_iff {r : Rq} (h : fitsC r = 0) : methodL r.m = true ∧ pathOkC r = true ∧ ∀ p ∈ r.hs, hsC p = true := by
  unfold fitsC at h
  cases h1 : methodL r.m with
  | false => rw [h1] at h; simp at h
  | true =>
    cases h2 : pathOkC r with
    | false => rw [h1, h2] at h; simp at h
    | true =>
      cases h3 : r.hs.all hsC with
      | false => rw [h1, h2, h3] at h; simp at h
      | true => exact ⟨rfl, rfl, List.all_eq_true.1 h3⟩
theorem fits_mk {r : Rq} (h1 : methodL r.m = true) (h2 : pathOkC r = true) (h3 : ∀ p ∈ r.hs, hsC p = true) : fitsC r = 0 := by
  unfold fitsC; rw [h1, h2, List.all_eq_true.2 h3]; rfl
theorem pathOk_iff {r : Rq} (h : pathOkC r = true) : hasL 63 r.p = false ∧ betwL 33 126 1024 r.p = true ∧ betwL 33 126 1024 (63 :: r.q) = true := by
  unfold pathOkC at h
  rw [Bool.and_eq_true, Bool.and_eq_true] at h
  exact ⟨by simpa using h.1.1, h.1.2, h.2⟩
theorem val_facts {v : List UInt8} (h : valC v = true) : v.length ≤ 1024 ∧ (∀ c ∈ v, 32 ≤ c.toNat ∧ c.toNat ≤ 126) ∧ trimC v = v := by
  unfold valC at h
  rw [Bool.and_eq_true, Bool.and_eq_true] at h
  refine ⟨of_decide_eq_true h.1.1, fun c hc => ?_, (of_decide_eq_true h.2).symm⟩
  have := List.all_eq_true.1 h.1.2 c hc
  unfold betwB at this
  exact of_decide_eq_true this
theorem trim_blank (v : List UInt8) (h : trimC v = v) : trimC (32 :: v) = v := by
  unfold trimC Lib.trimB at h ⊢
  have key : Lib.trimLeftB (Lib.trimRightB (32 :: v) 32) 32 = Lib.trimLeftB (Lib.trimRightB v 32) 32 := by
    unfold Lib.trimRightB
    rw [List.reverse_cons, List.dropWhile_append]
    cases hd : v.reverse.dropWhile (· == 32) with
    | nil => simp [Lib.trimLeftB]
    | cons x r => simp [Lib.trimLeftB]
  rw [key, h]

theorem all_bytes {P : UInt8 → Prop} (h : ∀ n : Fin 256, P (UInt8.ofNat n.val)) (c : UInt8) : P c := by
  have := h ⟨c.toNat, c.toNat_lt⟩
  simpa using this
theorem low_tok (c : UInt8) : tokB c = true → tokB (Lib.lowerB c) = true := all_bytes (P := fun c => tokB c = true → tokB (Lib.lowerB c) = true) (by decide +kernel) c
theorem low_low (c : UInt8) : Lib.lowerB (Lib.lowerB c) = Lib.lowerB c := all_bytes (P := fun c => Lib.lowerB (Lib.lowerB c) = Lib.lowerB c) (by decide +kernel) c
theorem token_low {l : List UInt8} (h : tokenL l = true) : tokenL (lowC l) = true := by
  obtain ⟨h1, h2, h3⟩ := token_no h
  unfold tokenL lowC Lib.toLowerA
  rw [Bool.and_eq_true]
  refine ⟨List.all_eq_true.2 fun c hc => ?_, decide_eq_true (by rw [List.length_map]; exact ⟨h2, h3⟩)⟩
  obtain ⟨d, hd, rfl⟩ := List.mem_map.1 hc
  exact low_tok d (h1 d hd)
theorem lowC_low (l : List UInt8) : lowC l = lowC (lowC l) := by
  unfold lowC Lib.toLowerA
  rw [List.map_map]
  exact List.map_congr_left fun c _ => (low_low c).symm
theorem meth_no {m : List UInt8} (h : methodL m = true) : ∀ c ∈ m, ¬ c = 32 ∧ ¬ c = 13 := by
  unfold methodL at h
  rcases of_decide_eq_true h with rfl | rfl | rfl | rfl | rfl <;> decide
/-- the first line, and what is behind it -/
def line1 (r : Rq) : List UInt8 := r.m ++ 32 :: (targL r ++ sfx)
def rest1 (r : Rq) : List UInt8 := hlines r.hs ++ [13, 10] ++ r.b
theorem rtext_parts (r : Rq) : rtext r = line1 r ++ [13, 10] ++ rest1 r := by
  unfold rtext line1 rest1 sfx http11
  simp only [List.append_assoc, List.cons_append, List.nil_append]
theorem ne_of_betw {c d : UInt8} (h : 33 ≤ c.toNat) (hd : d.toNat < 33) : ¬ c = d := by rintro rfl; omega
theorem first_rtext (r : Rq) (hm : methodL r.m = true) (ht : ∀ c ∈ targL r, 33 ≤ c.toNat ∧ c.toNat ≤ 126) :
    lineL (rtext r) = some (line1 r, rest1 r) ∧ headL 32 (line1 r) = r.m ∧ tgtC (line1 r) = targL r ∧ firstC (line1 r) = decide ((targL r).length ≤ 1024) := by
  have h13 : ∀ c ∈ line1 r, ¬ c = 13 := by
    intro c hc
    unfold line1 sfx at hc
    simp only [List.mem_append, List.mem_cons, List.not_mem_nil, or_false] at hc
    rcases hc with hc | rfl | hc | hc
    · exact (meth_no hm c hc).2
    · decide
    · exact ne_of_betw (ht c hc).1 (by decide)
    · rintro rfl; revert hc; decide
  obtain ⟨e1, e2, e3⟩ := head_app 32 r.m (targL r ++ sfx) (fun c hc => (meth_no hm c hc).1)
  obtain ⟨s1, s2⟩ := suffix_app (targL r) sfx
  have et : tgtC (line1 r) = targL r := by unfold tgtC line1; rw [e2, s2]
  refine ⟨by rw [rtext_parts]; exact line_app _ _ h13, e1, et, ?_⟩
  unfold firstC
  rw [et]
  have eh : headL 32 (line1 r) = r.m := e1
  have el : tailL 32 (line1 r) = targL r ++ sfx := e2
  rw [eh, el, s1, hm]
  unfold betwL
  rw [List.all_eq_true.2 (fun c hc => by unfold betwB; exact decide_eq_true (ht c hc))]
  rfl
theorem targ_parts (r : Rq) (h : hasL 63 r.p = false) : headL 63 (targL r) = r.p ∧ tailL 63 (targL r) = r.q := by
  unfold targL
  by_cases hq : r.q = []
  · rw [if_pos hq, hq]; exact head_no 63 r.p (has_no h)
  · rw [if_neg hq]
    obtain ⟨h1, h2, _⟩ := head_app 63 r.p r.q (has_no h)
    rw [List.append_assoc]
    exact ⟨h1, h2⟩
/-- each header is another one, and there are no more than may be -/
def MoreAll : List Pr → List Pr → Prop
  | _, [] => True
  | acc, p :: hs => moreC acc p = true ∧ MoreAll (acc ++ [p]) hs
theorem hline_facts (p : Pr) (h : hsC p = true) (rest : List UInt8) : lineL (hline p ++ rest) = some (p.1 ++ 58 :: (32 :: p.2), rest) ∧ ¬ p.1 ++ 58 :: (32 :: p.2) = [] ∧ hdC (p.1 ++ 58 :: (32 :: p.2)) = true ∧ hdP (p.1 ++ 58 :: (32 :: p.2)) = p := by
  obtain ⟨h1, h2, h3⟩ := hsC_iff h
  obtain ⟨t1, _, _⟩ := token_no h1
  obtain ⟨v1, v2, v3⟩ := val_facts h3
  obtain ⟨e1, e2, e3⟩ := head_app 58 p.1 (32 :: p.2) (fun c hc => (tok_ne (t1 c hc)).1)
  refine ⟨?_, by simp, ?_, ?_⟩
  · have : hline p ++ rest = (p.1 ++ 58 :: (32 :: p.2)) ++ [13, 10] ++ rest := by
      unfold hline; simp only [List.append_assoc, List.cons_append, List.nil_append]
    rw [this]
    refine line_app _ _ fun c hc => ?_
    simp only [List.mem_append, List.mem_cons] at hc
    rcases hc with hc | rfl | rfl | hc
    · exact (tok_ne (t1 c hc)).2
    · decide
    · decide
    · rintro rfl; have := (v2 13 hc).1; revert this; decide
  · unfold hdC
    rw [e1, e2, e3, h1, trim_blank _ v3, h3]; rfl
  · unfold hdP
    rw [e1, e2, ← h2, trim_blank _ v3]
theorem hlines_cons (p : Pr) (hs : List Pr) : hlines (p :: hs) = hline p ++ hlines hs := by unfold hlines; rw [List.map_cons, List.flatten_cons]
theorem hds_show (hs : List Pr) (b : List UInt8) : ∀ acc, (∀ p ∈ hs, hsC p = true) → (MoreAll acc hs ∧ hdsL acc (hlines hs ++ [13, 10] ++ b) = some (acc ++ hs, b)) ∨ (¬ MoreAll acc hs ∧ hdsL acc (hlines hs ++ [13, 10] ++ b) = none) := by
  induction hs with
  | nil =>
    intro acc _
    refine .inl ⟨trivial, ?_⟩
    rw [List.append_nil]
    exact hds_end (line_app [] b (fun c hc => by cases hc))
  | cons p hs ih =>
    intro acc h
    obtain ⟨f1, f2, f3, f4⟩ := hline_facts p (h p (List.mem_cons_self ..)) (hlines hs ++ [13, 10] ++ b)
    have e : hlines (p :: hs) ++ [13, 10] ++ b = hline p ++ (hlines hs ++ [13, 10] ++ b) := by rw [hlines_cons]; simp only [List.append_assoc]
    rw [e]
    by_cases hm : moreC acc p = true
    · rw [hds_next f1 f2 ⟨f3, by rw [f4]; exact hm⟩, f4]
      rcases ih (acc ++ [p]) (fun q hq => h q (List.mem_cons_of_mem _ hq)) with ⟨i1, i2⟩ | ⟨i1, i2⟩
      · exact .inl ⟨⟨hm, i1⟩, by rw [i2, List.append_assoc]; rfl⟩
      · exact .inr ⟨fun k => i1 k.2, i2⟩
    · exact .inr ⟨fun k => hm k.1, hds_bad f1 f2 (by rw [f4]; exact fun k => hm k.2)⟩
theorem hds_read (n : Nat) : ∀ (s : List UInt8) (acc hs' : List Pr) (b : List UInt8), s.length < n → hdsL acc s = some (hs', b) → ∃ hs, hs' = acc ++ hs ∧ MoreAll acc hs ∧ ∀ p ∈ hs, hsC p = true := by
  induction n with
  | zero => intro s acc hs' b hn; omega
  | succ n ih =>
    intro s acc hs' b hn h
    cases hl : lineL s with
    | none => rw [hds_none hl] at h; cases h
    | some x =>
      obtain ⟨l, rest⟩ := x
      have hlen := line_length hl
      by_cases h0 : l = []
      · subst h0
        rw [hds_end hl] at h
        cases h
        exact ⟨[], (List.append_nil _).symm, trivial, fun p hp => by cases hp⟩
      · by_cases h1 : hdC l = true ∧ moreC acc (hdP l) = true
        · rw [hds_next hl h0 h1] at h
          obtain ⟨hs, e, m, a⟩ := ih rest _ _ _ (by omega) h
          refine ⟨hdP l :: hs, by rw [e, List.append_assoc]; rfl, ⟨h1.2, m⟩, fun p hp => ?_⟩
          rcases List.mem_cons.1 hp with rfl | hp
          · have hd := h1.1
            unfold hdC at hd
            rw [Bool.and_eq_true, Bool.and_eq_true] at hd
            exact hsC_mk (token_low hd.1.2) (lowC_low _) hd.2
          · exact a p hp
        · rw [hds_bad hl h0 h1] at h; cases h
theorem split_at (c : UInt8) (t : List UInt8) : (t = headL c t ∧ tailL c t = []) ∨ t = headL c t ++ c :: tailL c t := by
  induction t with
  | nil => exact .inl ⟨rfl, rfl⟩
  | cons x t ih =>
    by_cases hx : x = c
    · subst hx
      have e1 : headL x (x :: t) = [] := by simp [headL]
      have e2 : tailL x (x :: t) = t := by simp [tailL]
      right; rw [e1, e2]; rfl
    · have e1 : headL c (x :: t) = x :: headL c t := by unfold headL; rw [List.takeWhile_cons_of_pos (by simpa using hx)]
      have e2 : tailL c (x :: t) = tailL c t := by unfold tailL; rw [List.dropWhile_cons_of_pos (by simpa using hx)]
      rw [e1, e2]
      rcases ih with ⟨h1, h2⟩ | h
      · exact .inl ⟨by rw [← h1], h2⟩
      · exact .inr (by rw [List.cons_append, ← h])
theorem head_has (c : UInt8) (t : List UInt8) : hasL c (headL c t) = false := by
  unfold hasL
  refine decide_eq_false fun h => ?_
  unfold headL at h
  induction t with
  | nil => cases h
  | cons x t ih =>
    by_cases hx : x = c
    · subst hx; simp at h
    · rw [List.takeWhile_cons_of_pos (by simpa using hx)] at h
      rcases List.mem_cons.1 h with rfl | h
      · exact hx rfl
      · exact ih h
/-- a target, shown anew, is within it -/
theorem targ_again (t : List UInt8) (r : Rq) (hp : r.p = headL 63 t) (hq : r.q = tailL 63 t) : (∀ c ∈ targL r, c ∈ t) ∧ (targL r).length ≤ t.length ∧ (∀ c ∈ r.q, c ∈ t) ∧ (∀ c ∈ r.p, c ∈ t) ∧ r.p.length ≤ t.length ∧ (r.q = [] ∨ r.q.length + 1 ≤ t.length) := by
  unfold targL
  rw [hp, hq]
  rcases split_at 63 t with ⟨h1, h2⟩ | h
  · rw [h2, if_pos rfl, ← h1]
    exact ⟨fun c h => h, Nat.le_refl _, fun c h => (by cases h), fun c h => h, Nat.le_refl _, .inl rfl⟩
  · generalize headL 63 t = a at *
    generalize tailL 63 t = b at *
    subst h
    refine ⟨?_, ?_, fun c hc => by simp [hc], fun c hc => by simp [hc], by simp, .inr (by simp)⟩
    · intro c hc
      by_cases hb : b = []
      · rw [if_pos hb] at hc; simp [hc]
      · rw [if_neg hb, List.append_assoc] at hc; exact hc
    · by_cases hb : b = []
      · rw [if_pos hb]; simp
      · rw [if_neg hb]; simp
theorem targ_betw {r : Rq} (h : pathOkC r = true) : ∀ c ∈ targL r, 33 ≤ c.toNat ∧ c.toNat ≤ 126 := by
  obtain ⟨_, h2, h3⟩ := pathOk_iff h
  intro c hc
  unfold targL at hc
  by_cases hq : r.q = []
  · rw [if_pos hq] at hc; exact (betw_all h2).1 c hc
  · rw [if_neg hq] at hc
    simp only [List.mem_append, List.mem_cons, List.not_mem_nil, or_false] at hc
    rcases hc with (hc | rfl) | hc
    · exact (betw_all h2).1 c hc
    · decide
    · exact (betw_all h3).1 c (List.mem_cons_of_mem _ hc)
/-- what a request that fits is read as -/
theorem read_rtext {r : Rq} (h : fitsC r = 0) : readC (rtext r) = (0, r) ∨ ((readC (rtext r)).1 = 10 ∧ 1024 < (targL r).length) ∨ ((readC (rtext r)).1 = 11 ∧ ¬ MoreAll [] r.hs) ∨ ((readC (rtext r)).1 = 13 ∧ partC (targL r) = false) ∨ ((readC (rtext r)).1 = 12 ∧ lenC r.hs r.b = false) := by
  obtain ⟨hm, hp, hh⟩ := fits_iff h
  obtain ⟨f1, f2, f3, f4⟩ := first_rtext r hm (targ_betw hp)
  obtain ⟨g1, g2⟩ := targ_parts r (pathOk_iff hp).1
  unfold readC
  rw [f1]
  simp only []
  rw [f4, f3]
  by_cases ht : (targL r).length ≤ 1024
  · rw [decide_eq_true ht, if_neg (by decide)]
    rcases hds_show r.hs r.b [] hh with ⟨m1, m2⟩ | ⟨m1, m2⟩
    · have m2 : hdsL [] (rest1 r) = some (r.hs, r.b) := m2
      rw [m2]
      simp only []
      cases hpc : partC (targL r) with
      | false => exact .inr (.inr (.inr (.inl ⟨rfl, rfl⟩)))
      | true =>
        cases hlc : lenC r.hs r.b with
        | false => exact .inr (.inr (.inr (.inr ⟨rfl, rfl⟩)))
        | true =>
          left
          rw [if_neg (by decide), if_neg (by decide), f2, g1, g2]
    · have m2 : hdsL [] (rest1 r) = none := m2
      rw [m2]
      exact .inr (.inr (.inl ⟨rfl, m1⟩))
  · rw [decide_eq_false ht, if_pos rfl]
    exact .inr (.inl ⟨rfl, by omega⟩)
/-- what is shown is parsed as it was -/
theorem show_back {r : Rq} (h : fitsC r = 0) (h0 : (parseC (rtext r)).1 = 0) : parseC (rtext r) = (0, r) := by
  unfold parseC at h0 ⊢
  by_cases hb : 4096 < (rtext r).length
  · rw [if_pos hb] at h0; cases h0
  · rw [if_neg hb] at h0 ⊢
    rcases read_rtext h with e | ⟨e, _⟩ | ⟨e, _⟩ | ⟨e, _⟩ | ⟨e, _⟩
    · exact e
    all_goals rw [e] at h0; cases h0
/-- the request that was parsed -/
theorem parse_parts {b : List UInt8} (h : (parseC b).1 = 0) : ∃ l s hs body, lineL b = some (l, s) ∧ firstC l = true ∧ hdsL [] s = some (hs, body) ∧ partC (tgtC l) = true ∧ lenC hs body = true ∧ (parseC b).2 = ⟨headL 32 l, headL 63 (tgtC l), tailL 63 (tgtC l), hs, body⟩ := by
  unfold parseC at h ⊢
  by_cases hb : 4096 < b.length
  · rw [if_pos hb] at h; cases h
  · rw [if_neg hb] at h ⊢
    unfold readC at h ⊢
    cases hl : lineL b with
    | none => rw [hl] at h; cases h
    | some x =>
      obtain ⟨l, s⟩ := x
      rw [hl] at h
      simp only [] at h ⊢
      cases hf : firstC l with
      | false => rw [hf, if_pos rfl] at h; cases h
      | true =>
        rw [hf, if_neg (by decide)] at h
        rw [if_neg (by decide)]
        cases hd : hdsL [] s with
        | none => rw [hd] at h; cases h
        | some y =>
          obtain ⟨hs, body⟩ := y
          rw [hd] at h
          simp only [] at h ⊢
          cases hp : partC (tgtC l) with
          | false => rw [hp, if_pos rfl] at h; cases h
          | true =>
            rw [hp, if_neg (by decide)] at h
            rw [if_neg (by decide)]
            cases hn : lenC hs body with
            | false => rw [hn, if_pos rfl] at h; cases h
            | true =>
              rw [if_neg (by decide)]
              exact ⟨l, s, hs, body, rfl, hf, hd, hp, hn, rfl⟩
/-- a request that was parsed can be shown, unless it is too long -/
theorem parse_show {b : List UInt8} (h : (parseC b).1 = 0) : fitsC (parseC b).2 = 0 ∧ (parseC (rtext (parseC b).2) = (0, (parseC b).2) ∨ (parseC (rtext (parseC b).2)).1 = 3) := by
  obtain ⟨l, s, hs, body, hl, hf, hd, hp, hn, e⟩ := parse_parts h
  rw [e]
  clear e
  unfold firstC at hf
  rw [Bool.and_eq_true, Bool.and_eq_true] at hf
  obtain ⟨⟨_, hm⟩, ht⟩ := hf
  obtain ⟨t1, t2⟩ := betw_all ht
  generalize headL 32 l = m at *
  generalize tgtC l = t at *
  obtain ⟨a1, a2, a3, a4, a5, a6⟩ := targ_again t ⟨m, headL 63 t, tailL 63 t, hs, body⟩ rfl rfl
  obtain ⟨hs2, e2, mo, hh⟩ := hds_read _ s [] hs body (Nat.lt_succ_self _) hd
  rw [List.nil_append] at e2
  subst e2
  have hpo : pathOkC ⟨m, headL 63 t, tailL 63 t, hs, body⟩ = true := by
    unfold pathOkC
    dsimp only
    have q1 : ∀ c ∈ 63 :: tailL 63 t, 33 ≤ c.toNat ∧ c.toNat ≤ 126 := fun c hc => by
      rcases List.mem_cons.1 hc with rfl | hc
      · decide
      · exact t1 c (a3 c hc)
    have q2 : (63 :: tailL 63 t).length ≤ 1024 := by
      rcases a6 with h0 | h0
      · rw [show tailL 63 t = [] from h0]; decide
      · exact Nat.le_trans h0 t2
    rw [head_has, betw_mk (fun c hc => t1 c (a4 c hc)) (Nat.le_trans a5 t2), betw_mk q1 q2]
    rfl
  have hfit := fits_mk (r := ⟨m, headL 63 t, tailL 63 t, hs, body⟩) hm hpo hh
  refine ⟨hfit, ?_⟩
  unfold parseC
  by_cases hb : 4096 < (rtext ⟨m, headL 63 t, tailL 63 t, hs, body⟩).length
  · rw [if_pos hb]; exact .inr rfl
  · rw [if_neg hb]
    left
    obtain ⟨g1, g2⟩ := targ_parts ⟨m, headL 63 t, tailL 63 t, hs, body⟩ (pathOk_iff hpo).1
    rcases read_rtext hfit with e | ⟨_, k⟩ | ⟨_, k⟩ | ⟨_, k⟩ | ⟨_, k⟩
    · exact e
    · omega
    · exact absurd mo k
    · unfold partC at hp k
      rw [g1, g2] at k
      dsimp only at k
      rw [hp] at k; cases k
    · rw [show lenC (Rq.mk m (headL 63 t) (tailL 63 t) hs body).hs (Rq.mk m (headL 63 t) (tailL 63 t) hs body).b = lenC hs body from rfl, hn] at k; cases k
/-- what Show tells -/
def showCE (r : Rq) : Int := if fitsC r = 0 then (parseC (rtext r)).1 else fitsC r
def showCB (r : Rq) : List UInt8 := if showCE r = 0 then rtext r else []
end Go.Proofs.YtbknabmcelknmaaGreatDoor
