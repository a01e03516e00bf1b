/- Plain facts: the parts between a sign. · Plain facts: paths and queries. · Plain facts: what Parse, Show and Answer answer. · Plain facts: the canonical text is read as the same pairs. -/
import Derived.Test.YtgjmaeodgcigdaaGreatDoorB2
import Derived.Test.YtgjmaeodgcigdaaGreatDoorB0
namespace Go.Proofs.YtgjmaeodgcigdaaGreatDoor

/-- one sign more -/
def cutStep (c : UInt8) (acc : List (List UInt8)) (x : UInt8) : List (List UInt8) := if x = c then acc ++ [[]] else acc.set (acc.length - 1) (nthT acc (acc.length - 1) ++ [x])
def cutL (c : UInt8) (l : List UInt8) : List (List UInt8) := l.foldl (cutStep c) [[]]
theorem cutStep_pos (c : UInt8) (acc : List (List UInt8)) (x : UInt8) (h : 0 < acc.length) : 0 < (cutStep c acc x).length := by
  unfold cutStep; split
  · simp
  · rw [List.length_set]; exact h
theorem cutL_snoc (c : UInt8) (l : List UInt8) (x : UInt8) : cutL c (l ++ [x]) = cutStep c (cutL c l) x := by unfold cutL; rw [List.foldl_append]; rfl
theorem cutL_take (c : UInt8) (l : List UInt8) (k : Nat) (h : k < l.length) : cutL c (l.take (k + 1)) = cutStep c (cutL c (l.take k)) (nth l k) := by
  rw [take_nth l k h, cutL_snoc]
theorem snoc_ind {P : List UInt8 → Prop} (h0 : P []) (h1 : ∀ l x, P l → P (l ++ [x])) (l : List UInt8) : P l := by
  have key : ∀ n, ∀ l : List UInt8, l.length = n → P l := by
    intro n
    induction n with
    | zero => intro l hl; rw [List.length_eq_zero_iff.1 hl]; exact h0
    | succ n ih =>
      intro l hl
      have hn : l ≠ [] := by rintro rfl; simp at hl
      rw [← List.dropLast_concat_getLast hn]
      exact h1 _ _ (ih _ (by rw [List.length_dropLast, hl]; rfl))
  exact key l.length l rfl
theorem cutL_pos (c : UInt8) (l : List UInt8) : 0 < (cutL c l).length := by
  induction l using snoc_ind with
  | h0 => exact Nat.zero_lt_one
  | h1 l x ih => rw [cutL_snoc]; exact cutStep_pos c _ x ih
theorem cutL_len (c : UInt8) (l : List UInt8) : (cutL c l).length ≤ l.length + 1 := by
  induction l using snoc_ind with
  | h0 => exact Nat.le_refl _
  | h1 l x ih =>
    rw [cutL_snoc]; unfold cutStep; split
    · simp; omega
    · rw [List.length_set]; simp; omega
/-- no part is longer than the whole -/
theorem cutL_part (c : UInt8) (l : List UInt8) : ∀ p ∈ cutL c l, p.length ≤ l.length := by
  induction l using snoc_ind with
  | h0 => intro p hp; rw [show cutL c [] = [[]] from rfl, List.mem_singleton] at hp; rw [hp]; exact Nat.le_refl _
  | h1 l x ih =>
    intro p hp
    have hpos := cutL_pos c l
    rw [cutL_snoc] at hp; unfold cutStep at hp
    rw [List.length_append]
    split at hp
    · rcases List.mem_append.1 hp with h | h
      · have := ih p h; omega
      · rw [List.mem_singleton.1 h]; simp
    · rcases List.mem_or_eq_of_mem_set hp with h | h
      · have := ih p h; omega
      · rw [h, List.length_append, nthT_eq _ _ (by omega)]
        have := ih _ (List.getElem_mem (l := cutL c l) (n := (cutL c l).length - 1) (by omega))
        simp; omega
theorem cutL_last (c : UInt8) (l : List UInt8) : (nthT (cutL c l) ((cutL c l).length - 1)).length ≤ l.length := by
  have hpos := cutL_pos c l
  rw [nthT_eq _ _ (by omega)]
  exact cutL_part c l _ (List.getElem_mem _)
end Go.Proofs.YtgjmaeodgcigdaaGreatDoor
namespace Go.Proofs.YtgjmaeodgcigdaaGreatDoor

/-- a path's bucket and key; none: it is no path -/
def pathL (l : List UInt8) : Option (List UInt8 × List UInt8) :=
  if l = [] ∨ ¬ nth l 0 = 47 then none
  else match decL (headL 47 (l.drop 1)), decL (tailL 47 (l.drop 1)) with
    | some b, some k => if b = [] ∧ ¬ k = [] then none else some (b, k)
    | _, _ => none
def pathB (l : List UInt8) : List UInt8 := ((pathL l).getD ([], [])).1
def pathK (l : List UInt8) : List UInt8 := ((pathL l).getD ([], [])).2
def pathC (l : List UInt8) : Int := if (pathL l).isSome then 0 else 13
theorem path_none {l : List UInt8} (h : pathL l = none) : pathB l = [] ∧ pathK l = [] ∧ pathC l = 13 := by
  unfold pathB pathK pathC; rw [h]; exact ⟨rfl, rfl, rfl⟩
theorem path_some {l b k : List UInt8} (h : pathL l = some (b, k)) : pathB l = b ∧ pathK l = k ∧ pathC l = 0 := by
  unfold pathB pathK pathC; rw [h]; exact ⟨rfl, rfl, rfl⟩

/-- one part more -/
def qStep (acc : Option (List Pr)) (p : List UInt8) : Option (List Pr) :=
  match acc with
  | none => none
  | some out => match decL (headL 61 p), decL (tailL 61 p) with
    | some n, some v => if n = [] ∨ (findL out n).isSome = true then none else some (out ++ [(n, v)])
    | _, _ => none
def queryL (l : List UInt8) : Option (List Pr) :=
  if l = [] then some [] else if 24 < (cutL 38 l).length then none else (cutL 38 l).foldl qStep (some [])
def queryC (l : List UInt8) : Int := if (queryL l).isSome then 0 else 13
def queryP (l : List UInt8) : List Pr := (queryL l).getD []
theorem qStep_none (ps : List (List UInt8)) : ps.foldl qStep none = none := by
  induction ps with
  | nil => rfl
  | cons p ps ih => exact ih
/-- so far out -/
def QTo (ps : List (List UInt8)) (out : List Pr) (k : Nat) : Prop := ps.foldl qStep (some []) = (ps.drop k).foldl qStep (some out)
theorem drop_nthT (l : List (List UInt8)) (k : Nat) (h : k < l.length) : l.drop k = nthT l k :: l.drop (k + 1) := by
  rw [nthT_eq l k h]; exact List.drop_eq_getElem_cons h
theorem QTo.zero (ps : List (List UInt8)) : QTo ps [] 0 := rfl
theorem QTo.next {ps : List (List UInt8)} {out out' : List Pr} {k : Nat} (h : QTo ps out k) (hk : k < ps.length) (hs : qStep (some out) (nthT ps k) = some out') : QTo ps out' (k + 1) := by
  unfold QTo at h ⊢
  rw [h, drop_nthT ps k hk, List.foldl_cons, hs]
theorem QTo.fail {ps : List (List UInt8)} {out : List Pr} {k : Nat} (h : QTo ps out k) (hk : k < ps.length) (hs : qStep (some out) (nthT ps k) = none) : ps.foldl qStep (some []) = none := by
  unfold QTo at h
  rw [h, drop_nthT ps k hk, List.foldl_cons, hs, qStep_none]
theorem QTo.done {ps : List (List UInt8)} {out : List Pr} {k : Nat} (h : QTo ps out k) (hk : ps.length ≤ k) : ps.foldl qStep (some []) = some out := by
  unfold QTo at h
  rw [h, List.drop_eq_nil_of_le hk]; rfl
theorem query_some {l : List UInt8} {ps : List Pr} (h : queryL l = some ps) : queryP l = ps ∧ queryC l = 0 := by unfold queryP queryC; rw [h]; exact ⟨rfl, rfl⟩
theorem query_none {l : List UInt8} (h : queryL l = none) : queryP l = [] ∧ queryC l = 13 := by unfold queryP queryC; rw [h]; exact ⟨rfl, rfl⟩
end Go.Proofs.YtgjmaeodgcigdaaGreatDoor
namespace Go.Proofs.YtgjmaeodgcigdaaGreatDoor

/-- a request -/
structure Rq where
  m : List UInt8
  p : List UInt8
  q : List UInt8
  hs : List Pr
  b : List UInt8
def Rq.none : Rq := ⟨[], [], [], [], []⟩
def http11 : List UInt8 := [72, 84, 84, 80, 47, 49, 46, 49]
def ctl : List UInt8 := [99, 111, 110, 116, 101, 110, 116, 45, 108, 101, 110, 103, 116, 104]
def methodL (l : List UInt8) : Bool := decide (l = [71, 69, 84] ∨ l = [80, 85, 84] ∨ l = [80, 79, 83, 84] ∨ l = [68, 69, 76, 69, 84, 69] ∨ l = [72, 69, 65, 68])
/-- the first line -/
def FirstOk (l : List UInt8) : Prop := hasL 32 l = true ∧ hasL 32 (tailL 32 l) = true ∧ tailL 32 (tailL 32 l) = http11 ∧ methodL (headL 32 l) = true ∧ ¬ headL 32 (tailL 32 l) = [] ∧ betwL 33 126 1024 (headL 32 (tailL 32 l)) = true
instance (l : List UInt8) : Decidable (FirstOk l) := by unfold FirstOk; exact inferInstance
def firM (l : List UInt8) : List UInt8 := if FirstOk l then headL 32 l else []
def firP (l : List UInt8) : List UInt8 := if FirstOk l then headL 63 (headL 32 (tailL 32 l)) else []
def firQ (l : List UInt8) : List UInt8 := if FirstOk l then tailL 63 (headL 32 (tailL 32 l)) else []
/-- one header more -/
def hdrN (h : List UInt8) : List UInt8 := smallL (headL 58 h)
def hdrV (h : List UInt8) : List UInt8 := trimL (tailL 58 h)
def HdrOk (acc : List Pr) (h : List UInt8) : Prop := hasL 58 h = true ∧ tokenL (hdrN h) = true ∧ valueL (hdrV h) = true ∧ (findL acc (hdrN h)).isSome = false ∧ acc.length < 24
instance (acc : List Pr) (h : List UInt8) : Decidable (HdrOk acc h) := by unfold HdrOk; exact inferInstance
/-- the headers, and what is behind the empty line -/
def hdrF : Nat → List Pr → List UInt8 → Option (List Pr × List UInt8)
  | 0, _, _ => none
  | f + 1, acc, s => match lineL s with
    | none => none
    | some (h, rest) => if h = [] then some (acc, rest) else if HdrOk acc h then hdrF f (acc ++ [(hdrN h, hdrV h)]) rest else none
def hdrL (acc : List Pr) (s : List UInt8) : Option (List Pr × List UInt8) := hdrF (s.length + 1) acc s
theorem hdrF_fuel (f : Nat) : ∀ (acc : List Pr) (s : List UInt8), s.length < f → hdrF f acc s = hdrF (s.length + 1) acc s := by
  induction f using Nat.strongRecOn with
  | _ f ih =>
    intro acc s hs
    cases f with
    | zero => omega
    | succ f =>
      rw [hdrF, hdrF]
      cases hl : lineL s with
      | none => rfl
      | some x =>
        obtain ⟨h, rest⟩ := x
        have hlen := line_length hl
        show (if h = [] then some (acc, rest) else if HdrOk acc h then hdrF f (acc ++ [(hdrN h, hdrV h)]) rest else none) = (if h = [] then some (acc, rest) else if HdrOk acc h then hdrF s.length (acc ++ [(hdrN h, hdrV h)]) rest else none)
        rw [ih f (by omega) _ rest (by omega), ih s.length (by omega) _ rest (by omega)]
theorem hdr_none {acc : List Pr} {s : List UInt8} (h : lineL s = none) : hdrL acc s = none := by unfold hdrL; rw [hdrF, h]
theorem hdr_end {acc : List Pr} {s rest : List UInt8} (h : lineL s = some ([], rest)) : hdrL acc s = some (acc, rest) := by unfold hdrL; rw [hdrF, h]; rfl
theorem hdr_bad {acc : List Pr} {s h rest : List UInt8} (h1 : lineL s = some (h, rest)) (h2 : ¬ h = []) (h3 : ¬ HdrOk acc h) : hdrL acc s = none := by
  unfold hdrL; rw [hdrF, h1]; simp only [if_neg h2, if_neg h3]
theorem hdr_next {acc : List Pr} {s h rest : List UInt8} (h1 : lineL s = some (h, rest)) (h2 : ¬ h = []) (h3 : HdrOk acc h) : hdrL acc s = hdrL (acc ++ [(hdrN h, hdrV h)]) rest := by
  have hlen := line_length h1
  unfold hdrL; rw [hdrF, h1]; simp only [if_neg h2, if_pos h3]
  exact hdrF_fuel _ _ _ (by omega)
/-- lengths that are told -/
def LenOk (hs : List Pr) (b : List UInt8) : Prop := match findL hs ctl with
  | some c => NumOk c 4096 ∧ valL c = b.length
  | none => b = []
open Classical in
/-- why there is no request, or nought; the request -/
noncomputable def parseL (b : List UInt8) : Int × Rq :=
  if 4096 < b.length then (3, Rq.none)
  else match lineL b with
    | none => (10, Rq.none)
    | some (l, s) => if ¬ FirstOk l then (10, Rq.none)
      else match hdrL [] s with
        | none => (11, Rq.none)
        | some (hs, body) => if ¬ (pathC (firP l) = 0 ∧ queryC (firQ l) = 0) then (13, Rq.none)
          else if LenOk hs body then (0, ⟨firM l, firP l, firQ l, hs, body⟩) else (12, Rq.none)
/-- a request's target; its bytes -/
def targL (r : Rq) : List UInt8 := if r.q = [] then r.p else r.p ++ [63] ++ r.q
def hline (p : Pr) : List UInt8 := p.1 ++ [58, 32] ++ p.2 ++ [13, 10]
def hlines (hs : List Pr) : List UInt8 := (hs.map hline).flatten
def rtext (r : Rq) : List UInt8 := r.m ++ [32] ++ targL r ++ [32] ++ http11 ++ [13, 10] ++ hlines r.hs ++ [13, 10] ++ r.b
def HsOk (p : Pr) : Prop := tokenL p.1 = true ∧ p.1 = smallL p.1 ∧ valueL p.2 = true
instance (p : Pr) : Decidable (HsOk p) := by unfold HsOk; exact inferInstance
def PathOk (r : Rq) : Prop := ¬ r.p = [] ∧ hasL 63 r.p = false ∧ betwL 33 126 1024 (r.p ++ r.q) = true ∧ (targL r).length ≤ 1024
instance (r : Rq) : Decidable (PathOk r) := by unfold PathOk; exact inferInstance
open Classical in
noncomputable def showL (r : Rq) : Int × List UInt8 :=
  if methodL r.m = false then (10, [])
  else if ¬ PathOk r then (13, [])
  else if ¬ (∀ p ∈ r.hs, HsOk p) then (11, [])
  else if (parseL (rtext r)).1 = 0 then (0, rtext r) else ((parseL (rtext r)).1, [])
/-- an answer's bytes -/
def ctline : List UInt8 := ctl ++ [58, 32]
def answerL (status : Int) (hs : List Pr) (b : List UInt8) : List UInt8 :=
  http11 ++ [32] ++ digitsL status.toNat ++ [13, 10] ++ hlines hs ++ ctline ++ digitsL b.length ++ [13, 10, 13, 10] ++ b
end Go.Proofs.YtgjmaeodgcigdaaGreatDoor
namespace Go.Proofs.YtgjmaeodgcigdaaGreatDoor

/-- encoded bytes are none of the signs that part pairs -/
theorem hexU_clean (n : Nat) (h : n < 16) : hexU n ≠ 38 ∧ hexU n ≠ 61 := by
  have : ∀ n : Nat, n < 16 → hexU n ≠ 38 ∧ hexU n ≠ 61 := by decide
  exact this n h
theorem enc_clean (x : List UInt8) : ∀ c ∈ encL false x, c ≠ 38 ∧ c ≠ 61 := by
  induction x with
  | nil => intro c hc; cases hc
  | cons a x ih =>
    intro c hc
    rw [encL, List.mem_append] at hc
    rcases hc with hc | hc
    · unfold enc1 at hc
      by_cases h : keptB false a = true
      · rw [if_pos h, List.mem_singleton] at hc
        subst hc
        constructor
        · rintro rfl; exact absurd h (by decide)
        · rintro rfl; exact absurd h (by decide)
      · rw [if_neg h] at hc
        have ha := a.toNat_lt
        simp only [List.mem_cons, List.not_mem_nil, or_false] at hc
        rcases hc with rfl | rfl | rfl
        · decide
        · exact hexU_clean _ (by omega)
        · exact hexU_clean _ (by omega)
    · exact ih c hc
/-- signs that don't part are gathered -/
theorem step_clean (c a : UInt8) (init : List (List UInt8)) (last : List UInt8) (h : a ≠ c) : cutStep c (init ++ [last]) a = init ++ [last ++ [a]] := by
  unfold cutStep
  rw [if_neg h, List.length_append, List.length_singleton, Nat.add_sub_cancel]
  have e : nthT (init ++ [last]) init.length = last := by
    rw [nthT_eq _ _ (by simp)]; simp
  rw [e, List.set_append_right _ _ (Nat.le_refl _), Nat.sub_self]; rfl
theorem fold_clean (c : UInt8) (x : List UInt8) : ∀ (init : List (List UInt8)) (last : List UInt8), (∀ a ∈ x, a ≠ c) → x.foldl (cutStep c) (init ++ [last]) = init ++ [last ++ x] := by
  induction x with
  | nil => intro init last _; simp
  | cons a x ih =>
    intro init last h
    rw [List.foldl_cons, step_clean c a init last (h a List.mem_cons_self), ih init (last ++ [a]) (fun b hb => h b (List.mem_cons_of_mem a hb))]
    simp
theorem cut_sep (c : UInt8) (y x : List UInt8) (h : ∀ a ∈ x, a ≠ c) : cutL c (y ++ [c] ++ x) = cutL c y ++ [x] := by
  unfold cutL
  rw [List.foldl_append, List.foldl_append]
  have e : [c].foldl (cutStep c) (y.foldl (cutStep c) [[]]) = y.foldl (cutStep c) [[]] ++ [[]] := by
    rw [List.foldl_cons, List.foldl_nil]; unfold cutStep; rw [if_pos rfl]
  rw [e, fold_clean c x _ [] h]; simp
theorem cut_one (c : UInt8) (x : List UInt8) (h : ∀ a ∈ x, a ≠ c) : cutL c x = [x] := by
  unfold cutL
  have := fold_clean c x [] [] h
  simpa using this
/-- a pair's text -/
def pt (p : Pr) : List UInt8 := p.1 ++ [61] ++ p.2
def CleanP (p : Pr) : Prop := (∀ c ∈ p.1, c ≠ 38 ∧ c ≠ 61) ∧ ∀ c ∈ p.2, c ≠ 38 ∧ c ≠ 61
theorem pt_clean {p : Pr} (h : CleanP p) : ∀ a ∈ pt p, a ≠ 38 := by
  intro a ha
  unfold pt at ha
  rw [List.mem_append, List.mem_append, List.mem_singleton] at ha
  rcases ha with (ha | rfl) | ha
  · exact (h.1 a ha).1
  · decide
  · exact (h.2 a ha).1
theorem cut_join (ps : List Pr) (h : ∀ i, i < ps.length → CleanP (nthP ps i)) (k : Nat) (hk : k + 1 ≤ ps.length) : cutL 38 (joinK ps (k + 1)) = (ps.take (k + 1)).map pt := by
  induction k with
  | zero =>
    have e : joinK ps (0 + 1) = pt (nthP ps 0) := by simp [joinK, pt]
    rw [e, cut_one 38 _ (pt_clean (h 0 (by omega))), take_nthP ps 0 (by omega)]; simp
  | succ k ih =>
    have e : joinK ps (k + 1 + 1) = joinK ps (k + 1) ++ [38] ++ pt (nthP ps (k + 1)) := by
      rw [joinK, if_pos (by omega)]; unfold pt; simp
    rw [e, cut_sep 38 _ _ (pt_clean (h (k + 1) (by omega))), ih (by omega), take_nthP ps (k + 1) (by omega), List.map_append]; rfl
theorem cut_joinL (ps : List Pr) (h : ∀ i, i < ps.length → CleanP (nthP ps i)) (hn : 0 < ps.length) : cutL 38 (joinL ps) = ps.map pt := by
  unfold joinL
  obtain ⟨k, hk⟩ : ∃ k, ps.length = k + 1 := ⟨ps.length - 1, by omega⟩
  rw [hk, cut_join ps h k (by omega), ← hk, List.take_length]
theorem head_pt {p : Pr} (h : CleanP p) : headL 61 (pt p) = p.1 ∧ tailL 61 (pt p) = p.2 := by
  have e : pt p = p.1 ++ 61 :: p.2 := by simp [pt]
  rw [e]
  have n1 : ∀ i (hi : i < p.1.length), nth (p.1 ++ 61 :: p.2) i = p.1[i] := by
    intro i hi
    unfold nth; rw [List.getD_eq_getElem?_getD, List.getElem?_append_left hi, List.getElem?_eq_getElem hi]; rfl
  have n2 : nth (p.1 ++ 61 :: p.2) p.1.length = 61 := by
    unfold nth; rw [List.getD_eq_getElem?_getD, List.getElem?_append_right (Nat.le_refl _), Nat.sub_self]; rfl
  have := head_at 61 (p.1 ++ 61 :: p.2) p.1.length (by simp) (fun i hi => by rw [n1 i hi]; exact (h.1 _ (List.getElem_mem _)).2) n2
  rw [this.1, this.2]
  constructor
  · simp
  · rw [← List.drop_drop]; simp

/-- pairs as a query may have them -/
structure GoodP (l : List Pr) : Prop where
  named : ∀ p ∈ l, p.1 ≠ []
  apart : l.Pairwise (fun a b => a.1 ≠ b.1)
theorem find_mem (l : List Pr) (h : l.Pairwise (fun a b => a.1 ≠ b.1)) (p : Pr) (hp : p ∈ l) : findL l p.1 = some p.2 := by
  induction l with
  | nil => cases hp
  | cons q l ih =>
    rw [List.pairwise_cons] at h
    unfold findL
    by_cases e : q.1 = p.1
    · rw [List.find?_cons_of_pos (by simpa using e)]
      rcases List.mem_cons.1 hp with rfl | hp'
      · rfl
      · exact absurd e (h.1 p hp')
    · rw [List.find?_cons_of_neg (by simpa using e)]
      rcases List.mem_cons.1 hp with rfl | hp'
      · exact absurd rfl e
      · exact ih h.2 hp'
theorem find_not (l : List Pr) (n : List UInt8) (h : ∀ p ∈ l, p.1 ≠ n) : findL l n = none := by
  unfold findL
  rw [List.find?_eq_none.2 (fun p hp => by simpa using h p hp)]; rfl
theorem find_some_mem {l : List Pr} {n : List UInt8} (h : (findL l n).isSome = true) : ∃ p ∈ l, p.1 = n := by
  unfold findL at h
  cases e : l.find? (fun p => p.1 == n) with
  | none => rw [e] at h; cases h
  | some p => exact ⟨p, List.mem_of_find?_eq_some e, by simpa using List.find?_some e⟩

/-- the parts of encoded pairs are read as the pairs -/
theorem fold_pts (m : List Pr) : ∀ out : List Pr, GoodP (out ++ m) → ((m.map encP).map pt).foldl qStep (some out) = some (out ++ m) := by
  induction m with
  | nil => intro out _; simp
  | cons p m ih =>
    intro out h
    have hc : CleanP (encP p) := ⟨enc_clean p.1, enc_clean p.2⟩
    obtain ⟨h1, h2⟩ := head_pt hc
    rw [List.map_cons, List.map_cons, List.foldl_cons]
    have hs : qStep (some out) (pt (encP p)) = some (out ++ [p]) := by
      unfold qStep
      have d1 : decL (headL 61 (pt (encP p))) = some p.1 := by rw [h1]; exact dec_enc false p.1
      have d2 : decL (tailL 61 (pt (encP p))) = some p.2 := by rw [h2]; exact dec_enc false p.2
      simp only [d1, d2]
      have hne : p.1 ≠ [] := h.named p (by simp)
      have hnf : findL out p.1 = none := by
        refine find_not out p.1 fun q hq => ?_
        have := h.apart
        rw [List.pairwise_append] at this
        exact this.2.2 q hq p List.mem_cons_self
      rw [if_neg (by rw [hnf]; simp [hne])]
    rw [hs, ih (out ++ [p]) (by rw [List.append_assoc]; exact h)]
    simp
theorem encP_inj {p q : Pr} (h : encP p = encP q) : p = q := by
  unfold encP at h
  injection h with h1 h2
  exact Prod.ext (encL_inj false _ _ h1) (encL_inj false _ _ h2)
theorem GoodP.perm {l m : List Pr} (h : GoodP l) (hp : m.Perm l) : GoodP m :=
  ⟨fun p hm => h.named p (hp.mem_iff.1 hm), (hp.symm.pairwise h.apart (fun hab => hab.symm))⟩
/-- sorted pairs, and what they stand for -/
theorem sort_back (l : List Pr) : ∃ m : List Pr, m.Perm l ∧ sortL l = m.map encP := by
  have hp := sortL_perm l
  have key : ∀ (xs ys : List Pr), xs.Perm (ys.map encP) → ∃ m : List Pr, m.Perm ys ∧ xs = m.map encP := by
    intro xs
    induction xs with
    | nil =>
      intro ys h
      have : ys = [] := by
        have := h.length_eq
        simp at this
        exact List.eq_nil_of_length_eq_zero this.symm
      subst this
      exact ⟨[], List.Perm.refl _, rfl⟩
    | cons x xs ih =>
      intro ys h
      have hx : x ∈ ys.map encP := h.mem_iff.1 List.mem_cons_self
      obtain ⟨p, hp, rfl⟩ := List.mem_map.1 hx
      have hy := List.perm_cons_erase hp
      have h2 : xs.Perm ((ys.erase p).map encP) := by
        have h3 := h.trans (hy.map encP)
        rw [List.map_cons] at h3
        exact List.Perm.cons_inv h3
      obtain ⟨m, hm, e⟩ := ih _ h2
      exact ⟨p :: m, (hm.cons p).trans hy.symm, by rw [e, List.map_cons]⟩
  exact key _ _ hp
theorem query_canon (l : List Pr) (h : GoodP l) (hn : 0 < l.length) (h24 : l.length ≤ 24) : ∃ m : List Pr, m.Perm l ∧ queryL (canonL l) = some m := by
  obtain ⟨m, hm, e⟩ := sort_back l
  refine ⟨m, hm, ?_⟩
  have hml : m.length = l.length := hm.length_eq
  have hcl : ∀ i, i < (m.map encP).length → CleanP (nthP (m.map encP) i) := by
    intro i hi
    rw [nthP_eq _ _ hi, List.getElem_map]
    exact ⟨enc_clean _, enc_clean _⟩
  have hcut : cutL 38 (canonL l) = (m.map encP).map pt := by
    unfold canonL; rw [e]; exact cut_joinL _ hcl (by rw [List.length_map]; omega)
  have hne : canonL l ≠ [] := by
    intro h0
    have hl := congrArg List.length hcut
    rw [h0] at hcut
    have h1 : [[]] = (m.map encP).map pt := hcut
    match m, hml with
    | [], hh => simp at hh; omega
    | p :: m', _ =>
      rw [List.map_cons, List.map_cons] at h1
      injection h1 with h1 _
      unfold pt at h1
      have := congrArg List.length h1
      simp at this
  unfold queryL
  rw [if_neg hne, hcut, if_neg (by simp; omega)]
  have := fold_pts m [] (by rw [List.nil_append]; exact h.perm hm)
  rw [this]; rfl
/-- what a query has been read as -/
theorem fold_good (ps : List (List UInt8)) : ∀ (out res : List Pr), GoodP out → ps.foldl qStep (some out) = some res → GoodP res ∧ res.length = out.length + ps.length := by
  induction ps with
  | nil =>
    intro out res h e
    injection e with e
    subst e
    exact ⟨h, rfl⟩
  | cons p ps ih =>
    intro out res h e
    rw [List.foldl_cons] at e
    cases hs : qStep (some out) p with
    | none => rw [hs, qStep_none] at e; cases e
    | some out' =>
      rw [hs] at e
      unfold qStep at hs
      cases d1 : decL (headL 61 p) with
      | none => simp only [d1] at hs; cases hs
      | some n =>
        cases d2 : decL (tailL 61 p) with
        | none => simp only [d1, d2] at hs; cases hs
        | some v =>
          simp only [d1, d2] at hs
          by_cases hc : n = [] ∨ (findL out n).isSome = true
          · rw [if_pos hc] at hs; cases hs
          · rw [if_neg hc] at hs
            injection hs with hs
            subst hs
            have hg : GoodP (out ++ [(n, v)]) := by
              constructor
              · intro q hq
                rcases List.mem_append.1 hq with hq | hq
                · exact h.named q hq
                · rw [List.mem_singleton.1 hq]; exact fun e0 => hc (.inl e0)
              · rw [List.pairwise_append]
                refine ⟨h.apart, List.pairwise_singleton _ _, fun a ha b hb => ?_⟩
                rw [List.mem_singleton.1 hb]
                intro e0
                apply hc
                right
                have e0' : a.1 = n := e0
                rw [← e0', find_mem out h.apart a ha]; rfl
            obtain ⟨r1, r2⟩ := ih _ _ hg e
            exact ⟨r1, by rw [r2]; simp; omega⟩
theorem query_good {s : List UInt8} {l : List Pr} (h : queryL s = some l) : GoodP l ∧ l.length ≤ 24 := by
  unfold queryL at h
  by_cases h0 : s = []
  · rw [if_pos h0] at h
    injection h with h
    subst h
    exact ⟨⟨fun p hp => (by cases hp), List.Pairwise.nil⟩, by simp⟩
  · rw [if_neg h0] at h
    by_cases h1 : 24 < (cutL 38 s).length
    · rw [if_pos h1] at h; cases h
    · rw [if_neg h1] at h
      obtain ⟨g, e⟩ := fold_good _ [] l ⟨fun p hp => (by cases hp), List.Pairwise.nil⟩ h
      exact ⟨g, by rw [e]; simp; omega⟩
end Go.Proofs.YtgjmaeodgcigdaaGreatDoor
