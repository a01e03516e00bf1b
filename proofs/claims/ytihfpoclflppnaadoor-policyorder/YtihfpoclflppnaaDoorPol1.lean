/- Policies, plain: words, rules, their texts, there and back; what rules decide. -/
import Derived.Test.YtihfpoclflppnaaDoorB5
import Derived.Test.YtihfpoclflppnaaDoorPol0
namespace Go.Proofs.YtihfpoclflppnaaDoor

/-- parts with a sign between them -/
def joinC (c : UInt8) : List (List UInt8) → List UInt8
  | [] => []
  | [a] => a
  | a :: b :: r => a ++ c :: joinC c (b :: r)
theorem joinC_cons (c : UInt8) (a : List UInt8) (r : List (List UInt8)) (h : r ≠ []) : joinC c (a :: r) = a ++ c :: joinC c r := by
  cases r with
  | nil => exact absurd rfl h
  | cons b r => rfl
theorem pcut_from (c : UInt8) (l : List UInt8) (acc : List (List UInt8)) (x : List UInt8) : l.foldl (cutStep c) (acc ++ [x]) = acc ++ l.foldl (cutStep c) [x] := by
  induction l generalizing acc x with
  | nil => rfl
  | cons d l ih =>
    rw [List.foldl_cons, List.foldl_cons]
    by_cases hd : d = c
    · have e1 : cutStep c (acc ++ [x]) d = (acc ++ [x]) ++ [[]] := by unfold cutStep; rw [if_pos hd]
      have e2 : cutStep c [x] d = [x] ++ [[]] := by unfold cutStep; rw [if_pos hd]
      rw [e1, e2, ih, ih [x] [], List.append_assoc]
    · have e1 : cutStep c (acc ++ [x]) d = acc ++ [x ++ [d]] := by
        unfold cutStep; rw [if_neg hd]
        have : nthT (acc ++ [x]) ((acc ++ [x]).length - 1) = x := by
          rw [nthT_eq _ _ (by simp)]; simp
        rw [this, List.length_append, List.length_singleton, Nat.add_sub_cancel, List.set_append_right _ _ (Nat.le_refl _)]
        simp
      have e2 : cutStep c [x] d = [x ++ [d]] := by unfold cutStep; rw [if_neg hd]; rfl
      rw [e1, e2, ih]
theorem cut_none (c : UInt8) (l x : List UInt8) (h : c ∉ l) : l.foldl (cutStep c) [x] = [x ++ l] := by
  induction l generalizing x with
  | nil => simp
  | cons d l ih =>
    have hd : ¬ d = c := fun e => h (by rw [e]; exact List.mem_cons_self ..)
    have e2 : cutStep c [x] d = [x ++ [d]] := by unfold cutStep; rw [if_neg hd]; rfl
    rw [List.foldl_cons, e2, ih _ (fun hm => h (List.mem_cons_of_mem _ hm)), List.append_assoc]; rfl
theorem cutL_none (c : UInt8) (l : List UInt8) (h : c ∉ l) : cutL c l = [l] := cut_none c l [] h
theorem cutL_at (c : UInt8) (a b : List UInt8) (h : c ∉ a) : cutL c (a ++ c :: b) = a :: cutL c b := by
  unfold cutL
  rw [List.foldl_append, cut_none c a [] h, List.foldl_cons]
  have e : cutStep c [[] ++ a] c = [a] ++ [[]] := by unfold cutStep; rw [if_pos rfl]; rfl
  rw [e, pcut_from]; rfl
theorem cutL_ne (c : UInt8) (l : List UInt8) : cutL c l ≠ [] := fun e => by have := cutL_pos c l; rw [e] at this; exact absurd this (Nat.lt_irrefl 0)
theorem psplit_at (c : UInt8) (l : List UInt8) (h : c ∈ l) : ∃ a b, l = a ++ c :: b ∧ c ∉ a := by
  induction l with
  | nil => cases h
  | cons d l ih =>
    by_cases hd : d = c
    · subst hd; exact ⟨[], l, rfl, by simp⟩
    · have hm : c ∈ l := by
        rcases List.mem_cons.1 h with e | e
        · exact absurd e.symm hd
        · exact e
      obtain ⟨a, b, e, ha⟩ := ih hm
      refine ⟨d :: a, b, by rw [e]; rfl, ?_⟩
      intro hm2
      rcases List.mem_cons.1 hm2 with e2 | e2
      · exact hd e2.symm
      · exact ha e2
theorem join_cut (c : UInt8) (l : List UInt8) : joinC c (cutL c l) = l := by
  have key : ∀ n, ∀ l : List UInt8, l.length ≤ n → joinC c (cutL c l) = l := by
    intro n
    induction n with
    | zero => intro l hl; rw [List.length_eq_zero_iff.1 (Nat.le_zero.1 hl)]; rfl
    | succ n ih =>
      intro l hl
      by_cases h : c ∈ l
      · obtain ⟨a, b, rfl, ha⟩ := psplit_at c l h
        rw [cutL_at c a b ha, joinC_cons c a _ (cutL_ne c b), ih b (by rw [List.length_append, List.length_cons] at hl; omega)]
      · rw [cutL_none c l h]; rfl
  exact key l.length l (Nat.le_refl _)
theorem pcut_join (c : UInt8) (ps : List (List UInt8)) (h0 : ps ≠ []) (h : ∀ p ∈ ps, c ∉ p) : cutL c (joinC c ps) = ps := by
  induction ps with
  | nil => exact absurd rfl h0
  | cons a r ih =>
    cases r with
    | nil => exact cutL_none c a (h a (List.mem_cons_self ..))
    | cons b r =>
      rw [joinC_cons c a _ (by simp), cutL_at c a _ (h a (List.mem_cons_self ..)), ih (by simp) fun p hp => h p (List.mem_cons_of_mem _ hp)]
theorem cutL_parts (c : UInt8) (l : List UInt8) : ∀ p ∈ cutL c l, c ∉ p := by
  have key : ∀ n, ∀ l : List UInt8, l.length ≤ n → ∀ p ∈ cutL c l, c ∉ p := by
    intro n
    induction n with
    | zero =>
      intro l hl p hp
      rw [List.length_eq_zero_iff.1 (Nat.le_zero.1 hl)] at hp
      rw [show cutL c [] = [[]] from rfl, List.mem_singleton] at hp
      rw [hp]; simp
    | succ n ih =>
      intro l hl p hp
      by_cases h : c ∈ l
      · obtain ⟨a, b, rfl, ha⟩ := psplit_at c l h
        rw [cutL_at c a b ha] at hp
        rcases List.mem_cons.1 hp with e | e
        · rw [e]; exact ha
        · exact ih b (by rw [List.length_append, List.length_cons] at hl; omega) p e
      · rw [cutL_none c l h, List.mem_singleton] at hp
        rw [hp]; exact h
  exact key l.length l (Nat.le_refl _)

/-- a word -/
def wordC (c : UInt8) : Bool := decide (33 ≤ c.toNat ∧ c.toNat ≤ 126 ∧ c.toNat ≠ 59)
def wordL (l : List UInt8) : Bool := l.all wordC && decide (1 ≤ l.length ∧ l.length ≤ 64)
theorem wordL_not {l : List UInt8} (h : wordL l = true) {c : UInt8} (hc : wordC c = false) : c ∉ l := by
  intro hm
  unfold wordL at h
  rw [Bool.and_eq_true] at h
  rw [List.all_eq_true.1 h.1 c hm] at hc
  cases hc
/-- a rule -/
structure Ru where
  deny : Bool
  who : List UInt8
  act : List UInt8
  res : List UInt8
def sAllow : List UInt8 := [97, 108, 108, 111, 119]
def sDeny : List UInt8 := [100, 101, 110, 121]
def kindL (d : Bool) : List UInt8 := if d = true then sDeny else sAllow
def wordsR (r : Ru) : Bool := wordL r.who && wordL r.act && wordL r.res
def partsR (r : Ru) : List (List UInt8) := [kindL r.deny, r.who, r.act, r.res]
def ruleT (r : Ru) : List UInt8 := joinC 32 (partsR r)
def textR (l : List Ru) : List UInt8 := joinC 59 (l.map ruleT)
/-- four parts as a rule -/
def ruleOk (ps : List (List UInt8)) : Bool := decide (ps.length = 4) && ((nthT ps 0 == sAllow) || (nthT ps 0 == sDeny)) && wordL (nthT ps 1) && wordL (nthT ps 2) && wordL (nthT ps 3)
def ruleOf (ps : List (List UInt8)) : Ru := ⟨nthT ps 0 == sDeny, nthT ps 1, nthT ps 2, nthT ps 3⟩
def partsOf (l : List UInt8) : List (List (List UInt8)) := (cutL 59 l).map (cutL 32)
/-- what Parse says -/
def parOk (l : List UInt8) : Bool := decide (l.length ≤ 160) && (l.isEmpty || (partsOf l).all ruleOk)
def parR (l : List UInt8) : List Ru := if parOk l = true then (if l.isEmpty = true then [] else (partsOf l).map ruleOf) else []
def parE (l : List UInt8) : Int := if parOk l = true then 0 else 45
/-- what Show says -/
def shoOk (l : List Ru) : Bool := l.all wordsR && decide ((textR l).length ≤ 160)
def shoT (l : List Ru) : List UInt8 := if shoOk l = true then textR l else []
def shoE (l : List Ru) : Int := if shoOk l = true then 0 else 45

theorem kind_eq (d : Bool) : kindL d = sDeny ∨ kindL d = sAllow := by unfold kindL; split <;> simp
theorem kind_no (d : Bool) (c : UInt8) (h : c = 32 ∨ c = 59) : c ∉ kindL d := by
  unfold kindL sDeny sAllow
  rcases h with rfl | rfl <;> split <;> decide
theorem word32 : wordC 32 = false := by decide
theorem word59 : wordC 59 = false := by decide
theorem parts_no (r : Ru) (h : wordsR r = true) (c : UInt8) (hc : c = 32 ∨ c = 59) : ∀ p ∈ partsR r, c ∉ p := by
  unfold wordsR at h
  rw [Bool.and_eq_true, Bool.and_eq_true] at h
  have hw : wordC c = false := by rcases hc with rfl | rfl <;> decide
  intro p hp
  simp only [partsR, List.mem_cons, List.not_mem_nil, or_false] at hp
  rcases hp with rfl | rfl | rfl | rfl
  · exact kind_no _ _ hc
  · exact wordL_not h.1.1 hw
  · exact wordL_not h.1.2 hw
  · exact wordL_not h.2 hw
theorem cut_rule (r : Ru) (h : wordsR r = true) : cutL 32 (ruleT r) = partsR r := pcut_join 32 _ (by simp [partsR]) (parts_no r h 32 (.inl rfl))
theorem rule_no59 (r : Ru) (h : wordsR r = true) : (59 : UInt8) ∉ ruleT r := by
  have hp := parts_no r h 59 (.inr rfl)
  unfold ruleT partsR at *
  simp only [joinC, List.mem_append, List.mem_cons, not_or]
  have h0 := hp (kindL r.deny) (by simp)
  have h1 := hp r.who (by simp)
  have h2 := hp r.act (by simp)
  have h3 := hp r.res (by simp)
  exact ⟨h0, by decide, h1, by decide, h2, by decide, h3⟩
theorem rule_ne (r : Ru) : ruleT r ≠ [] := by
  unfold ruleT partsR; simp only [joinC]
  intro e
  have := congrArg List.length e
  simp at this
theorem ruleOk_parts (r : Ru) (h : wordsR r = true) : ruleOk (partsR r) = true := by
  unfold wordsR at h
  rw [Bool.and_eq_true, Bool.and_eq_true] at h
  have e0 : nthT (partsR r) 0 = kindL r.deny := rfl
  have e1 : nthT (partsR r) 1 = r.who := rfl
  have e2 : nthT (partsR r) 2 = r.act := rfl
  have e3 : nthT (partsR r) 3 = r.res := rfl
  unfold ruleOk
  rw [e0, e1, e2, e3, h.1.1, h.1.2, h.2]
  rcases kind_eq r.deny with e | e <;> rw [e] <;> rfl
theorem ruleOf_parts (r : Ru) : ruleOf (partsR r) = r := by
  unfold ruleOf
  have e0 : (nthT (partsR r) 0 == sDeny) = r.deny := by
    show (kindL r.deny == sDeny) = r.deny
    unfold kindL
    cases r.deny <;> rfl
  rw [e0]; rfl
theorem parts_four (ps : List (List UInt8)) (h : ruleOk ps = true) : partsR (ruleOf ps) = ps ∧ wordsR (ruleOf ps) = true := by
  unfold ruleOk at h
  rw [Bool.and_eq_true, Bool.and_eq_true, Bool.and_eq_true, Bool.and_eq_true, decide_eq_true_iff] at h
  obtain ⟨⟨⟨⟨h4, h0⟩, h1⟩, h2⟩, h3⟩ := h
  match ps, h4 with
  | [a, b, c, d], _ =>
    refine ⟨?_, ?_⟩
    · show [kindL (a == sDeny), b, c, d] = [a, b, c, d]
      have e : kindL (a == sDeny) = a := by
        rw [Bool.or_eq_true] at h0
        rcases h0 with e | e
        · have e' : a = sAllow := by simpa [nthT] using e
          rw [e']; decide
        · have e' : a = sDeny := by simpa [nthT] using e
          rw [e']; decide
      rw [e]
    · unfold wordsR ruleOf
      rw [h1, h2, h3]; rfl

/-- rules that are shown are parsed as they were -/
theorem par_sho (l : List Ru) (h : shoOk l = true) : parOk (textR l) = true ∧ parR (textR l) = l := by
  unfold shoOk at h
  rw [Bool.and_eq_true, decide_eq_true_iff, List.all_eq_true] at h
  cases l with
  | nil => exact ⟨rfl, rfl⟩
  | cons r l =>
    have hne : (textR (r :: l)).isEmpty = false := by
      unfold textR
      cases l with
      | nil =>
        show (ruleT r).isEmpty = false
        cases e : ruleT r with
        | nil => exact absurd e (rule_ne r)
        | cons a b => rfl
      | cons s l =>
        rw [List.map_cons, joinC_cons 59 _ _ (by simp)]
        cases ruleT r <;> rfl
    have hcut : cutL 59 (textR (r :: l)) = (r :: l).map ruleT := pcut_join 59 _ (by simp) fun p hp => by
      obtain ⟨s, hs, rfl⟩ := List.mem_map.1 hp
      exact rule_no59 s (h.1 s hs)
    have hparts : partsOf (textR (r :: l)) = (r :: l).map partsR := by
      unfold partsOf
      rw [hcut, List.map_map]
      exact List.map_congr_left fun s hs => cut_rule s (h.1 s hs)
    have hok : parOk (textR (r :: l)) = true := by
      unfold parOk
      rw [decide_eq_true h.2, hne, hparts, Bool.true_and, Bool.false_or, List.all_eq_true]
      intro p hp
      obtain ⟨s, hs, rfl⟩ := List.mem_map.1 hp
      exact ruleOk_parts s (h.1 s hs)
    refine ⟨hok, ?_⟩
    unfold parR
    rw [if_pos hok, hne, if_neg (by simp), hparts, List.map_map]
    have : ∀ m : List Ru, m.map (ruleOf ∘ partsR) = m := fun m => by
      induction m with
      | nil => rfl
      | cons a m ih => rw [List.map_cons, ih, Function.comp, ruleOf_parts]
    exact this _
/-- a text that is parsed is shown as it -/
theorem sho_par (l : List UInt8) (h : parOk l = true) : shoOk (parR l) = true ∧ textR (parR l) = l := by
  have hR : parR l = if l.isEmpty = true then [] else (partsOf l).map ruleOf := by unfold parR; rw [if_pos h]
  unfold parOk at h
  rw [Bool.and_eq_true, decide_eq_true_iff, Bool.or_eq_true] at h
  by_cases he : l.isEmpty = true
  · have hl : l = [] := List.isEmpty_iff.1 he
    rw [hR, if_pos he, hl]
    exact ⟨rfl, rfl⟩
  · have ha : (partsOf l).all ruleOk = true := by
      rcases h.2 with h2 | h2
      · exact absurd h2 he
      · exact h2
    rw [List.all_eq_true] at ha
    have ht : textR ((partsOf l).map ruleOf) = l := by
      unfold textR partsOf
      rw [List.map_map, List.map_map]
      have e : (cutL 59 l).map (ruleT ∘ ruleOf ∘ cutL 32) = cutL 59 l := by
        have key : ∀ m : List (List UInt8), (∀ p ∈ m, ruleOk (cutL 32 p) = true) → m.map (ruleT ∘ ruleOf ∘ cutL 32) = m := by
          intro m
          induction m with
          | nil => intro _; rfl
          | cons p m ih =>
            intro hm
            rw [List.map_cons, ih fun q hq => hm q (List.mem_cons_of_mem _ hq)]
            have e := (parts_four (cutL 32 p) (hm p (List.mem_cons_self ..))).1
            show joinC 32 (partsR (ruleOf (cutL 32 p))) :: m = p :: m
            rw [e, join_cut]
        exact key _ fun p hp => ha _ (List.mem_map_of_mem hp)
      rw [show ((ruleT ∘ ruleOf) ∘ cutL 32) = (ruleT ∘ ruleOf ∘ cutL 32) from rfl, e, join_cut]
    rw [hR, if_neg he]
    refine ⟨?_, ht⟩
    unfold shoOk
    rw [ht, decide_eq_true h.1, Bool.and_true, List.all_eq_true]
    intro r hr
    obtain ⟨p, hp, rfl⟩ := List.mem_map.1 hr
    exact (parts_four p (ha p hp)).2

/-- what rules decide -/
def fitR (r : Ru) (who act res : List UInt8) : Bool := matL r.who who && matL r.act act && matL r.res res
def denR (l : List Ru) (who act res : List UInt8) : Bool := l.any fun r => r.deny && fitR r who act res
def allR (l : List Ru) (who act res : List UInt8) : Bool := l.any fun r => !r.deny && fitR r who act res
def decR (l : List Ru) (who act res : List UInt8) : Nat := if denR l who act res = true then 2 else if allR l who act res = true then 1 else 0
def mayR (l : List Ru) (root : Bool) (who act res : List UInt8) : Bool := if denR l who act res = true then false else (allR l who act res || root)
theorem any_mem {l m : List Ru} (f : Ru → Bool) (h : ∀ r, r ∈ m ↔ r ∈ l) : m.any f = l.any f := by
  rw [Bool.eq_iff_iff, List.any_eq_true, List.any_eq_true]
  exact ⟨fun ⟨x, hx, hf⟩ => ⟨x, (h x).1 hx, hf⟩, fun ⟨x, hx, hf⟩ => ⟨x, (h x).2 hx, hf⟩⟩
theorem dec_mem {l m : List Ru} (h : ∀ r, r ∈ m ↔ r ∈ l) (who act res : List UInt8) : decR m who act res = decR l who act res := by
  unfold decR denR allR; rw [any_mem _ h, any_mem _ h]
theorem may_mem {l m : List Ru} (h : ∀ r, r ∈ m ↔ r ∈ l) (root : Bool) (who act res : List UInt8) : mayR m root who act res = mayR l root who act res := by
  unfold mayR denR allR; rw [any_mem _ h, any_mem _ h]
/-- one more rule that denies never allows more -/
theorem may_more (l : List Ru) (r : Ru) (hr : r.deny = true) (root : Bool) (who act res : List UInt8) (h : mayR (l ++ [r]) root who act res = true) : mayR l root who act res = true := by
  unfold mayR denR allR at *
  simp only [List.any_append, List.any_cons, List.any_nil, hr, Bool.or_false, Bool.not_true, Bool.false_and, Bool.true_and] at h
  cases h1 : l.any (fun r => r.deny && fitR r who act res) <;> rw [h1] at h <;> simp at h ⊢
  cases h2 : fitR r who act res <;> rw [h2] at h <;> simp at h ⊢
  exact h
end Go.Proofs.YtihfpoclflppnaaDoor
