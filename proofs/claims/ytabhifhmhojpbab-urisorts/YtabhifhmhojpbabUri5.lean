/- Plain facts: pairs in order, and their text. -/
import Derived.Test.YtabhifhmhojpbabUri2
namespace Go.Proofs.Ytabhifhmhojpbab

theorem bless_irrefl (x : List UInt8) : Op.bytesLess x x = false := by
  induction x with
  | nil => rfl
  | cons a x ih => rw [Op.bytesLess, ih]; simp
theorem bless_cons (a b : UInt8) (x y : List UInt8) : Op.bytesLess (a :: x) (b :: y) = (decide (a < b) || (a == b && Op.bytesLess x y)) := by rw [Op.bytesLess]
theorem bless_trans (x y z : List UInt8) (h1 : Op.bytesLess x y = true) (h2 : Op.bytesLess y z = true) : Op.bytesLess x z = true := by
  induction x generalizing y z with
  | nil =>
    cases y with
    | nil => exact absurd h1 (by decide)
    | cons b y =>
      cases z with
      | nil => exact absurd h2 (by simp [Op.bytesLess])
      | cons c z => rfl
  | cons a x ih =>
    cases y with
    | nil => exact absurd h1 (by simp [Op.bytesLess])
    | cons b y =>
      cases z with
      | nil => exact absurd h2 (by simp [Op.bytesLess])
      | cons c z =>
        rw [bless_cons] at h1 h2 ⊢
        rw [Bool.or_eq_true, Bool.and_eq_true, decide_eq_true_eq, beq_iff_eq] at h1 h2 ⊢
        rcases h1 with h1 | ⟨rfl, h1⟩
        · rcases h2 with h2 | ⟨rfl, h2⟩
          · exact .inl (UInt8.lt_trans h1 h2)
          · exact .inl h1
        · rcases h2 with h2 | ⟨rfl, h2⟩
          · exact .inl h2
          · exact .inr ⟨rfl, ih y z h1 h2⟩
theorem u8_tri (a b : UInt8) : a < b ∨ a = b ∨ b < a := by
  rcases Nat.lt_trichotomy a.toNat b.toNat with h | h | h
  · exact .inl (UInt8.lt_iff_toNat_lt.2 h)
  · exact .inr (.inl (UInt8.toNat_inj.1 h))
  · exact .inr (.inr (UInt8.lt_iff_toNat_lt.2 h))
theorem bless_total (x y : List UInt8) : Op.bytesLess x y = true ∨ x = y ∨ Op.bytesLess y x = true := by
  induction x generalizing y with
  | nil =>
    cases y with
    | nil => exact .inr (.inl rfl)
    | cons b y => exact .inl rfl
  | cons a x ih =>
    cases y with
    | nil => exact .inr (.inr rfl)
    | cons b y =>
      rw [bless_cons, bless_cons]
      rcases u8_tri a b with h | h | h
      · exact .inl (by simp [h])
      · subst h
        rcases ih y with h | h | h
        · exact .inl (by simp [h])
        · exact .inr (.inl (by rw [h]))
        · exact .inr (.inr (by simp [h]))
      · exact .inr (.inr (by simp [h]))

/-- greater, as Go has it: not less, and not the same -/
def bgt (x y : List UInt8) : Bool := !(Op.bytesLess x y || x == y)
theorem bgt_iff (x y : List UInt8) : bgt x y = Op.bytesLess y x := by
  unfold bgt
  rcases bless_total x y with h | h | h
  · rw [h]
    cases h2 : Op.bytesLess y x with
    | false => rfl
    | true => have := bless_trans x y x h h2; rw [bless_irrefl] at this; cases this
  · subst h; rw [bless_irrefl]; simp
  · rw [h]
    have hn : Op.bytesLess x y = false := by
      cases h2 : Op.bytesLess x y with
      | false => rfl
      | true => have := bless_trans x y x h2 h; rw [bless_irrefl] at this; cases this
    rw [hn]
    have : (x == y) = false := by
      rw [beq_eq_false_iff_ne]; rintro rfl; rw [bless_irrefl] at h; cases h
    rw [this]; rfl
theorem less_no {x y : List UInt8} (h : Op.bytesLess y x = true) : Op.bytesLess x y = false := by
  cases h2 : Op.bytesLess x y with
  | false => rfl
  | true => have := bless_trans x y x h2 h; rw [bless_irrefl] at this; cases this
theorem less_ne {x y : List UInt8} (h : Op.bytesLess y x = true) : (x == y) = false := by
  rw [beq_eq_false_iff_ne]; rintro rfl; rw [bless_irrefl] at h; cases h
theorem less_yes {x y : List UInt8} (h1 : ¬ Op.bytesLess y x = true) (h2 : ¬ x = y) : Op.bytesLess x y = true := by
  rcases bless_total x y with h | h | h
  · exact h
  · exact absurd h h2
  · exact absurd h h1
/-- the order of pairs: by names, then values -/
def gtP (p q : Pr) : Bool := bgt p.1 q.1 || (p.1 == q.1 && bgt p.2 q.2)
def leP (p q : Pr) : Bool := !gtP p q
theorem gtP_irrefl (p : Pr) : gtP p p = false := by unfold gtP; rw [bgt_iff, bgt_iff, bless_irrefl, bless_irrefl]; simp
theorem gtP_iff (p q : Pr) : gtP p q = true ↔ (Op.bytesLess q.1 p.1 = true ∨ (p.1 = q.1 ∧ Op.bytesLess q.2 p.2 = true)) := by
  unfold gtP; rw [bgt_iff, bgt_iff, Bool.or_eq_true, Bool.and_eq_true, beq_iff_eq]
theorem gtP_trans (p q r : Pr) (h1 : gtP p q = true) (h2 : gtP q r = true) : gtP p r = true := by
  rw [gtP_iff] at *
  rcases h1 with h1 | ⟨e1, h1⟩
  · rcases h2 with h2 | ⟨e2, h2⟩
    · exact .inl (bless_trans _ _ _ h2 h1)
    · exact .inl (by rw [← e2]; exact h1)
  · rcases h2 with h2 | ⟨e2, h2⟩
    · exact .inl (by rw [e1]; exact h2)
    · exact .inr ⟨e1.trans e2, bless_trans _ _ _ h2 h1⟩
theorem gtP_total (p q : Pr) : gtP p q = true ∨ p = q ∨ gtP q p = true := by
  rw [gtP_iff, gtP_iff]
  rcases bless_total p.1 q.1 with h | h | h
  · exact .inr (.inr (.inl h))
  · rcases bless_total p.2 q.2 with h2 | h2 | h2
    · exact .inr (.inr (.inr ⟨h.symm, h2⟩))
    · exact .inr (.inl (Prod.ext h h2))
    · exact .inl (.inr ⟨h, h2⟩)
  · exact .inl (.inl h)
theorem leP_iff (p q : Pr) : leP p q = true ↔ (p = q ∨ gtP q p = true) := by
  unfold leP
  constructor
  · intro h
    rcases gtP_total p q with h1 | h1 | h1
    · rw [h1] at h; cases h
    · exact .inl h1
    · exact .inr h1
  · rintro (rfl | h)
    · rw [gtP_irrefl]; rfl
    · cases h2 : gtP p q with
      | false => rfl
      | true => have := gtP_trans p q p h2 h; rw [gtP_irrefl] at this; cases this
theorem leP_trans (p q r : Pr) (h1 : leP p q = true) (h2 : leP q r = true) : leP p r = true := by
  rw [leP_iff] at *
  rcases h1 with rfl | h1
  · exact h2
  · rcases h2 with rfl | h2
    · exact .inr h1
    · exact .inr (gtP_trans _ _ _ h2 h1)
theorem leP_antisymm (p q : Pr) (h1 : leP p q = true) (h2 : leP q p = true) : p = q := by
  rw [leP_iff] at *
  rcases h1 with h1 | h1
  · exact h1
  · rcases h2 with h2 | h2
    · exact h2.symm
    · have := gtP_trans _ _ _ h1 h2; rw [gtP_irrefl] at this; cases this
theorem leP_total (p q : Pr) : leP p q = true ∨ leP q p = true := by
  rw [leP_iff, leP_iff]
  rcases gtP_total p q with h | h | h
  · exact .inr (.inr h)
  · exact .inl (.inl h)
  · exact .inl (.inr h)

/-- sorted lists of the same pairs are the same -/
theorem sorted_one {l m : List Pr} (hp : l.Perm m) (hl : l.Pairwise (fun a b => leP a b = true)) (hm : m.Pairwise (fun a b => leP a b = true)) : l = m :=
  hp.eq_of_pairwise (fun a b _ _ h1 h2 => leP_antisymm a b h1 h2) hl hm

/-- where a pair comes to stand, from behind -/
def insK (out : List Pr) (p : Pr) : Nat → Nat
  | 0 => 0
  | k + 1 => if gtP (nthP out k) p then insK out p k else k + 1
def insP (out : List Pr) (p : Pr) : List Pr := out.take (insK out p out.length) ++ p :: out.drop (insK out p out.length)
theorem insK_le (out : List Pr) (p : Pr) (k : Nat) : insK out p k ≤ k := by
  induction k with
  | zero => exact Nat.le_refl _
  | succ k ih => rw [insK]; split <;> omega
theorem insP_perm (out : List Pr) (p : Pr) : (insP out p).Perm (p :: out) := by
  unfold insP
  refine List.perm_middle.trans ?_
  rw [List.take_append_drop]
theorem insP_length (out : List Pr) (p : Pr) : (insP out p).length = out.length + 1 := (insP_perm out p).length_eq
/-- ahead of it none is greater; behind it all are -/
theorem insK_ahead (out : List Pr) (p : Pr) (k : Nat) (h : 0 < insK out p k) : gtP (nthP out (insK out p k - 1)) p = false := by
  induction k with
  | zero => exact absurd h (Nat.lt_irrefl 0)
  | succ k ih =>
    rw [insK] at h ⊢
    by_cases hg : gtP (nthP out k) p = true
    · rw [if_pos hg] at h ⊢; exact ih h
    · rw [if_neg hg]; simpa using hg
theorem insK_behind (out : List Pr) (p : Pr) (k i : Nat) (h1 : insK out p k ≤ i) (h2 : i < k) : gtP (nthP out i) p = true := by
  induction k with
  | zero => omega
  | succ k ih =>
    rw [insK] at h1
    by_cases hg : gtP (nthP out k) p = true
    · rw [if_pos hg] at h1
      rcases Nat.lt_or_ge i k with h | h
      · exact ih h1 h
      · have : i = k := by omega
        subst this; exact hg
    · rw [if_neg hg] at h1; omega
theorem insP_sorted (out : List Pr) (p : Pr) (h : out.Pairwise (fun a b => leP a b = true)) : (insP out p).Pairwise (fun a b => leP a b = true) := by
  have hk := insK_le out p out.length
  unfold insP
  rw [List.pairwise_append]
  have h' := h
  rw [← List.take_append_drop (insK out p out.length) out, List.pairwise_append] at h'
  obtain ⟨s1, s2, s3⟩ := h'
  have behind : ∀ q ∈ out.drop (insK out p out.length), leP p q = true := by
    intro q hq
    obtain ⟨i, hi, rfl⟩ := List.getElem_of_mem hq
    rw [List.length_drop] at hi
    have := insK_behind out p out.length (insK out p out.length + i) (by omega) (by omega)
    rw [List.getElem_drop]
    rw [nthP_eq _ _ (by omega)] at this
    exact (leP_iff _ _).2 (.inr this)
  have ahead : ∀ q ∈ out.take (insK out p out.length), leP q p = true := by
    intro q hq
    obtain ⟨i, hi, rfl⟩ := List.getElem_of_mem hq
    rw [List.length_take] at hi
    have h0 : 0 < insK out p out.length := by omega
    have hl := insK_ahead out p out.length h0
    rw [nthP_eq _ _ (by omega)] at hl
    have hle : leP (out[insK out p out.length - 1]'(by omega)) p = true := by unfold leP; rw [hl]; rfl
    rw [List.getElem_take]
    rcases Nat.lt_or_ge i (insK out p out.length - 1) with hlt | hge
    · exact leP_trans _ _ _ (List.pairwise_iff_getElem.1 h i (insK out p out.length - 1) (by omega) (by omega) hlt) hle
    · have : i = insK out p out.length - 1 := by omega
      subst this; exact hle
  refine ⟨s1, List.pairwise_cons.2 ⟨behind, s2⟩, fun a ha b hb => ?_⟩
  rcases List.mem_cons.1 hb with rfl | hb
  · exact ahead a ha
  · exact s3 a ha b hb

/-- a pair, encoded; pairs, encoded and sorted -/
def encP (p : Pr) : Pr := (encL false p.1, encL false p.2)
def sortL (l : List Pr) : List Pr := l.foldl (fun out p => insP out (encP p)) []
theorem sortL_snoc (l : List Pr) (p : Pr) : sortL (l ++ [p]) = insP (sortL l) (encP p) := by unfold sortL; rw [List.foldl_append]; rfl
theorem take_nthP (l : List Pr) (k : Nat) (h : k < l.length) : l.take (k + 1) = l.take k ++ [nthP l k] := by
  rw [nthP_eq l k h, ← List.take_append_getElem h]
theorem sortL_take (l : List Pr) (k : Nat) (h : k < l.length) : sortL (l.take (k + 1)) = insP (sortL (l.take k)) (encP (nthP l k)) := by
  rw [take_nthP l k h, sortL_snoc]
theorem sort_all (l : List Pr) : ∀ acc : List Pr, acc.Pairwise (fun a b => leP a b = true) → (l.foldl (fun out p => insP out (encP p)) acc).Pairwise (fun a b => leP a b = true) ∧ (l.foldl (fun out p => insP out (encP p)) acc).Perm (acc ++ l.map encP) := by
  induction l with
  | nil => intro acc h; exact ⟨h, by simp⟩
  | cons p l ih =>
    intro acc h
    obtain ⟨h1, h2⟩ := ih (insP acc (encP p)) (insP_sorted acc (encP p) h)
    refine ⟨h1, h2.trans ?_⟩
    have h3 := (insP_perm acc (encP p)).append_right (l.map encP)
    refine h3.trans ?_
    rw [List.map_cons]
    exact (List.perm_middle (a := encP p) (l₁ := acc) (l₂ := l.map encP)).symm
theorem sortL_sorted (l : List Pr) : (sortL l).Pairwise (fun a b => leP a b = true) := (sort_all l [] List.Pairwise.nil).1
theorem sortL_perm (l : List Pr) : (sortL l).Perm (l.map encP) := (sort_all l [] List.Pairwise.nil).2
theorem sortL_length (l : List Pr) : (sortL l).length = l.length := by rw [(sortL_perm l).length_eq, List.length_map]
/-- the text of pairs -/
def joinK (l : List Pr) : Nat → List UInt8
  | 0 => []
  | k + 1 => joinK l k ++ (if 0 < k then [38] else []) ++ (nthP l k).1 ++ [61] ++ (nthP l k).2
def joinL (l : List Pr) : List UInt8 := joinK l l.length
def canonL (l : List Pr) : List UInt8 := joinL (sortL l)
/-- it hangs on no order -/
theorem canonL_perm {l m : List Pr} (h : l.Perm m) : canonL l = canonL m := by
  unfold canonL
  rw [sorted_one ((sortL_perm l).trans ((h.map encP).trans (sortL_perm m).symm)) (sortL_sorted l) (sortL_sorted m)]
end Go.Proofs.Ytabhifhmhojpbab
