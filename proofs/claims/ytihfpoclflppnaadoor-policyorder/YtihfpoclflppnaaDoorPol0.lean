/- Patterns, plain: which texts a pattern matches. -/
import Derived.Test.YtihfpoclflppnaaDoorB0
namespace Go.Proofs.YtihfpoclflppnaaDoor

/-- the pattern's answer -/
def matL : List UInt8 → List UInt8 → Bool
  | [], s => s.isEmpty
  | c :: p, s => if c = 42 then (List.range (s.length + 1)).any (fun k => matL p (s.drop k)) else
    match s with
    | [] => false
    | d :: t => (decide (c = 63) || decide (c = d)) && matL p t
theorem matL_star (p s : List UInt8) : matL (42 :: p) s = (List.range (s.length + 1)).any (fun k => matL p (s.drop k)) := by
  show (if (42 : UInt8) = 42 then (List.range (s.length + 1)).any (fun k => matL p (s.drop k)) else _) = _
  rw [if_pos rfl]
theorem matL_byte {c : UInt8} (hc : c ≠ 42) (p : List UInt8) (d : UInt8) (t : List UInt8) : matL (c :: p) (d :: t) = ((decide (c = 63) || decide (c = d)) && matL p t) := by
  show (if c = 42 then _ else ((decide (c = 63) || decide (c = d)) && matL p t)) = _
  rw [if_neg hc]
theorem matL_none {c : UInt8} (hc : c ≠ 42) (p : List UInt8) : matL (c :: p) [] = false := by
  show (if c = 42 then _ else false) = _
  rw [if_neg hc]
/-- a pattern matches a text -/
def Mt (p s : List UInt8) : Prop := matL p s = true
theorem matL_iff {p s : List UInt8} : matL p s = true ↔ Mt p s := Iff.rfl
theorem matL_no {p s : List UInt8} (h : ¬ Mt p s) : matL p s = false := by
  cases e : matL p s with
  | false => rfl
  | true => exact absurd e h
theorem Mt.nil_iff {s : List UInt8} : Mt [] s ↔ s = [] := by unfold Mt matL; exact List.isEmpty_iff
/-- a star matches any text ahead of what the rest matches -/
theorem Mt.star_drop {p s : List UInt8} : Mt (42 :: p) s ↔ ∃ k, k ≤ s.length ∧ Mt p (s.drop k) := by
  unfold Mt
  rw [matL_star, List.any_eq_true]
  constructor
  · rintro ⟨k, hk, h⟩
    exact ⟨k, by have := List.mem_range.1 hk; omega, h⟩
  · rintro ⟨k, hk, h⟩
    exact ⟨k, List.mem_range.2 (by omega), h⟩
theorem Mt.cons_iff {c : UInt8} {p s : List UInt8} (hc : c ≠ 42) : Mt (c :: p) s ↔ ∃ d t, s = d :: t ∧ (c = 63 ∨ c = d) ∧ Mt p t := by
  unfold Mt
  cases s with
  | nil =>
    rw [matL_none hc]
    constructor
    · intro h; cases h
    · rintro ⟨d, t, e, _⟩; cases e
  | cons d t =>
    rw [matL_byte hc, Bool.and_eq_true, Bool.or_eq_true, decide_eq_true_iff, decide_eq_true_iff]
    constructor
    · rintro ⟨h1, h2⟩; exact ⟨d, t, rfl, h1, h2⟩
    · rintro ⟨d', t', e, h1, h2⟩
      injection e with e1 e2
      subst e1 e2
      exact ⟨h1, h2⟩
theorem Mt.nil : Mt [] [] := rfl
theorem Mt.skip {p s : List UInt8} (h : Mt p s) : Mt (42 :: p) s := Mt.star_drop.2 ⟨0, Nat.zero_le _, h⟩
theorem Mt.eat {p s : List UInt8} {c : UInt8} (h : Mt (42 :: p) s) : Mt (42 :: p) (c :: s) := by
  obtain ⟨k, hk, h⟩ := Mt.star_drop.1 h
  exact Mt.star_drop.2 ⟨k + 1, by simp only [List.length_cons]; omega, h⟩
theorem Mt.anyC {p s : List UInt8} {c : UInt8} (h : Mt p s) : Mt (63 :: p) (c :: s) := (Mt.cons_iff (by decide)).2 ⟨c, s, rfl, .inl rfl, h⟩
theorem Mt.one {p s : List UInt8} {c : UInt8} (hc : c ≠ 42) (h : Mt p s) : Mt (c :: p) (c :: s) := (Mt.cons_iff hc).2 ⟨c, s, rfl, .inr rfl, h⟩
/-- by the first byte of the pattern -/
theorem Mt.star_iff {p s : List UInt8} : Mt (42 :: p) s ↔ Mt p s ∨ ∃ c t, s = c :: t ∧ Mt (42 :: p) t := by
  constructor
  · intro h
    obtain ⟨k, hk, h⟩ := Mt.star_drop.1 h
    cases k with
    | zero => exact .inl h
    | succ k =>
      cases s with
      | nil => simp at hk
      | cons c s => exact .inr ⟨c, s, rfl, Mt.star_drop.2 ⟨k, by simp only [List.length_cons] at hk; omega, h⟩⟩
  · rintro (h | ⟨c, t, rfl, h⟩)
    · exact Mt.skip h
    · exact Mt.eat h
theorem Mt.app {p q s t : List UInt8} (h : Mt p s) (h2 : Mt q t) : Mt (p ++ q) (s ++ t) := by
  induction p generalizing s with
  | nil =>
    have := Mt.nil_iff.1 h
    subst this; exact h2
  | cons c p ih =>
    by_cases hc : c = 42
    · subst hc
      obtain ⟨k, hk, h⟩ := Mt.star_drop.1 h
      refine Mt.star_drop.2 ⟨k, by rw [List.length_append]; omega, ?_⟩
      rw [List.drop_append_of_le_length hk]
      exact ih h
    · obtain ⟨d, u, rfl, hd, h⟩ := (Mt.cons_iff hc).1 h
      exact (Mt.cons_iff hc).2 ⟨d, u ++ t, rfl, hd, ih h⟩
theorem Mt.star (s : List UInt8) : Mt [42] s := Mt.star_drop.2 ⟨s.length, Nat.le_refl _, by rw [List.drop_length]; exact Mt.nil⟩

/-- a pattern without signs matches itself alone -/
theorem Mt.plain {p s : List UInt8} (hp : ∀ c ∈ p, c ≠ 42 ∧ c ≠ 63) : Mt p s ↔ p = s := by
  induction p generalizing s with
  | nil =>
    rw [Mt.nil_iff]
    exact ⟨fun e => e.symm, fun e => e.symm⟩
  | cons c p ih =>
    have hc := hp c (List.mem_cons_self ..)
    have hq := fun s => ih (s := s) fun d hd => hp d (List.mem_cons_of_mem _ hd)
    rw [Mt.cons_iff hc.1]
    constructor
    · rintro ⟨d, t, rfl, hd, h⟩
      rcases hd with hd | hd
      · exact absurd hd hc.2
      · rw [hd, (hq t).1 h]
    · rintro rfl
      exact ⟨c, p, rfl, .inr rfl, (hq p).2 rfl⟩

/-- from behind: by the last byte of the pattern -/
theorem Mt.split {p q u : List UInt8} (h : Mt (p ++ q) u) : ∃ s t, u = s ++ t ∧ Mt p s ∧ Mt q t := by
  induction p generalizing u with
  | nil => exact ⟨[], u, rfl, .nil, h⟩
  | cons c p ih =>
    by_cases hc : c = 42
    · subst hc
      obtain ⟨k, hk, h⟩ := Mt.star_drop.1 h
      obtain ⟨s, t, e, h1, h2⟩ := ih h
      refine ⟨u.take k ++ s, t, ?_, Mt.star_drop.2 ⟨k, by rw [List.length_append, List.length_take]; omega, ?_⟩, h2⟩
      · rw [List.append_assoc, ← e, List.take_append_drop]
      · rw [List.drop_append_of_le_length (by rw [List.length_take]; omega), List.drop_of_length_le (by rw [List.length_take]; omega)]
        exact h1
    · obtain ⟨d, t, rfl, hd, h⟩ := (Mt.cons_iff hc).1 h
      obtain ⟨s, t2, e, h1, h2⟩ := ih h
      exact ⟨d :: s, t2, by rw [e]; rfl, (Mt.cons_iff hc).2 ⟨d, s, rfl, hd, h1⟩, h2⟩
theorem Mt.snoc_star {p s : List UInt8} : Mt (p ++ [42]) s ↔ ∃ k, k ≤ s.length ∧ Mt p (s.take k) := by
  constructor
  · intro h
    obtain ⟨a, b, rfl, h1, _⟩ := h.split
    exact ⟨a.length, by simp, by simpa using h1⟩
  · rintro ⟨k, _, h⟩
    have := h.app (Mt.star (s.drop k))
    rwa [List.take_append_drop] at this
theorem Mt.snoc_one {p s : List UInt8} {c : UInt8} (hc : c ≠ 42) : Mt (p ++ [c]) s ↔ ∃ t d, s = t ++ [d] ∧ (c = 63 ∨ c = d) ∧ Mt p t := by
  constructor
  · intro h
    obtain ⟨a, b, rfl, h1, h2⟩ := h.split
    obtain ⟨d, t, rfl, hd, h3⟩ := (Mt.cons_iff hc).1 h2
    have ht := Mt.nil_iff.1 h3
    subst ht
    exact ⟨a, d, rfl, hd, h1⟩
  · rintro ⟨t, d, rfl, hd, h⟩
    exact h.app ((Mt.cons_iff hc).2 ⟨d, [], rfl, hd, Mt.nil⟩)

theorem matL_eq {p s : List UInt8} {b : Bool} (h : b = true ↔ Mt p s) : matL p s = b := by
  cases hb : b with
  | true => exact matL_iff.2 (h.1 hb)
  | false => exact matL_no fun hm => by rw [h.2 hm] at hb; cases hb

/-- behind i bytes of the pattern, of k bytes of the text -/
def matTo (p s : List UInt8) (i k : Nat) : Bool := matL (p.take i) (s.take k)
theorem take_snoc (l : List UInt8) (i : Nat) (h : i < l.length) : l.take (i + 1) = l.take i ++ [nth l i] := by
  rw [List.take_add_one, List.getElem?_eq_getElem h, nth_eq l i h]; rfl
theorem matTo_first (p s : List UInt8) (k : Nat) (hk : k ≤ s.length) : matTo p s 0 k = decide (k = 0) := by
  refine matL_eq ?_
  rw [decide_eq_true_iff, List.take_zero, Mt.nil_iff]
  constructor
  · rintro rfl; rfl
  · intro h
    have := congrArg List.length h
    rw [List.length_take, List.length_nil] at this
    omega
theorem matTo_star (p s : List UInt8) (i k : Nat) (hi : i < p.length) (hc : nth p i = 42) (hk : k ≤ s.length) :
    matTo p s (i + 1) k = (matTo p s i k || (decide (0 < k) && matTo p s (i + 1) (k - 1))) := by
  refine matL_eq ?_
  rw [Bool.or_eq_true, Bool.and_eq_true, decide_eq_true_iff]
  unfold matTo
  rw [matL_iff, matL_iff, take_snoc p i hi, hc, Mt.snoc_star, Mt.snoc_star]
  constructor
  · rintro (h | ⟨h0, j, hj, h⟩)
    · exact ⟨k, by rw [List.length_take]; omega, by rw [List.take_take, Nat.min_self]; exact h⟩
    · rw [List.length_take] at hj
      refine ⟨j, by rw [List.length_take]; omega, ?_⟩
      rw [List.take_take] at h ⊢
      rw [show min j k = min j (k - 1) by omega]; exact h
  · rintro ⟨j, hj, h⟩
    rw [List.length_take] at hj
    by_cases e : j = k
    · subst e
      rw [List.take_take, Nat.min_self] at h
      exact .inl h
    · refine .inr ⟨by omega, j, by rw [List.length_take]; omega, ?_⟩
      rw [List.take_take] at h ⊢
      rw [show min j (k - 1) = min j k by omega]; exact h
theorem matTo_one (p s : List UInt8) (i k : Nat) (hi : i < p.length) (hc : nth p i ≠ 42) (hk : k < s.length) :
    matTo p s (i + 1) (k + 1) = (matTo p s i k && (decide (nth p i = 63) || decide (nth p i = nth s k))) := by
  refine matL_eq ?_
  rw [Bool.and_eq_true, Bool.or_eq_true, decide_eq_true_iff, decide_eq_true_iff]
  unfold matTo
  rw [matL_iff, take_snoc p i hi, Mt.snoc_one hc, take_snoc s k hk]
  constructor
  · rintro ⟨h, hd⟩
    exact ⟨_, _, rfl, hd, h⟩
  · rintro ⟨t, d, e, hd, h⟩
    have e2 := List.append_inj' e rfl
    injection e2.2 with e3
    rw [e2.1, e3]
    exact ⟨h, hd⟩
theorem matTo_zero (p s : List UInt8) (i : Nat) (hi : i < p.length) (hc : nth p i ≠ 42) : matTo p s (i + 1) 0 = false := by
  refine matL_no ?_
  rw [take_snoc p i hi, Mt.snoc_one hc]
  rintro ⟨t, d, e, _⟩
  have := congrArg List.length e
  simp at this
theorem matTo_all (p s : List UInt8) : matTo p s p.length s.length = matL p s := by
  unfold matTo; rw [List.take_length, List.take_length]
end Go.Proofs.YtihfpoclflppnaaDoor
