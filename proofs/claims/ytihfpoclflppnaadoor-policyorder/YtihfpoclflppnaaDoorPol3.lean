/- Patterns, plain: the search with one star remembered, by its places. -/
import Derived.Test.YtihfpoclflppnaaDoorPol2
namespace Go.Proofs.YtihfpoclflppnaaDoor

/-- the part from a to b -/
def cutp (l : List UInt8) (a b : Nat) : List UInt8 := (l.drop a).take (b - a)
theorem cutp_self (l : List UInt8) (a : Nat) : cutp l a a = [] := by unfold cutp; rw [Nat.sub_self]; rfl
theorem cutp_rest (l : List UInt8) (a b : Nat) (h : a ≤ b) : l.drop a = cutp l a b ++ l.drop b := by
  unfold cutp
  have : l.drop b = (l.drop a).drop (b - a) := by rw [List.drop_drop]; congr 1; omega
  rw [this, List.take_append_drop]
theorem drop_cons (l : List UInt8) (i : Nat) (h : i < l.length) : l.drop i = nth l i :: l.drop (i + 1) := by
  rw [nth_eq l i h]; exact List.drop_eq_getElem_cons h
theorem cutp_snoc (l : List UInt8) (a b : Nat) (h : a ≤ b) (hb : b < l.length) : cutp l a (b + 1) = cutp l a b ++ [nth l b] := by
  unfold cutp
  rw [show b + 1 - a = (b - a) + 1 by omega, List.take_add_one]
  congr 1
  rw [List.getElem?_drop, show a + (b - a) = b by omega, List.getElem?_eq_getElem hb, nth_eq l b hb]; rfl
theorem fits_no {c d : UInt8} (h : ¬ (c = 63 ∨ c = d)) (h1 : c = 63) : False := h (.inl h1)

/-- no star yet -/
structure G0 (P S : List UInt8) (p i : Nat) : Prop where
  hp : p ≤ P.length
  hi : i ≤ S.length
  seg : Seg (cutp P 0 p) (cutp S 0 i)
theorem G0.start (P S : List UInt8) : G0 P S 0 0 := ⟨Nat.zero_le _, Nat.zero_le _, by rw [cutp_self, cutp_self]; exact Seg.nil⟩
theorem G0.whole {P S : List UInt8} {p i : Nat} (h : G0 P S p i) : Mt P S ↔ Mt (P.drop p) (S.drop i) := by
  have e1 := cutp_rest P 0 p (Nat.zero_le _)
  have e2 := cutp_rest S 0 i (Nat.zero_le _)
  rw [List.drop_zero] at e1 e2
  have := h.seg.rest (p := P.drop p) (u := S.drop i)
  rw [← e1, ← e2] at this
  exact this
theorem G0.step {P S : List UInt8} {p i : Nat} (h : G0 P S p i) (hp : p < P.length) (hi : i < S.length) (hc : nth P p ≠ 42) (hd : nth P p = 63 ∨ nth P p = nth S i) : G0 P S (p + 1) (i + 1) :=
  ⟨hp, hi, by rw [cutp_snoc P 0 p (Nat.zero_le _) hp, cutp_snoc S 0 i (Nat.zero_le _) hi]; exact h.seg.snoc hc hd⟩
theorem G0.fail {P S : List UInt8} {p i : Nat} (h : G0 P S p i) (hi : i < S.length) (hn : p < P.length → nth P p ≠ 42 ∧ ¬ (nth P p = 63 ∨ nth P p = nth S i)) : ¬ Mt P S := by
  rw [h.whole, drop_cons S i hi]
  by_cases hp : p < P.length
  · rw [drop_cons P p hp, Mt.cons_iff (hn hp).1]
    rintro ⟨d, t, e, hd, _⟩
    injection e with e1 e2
    subst e1
    exact (hn hp).2 hd
  · rw [List.drop_of_length_le (by omega), Mt.nil_iff]
    intro e; cases e
theorem G0.done {P S : List UInt8} {p i : Nat} (h : G0 P S p i) (hi : i = S.length) : Mt P S ↔ ∀ c ∈ P.drop p, c = 42 := by
  rw [h.whole, hi, List.drop_length, Mt.empty_iff]
/-- the last star stood at st, and what it took ended at fr -/
structure G1 (P S : List UInt8) (p i st fr : Nat) : Prop where
  hst : st < p
  hp : p ≤ P.length
  hfr : fr ≤ i
  hi : i ≤ S.length
  star : nth P st = 42
  seg : Seg (cutp P (st + 1) p) (cutp S fr i)
  whole : Mt P S ↔ Mt (P.drop st) (S.drop fr)
theorem G1.form {P S : List UInt8} {p i st fr : Nat} (h : G1 P S p i st fr) : P.drop st = 42 :: (cutp P (st + 1) p ++ P.drop p) ∧ S.drop fr = cutp S fr i ++ S.drop i := by
  have hst := h.hst
  have hp := h.hp
  refine ⟨?_, cutp_rest S fr i h.hfr⟩
  rw [drop_cons P st (by omega), h.star, ← cutp_rest P (st + 1) p (by omega)]
theorem G0.first {P S : List UInt8} {p i : Nat} (h : G0 P S p i) (hp : p < P.length) (hc : nth P p = 42) : G1 P S (p + 1) i p i :=
  ⟨by omega, hp, Nat.le_refl _, h.hi, hc, by rw [cutp_self, cutp_self]; exact Seg.nil, h.whole⟩
theorem G1.next {P S : List UInt8} {p i st fr : Nat} (h : G1 P S p i st fr) (hp : p < P.length) (hc : nth P p = 42) : G1 P S (p + 1) i p i := by
  refine ⟨by omega, hp, Nat.le_refl _, h.hi, hc, by rw [cutp_self, cutp_self]; exact Seg.nil, ?_⟩
  rw [h.whole, h.form.1, h.form.2, drop_cons P p hp, hc]
  exact h.seg.next
theorem G1.step {P S : List UInt8} {p i st fr : Nat} (h : G1 P S p i st fr) (hp : p < P.length) (hi : i < S.length) (hc : nth P p ≠ 42) (hd : nth P p = 63 ∨ nth P p = nth S i) : G1 P S (p + 1) (i + 1) st fr :=
  ⟨by have := h.hst; omega, hp, by have := h.hfr; omega, hi, h.star, by
    rw [cutp_snoc P (st + 1) p (by have := h.hst; omega) hp, cutp_snoc S fr i h.hfr hi]; exact h.seg.snoc hc hd, h.whole⟩
theorem G1.back {P S : List UInt8} {p i st fr : Nat} (h : G1 P S p i st fr) (hi : i < S.length) (hn : p < P.length → nth P p ≠ 42 ∧ ¬ (nth P p = 63 ∨ nth P p = nth S i)) : G1 P S (st + 1) (fr + 1) st (fr + 1) := by
  have hst := h.hst
  have hp0 := h.hp
  have hfr := h.hfr
  refine ⟨by omega, by omega, Nat.le_refl _, by omega, h.star, by rw [cutp_self, cutp_self]; exact Seg.nil, ?_⟩
  have e3 : S.drop (fr + 1) = (S.drop fr).drop 1 := by rw [List.drop_drop]
  rw [h.whole, e3, h.form.1, h.form.2, drop_cons S i hi]
  by_cases hp : p < P.length
  · rw [drop_cons P p hp]
    exact h.seg.fail (hn hp).1 (hn hp).2
  · rw [List.drop_of_length_le (by omega), List.append_nil]
    exact h.seg.failEnd
theorem G1.done {P S : List UInt8} {p i st fr : Nat} (h : G1 P S p i st fr) (hi : i = S.length) : Mt P S ↔ ∀ c ∈ P.drop p, c = 42 := by
  rw [h.whole, h.form.1, h.form.2, hi, List.drop_length, List.append_nil]
  have := h.seg.fin (p := P.drop p)
  rw [hi] at this
  exact this
/-- stars alone from p on -/
theorem stars_step {P : List UInt8} {p : Nat} (hp : p < P.length) (hc : nth P p = 42) : (∀ c ∈ P.drop p, c = 42) ↔ ∀ c ∈ P.drop (p + 1), c = 42 := by
  rw [drop_cons P p hp, hc]
  constructor
  · intro h c hm; exact h c (List.mem_cons_of_mem _ hm)
  · intro h c hm
    rcases List.mem_cons.1 hm with e | e
    · exact e
    · exact h c e
theorem stars_no {P : List UInt8} {p : Nat} (hp : p < P.length) (hc : nth P p ≠ 42) : ¬ ∀ c ∈ P.drop p, c = 42 := by
  rw [drop_cons P p hp]
  intro h; exact hc (h _ (List.mem_cons_self ..))
theorem stars_end {P : List UInt8} {p : Nat} (hp : P.length ≤ p) : ∀ c ∈ P.drop p, c = 42 := by
  rw [List.drop_of_length_le hp]; intro c h; cases h
end Go.Proofs.YtihfpoclflppnaaDoor
