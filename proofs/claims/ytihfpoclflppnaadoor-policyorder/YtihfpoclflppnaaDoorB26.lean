/- A search with one star remembered, plain. · strings.Trim at a star. -/
import Derived.Test.YtihfpoclflppnaaDoorPol3
import Derived.Test.YtihfpoclflppnaaDoorB0
import Derived.Test.YtihfpoclflppnaaDoorB2
import Derived.Test.YtihfpoclflppnaaDoorB9
import Derived.BigQuiet
import Derived.Lib.TrimByte
import Derived.Test.YtihfpoclflppnaaDoorShelf1
namespace Go.Proofs.YtihfpoclflppnaaDoor
open Go.RowKit

/-- how the search stands: no star yet, or one at st -/
def GS (P S : List UInt8) (p i : Nat) (st : Int) (fr : Nat) : Prop := (st = -1 ∧ fr = 0 ∧ G0 P S p i) ∨ ∃ q : Nat, st = (q : Int) ∧ G1 P S p i q fr
def gsM (P S : List UInt8) (p fr : Nat) : Nat := (S.length - fr) * (P.length + 1) + (P.length - p)
theorem GS.le {P S : List UInt8} {p i : Nat} {st : Int} {fr : Nat} (h : GS P S p i st fr) : p ≤ P.length ∧ i ≤ S.length ∧ fr ≤ i := by
  rcases h with ⟨_, e, h⟩ | ⟨q, _, h⟩
  · exact ⟨h.hp, h.hi, by omega⟩
  · exact ⟨h.hp, h.hi, h.hfr⟩
theorem GS.star {P S : List UInt8} {p i : Nat} {st : Int} {fr : Nat} (h : GS P S p i st fr) (hp : p < P.length) (hc : nth P p = 42) : GS P S (p + 1) i (p : Int) i := by
  rcases h with ⟨_, _, h⟩ | ⟨q, _, h⟩
  · exact .inr ⟨p, rfl, h.first hp hc⟩
  · exact .inr ⟨p, rfl, h.next hp hc⟩
theorem GS.step {P S : List UInt8} {p i : Nat} {st : Int} {fr : Nat} (h : GS P S p i st fr) (hp : p < P.length) (hi : i < S.length) (hc : nth P p ≠ 42) (hd : nth P p = 63 ∨ nth P p = nth S i) : GS P S (p + 1) (i + 1) st fr := by
  rcases h with ⟨e1, e2, h⟩ | ⟨q, e, h⟩
  · exact .inl ⟨e1, e2, h.step hp hi hc hd⟩
  · exact .inr ⟨q, e, h.step hp hi hc hd⟩
theorem GS.back {P S : List UInt8} {p i q : Nat} {fr : Nat} (h : GS P S p i (q : Int) fr) (hi : i < S.length) (hn : p < P.length → nth P p ≠ 42 ∧ ¬ (nth P p = 63 ∨ nth P p = nth S i)) : GS P S (q + 1) (fr + 1) (q : Int) (fr + 1) ∧ q < P.length := by
  rcases h with ⟨e1, _, _⟩ | ⟨q', e, h⟩
  · omega
  · have e2 : q = q' := by omega
    subst e2
    exact ⟨.inr ⟨q, rfl, h.back hi hn⟩, by have := h.hst; have := h.hp; omega⟩
theorem GS.fail {P S : List UInt8} {p i : Nat} {fr : Nat} (h : GS P S p i (-1) fr) (hi : i < S.length) (hn : p < P.length → nth P p ≠ 42 ∧ ¬ (nth P p = 63 ∨ nth P p = nth S i)) : matL P S = false := by
  rcases h with ⟨_, _, h⟩ | ⟨q, e, _⟩
  · exact matL_no (h.fail hi hn)
  · omega
theorem GS.done {P S : List UInt8} {p i : Nat} {st : Int} {fr : Nat} (h : GS P S p i st fr) (hi : i = S.length) : Mt P S ↔ ∀ c ∈ P.drop p, c = 42 := by
  rcases h with ⟨_, _, h⟩ | ⟨q, _, h⟩
  · exact h.done hi
  · exact h.done hi
theorem GS.num {P S : List UInt8} {p i : Nat} {st : Int} {fr : Nat} (h : GS P S p i st fr) : st = -1 ∨ ∃ q : Nat, st = (q : Int) ∧ q < P.length := by
  rcases h with ⟨e, _, _⟩ | ⟨q, e, h⟩
  · exact .inl e
  · exact .inr ⟨q, e, by have := h.hst; have := h.hp; omega⟩
theorem gsM_star (P S : List UInt8) (p i fr : Nat) (hp : p < P.length) (hf : fr ≤ i) : gsM P S (p + 1) i < gsM P S p fr := by
  unfold gsM
  have : (S.length - i) * (P.length + 1) ≤ (S.length - fr) * (P.length + 1) := Nat.mul_le_mul_right _ (by omega)
  omega
theorem gsM_step (P S : List UInt8) (p fr : Nat) (hp : p < P.length) : gsM P S (p + 1) fr < gsM P S p fr := by
  unfold gsM; omega
theorem gsM_back (P S : List UInt8) (p q fr : Nat) (hf : fr < S.length) : gsM P S (q + 1) (fr + 1) < gsM P S p fr := by
  unfold gsM
  have e : (S.length - fr) * (P.length + 1) = (S.length - (fr + 1)) * (P.length + 1) + (P.length + 1) := by
    rw [show S.length - fr = (S.length - (fr + 1)) + 1 by omega, Nat.add_mul, Nat.one_mul]
  rw [e]; omega

theorem gsM_fits {P S : List UInt8} {a b c d a' b' c' d' : Nat} (h1 : a' = a) (h2 : b' = b) (h3 : c' = c) (h4 : d' = d) (h : gsM P S a b < gsM P S c d) : gsM P S a' b' < gsM P S c' d' := by rw [h1, h2, h3, h4]; exact h

/-- what is left of it, where stars are trimmed away -/
theorem mem_dropW {α : Type} (f : α → Bool) (x : α) (l : List α) (h : x ∈ l) (hf : f x = false) : x ∈ l.dropWhile f := by
  induction l with
  | nil => cases h
  | cons a l ih =>
    by_cases ha : f a = true
    · rw [List.dropWhile_cons_of_pos ha]
      rcases List.mem_cons.1 h with e | e
      · rw [← e, hf] at ha; cases ha
      · exact ih e
    · rw [List.dropWhile_cons_of_neg ha]; exact h
theorem dropW_all {α : Type} (f : α → Bool) (l : List α) (h : ∀ x ∈ l, f x = true) : l.dropWhile f = [] := by
  induction l with
  | nil => rfl
  | cons a l ih => rw [List.dropWhile_cons_of_pos (h a (List.mem_cons_self ..))]; exact ih fun x hx => h x (List.mem_cons_of_mem _ hx)
theorem trim_empty (l : List UInt8) (c : UInt8) : (Lib.trimB l c).isEmpty = true ↔ ∀ x ∈ l, x = c := by
  unfold Lib.trimB Lib.trimLeftB Lib.trimRightB
  rw [List.isEmpty_iff]
  constructor
  · intro h x hx
    rcases Classical.em (x = c) with e | e
    · exact e
    · exfalso
      have hf : (x == c) = false := by rw [beq_eq_false_iff_ne]; exact e
      have h1 := mem_dropW (· == c) x l.reverse (List.mem_reverse.2 hx) hf
      have h2 := mem_dropW (· == c) x _ (List.mem_reverse.2 h1) hf
      rw [h] at h2
      cases h2
  · intro h
    rw [dropW_all (· == c) l.reverse (fun x hx => by rw [h x (List.mem_reverse.1 hx)]; simp)]
    rfl
end Go.Proofs.YtihfpoclflppnaaDoor
namespace Go.Proofs.YtihfpoclflppnaaDoor
open Go.RowKit

theorem codTrim8 (l : List UInt8) (w : World) (hl : l.length ≤ 140737488351232) :
    Calls Tryd.prog 33 #[.string (str l), .string ⟨#[42]⟩] w fun e w' => e = .returned (.string (str (Lib.trimB l 42))) ∧ Below w.heap.size w w' := by
  refine (Tryd.strings_Trim_one (str l) 42 (by decide) w (by rw [str_size]; omega)).mono ?_
  rintro e w' ⟨rfl, hw⟩
  rw [str_list]
  refine ⟨rfl, ?_⟩
  rcases hw with rfl | rfl
  · exact Below.refl _ _
  · exact (Below.refl _ _).drew
end Go.Proofs.YtihfpoclflppnaaDoor
