/- canon's reader: Bytes, Text, Bool, Left, Done. · The audit log, plain: which logs are whole, what is found of two, what is read of what is shown. · The document's Verify. -/
import Derived.Test.YtbclhaleibjkgabB13
import Derived.Test.YtbclhaleibjkgabAu0
import Derived.Test.YtbclhaleibjkgabB36
namespace Go.Proofs.Ytbclhaleibjkgab
open Go.RowKit
attribute [local go_sem ↓] Go.wp_at_zero Go.wp_at_succ slo1

theorem rdSome_ok {mark : UInt8} {l : List UInt8} {br : Bool} (h : okB l br mark = true) : rdSome mark l br = ((l.drop 5).take (numTo l 4), l.drop (5 + numTo l 4), false) := by unfold rdSome; rw [h]; rfl
theorem rdSome_no {mark : UInt8} {l : List UInt8} {br : Bool} (h : okB l br mark = false) : rdSome mark l br = ([], l, true) := by unfold rdSome; rw [h]; rfl

/-- whether it is done: OK (0), or ErrForm (4) -/
def doneN (l : List UInt8) (br : Bool) : Int := if br || decide (0 < l.length) then 4 else 0

end Go.Proofs.Ytbclhaleibjkgab
namespace Go.Proofs.Ytbclhaleibjkgab
open Go.RowKit

/-- Verify, from behind: the log turned about -/
def verB : List Rc → List UInt8 → Bool
  | [], h => decide (h = [])
  | r :: l, h => rightRc r && decide (r.seq = l.length + 1) && decide (digRc r = h) && verB l r.prev
def verL (l : List Rc) (h : List UInt8) : Bool := verB l.reverse h
/-- Verify, from the front -/
def verF : Nat → List UInt8 → List Rc → Option (List UInt8)
  | _, h, [] => some h
  | k, h, r :: l => if rightRc r = true ∧ r.seq = k + 1 ∧ r.prev = h then verF (k + 1) (digRc r) l else none
theorem verF_snoc (r : Rc) : ∀ (l : List Rc) (k : Nat) (h : List UInt8), verF k h (l ++ [r]) = (verF k h l).bind fun g => if rightRc r = true ∧ r.seq = k + l.length + 1 ∧ r.prev = g then some (digRc r) else none
  | [], k, h => by simp only [List.nil_append, verF, Option.bind_some, List.length_nil, Nat.add_zero]
  | x :: l, k, h => by
    rw [List.cons_append, verF, verF]
    split
    · rw [verF_snoc r l (k + 1) (digRc x), List.length_cons, show k + (l.length + 1) = k + 1 + l.length by omega]
    · rfl
theorem verL_snoc (l : List Rc) (r : Rc) (h : List UInt8) : verL (l ++ [r]) h = (rightRc r && decide (r.seq = l.length + 1) && decide (digRc r = h) && verL l r.prev) := by
  unfold verL
  rw [List.reverse_append, List.reverse_singleton, List.singleton_append, verB, List.length_reverse]
theorem snoc_cases (l : List Rc) : l = [] ∨ ∃ m x, l = m ++ [x] := by
  rcases List.eq_nil_or_concat l with h | ⟨m, x, h⟩
  · exact .inl h
  · exact .inr ⟨m, x, by rw [h, List.concat_eq_append]⟩
theorem verL_F : ∀ (n : Nat) (l : List Rc), l.length = n → ∀ h, verL l h = true ↔ verF 0 [] l = some h := by
  intro n
  induction n with
  | zero =>
    intro l hl h
    obtain rfl := List.length_eq_zero_iff.1 hl
    unfold verL
    rw [List.reverse_nil, verB, verF, decide_eq_true_iff]
    constructor
    · rintro rfl; rfl
    · intro e; exact (Option.some.inj e).symm
  | succ n ih =>
    intro l hl h
    rcases snoc_cases l with rfl | ⟨m, x, rfl⟩
    · cases hl
    · have hm : m.length = n := by rw [List.length_append] at hl; exact Nat.succ.inj hl
      rw [verL_snoc, verF_snoc, Bool.and_eq_true, Bool.and_eq_true, Bool.and_eq_true, decide_eq_true_iff, decide_eq_true_iff, ih m hm, Nat.zero_add]
      constructor
      · rintro ⟨⟨⟨h1, h2⟩, h3⟩, h4⟩
        rw [h4, Option.bind_some, if_pos ⟨h1, h2, rfl⟩, h3]
      · intro e
        cases hv : verF 0 [] m with
        | none => rw [hv] at e; cases e
        | some g =>
          rw [hv, Option.bind_some] at e
          split at e
          · rename_i hc
            obtain ⟨h1, h2, h3⟩ := hc
            exact ⟨⟨⟨h1, h2⟩, Option.some.inj e⟩, by rw [h3]⟩
          · cases e
/-- Collision: both logs turned about -/
noncomputable def colB : List Rc → List Rc → Option (Rc × Rc)
  | r :: a, s :: b => if sameRc r s = true then colB a b else if digRc r = digRc s then some (r, s) else none
  | [], _ => none
  | _ :: _, [] => none
noncomputable def colL (a b : List Rc) : Option (Rc × Rc) := colB a.reverse b.reverse
/-- one right record in its bytes -/
def uB14 (n : Nat) : List UInt8 := behL [] 117 n 8 8
def sB14 (m : UInt8) (b : List UInt8) : List UInt8 := behL [] m b.length 4 4 ++ b
theorem uintL_eq14 (l : List UInt8) (n : Nat) : uintL l n = l ++ uB14 n := by unfold uintL uB14; exact behL_eq _ _ _ _ _
theorem bytesL_eq14 (l b : List UInt8) : bytesL l b = l ++ sB14 98 b := by unfold bytesL sB14; rw [behL_eq, List.append_assoc]
theorem textL_eq14 (l b : List UInt8) : textL l b = l ++ sB14 115 b := by unfold textL sB14; rw [behL_eq, List.append_assoc]
/-- what is read, one behind the other -/
def ra1 (b : List UInt8) := rdUint b false
def ra2 (b : List UInt8) := rdUint (ra1 b).2.1 (ra1 b).2.2
def ra3 (b : List UInt8) := rdSome 115 (ra2 b).2.1 (ra2 b).2.2
def ra4 (b : List UInt8) := rdUint (ra3 b).2.1 (ra3 b).2.2
def ra5 (b : List UInt8) := rdSome 115 (ra4 b).2.1 (ra4 b).2.2
def ra6 (b : List UInt8) := rdSome 115 (ra5 b).2.1 (ra5 b).2.2
def ra7 (b : List UInt8) := rdUint (ra6 b).2.1 (ra6 b).2.2
def ra8 (b : List UInt8) := rdUint (ra7 b).2.1 (ra7 b).2.2
def ra9 (b : List UInt8) := rdSome 98 (ra8 b).2.1 (ra8 b).2.2
def ra10 (b : List UInt8) := rdSome 98 (ra9 b).2.1 (ra9 b).2.2
def toldN (n : Nat) : Int := ((min n 2147483647 : Nat) : Int)
/-- the record that is read, if it is one -/
def recR (b : List UInt8) : Rc := ⟨(ra1 b).1, (ra2 b).1, ⟨(ra3 b).1.toArray⟩, toldN (ra4 b).1, ⟨(ra5 b).1.toArray⟩, ⟨(ra6 b).1.toArray⟩, (ra7 b).1, toldN (ra8 b).1, (ra9 b).1, (ra10 b).1⟩
def readRc (b : List UInt8) : Option Rc := if doneN (ra10 b).2.1 (ra10 b).2.2 = 0 ∧ rightRc (recR b) = true then some (recR b) else none
end Go.Proofs.Ytbclhaleibjkgab
namespace Go.Proofs.Ytbclhaleibjkgab
open Go.RowKit

/-- Verify's answer: OK (0), or ErrChain (53) -/
def verN (l : List Rc) (h : List UInt8) : Int := if verL l h = true then 0 else 53
theorem verN_no {l : List Rc} {h : List UInt8} (e : verF 0 [] l = none) : verN l h = 53 := by
  unfold verN
  rw [if_neg (fun x => by rw [(verL_F _ l rfl h).1 x] at e; cases e)]
theorem verN_some {l : List Rc} {h g : List UInt8} (e : verF 0 [] l = some g) : verN l h = if eqB g h = true then 0 else 53 := by
  unfold verN eqB
  by_cases hg : g = h
  · subst hg
    rw [if_pos ((verL_F _ l rfl g).2 e), if_pos (by simp)]
  · rw [if_neg (fun x => hg (Option.some.inj (e.symm.trans ((verL_F _ l rfl h).1 x)))), if_neg (by simpa using hg)]
theorem drop14 {l : List Rq14} {k : Nat} {x : Rq14} (hx : l[k]? = some x) : (l.map Prod.fst).drop k = x.1 :: (l.map Prod.fst).drop (k + 1) := by
  obtain ⟨hk, e⟩ := List.getElem?_eq_some_iff.1 hx
  rw [List.drop_eq_getElem_cons (by rw [List.length_map]; exact hk), List.getElem_map, e]
attribute [local go_sem] undef
end Go.Proofs.Ytbclhaleibjkgab
