/- Plain facts: what the code's Parse answers. -/
import Derived.Test.YtbknabmcelknmaaGreatDoorR5b
import Derived.Lib.ParseIntB
import Derived.Lib.ItoaNum
import Derived.Lib.Case
import Derived.Lib.IndexMore
namespace Go.Proofs.YtbknabmcelknmaaGreatDoor

theorem pre_line (a : UInt8) (t : List UInt8) : ([13, 10] : List UInt8).isPrefixOf (a :: t) = decide (a = 13 ∧ nth t 0 = 10 ∧ 0 < t.length) := by
  cases t with
  | nil => simp [List.isPrefixOf]
  | cons x t =>
    have : nth (x :: t) 0 = x := rfl
    rw [this]
    rw [List.isPrefixOf, List.isPrefixOf]
    by_cases h1 : (13 : UInt8) = a <;> by_cases h2 : (10 : UInt8) = x <;> simp [h1, h2, List.isPrefixOf, eq_comm (a := a), eq_comm (a := x)]
theorem idx_line (l : List UInt8) : (lineL l = none ∧ Lib.index l [13, 10] = -1) ∨ ∃ k : Nat, lineL l = some (l.take k, l.drop (k + 2)) ∧ Lib.index l [13, 10] = (k : Int) := by
  induction l with
  | nil => exact .inl ⟨rfl, rfl⟩
  | cons a t ih =>
    by_cases h : a = 13 ∧ nth t 0 = 10 ∧ 0 < t.length
    · refine .inr ⟨0, ?_, ?_⟩
      · rw [lineL, if_pos h]; rfl
      · rw [Lib.index, pre_line, decide_eq_true h]; rfl
    · have e1 : lineL (a :: t) = (lineL t).map fun x => (a :: x.1, x.2) := by rw [lineL, if_neg h]
      have e2 : Lib.index (a :: t) [13, 10] = if Lib.index t [13, 10] == -1 then -1 else Lib.index t [13, 10] + 1 := by rw [Lib.index, pre_line, decide_eq_false h]; rfl
      rcases ih with ⟨h1, h2⟩ | ⟨k, h1, h2⟩
      · exact .inl ⟨by rw [e1, h1]; rfl, by rw [e2, h2]; rfl⟩
      · refine .inr ⟨k + 1, by rw [e1, h1]; rfl, ?_⟩
        rw [e2, h2, if_neg (by simp)]
        omega
theorem cut_line (l : List UInt8) : Lib.cut l [13, 10] = match lineL l with | none => (l, [], false) | some x => (x.1, x.2, true) := by
  unfold Lib.cut
  rcases idx_line l with ⟨h1, h2⟩ | ⟨k, h1, h2⟩
  · rw [h1, h2]; rfl
  · rw [h1, h2, if_pos (by omega)]; rfl

/-- the first line, by the code -/
def sfx : List UInt8 := [32, 72, 84, 84, 80, 47, 49, 46, 49]
def tgtC (l : List UInt8) : List UInt8 := Lib.trimSuffix (tailL 32 l) sfx
def firstC (l : List UInt8) : Bool := Lib.hasSuffix (tailL 32 l) sfx && methodL (headL 32 l) && betwL 33 126 1024 (tgtC l)
/-- a header's line, by the code -/
def hdC (h : List UInt8) : Bool := hasL 58 h && tokenL (headL 58 h) && valC (trimC (tailL 58 h))
def lowC (l : List UInt8) : List UInt8 := Lib.toLowerA l
def hdP (h : List UInt8) : Pr := (lowC (headL 58 h), trimC (tailL 58 h))
def moreC (acc : List Pr) (p : Pr) : Bool := !(findL acc p.1).isSome && decide (acc.length < 24)
/-- the headers, and what is behind the empty line -/
def hdsF : Nat → List Pr → List UInt8 → Option (List Pr × List UInt8)
  | 0, _, _ => none
  | f + 1, acc, s => match lineL s with
    | none => none
    | some (h, rest) => if h = [] then some (acc, rest) else if hdC h = true ∧ moreC acc (hdP h) = true then hdsF f (acc ++ [hdP h]) rest else none
def hdsL (acc : List Pr) (s : List UInt8) : Option (List Pr × List UInt8) := hdsF (s.length + 1) acc s
theorem hdsF_fuel (f : Nat) : ∀ (acc : List Pr) (s : List UInt8), s.length < f → hdsF f acc s = hdsF (s.length + 1) acc s := by
  induction f using Nat.strongRecOn with
  | _ f ih =>
    intro acc s hs
    cases f with
    | zero => omega
    | succ f =>
      rw [hdsF, hdsF]
      cases hl : lineL s with
      | none => rfl
      | some x =>
        obtain ⟨h, rest⟩ := x
        have hlen := line_length hl
        show (if h = [] then some (acc, rest) else if hdC h = true ∧ moreC acc (hdP h) = true then hdsF f (acc ++ [hdP h]) rest else none) = (if h = [] then some (acc, rest) else if hdC h = true ∧ moreC acc (hdP h) = true then hdsF s.length (acc ++ [hdP h]) rest else none)
        rw [ih f (by omega) _ rest (by omega), ih s.length (by omega) _ rest (by omega)]
theorem hds_none {acc : List Pr} {s : List UInt8} (h : lineL s = none) : hdsL acc s = none := by unfold hdsL; rw [hdsF, h]
theorem hds_end {acc : List Pr} {s rest : List UInt8} (h : lineL s = some ([], rest)) : hdsL acc s = some (acc, rest) := by unfold hdsL; rw [hdsF, h]; rfl
theorem hds_bad {acc : List Pr} {s h rest : List UInt8} (h1 : lineL s = some (h, rest)) (h2 : ¬ h = []) (h3 : ¬ (hdC h = true ∧ moreC acc (hdP h) = true)) : hdsL acc s = none := by
  unfold hdsL; rw [hdsF, h1]; simp only [if_neg h2, if_neg h3]
theorem hds_next {acc : List Pr} {s h rest : List UInt8} (h1 : lineL s = some (h, rest)) (h2 : ¬ h = []) (h3 : hdC h = true ∧ moreC acc (hdP h) = true) : hdsL acc s = hdsL (acc ++ [hdP h]) rest := by
  have hlen := line_length h1
  unfold hdsL; rw [hdsF, h1]; simp only [if_neg h2, if_pos h3]
  exact hdsF_fuel _ _ _ (by omega)
/-- the number of a text, by the code -/
def numC (s : List UInt8) (most : Nat) : Option Nat := match Lib.parseUintB 64 s with
  | .ok u => if u ≤ most ∧ Lib.decDigits u = s then some u else none
  | _ => none
def numCV (s : List UInt8) (most : Nat) : Nat := (numC s most).getD 0
def numCE (s : List UInt8) (most : Nat) : Int := if (numC s most).isSome then 0 else 5
/-- lengths that are told -/
def lenC (hs : List Pr) (b : List UInt8) : Bool := match findL hs ctl with
  | some c => decide (numC c 4096 = some b.length)
  | none => decide (b = [])
def partC (t : List UInt8) : Bool := decide (pathC (headL 63 t) = 0) && decide (queryC (tailL 63 t) = 0)
/-- why there is no request, or nought; the request -/
def readC (b : List UInt8) : Int × Rq :=
  match lineL b with
    | none => (10, Rq.none)
    | some (l, s) => if firstC l = false then (10, Rq.none)
      else match hdsL [] s with
        | none => (11, Rq.none)
        | some (hs, body) => if partC (tgtC l) = false then (13, Rq.none)
          else if lenC hs body = false then (12, Rq.none) else (0, ⟨headL 32 l, headL 63 (tgtC l), tailL 63 (tgtC l), hs, body⟩)
def parseC (b : List UInt8) : Int × Rq := if 4096 < b.length then (3, Rq.none) else readC b
end Go.Proofs.YtbknabmcelknmaaGreatDoor
