/- Plain facts: what Parse, Show and Answer answer. -/
import Derived.Test.YtbknabmcelknmaaGreatDoorJ3
import Derived.Test.YtbknabmcelknmaaGreatDoorJ6
namespace Go.Proofs.YtbknabmcelknmaaGreatDoor

/-- a request -/
structure Rq where
  m : List UInt8
  p : List UInt8
  q : List UInt8
  hs : List Pr
  b : List UInt8
def Rq.none : Rq := ⟨[], [], [], [], []⟩
def http11 : List UInt8 := [72, 84, 84, 80, 47, 49, 46, 49]
def ctl : List UInt8 := [99, 111, 110, 116, 101, 110, 116, 45, 108, 101, 110, 103, 116, 104]
def methodL (l : List UInt8) : Bool := decide (l = [71, 69, 84] ∨ l = [80, 85, 84] ∨ l = [80, 79, 83, 84] ∨ l = [68, 69, 76, 69, 84, 69] ∨ l = [72, 69, 65, 68])
/-- the first line -/
def FirstOk (l : List UInt8) : Prop := hasL 32 l = true ∧ hasL 32 (tailL 32 l) = true ∧ tailL 32 (tailL 32 l) = http11 ∧ methodL (headL 32 l) = true ∧ ¬ headL 32 (tailL 32 l) = [] ∧ betwL 33 126 1024 (headL 32 (tailL 32 l)) = true
instance (l : List UInt8) : Decidable (FirstOk l) := by unfold FirstOk; exact inferInstance
def firM (l : List UInt8) : List UInt8 := if FirstOk l then headL 32 l else []
def firP (l : List UInt8) : List UInt8 := if FirstOk l then headL 63 (headL 32 (tailL 32 l)) else []
def firQ (l : List UInt8) : List UInt8 := if FirstOk l then tailL 63 (headL 32 (tailL 32 l)) else []
/-- one header more -/
def hdrN (h : List UInt8) : List UInt8 := smallL (headL 58 h)
def hdrV (h : List UInt8) : List UInt8 := trimL (tailL 58 h)
def HdrOk (acc : List Pr) (h : List UInt8) : Prop := hasL 58 h = true ∧ tokenL (hdrN h) = true ∧ valueL (hdrV h) = true ∧ (findL acc (hdrN h)).isSome = false ∧ acc.length < 24
instance (acc : List Pr) (h : List UInt8) : Decidable (HdrOk acc h) := by unfold HdrOk; exact inferInstance
/-- the headers, and what is behind the empty line -/
def hdrF : Nat → List Pr → List UInt8 → Option (List Pr × List UInt8)
  | 0, _, _ => none
  | f + 1, acc, s => match lineL s with
    | none => none
    | some (h, rest) => if h = [] then some (acc, rest) else if HdrOk acc h then hdrF f (acc ++ [(hdrN h, hdrV h)]) rest else none
def hdrL (acc : List Pr) (s : List UInt8) : Option (List Pr × List UInt8) := hdrF (s.length + 1) acc s
theorem hdrF_fuel (f : Nat) : ∀ (acc : List Pr) (s : List UInt8), s.length < f → hdrF f acc s = hdrF (s.length + 1) acc s := by
  induction f using Nat.strongRecOn with
  | _ f ih =>
    intro acc s hs
    cases f with
    | zero => omega
    | succ f =>
      rw [hdrF, hdrF]
      cases hl : lineL s with
      | none => rfl
      | some x =>
        obtain ⟨h, rest⟩ := x
        have hlen := line_length hl
        show (if h = [] then some (acc, rest) else if HdrOk acc h then hdrF f (acc ++ [(hdrN h, hdrV h)]) rest else none) = (if h = [] then some (acc, rest) else if HdrOk acc h then hdrF s.length (acc ++ [(hdrN h, hdrV h)]) rest else none)
        rw [ih f (by omega) _ rest (by omega), ih s.length (by omega) _ rest (by omega)]
theorem hdr_none {acc : List Pr} {s : List UInt8} (h : lineL s = none) : hdrL acc s = none := by unfold hdrL; rw [hdrF, h]
theorem hdr_end {acc : List Pr} {s rest : List UInt8} (h : lineL s = some ([], rest)) : hdrL acc s = some (acc, rest) := by unfold hdrL; rw [hdrF, h]; rfl
theorem hdr_bad {acc : List Pr} {s h rest : List UInt8} (h1 : lineL s = some (h, rest)) (h2 : ¬ h = []) (h3 : ¬ HdrOk acc h) : hdrL acc s = none := by
  unfold hdrL; rw [hdrF, h1]; simp only [if_neg h2, if_neg h3]
theorem hdr_next {acc : List Pr} {s h rest : List UInt8} (h1 : lineL s = some (h, rest)) (h2 : ¬ h = []) (h3 : HdrOk acc h) : hdrL acc s = hdrL (acc ++ [(hdrN h, hdrV h)]) rest := by
  have hlen := line_length h1
  unfold hdrL; rw [hdrF, h1]; simp only [if_neg h2, if_pos h3]
  exact hdrF_fuel _ _ _ (by omega)
/-- lengths that are told -/
def LenOk (hs : List Pr) (b : List UInt8) : Prop := match findL hs ctl with
  | some c => NumOk c 4096 ∧ valL c = b.length
  | none => b = []
open Classical in
/-- why there is no request, or nought; the request -/
noncomputable def parseL (b : List UInt8) : Int × Rq :=
  if 4096 < b.length then (3, Rq.none)
  else match lineL b with
    | none => (10, Rq.none)
    | some (l, s) => if ¬ FirstOk l then (10, Rq.none)
      else match hdrL [] s with
        | none => (11, Rq.none)
        | some (hs, body) => if ¬ (pathC (firP l) = 0 ∧ queryC (firQ l) = 0) then (13, Rq.none)
          else if LenOk hs body then (0, ⟨firM l, firP l, firQ l, hs, body⟩) else (12, Rq.none)
/-- a request's target; its bytes -/
def targL (r : Rq) : List UInt8 := if r.q = [] then r.p else r.p ++ [63] ++ r.q
def hline (p : Pr) : List UInt8 := p.1 ++ [58, 32] ++ p.2 ++ [13, 10]
def hlines (hs : List Pr) : List UInt8 := (hs.map hline).flatten
def rtext (r : Rq) : List UInt8 := r.m ++ [32] ++ targL r ++ [32] ++ http11 ++ [13, 10] ++ hlines r.hs ++ [13, 10] ++ r.b
def HsOk (p : Pr) : Prop := tokenL p.1 = true ∧ p.1 = smallL p.1 ∧ valueL p.2 = true
instance (p : Pr) : Decidable (HsOk p) := by unfold HsOk; exact inferInstance
def PathOk (r : Rq) : Prop := ¬ r.p = [] ∧ hasL 63 r.p = false ∧ betwL 33 126 1024 (r.p ++ r.q) = true ∧ (targL r).length ≤ 1024
instance (r : Rq) : Decidable (PathOk r) := by unfold PathOk; exact inferInstance
open Classical in
noncomputable def showL (r : Rq) : Int × List UInt8 :=
  if methodL r.m = false then (10, [])
  else if ¬ PathOk r then (13, [])
  else if ¬ (∀ p ∈ r.hs, HsOk p) then (11, [])
  else if (parseL (rtext r)).1 = 0 then (0, rtext r) else ((parseL (rtext r)).1, [])
/-- an answer's bytes -/
def ctline : List UInt8 := ctl ++ [58, 32]
def answerL (status : Int) (hs : List Pr) (b : List UInt8) : List UInt8 :=
  http11 ++ [32] ++ digitsL status.toNat ++ [13, 10] ++ hlines hs ++ ctline ++ digitsL b.length ++ [13, 10, 13, 10] ++ b
end Go.Proofs.YtbknabmcelknmaaGreatDoor
