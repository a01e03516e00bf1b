/- Plain facts: paths and queries. -/
import Derived.Test.YtbknabmcelknmaaGreatDoorUri3
namespace Go.Proofs.YtbknabmcelknmaaGreatDoor

/-- a path's bucket and key; none: it is no path -/
def pathL (l : List UInt8) : Option (List UInt8 × List UInt8) :=
  if l = [] ∨ ¬ nth l 0 = 47 then none
  else match decL (headL 47 (l.drop 1)), decL (tailL 47 (l.drop 1)) with
    | some b, some k => if b = [] ∧ ¬ k = [] then none else some (b, k)
    | _, _ => none
def pathB (l : List UInt8) : List UInt8 := ((pathL l).getD ([], [])).1
def pathK (l : List UInt8) : List UInt8 := ((pathL l).getD ([], [])).2
def pathC (l : List UInt8) : Int := if (pathL l).isSome then 0 else 13
theorem path_none {l : List UInt8} (h : pathL l = none) : pathB l = [] ∧ pathK l = [] ∧ pathC l = 13 := by
  unfold pathB pathK pathC; rw [h]; exact ⟨rfl, rfl, rfl⟩
theorem path_some {l b k : List UInt8} (h : pathL l = some (b, k)) : pathB l = b ∧ pathK l = k ∧ pathC l = 0 := by
  unfold pathB pathK pathC; rw [h]; exact ⟨rfl, rfl, rfl⟩

/-- one part more -/
def qStep (acc : Option (List Pr)) (p : List UInt8) : Option (List Pr) :=
  match acc with
  | none => none
  | some out => match decL (headL 61 p), decL (tailL 61 p) with
    | some n, some v => if n = [] ∨ (findL out n).isSome = true then none else some (out ++ [(n, v)])
    | _, _ => none
def queryL (l : List UInt8) : Option (List Pr) :=
  if l = [] then some [] else if 24 < (cutL 38 l).length then none else (cutL 38 l).foldl qStep (some [])
def queryC (l : List UInt8) : Int := if (queryL l).isSome then 0 else 13
def queryP (l : List UInt8) : List Pr := (queryL l).getD []
theorem qStep_none (ps : List (List UInt8)) : ps.foldl qStep none = none := by
  induction ps with
  | nil => rfl
  | cons p ps ih => exact ih
/-- so far out -/
def QTo (ps : List (List UInt8)) (out : List Pr) (k : Nat) : Prop := ps.foldl qStep (some []) = (ps.drop k).foldl qStep (some out)
theorem drop_nthT (l : List (List UInt8)) (k : Nat) (h : k < l.length) : l.drop k = nthT l k :: l.drop (k + 1) := by
  rw [nthT_eq l k h]; exact List.drop_eq_getElem_cons h
theorem QTo.zero (ps : List (List UInt8)) : QTo ps [] 0 := rfl
theorem QTo.next {ps : List (List UInt8)} {out out' : List Pr} {k : Nat} (h : QTo ps out k) (hk : k < ps.length) (hs : qStep (some out) (nthT ps k) = some out') : QTo ps out' (k + 1) := by
  unfold QTo at h ⊢
  rw [h, drop_nthT ps k hk, List.foldl_cons, hs]
theorem QTo.fail {ps : List (List UInt8)} {out : List Pr} {k : Nat} (h : QTo ps out k) (hk : k < ps.length) (hs : qStep (some out) (nthT ps k) = none) : ps.foldl qStep (some []) = none := by
  unfold QTo at h
  rw [h, drop_nthT ps k hk, List.foldl_cons, hs, qStep_none]
theorem QTo.done {ps : List (List UInt8)} {out : List Pr} {k : Nat} (h : QTo ps out k) (hk : ps.length ≤ k) : ps.foldl qStep (some []) = some out := by
  unfold QTo at h
  rw [h, List.drop_eq_nil_of_le hk]; rfl
theorem query_some {l : List UInt8} {ps : List Pr} (h : queryL l = some ps) : queryP l = ps ∧ queryC l = 0 := by unfold queryP queryC; rw [h]; exact ⟨rfl, rfl⟩
theorem query_none {l : List UInt8} (h : queryL l = none) : queryP l = [] ∧ queryC l = 13 := by unfold queryP queryC; rw [h]; exact ⟨rfl, rfl⟩
end Go.Proofs.YtbknabmcelknmaaGreatDoor
