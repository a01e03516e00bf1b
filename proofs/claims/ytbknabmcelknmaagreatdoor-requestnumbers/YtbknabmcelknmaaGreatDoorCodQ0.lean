/- Plain facts: a query read part by part. -/
import Derived.Test.YtbknabmcelknmaaGreatDoorCodParts
import Derived.Test.YtbknabmcelknmaaGreatDoorCodPair4
import Derived.Test.YtbknabmcelknmaaGreatDoorQOut
namespace Go.Proofs.YtbknabmcelknmaaGreatDoor
open Go.RowKit

def accL (pre : List Txt) : Option (List Pr) := (pre.map (·.1)).foldl qStep (some [])
def outL (pre : List Txt) : List Pr := (accL pre).getD []
theorem acc_snoc (pre : List Txt) (x : Txt) : accL (pre ++ [x]) = qStep (accL pre) x.1 := by unfold accL; rw [List.map_append, List.foldl_append]; rfl
theorem out_some {pre : List Txt} {out : List Pr} (h : accL pre = some out) : outL pre = out := by unfold outL; rw [h]; rfl
theorem both_dec {l m : List UInt8} : bothL l m = (match decL l, decL m with | some a, some b => some (a, b) | _, _ => none) := rfl
theorem q_none {out : List Pr} {p : List UInt8} (h : bothL (headL 61 p) (tailL 61 p) = none) : qStep (some out) p = none := by
  unfold qStep
  unfold bothL at h
  cases d1 : decL (headL 61 p) with
  | none => rfl
  | some a =>
    cases d2 : decL (tailL 61 p) with
    | none => rfl
    | some b => rw [d1, d2] at h; cases h
theorem q_some {out : List Pr} {p n v : List UInt8} (h : bothL (headL 61 p) (tailL 61 p) = some (n, v)) : qStep (some out) p = if n = [] ∨ (findL out n).isSome = true then none else some (out ++ [(n, v)]) := by
  unfold qStep
  unfold bothL at h
  cases d1 : decL (headL 61 p) with
  | none => rw [d1] at h; cases h
  | some a =>
    cases d2 : decL (tailL 61 p) with
    | none => rw [d1, d2] at h; cases h
    | some b =>
      rw [d1, d2] at h
      cases h
      rfl
theorem q_len (ps : List (List UInt8)) (o out : List Pr) (h : ps.foldl qStep (some o) = some out) : out.length = o.length + ps.length := by
  induction ps generalizing o with
  | nil => rw [List.foldl_nil] at h; cases h; rfl
  | cons p ps ih =>
    rw [List.foldl_cons] at h
    cases hb : bothL (headL 61 p) (tailL 61 p) with
    | none => rw [q_none hb, qStep_none] at h; cases h
    | some nv =>
      obtain ⟨n, v⟩ := nv
      rw [q_some hb] at h
      split at h
      · rw [qStep_none] at h; cases h
      · have := ih _ h
        simp at this ⊢; omega
theorem acc_len {pre : List Txt} {out : List Pr} (h : accL pre = some out) : out.length = pre.length := by
  have := q_len _ _ _ h
  simpa using this
theorem q_stop {l : List UInt8} {pre : List Txt} (hp : pre.map (·.1) <+: partsL l) (h : 24 < pre.length ∨ accL pre = none) : queryL l = none := by
  obtain ⟨t, ht⟩ := hp
  have hl : ¬ l = [] := by
    rintro rfl
    have e : pre.map (·.1) ++ t = [] := ht
    have e2 : pre.map (·.1) = [] := (List.append_eq_nil_iff.1 e).1
    have e3 : pre = [] := List.map_eq_nil_iff.1 e2
    subst e3
    rcases h with h | h
    · simp at h
    · cases h
  have hc : cutL 38 l = pre.map (·.1) ++ t := by rw [ht]; unfold partsL; rw [if_neg hl]
  unfold queryL
  rw [if_neg hl]
  by_cases h24 : 24 < (cutL 38 l).length
  · rw [if_pos h24]
  · rw [if_neg h24]
    rcases h with h | h
    · exfalso; apply h24; rw [hc, List.length_append, List.length_map]; omega
    · rw [hc, List.foldl_append]
      have : (pre.map (·.1)).foldl qStep (some []) = none := h
      rw [this, qStep_none]
theorem q_done {l : List UInt8} {xs : List Txt} {out : List Pr} (hp : xs.map (·.1) = partsL l) (h : accL xs = some out) (h24 : xs.length ≤ 24) : queryL l = some out := by
  unfold queryL
  by_cases hl : l = []
  · rw [if_pos hl]
    have e : xs = [] := List.map_eq_nil_iff.1 (by rw [hp, hl]; rfl)
    rw [e] at h
    exact h
  · have hc : cutL 38 l = xs.map (·.1) := by rw [hp]; unfold partsL; rw [if_neg hl]
    rw [if_neg hl, hc, if_neg (by rw [List.length_map]; omega)]
    exact h
theorem keeps_below {W W' : World} (h : Below W.heap.size W W') : KeepsOthers W W' := ⟨h.4, fun k _ hk _ => (h.5 k (Array.getElem?_eq_some_iff.1 hk).1).trans hk⟩
theorem boxed_below {W W' : World} {B : Nat} {t : TypeId} {v : Value} (h : Boxed W B t v) (hb : Below W.heap.size W W') : Boxed W' B t v := h.kept (below_grown hb) (by simp)
theorem boxed_alloc_cell {W : World} {B : Nat} {t : TypeId} {v : Value} (h : Boxed W B t v) (o : Obj) : (W.alloc o).cell? ⟨B, 0, none⟩ = some v := (h.alloc o).cell
end Go.Proofs.YtbknabmcelknmaaGreatDoor
