/- What Query hands out. Plain facts: a query read part by part. The library's contracts at this dump, as the guide's tool lays them. -/
import Derived.Test.YtbknabmcelknmaaGreatDoorOwnP
import Derived.Test.YtbknabmcelknmaaGreatDoorJ6
import Derived.Test.YtbknabmcelknmaaGreatDoorCodParts
import Derived.Test.YtbknabmcelknmaaGreatDoorCodPair4
import Derived.Shelf.SlGeneric
import Derived.Shelf.SlicesQ.IndexFunc
import Derived.Test.YtbknabmcelknmaaGreatDoorProg
namespace Go.Proofs.YtbknabmcelknmaaGreatDoor
open Go.RowKit

/-- what Query hands out -/
def QOut (l : List UInt8) (e : Ending) (w' : World) : Prop := ∃ a n cap, e = .returned (.tuple #[.slice a n cap, .int .i64 (queryC l)]) ∧ IsP w' a n cap (queryP l)
theorem QOut.none {l : List UInt8} {w' : World} (h : queryL l = none) : QOut l (.returned (.tuple #[.slice none 0 0, .int .i64 13])) w' := by
  obtain ⟨h1, h2⟩ := query_none h
  exact ⟨Option.none, 0, 0, by rw [h2], by rw [h1]; exact isP_nil w'⟩
theorem QOut.some {l : List UInt8} {w' : World} {out : List Pr} {a : Option Addr} {n cap : Nat} (h : queryL l = Option.some out) (hp : IsP w' a n cap out) : QOut l (.returned (.tuple #[.slice a n cap, .int .i64 0])) w' := by
  obtain ⟨h1, h2⟩ := query_some h
  exact ⟨a, n, cap, by rw [h2], by rw [h1]; exact hp⟩
end Go.Proofs.YtbknabmcelknmaaGreatDoor
namespace Go.Proofs.YtbknabmcelknmaaGreatDoor
open Go.RowKit

def accL (pre : List Txt) : Option (List Pr) := (pre.map (·.1)).foldl qStep (some [])
def outL (pre : List Txt) : List Pr := (accL pre).getD []
theorem acc_snoc (pre : List Txt) (x : Txt) : accL (pre ++ [x]) = qStep (accL pre) x.1 := by unfold accL; rw [List.map_append, List.foldl_append]; rfl
theorem out_some {pre : List Txt} {out : List Pr} (h : accL pre = some out) : outL pre = out := by unfold outL; rw [h]; rfl
theorem both_dec {l m : List UInt8} : bothL l m = (match decL l, decL m with | some a, some b => some (a, b) | _, _ => none) := rfl
theorem q_none {out : List Pr} {p : List UInt8} (h : bothL (headL 61 p) (tailL 61 p) = none) : qStep (some out) p = none := by
  unfold qStep
  unfold bothL at h
  cases d1 : decL (headL 61 p) with
  | none => rfl
  | some a =>
    cases d2 : decL (tailL 61 p) with
    | none => rfl
    | some b => rw [d1, d2] at h; cases h
theorem q_some {out : List Pr} {p n v : List UInt8} (h : bothL (headL 61 p) (tailL 61 p) = some (n, v)) : qStep (some out) p = if n = [] ∨ (findL out n).isSome = true then none else some (out ++ [(n, v)]) := by
  unfold qStep
  unfold bothL at h
  cases d1 : decL (headL 61 p) with
  | none => rw [d1] at h; cases h
  | some a =>
    cases d2 : decL (tailL 61 p) with
    | none => rw [d1, d2] at h; cases h
    | some b =>
      rw [d1, d2] at h
      cases h
      rfl
theorem q_len (ps : List (List UInt8)) (o out : List Pr) (h : ps.foldl qStep (some o) = some out) : out.length = o.length + ps.length := by
  induction ps generalizing o with
  | nil => rw [List.foldl_nil] at h; cases h; rfl
  | cons p ps ih =>
    rw [List.foldl_cons] at h
    cases hb : bothL (headL 61 p) (tailL 61 p) with
    | none => rw [q_none hb, qStep_none] at h; cases h
    | some nv =>
      obtain ⟨n, v⟩ := nv
      rw [q_some hb] at h
      split at h
      · rw [qStep_none] at h; cases h
      · have := ih _ h
        simp at this ⊢; omega
theorem acc_len {pre : List Txt} {out : List Pr} (h : accL pre = some out) : out.length = pre.length := by
  have := q_len _ _ _ h
  simpa using this
theorem q_stop {l : List UInt8} {pre : List Txt} (hp : pre.map (·.1) <+: partsL l) (h : 24 < pre.length ∨ accL pre = none) : queryL l = none := by
  obtain ⟨t, ht⟩ := hp
  have hl : ¬ l = [] := by
    rintro rfl
    have e : pre.map (·.1) ++ t = [] := ht
    have e2 : pre.map (·.1) = [] := (List.append_eq_nil_iff.1 e).1
    have e3 : pre = [] := List.map_eq_nil_iff.1 e2
    subst e3
    rcases h with h | h
    · simp at h
    · cases h
  have hc : cutL 38 l = pre.map (·.1) ++ t := by rw [ht]; unfold partsL; rw [if_neg hl]
  unfold queryL
  rw [if_neg hl]
  by_cases h24 : 24 < (cutL 38 l).length
  · rw [if_pos h24]
  · rw [if_neg h24]
    rcases h with h | h
    · exfalso; apply h24; rw [hc, List.length_append, List.length_map]; omega
    · rw [hc, List.foldl_append]
      have : (pre.map (·.1)).foldl qStep (some []) = none := h
      rw [this, qStep_none]
theorem q_done {l : List UInt8} {xs : List Txt} {out : List Pr} (hp : xs.map (·.1) = partsL l) (h : accL xs = some out) (h24 : xs.length ≤ 24) : queryL l = some out := by
  unfold queryL
  by_cases hl : l = []
  · rw [if_pos hl]
    have e : xs = [] := List.map_eq_nil_iff.1 (by rw [hp, hl]; rfl)
    rw [e] at h
    exact h
  · have hc : cutL 38 l = xs.map (·.1) := by rw [hp]; unfold partsL; rw [if_neg hl]
    rw [if_neg hl, hc, if_neg (by rw [List.length_map]; omega)]
    exact h
theorem keeps_below {W W' : World} (h : Below W.heap.size W W') : KeepsOthers W W' := ⟨h.4, fun k _ hk _ => (h.5 k (Array.getElem?_eq_some_iff.1 hk).1).trans hk⟩
theorem boxed_below {W W' : World} {B : Nat} {t : TypeId} {v : Value} (h : Boxed W B t v) (hb : Below W.heap.size W W') : Boxed W' B t v := h.kept (below_grown hb) (by simp)
theorem boxed_alloc_cell {W : World} {B : Nat} {t : TypeId} {v : Value} (h : Boxed W B t v) (o : Obj) : (W.alloc o).cell? ⟨B, 0, none⟩ = some v := (h.alloc o).cell
end Go.Proofs.YtbknabmcelknmaaGreatDoor
namespace Go.Proofs
open Go.Shelf
def Tryz.layIdx_ren : Go.Shelf.Ren := ⟨fun | 6 => 126 | n => n, fun | 22 => 108 | 23 => 142 | 25 => 171 | 3 => 3 | 0 => 0 | 4 => 4 | n => n, fun | n => n⟩
theorem Tryz.layIdx : Go.Proofs.SlLaysH0.n6 Tryz.prog Tryz.layIdx_ren := {
  mixed := by kernel_rfl
  f6 := ⟨Tryz.f126.name, by decide, Tryz.func126.trans (congrArg some (by kernel_rfl))⟩
  t0 := Tryz.underlying0
  a0 := Tryz.isAgg0
  z0 := Tryz.sizeOf0
  v0 := Tryz.zeroValue0
  t3 := Tryz.underlying3
  a3 := Tryz.isAgg3
  z3 := Tryz.sizeOf3
  v3 := Tryz.zeroValue3
  t4 := Tryz.underlying4
  a4 := Tryz.isAgg4
  z4 := Tryz.sizeOf4
  v4 := Tryz.zeroValue4
  t22 := Tryz.underlying108
  a22 := Tryz.isAgg108
  z22 := Tryz.sizeOf108
  v22 := Tryz.zeroValue108
  t25 := Tryz.underlying171
  a25 := Tryz.isAgg171
  z25 := Tryz.sizeOf171
  v25 := Tryz.zeroValue171 }
end Go.Proofs
