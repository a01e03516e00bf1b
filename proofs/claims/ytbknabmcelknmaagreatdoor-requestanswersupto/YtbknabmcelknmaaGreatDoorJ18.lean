/- What Query hands out. Plain facts: a query read part by part. The library's contracts at this dump, as the guide's tool lays them. What uri.Find answers. -/
import Derived.Test.YtbknabmcelknmaaGreatDoorJ11
import Derived.Test.YtbknabmcelknmaaGreatDoorJ5
import Derived.Test.YtbknabmcelknmaaGreatDoorCodParts
import Derived.Test.YtbknabmcelknmaaGreatDoorJ14
import Derived.Shelf.SlGeneric
import Derived.Shelf.SlicesQ.IndexFunc
import Derived.Test.YtbknabmcelknmaaGreatDoorProg
import Derived.Test.YtbknabmcelknmaaGreatDoorJ2
import Derived.Test.YtbknabmcelknmaaGreatDoorJ6
import Derived.Lib.SliceRun
namespace Go.Proofs.YtbknabmcelknmaaGreatDoor
open Go.RowKit

/-- what Query hands out -/
def QOut (l : List UInt8) (e : Ending) (w' : World) : Prop := ∃ a n cap, e = .returned (.tuple #[.slice a n cap, .int .i64 (queryC l)]) ∧ IsP w' a n cap (queryP l)
theorem QOut.none {l : List UInt8} {w' : World} (h : queryL l = none) : QOut l (.returned (.tuple #[.slice none 0 0, .int .i64 13])) w' := by
  obtain ⟨h1, h2⟩ := query_none h
  exact ⟨Option.none, 0, 0, by rw [h2], by rw [h1]; exact isP_nil w'⟩
theorem QOut.some {l : List UInt8} {w' : World} {out : List Pr} {a : Option Addr} {n cap : Nat} (h : queryL l = Option.some out) (hp : IsP w' a n cap out) : QOut l (.returned (.tuple #[.slice a n cap, .int .i64 0])) w' := by
  obtain ⟨h1, h2⟩ := query_some h
  exact ⟨a, n, cap, by rw [h2], by rw [h1]; exact hp⟩
end Go.Proofs.YtbknabmcelknmaaGreatDoor
namespace Go.Proofs.YtbknabmcelknmaaGreatDoor
open Go.RowKit

def accL (pre : List Txt) : Option (List Pr) := (pre.map (·.1)).foldl qStep (some [])
def outL (pre : List Txt) : List Pr := (accL pre).getD []
theorem acc_snoc (pre : List Txt) (x : Txt) : accL (pre ++ [x]) = qStep (accL pre) x.1 := by unfold accL; rw [List.map_append, List.foldl_append]; rfl
theorem out_some {pre : List Txt} {out : List Pr} (h : accL pre = some out) : outL pre = out := by unfold outL; rw [h]; rfl
theorem both_dec {l m : List UInt8} : bothL l m = (match decL l, decL m with | some a, some b => some (a, b) | _, _ => none) := rfl
theorem q_none {out : List Pr} {p : List UInt8} (h : bothL (headL 61 p) (tailL 61 p) = none) : qStep (some out) p = none := by
  unfold qStep
  unfold bothL at h
  cases d1 : decL (headL 61 p) with
  | none => rfl
  | some a =>
    cases d2 : decL (tailL 61 p) with
    | none => rfl
    | some b => rw [d1, d2] at h; cases h
theorem q_some {out : List Pr} {p n v : List UInt8} (h : bothL (headL 61 p) (tailL 61 p) = some (n, v)) : qStep (some out) p = if n = [] ∨ (findL out n).isSome = true then none else some (out ++ [(n, v)]) := by
  unfold qStep
  unfold bothL at h
  cases d1 : decL (headL 61 p) with
  | none => rw [d1] at h; cases h
  | some a =>
    cases d2 : decL (tailL 61 p) with
    | none => rw [d1, d2] at h; cases h
    | some b =>
      rw [d1, d2] at h
      cases h
      rfl
theorem q_len (ps : List (List UInt8)) (o out : List Pr) (h : ps.foldl qStep (some o) = some out) : out.length = o.length + ps.length := by
  induction ps generalizing o with
  | nil => rw [List.foldl_nil] at h; cases h; rfl
  | cons p ps ih =>
    rw [List.foldl_cons] at h
    cases hb : bothL (headL 61 p) (tailL 61 p) with
    | none => rw [q_none hb, qStep_none] at h; cases h
    | some nv =>
      obtain ⟨n, v⟩ := nv
      rw [q_some hb] at h
      split at h
      · rw [qStep_none] at h; cases h
      · have := ih _ h
        simp at this ⊢; omega
theorem acc_len {pre : List Txt} {out : List Pr} (h : accL pre = some out) : out.length = pre.length := by
  have := q_len _ _ _ h
  simpa using this
theorem q_stop {l : List UInt8} {pre : List Txt} (hp : pre.map (·.1) <+: partsL l) (h : 24 < pre.length ∨ accL pre = none) : queryL l = none := by
  obtain ⟨t, ht⟩ := hp
  have hl : ¬ l = [] := by
    rintro rfl
    have e : pre.map (·.1) ++ t = [] := ht
    have e2 : pre.map (·.1) = [] := (List.append_eq_nil_iff.1 e).1
    have e3 : pre = [] := List.map_eq_nil_iff.1 e2
    subst e3
    rcases h with h | h
    · simp at h
    · cases h
  have hc : cutL 38 l = pre.map (·.1) ++ t := by rw [ht]; unfold partsL; rw [if_neg hl]
  unfold queryL
  rw [if_neg hl]
  by_cases h24 : 24 < (cutL 38 l).length
  · rw [if_pos h24]
  · rw [if_neg h24]
    rcases h with h | h
    · exfalso; apply h24; rw [hc, List.length_append, List.length_map]; omega
    · rw [hc, List.foldl_append]
      have : (pre.map (·.1)).foldl qStep (some []) = none := h
      rw [this, qStep_none]
theorem q_done {l : List UInt8} {xs : List Txt} {out : List Pr} (hp : xs.map (·.1) = partsL l) (h : accL xs = some out) (h24 : xs.length ≤ 24) : queryL l = some out := by
  unfold queryL
  by_cases hl : l = []
  · rw [if_pos hl]
    have e : xs = [] := List.map_eq_nil_iff.1 (by rw [hp, hl]; rfl)
    rw [e] at h
    exact h
  · have hc : cutL 38 l = xs.map (·.1) := by rw [hp]; unfold partsL; rw [if_neg hl]
    rw [if_neg hl, hc, if_neg (by rw [List.length_map]; omega)]
    exact h
theorem keeps_below {W W' : World} (h : Below W.heap.size W W') : KeepsOthers W W' := ⟨h.4, fun k _ hk _ => (h.5 k (Array.getElem?_eq_some_iff.1 hk).1).trans hk⟩
theorem boxed_below {W W' : World} {B : Nat} {t : TypeId} {v : Value} (h : Boxed W B t v) (hb : Below W.heap.size W W') : Boxed W' B t v := h.kept (below_grown hb) (by simp)
theorem boxed_alloc_cell {W : World} {B : Nat} {t : TypeId} {v : Value} (h : Boxed W B t v) (o : Obj) : (W.alloc o).cell? ⟨B, 0, none⟩ = some v := (h.alloc o).cell
end Go.Proofs.YtbknabmcelknmaaGreatDoor
namespace Go.Proofs
open Go.Shelf
def Tryz.layIdx_ren : Go.Shelf.Ren := ⟨fun | 6 => 126 | n => n, fun | 22 => 108 | 23 => 142 | 25 => 171 | 3 => 3 | 0 => 0 | 4 => 4 | n => n, fun | n => n⟩
theorem Tryz.layIdx : Go.Proofs.SlLaysH0.n6 Tryz.prog Tryz.layIdx_ren := {
  mixed := by kernel_rfl
  f6 := ⟨Tryz.f126.name, by decide, Tryz.func126.trans (congrArg some (by kernel_rfl))⟩
  t0 := Tryz.underlying0
  a0 := Tryz.isAgg0
  z0 := Tryz.sizeOf0
  v0 := Tryz.zeroValue0
  t3 := Tryz.underlying3
  a3 := Tryz.isAgg3
  z3 := Tryz.sizeOf3
  v3 := Tryz.zeroValue3
  t4 := Tryz.underlying4
  a4 := Tryz.isAgg4
  z4 := Tryz.sizeOf4
  v4 := Tryz.zeroValue4
  t22 := Tryz.underlying108
  a22 := Tryz.isAgg108
  z22 := Tryz.sizeOf108
  v22 := Tryz.zeroValue108
  t25 := Tryz.underlying171
  a25 := Tryz.isAgg171
  z25 := Tryz.sizeOf171
  v25 := Tryz.zeroValue171 }
end Go.Proofs
namespace Go.Proofs.YtbknabmcelknmaaGreatDoor
open Go.RowKit Go.Shelf Go.Lib

/-- a pair's two cells -/
def prV (p : Pr) : List Value := [.string (str p.1), .string (str p.2)]
def isNm (nm : List UInt8) (p : Pr) : Bool := p.1 == nm

theorem find_cases (l : List Pr) (nm : List UInt8) :
    (Lib.idxBy (fun _ y => isNm nm y) l default = -1 ∧ findL l nm = none) ∨
    ∃ k : Nat, k < l.length ∧ Lib.idxBy (fun _ y => isNm nm y) l default = (k : Int) ∧ findL l nm = some (nthP l k).2 := by
  have gen : ∀ (l : List Pr) (i : Nat), (Lib.idxByFrom (fun _ y => isNm nm y) default l i = -1 ∧ findL l nm = none) ∨
    ∃ k : Nat, k < l.length ∧ Lib.idxByFrom (fun _ y => isNm nm y) default l i = ((i + k : Nat) : Int) ∧ findL l nm = some (nthP l k).2 := by
    intro l
    induction l with
    | nil => intro i; exact .inl ⟨rfl, rfl⟩
    | cons p l ih =>
      intro i
      by_cases h : p.1 = nm
      · refine .inr ⟨0, by simp, ?_, ?_⟩
        · simp [Lib.idxByFrom, isNm, h]
        · unfold findL; rw [List.find?_cons_of_pos (by simpa using h)]; rfl
      · have e1 : Lib.idxByFrom (fun _ y => isNm nm y) default (p :: l) i = Lib.idxByFrom (fun _ y => isNm nm y) default l (i + 1) := by
          rw [Lib.idxByFrom]; simp [isNm, h]
        have e2 : findL (p :: l) nm = findL l nm := by unfold findL; rw [List.find?_cons_of_neg (by simpa using h)]
        rw [e1, e2]
        rcases ih (i + 1) with ⟨h1, h2⟩ | ⟨k, hk, h1, h2⟩
        · exact .inl ⟨h1, h2⟩
        · exact .inr ⟨k + 1, by simp; omega, by rw [h1]; congr 1; omega, h2⟩
  have := gen l 0
  simpa [Lib.idxBy] using this

/-- the closure of Find -/
theorem codFind1 (nm : List UInt8) (B : Nat) (w : World) (hB : B < w.heap.size) (hcell : w.cell? ⟨B, 0, none⟩ = some (.string (str nm))) :
    PredBelow Tryz.prog 127 #[.pointer (some ⟨B, 0, none⟩)] (fun x : Pr => .agg (prV x).toArray) (isNm nm) w := fun W x hb => by
  have hc : W.cell? ⟨B, 0, none⟩ = some (.string (str nm)) := (hb.cell (p := ⟨B, 0, none⟩) hB).trans hcell
  have hBW : B < W.heap.size := Nat.lt_of_lt_of_le hB hb.size
  have hne : B ≠ W.heap.size := by omega
  have hq : ((str x.1).toList == (str nm).toList) = isNm nm x := by rw [str_beq]; rfl
  show Calls Tryz.prog 127 #[.agg #[.string (str x.1), .string (str x.2)], .pointer (some ⟨B, 0, none⟩)] W _
  generalize isNm nm x = r at *
  generalize str x.1 = s1 at *
  generalize str x.2 = s2 at *
  generalize str nm = s3 at *
  go_enter Tryz.func127, Tryz.ntmps127
  go_wp2
  go_ret
  exact ⟨rfl, hb.alloc hb.size _⟩

set_option maxHeartbeats 1000000 in
theorem idx_empty (a : Option Addr) (cap : Nat) (fv : Value) (w : World) :
    Calls Tryz.prog 126 #[.slice a 0 cap, fv] w fun e w' => e = .returned (.int .i64 (-1)) ∧ w' = w := by
  go_enter Tryz.func126, Tryz.ntmps126
  go_wp2
  refine wp_loop_rounds 1 ?_
  rw [rounds_succ]
  go_wp2
  go_ret
  exact ⟨rfl, rfl⟩

theorem bang_nthP (l : List Pr) (j : Nat) : l[j]! = nthP l j := by
  unfold nthP
  rw [List.getElem!_eq_getElem?_getD, List.getD_eq_getElem?_getD]; rfl

set_option maxHeartbeats 1000000 in
theorem codFind (a : Option Addr) (n cap : Nat) (l : List Pr) (nm : List UInt8) (w : World) (h : IsP w a n cap l) :
    Calls Tryz.prog 99 #[.slice a n cap, .string (str nm)] w fun e w' => e = .returned (.tuple #[.string (str ((findL l nm).getD [])), .bool (findL l nm).isSome]) ∧ Below w.heap.size w w' := by
  have T1 : Below w.heap.size w (w.alloc (.cells #[.string (str nm)] 9)) := (Below.refl _ w).alloc (Nat.le_refl _) _
  by_cases h0 : n = 0
  · subst h0
    have hl : l = [] := List.eq_nil_of_length_eq_zero h.len_eq
    subst hl
    clear h
    have e1 : str ((findL [] nm).getD []) = ⟨#[]⟩ := rfl
    have e2 : (findL [] nm).isSome = false := rfl
    rw [e1, e2]
    generalize str nm = s at *
    clear e1 e2
    have HI := idx_empty a cap
    go_enter Tryz.func99, Tryz.ntmps99
    go_wp2_with (go_at_call 126; refine (HI _ _).mono ?_; rintro e w' ⟨rfl, hww⟩; rw [hww]; clear hww w')
    go_ret2
    exact ⟨rfl, T1⟩
  · obtain ⟨b, off, rfl, hc⟩ := h.cells (by omega)
    have hm : n ≤ 9223372036854775807 := by have := h.le; have := h.max; unfold maxLen at this; omega
    have hlen := h.len_eq
    have hb : b < w.heap.size := cell_lt (hc 0 (by omega)).1
    have eg : ∀ args w, (callFunc 127 args).run Tryz.prog w = .ok (.enter 127 args) w := enters_of Tryz.func127 (by kernel_rfl) rfl
    have hcon := AnyQ.slices_IndexFunc Tryz.layIdx 2 Tryz.isAgg142 Tryz.sizeOf142 prV (fun _ => rfl) (isNm nm) 127 #[.pointer (some ⟨w.heap.size, 0, none⟩)] eg b off n cap l (w.alloc (.cells #[.string (str nm)] 9))
      (codFind1 nm w.heap.size _ (by simp) (by simp)) (by omega) hm (by simp; omega) (fun j hj i v hi => by
        refine Lib.cell?_alloc_some _ ?_
        have h1 := hc j (by omega)
        rw [bang_nthP] at hi
        match i, hi with
        | 0, hi => simp [prV] at hi; rw [← hi]; exact h1.1
        | 1, hi => simp [prV] at hi; rw [← hi]; exact h1.2
        | i + 2, hi => simp [prV] at hi)
    change Calls Tryz.prog 126 _ _ _ at hcon
    rw [List.take_of_length_le (by omega)] at hcon
    have HT : ∀ w', Below (w.alloc (.cells #[.string (str nm)] 9)).heap.size (w.alloc (.cells #[.string (str nm)] 9)) w' → Below w.heap.size w w' := fun w' hb' => T1.trans (hb'.mono (by simp))
    rcases find_cases l nm with ⟨h1, h2⟩ | ⟨k, hk, h1, h2⟩
    · rw [h1] at hcon
      rw [h2]
      clear hc h hlen h1 h2 eg T1
      change Calls _ _ _ _ fun e w' => e = .returned (.tuple #[.string ⟨#[]⟩, .bool false]) ∧ _
      generalize str nm = s at *
      go_enter Tryz.func99, Tryz.ntmps99
      go_wp2_with (go_at_call 126; refine hcon.mono ?_; rintro e w' ⟨rfl, hb'⟩)
      go_ret2
      exact ⟨rfl, HT _ hb'⟩
    · rw [h1] at hcon
      rw [h2]
      have hk' : k < n := by omega
      have hkz : (k : Int) < (n : Int) := by omega
      have hk0 : (0 : Int) ≤ (k : Int) := by omega
      have hcv : Hid (∀ w', Below w.heap.size w w' → w'.cell? ⟨b, off + k * 2 + 1, none⟩ = some (.string (str (nthP l k).2))) := fun w' hb' => (hb'.cell (p := ⟨b, off + k * 2 + 1, none⟩) hb).trans (hc k hk').2
      clear hc h hlen h1 h2 eg T1
      change Calls _ _ _ _ fun e w' => e = .returned (.tuple #[.string (str (nthP l k).2), .bool true]) ∧ _
      generalize str (nthP l k).2 = s2 at *
      generalize str nm = s at *
      go_enter Tryz.func99, Tryz.ntmps99
      go_wp2_with (go_at_call 126; refine hcon.mono ?_; rintro e w' ⟨rfl, hb'⟩; have hcell := hcv.out _ (HT _ hb'))
      go_ret2
      exact ⟨rfl, HT _ hb'⟩
end Go.Proofs.YtbknabmcelknmaaGreatDoor
