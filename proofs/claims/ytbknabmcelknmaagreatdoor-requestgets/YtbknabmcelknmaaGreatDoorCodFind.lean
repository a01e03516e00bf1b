/- What uri.Find answers. -/
import Derived.Test.YtbknabmcelknmaaGreatDoorJ3
import Derived.Test.YtbknabmcelknmaaGreatDoorJ8
import Derived.Test.YtbknabmcelknmaaGreatDoorJ22
import Derived.Lib.SliceRun
namespace Go.Proofs.YtbknabmcelknmaaGreatDoor
open Go.RowKit Go.Shelf Go.Lib

/-- a pair's two cells -/
def prV (p : Pr) : List Value := [.string (str p.1), .string (str p.2)]
def isNm (nm : List UInt8) (p : Pr) : Bool := p.1 == nm

theorem find_cases (l : List Pr) (nm : List UInt8) :
    (Lib.idxBy (fun _ y => isNm nm y) l default = -1 ∧ findL l nm = none) ∨
    ∃ k : Nat, k < l.length ∧ Lib.idxBy (fun _ y => isNm nm y) l default = (k : Int) ∧ findL l nm = some (nthP l k).2 := by
  have gen : ∀ (l : List Pr) (i : Nat), (Lib.idxByFrom (fun _ y => isNm nm y) default l i = -1 ∧ findL l nm = none) ∨
    ∃ k : Nat, k < l.length ∧ Lib.idxByFrom (fun _ y => isNm nm y) default l i = ((i + k : Nat) : Int) ∧ findL l nm = some (nthP l k).2 := by
    intro l
    induction l with
    | nil => intro i; exact .inl ⟨rfl, rfl⟩
    | cons p l ih =>
      intro i
      by_cases h : p.1 = nm
      · refine .inr ⟨0, by simp, ?_, ?_⟩
        · simp [Lib.idxByFrom, isNm, h]
        · unfold findL; rw [List.find?_cons_of_pos (by simpa using h)]; rfl
      · have e1 : Lib.idxByFrom (fun _ y => isNm nm y) default (p :: l) i = Lib.idxByFrom (fun _ y => isNm nm y) default l (i + 1) := by
          rw [Lib.idxByFrom]; simp [isNm, h]
        have e2 : findL (p :: l) nm = findL l nm := by unfold findL; rw [List.find?_cons_of_neg (by simpa using h)]
        rw [e1, e2]
        rcases ih (i + 1) with ⟨h1, h2⟩ | ⟨k, hk, h1, h2⟩
        · exact .inl ⟨h1, h2⟩
        · exact .inr ⟨k + 1, by simp; omega, by rw [h1]; congr 1; omega, h2⟩
  have := gen l 0
  simpa [Lib.idxBy] using this

/-- the closure of Find -/
theorem codFind1 (nm : List UInt8) (B : Nat) (w : World) (hB : B < w.heap.size) (hcell : w.cell? ⟨B, 0, none⟩ = some (.string (str nm))) :
    PredBelow Tryz.prog 127 #[.pointer (some ⟨B, 0, none⟩)] (fun x : Pr => .agg (prV x).toArray) (isNm nm) w := fun W x hb => by
  have hc : W.cell? ⟨B, 0, none⟩ = some (.string (str nm)) := (hb.cell (p := ⟨B, 0, none⟩) hB).trans hcell
  have hBW : B < W.heap.size := Nat.lt_of_lt_of_le hB hb.size
  have hne : B ≠ W.heap.size := by omega
  have hq : ((str x.1).toList == (str nm).toList) = isNm nm x := by rw [str_beq]; rfl
  show Calls Tryz.prog 127 #[.agg #[.string (str x.1), .string (str x.2)], .pointer (some ⟨B, 0, none⟩)] W _
  generalize isNm nm x = r at *
  generalize str x.1 = s1 at *
  generalize str x.2 = s2 at *
  generalize str nm = s3 at *
  go_enter Tryz.func127, Tryz.ntmps127
  go_wp2
  go_ret
  exact ⟨rfl, hb.alloc hb.size _⟩

set_option maxHeartbeats 1000000 in
theorem idx_empty (a : Option Addr) (cap : Nat) (fv : Value) (w : World) :
    Calls Tryz.prog 126 #[.slice a 0 cap, fv] w fun e w' => e = .returned (.int .i64 (-1)) ∧ w' = w := by
  go_enter Tryz.func126, Tryz.ntmps126
  go_wp2
  refine wp_loop_rounds 1 ?_
  rw [rounds_succ]
  go_wp2
  go_ret
  exact ⟨rfl, rfl⟩

theorem bang_nthP (l : List Pr) (j : Nat) : l[j]! = nthP l j := by
  unfold nthP
  rw [List.getElem!_eq_getElem?_getD, List.getD_eq_getElem?_getD]; rfl

set_option maxHeartbeats 1000000 in
theorem codFind (a : Option Addr) (n cap : Nat) (l : List Pr) (nm : List UInt8) (w : World) (h : IsP w a n cap l) :
    Calls Tryz.prog 99 #[.slice a n cap, .string (str nm)] w fun e w' => e = .returned (.tuple #[.string (str ((findL l nm).getD [])), .bool (findL l nm).isSome]) ∧ Below w.heap.size w w' := by
  have T1 : Below w.heap.size w (w.alloc (.cells #[.string (str nm)] 9)) := (Below.refl _ w).alloc (Nat.le_refl _) _
  by_cases h0 : n = 0
  · subst h0
    have hl : l = [] := List.eq_nil_of_length_eq_zero h.len_eq
    subst hl
    clear h
    have e1 : str ((findL [] nm).getD []) = ⟨#[]⟩ := rfl
    have e2 : (findL [] nm).isSome = false := rfl
    rw [e1, e2]
    generalize str nm = s at *
    clear e1 e2
    have HI := idx_empty a cap
    go_enter Tryz.func99, Tryz.ntmps99
    go_wp2_with (go_at_call 126; refine (HI _ _).mono ?_; rintro e w' ⟨rfl, hww⟩; rw [hww]; clear hww w')
    go_ret2
    exact ⟨rfl, T1⟩
  · obtain ⟨b, off, rfl, hc⟩ := h.cells (by omega)
    have hm : n ≤ 9223372036854775807 := by have := h.le; have := h.max; unfold maxLen at this; omega
    have hlen := h.len_eq
    have hb : b < w.heap.size := cell_lt (hc 0 (by omega)).1
    have eg : ∀ args w, (callFunc 127 args).run Tryz.prog w = .ok (.enter 127 args) w := enters_of Tryz.func127 (by kernel_rfl) rfl
    have hcon := AnyQ.slices_IndexFunc Tryz.layIdx 2 Tryz.isAgg142 Tryz.sizeOf142 prV (fun _ => rfl) (isNm nm) 127 #[.pointer (some ⟨w.heap.size, 0, none⟩)] eg b off n cap l (w.alloc (.cells #[.string (str nm)] 9))
      (codFind1 nm w.heap.size _ (by simp) (by simp)) (by omega) hm (by simp; omega) (fun j hj i v hi => by
        refine Lib.cell?_alloc_some _ ?_
        have h1 := hc j (by omega)
        rw [bang_nthP] at hi
        match i, hi with
        | 0, hi => simp [prV] at hi; rw [← hi]; exact h1.1
        | 1, hi => simp [prV] at hi; rw [← hi]; exact h1.2
        | i + 2, hi => simp [prV] at hi)
    change Calls Tryz.prog 126 _ _ _ at hcon
    rw [List.take_of_length_le (by omega)] at hcon
    have HT : ∀ w', Below (w.alloc (.cells #[.string (str nm)] 9)).heap.size (w.alloc (.cells #[.string (str nm)] 9)) w' → Below w.heap.size w w' := fun w' hb' => T1.trans (hb'.mono (by simp))
    rcases find_cases l nm with ⟨h1, h2⟩ | ⟨k, hk, h1, h2⟩
    · rw [h1] at hcon
      rw [h2]
      clear hc h hlen h1 h2 eg T1
      change Calls _ _ _ _ fun e w' => e = .returned (.tuple #[.string ⟨#[]⟩, .bool false]) ∧ _
      generalize str nm = s at *
      go_enter Tryz.func99, Tryz.ntmps99
      go_wp2_with (go_at_call 126; refine hcon.mono ?_; rintro e w' ⟨rfl, hb'⟩)
      go_ret2
      exact ⟨rfl, HT _ hb'⟩
    · rw [h1] at hcon
      rw [h2]
      have hk' : k < n := by omega
      have hkz : (k : Int) < (n : Int) := by omega
      have hk0 : (0 : Int) ≤ (k : Int) := by omega
      have hcv : Hid (∀ w', Below w.heap.size w w' → w'.cell? ⟨b, off + k * 2 + 1, none⟩ = some (.string (str (nthP l k).2))) := fun w' hb' => (hb'.cell (p := ⟨b, off + k * 2 + 1, none⟩) hb).trans (hc k hk').2
      clear hc h hlen h1 h2 eg T1
      change Calls _ _ _ _ fun e w' => e = .returned (.tuple #[.string (str (nthP l k).2), .bool true]) ∧ _
      generalize str (nthP l k).2 = s2 at *
      generalize str nm = s at *
      go_enter Tryz.func99, Tryz.ntmps99
      go_wp2_with (go_at_call 126; refine hcon.mono ?_; rintro e w' ⟨rfl, hb'⟩; have hcell := hcv.out _ (HT _ hb'))
      go_ret2
      exact ⟨rfl, HT _ hb'⟩
end Go.Proofs.YtbknabmcelknmaaGreatDoor
