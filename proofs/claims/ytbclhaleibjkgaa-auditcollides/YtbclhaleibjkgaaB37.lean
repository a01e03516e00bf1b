/- canon's reader: Bytes, Text, Bool, Left, Done. · The audit log, plain: which logs are whole, what is found of two, what is read of what is shown. -/
import Derived.Test.YtbclhaleibjkgaaB14
import Derived.Test.YtbclhaleibjkgaaAu0
namespace Go.Proofs.Ytbclhaleibjkgaa
open Go.RowKit
attribute [local go_sem ↓] Go.wp_at_zero Go.wp_at_succ slo1

theorem rdSome_ok {mark : UInt8} {l : List UInt8} {br : Bool} (h : okB l br mark = true) : rdSome mark l br = ((l.drop 5).take (numTo l 4), l.drop (5 + numTo l 4), false) := by unfold rdSome; rw [h]; rfl
theorem rdSome_no {mark : UInt8} {l : List UInt8} {br : Bool} (h : okB l br mark = false) : rdSome mark l br = ([], l, true) := by unfold rdSome; rw [h]; rfl

set_option maxRecDepth 20000 in
set_option maxHeartbeats 1000000 in
theorem cBytes (B : Nat) (l : List UInt8) (br : Bool) (w : World) (h : IsR w B l br) :
    Calls Try.prog 41 #[.pointer (some ⟨B, 0, none⟩)] w fun e w' => ∃ v, e = .returned v ∧ OwnB w' w.heap.size v (rdSome 98 l br).1 ∧ IsR w' B (rdSome 98 l br).2.1 (rdSome 98 l br).2.2 ∧ w.grownBy w' (some B) := by
  have H : Hid (IsR w B l br) := h
  clear h
  cases hok : okB l br 98
  · have HO : Hid (okB l br 98 = false) := hok
    rw [rdSome_no hok]
    clear hok
    go_enter Try.func41, Try.ntmps41
    go_wp2_with fail
    refine (cbodyNo B l br 98 w H.out (by decide) HO.out).mono ?_
    rintro e w1 ⟨rfl, hr, hg⟩
    go_wp2_with fail
    refine (cClone none 0 0 [] w1 (isB_none w1) (by omega)).mono ?_
    rintro e w2 ⟨v, rfl, ho, hb⟩
    go_wp2_with fail
    go_ret
    exact ⟨_, rfl, ho.base hg.size, hr.on hb, gr_trans hg (gr_bel hb rfl _)⟩
  · have HO : Hid (okB l br 98 = true) := hok
    rw [rdSome_ok hok]
    clear hok
    have hnum := numTo_lt4 l
    go_enter Try.func41, Try.ntmps41
    go_wp2_with fail
    refine (cbodyOk B l br 98 w H.out HO.out).mono ?_
    rintro e w1 ⟨b, off, cap, rfl, hne, hi, hr, hg⟩
    have HI : Hid (IsB w1 (some ⟨b, off, none⟩) (numTo l 4) cap ((l.drop 5).take (numTo l 4))) := hi
    clear hi
    go_wp2_with fail
    refine (cClone _ _ _ _ w1 HI.out (by omega)).mono ?_
    rintro e w2 ⟨v, rfl, ho, hb⟩
    go_wp2_with fail
    go_ret
    exact ⟨_, rfl, ho.base hg.size, hr.on hb, gr_trans hg (gr_bel hb rfl _)⟩

set_option maxRecDepth 20000 in
set_option maxHeartbeats 1000000 in
theorem cText (B : Nat) (l : List UInt8) (br : Bool) (w : World) (h : IsR w B l br) :
    Calls Try.prog 39 #[.pointer (some ⟨B, 0, none⟩)] w fun e w' => e = .returned (.string ⟨(rdSome 115 l br).1.toArray⟩) ∧ IsR w' B (rdSome 115 l br).2.1 (rdSome 115 l br).2.2 ∧ w.grownBy w' (some B) := by
  have H : Hid (IsR w B l br) := h
  clear h
  cases hok : okB l br 115
  · have HO : Hid (okB l br 115 = false) := hok
    rw [rdSome_no hok]
    clear hok
    go_enter Try.func39, Try.ntmps39
    go_wp2_with fail
    refine (cbodyNo B l br 115 w H.out (by decide) HO.out).mono ?_
    rintro e w1 ⟨rfl, hr, hg⟩
    have hcv := conv_isB w1 none 0 0 [] (isB_none w1)
    go_wp2_with fail
    go_ret
    exact ⟨rfl, hr, hg⟩
  · have HO : Hid (okB l br 115 = true) := hok
    rw [rdSome_ok hok]
    clear hok
    have hnum := numTo_lt4 l
    go_enter Try.func39, Try.ntmps39
    go_wp2_with fail
    refine (cbodyOk B l br 115 w H.out HO.out).mono ?_
    rintro e w1 ⟨b, off, cap, rfl, hne, hi, hr, hg⟩
    have hcv := conv_isB w1 _ _ _ _ hi
    clear hi
    obtain ⟨t, ht⟩ : ∃ t, (l.drop 5).take (numTo l 4) = t := ⟨_, rfl⟩
    have HT : Hid ((l.drop 5).take (numTo l 4) = t) := ht
    rw [ht] at hcv
    clear ht
    have HR : Hid (IsR w1 B (l.drop (5 + numTo l 4)) false) := hr
    clear hr
    go_wp2_with fail
    go_ret
    exact ⟨by show _ = Ending.returned (.string ⟨((l.drop 5).take (numTo l 4)).toArray⟩); rw [HT.out]; rfl, HR.out, hg⟩

/-- whether it is done: OK (0), or ErrForm (4) -/
def doneN (l : List UInt8) (br : Bool) : Int := if br || decide (0 < l.length) then 4 else 0

set_option maxHeartbeats 1000000 in
theorem cDone (B : Nat) (l : List UInt8) (br : Bool) (w : World) (h : IsR w B l br) :
    Calls Try.prog 42 #[.pointer (some ⟨B, 0, none⟩)] w fun e w' => e = .returned (.int .i64 (doneN l br)) ∧ w' = w := by
  obtain ⟨a, cap, hb, hi, hne⟩ := h
  have c0 := hb.cell 0
  have c1 := hb.cell 1
  clear hb hi hne
  simp only [rcell, List.getElem?_cons_zero, List.getElem?_cons_succ] at c0 c1
  unfold doneN
  generalize l.length = n at *
  cases br
  · by_cases h0 : 0 < n
    · have e : (if (false || decide (0 < n)) = true then (4 : Int) else 0) = 4 := by simp [h0]
      have h0' : (0 : Int) < (n : Int) := by omega
      rw [e]
      clear e
      go_enter Try.func42, Try.ntmps42
      go_wp2_with fail
      refine (atLoad B false w c1).mono ?_
      rintro e w1 ⟨rfl, hw⟩
      rw [hw]; clear hw w1
      go_wp2_with fail
      go_ret
      exact ⟨rfl, rfl⟩
    · have e : (if (false || decide (0 < n)) = true then (4 : Int) else 0) = 0 := by simp [h0]
      have h0' : ¬ (0 : Int) < (n : Int) := by omega
      rw [e]
      clear e
      go_enter Try.func42, Try.ntmps42
      go_wp2_with fail
      refine (atLoad B false w c1).mono ?_
      rintro e w1 ⟨rfl, hw⟩
      rw [hw]; clear hw w1
      go_wp2_with fail
      go_ret
      exact ⟨rfl, rfl⟩
  · have e : (if (true || decide (0 < n)) = true then (4 : Int) else 0) = 4 := by simp
    rw [e]
    clear e
    go_enter Try.func42, Try.ntmps42
    go_wp2_with fail
    refine (atLoad B true w c1).mono ?_
    rintro e w1 ⟨rfl, hw⟩
    rw [hw]; clear hw w1
    go_wp2_with fail
    go_ret
    exact ⟨rfl, rfl⟩
end Go.Proofs.Ytbclhaleibjkgaa
namespace Go.Proofs.Ytbclhaleibjkgaa
open Go.RowKit

/-- Verify, from behind: the log turned about -/
def verB : List Rc → List UInt8 → Bool
  | [], h => decide (h = [])
  | r :: l, h => rightRc r && decide (r.seq = l.length + 1) && decide (digRc r = h) && verB l r.prev
def verL (l : List Rc) (h : List UInt8) : Bool := verB l.reverse h
/-- Verify, from the front -/
def verF : Nat → List UInt8 → List Rc → Option (List UInt8)
  | _, h, [] => some h
  | k, h, r :: l => if rightRc r = true ∧ r.seq = k + 1 ∧ r.prev = h then verF (k + 1) (digRc r) l else none
theorem verF_snoc (r : Rc) : ∀ (l : List Rc) (k : Nat) (h : List UInt8), verF k h (l ++ [r]) = (verF k h l).bind fun g => if rightRc r = true ∧ r.seq = k + l.length + 1 ∧ r.prev = g then some (digRc r) else none
  | [], k, h => by simp only [List.nil_append, verF, Option.bind_some, List.length_nil, Nat.add_zero]
  | x :: l, k, h => by
    rw [List.cons_append, verF, verF]
    split
    · rw [verF_snoc r l (k + 1) (digRc x), List.length_cons, show k + (l.length + 1) = k + 1 + l.length by omega]
    · rfl
theorem verL_snoc (l : List Rc) (r : Rc) (h : List UInt8) : verL (l ++ [r]) h = (rightRc r && decide (r.seq = l.length + 1) && decide (digRc r = h) && verL l r.prev) := by
  unfold verL
  rw [List.reverse_append, List.reverse_singleton, List.singleton_append, verB, List.length_reverse]
theorem snoc_cases (l : List Rc) : l = [] ∨ ∃ m x, l = m ++ [x] := by
  rcases List.eq_nil_or_concat l with h | ⟨m, x, h⟩
  · exact .inl h
  · exact .inr ⟨m, x, by rw [h, List.concat_eq_append]⟩
theorem verL_F : ∀ (n : Nat) (l : List Rc), l.length = n → ∀ h, verL l h = true ↔ verF 0 [] l = some h := by
  intro n
  induction n with
  | zero =>
    intro l hl h
    obtain rfl := List.length_eq_zero_iff.1 hl
    unfold verL
    rw [List.reverse_nil, verB, verF, decide_eq_true_iff]
    constructor
    · rintro rfl; rfl
    · intro e; exact (Option.some.inj e).symm
  | succ n ih =>
    intro l hl h
    rcases snoc_cases l with rfl | ⟨m, x, rfl⟩
    · cases hl
    · have hm : m.length = n := by rw [List.length_append] at hl; exact Nat.succ.inj hl
      rw [verL_snoc, verF_snoc, Bool.and_eq_true, Bool.and_eq_true, Bool.and_eq_true, decide_eq_true_iff, decide_eq_true_iff, ih m hm, Nat.zero_add]
      constructor
      · rintro ⟨⟨⟨h1, h2⟩, h3⟩, h4⟩
        rw [h4, Option.bind_some, if_pos ⟨h1, h2, rfl⟩, h3]
      · intro e
        cases hv : verF 0 [] m with
        | none => rw [hv] at e; cases e
        | some g =>
          rw [hv, Option.bind_some] at e
          split at e
          · rename_i hc
            obtain ⟨h1, h2, h3⟩ := hc
            exact ⟨⟨⟨h1, h2⟩, Option.some.inj e⟩, by rw [h3]⟩
          · cases e
/-- Collision: both logs turned about -/
noncomputable def colB : List Rc → List Rc → Option (Rc × Rc)
  | r :: a, s :: b => if sameRc r s = true then colB a b else if digRc r = digRc s then some (r, s) else none
  | [], _ => none
  | _ :: _, [] => none
noncomputable def colL (a b : List Rc) : Option (Rc × Rc) := colB a.reverse b.reverse
/-- one right record in its bytes -/
def uB14 (n : Nat) : List UInt8 := behL [] 117 n 8 8
def sB14 (m : UInt8) (b : List UInt8) : List UInt8 := behL [] m b.length 4 4 ++ b
theorem uintL_eq14 (l : List UInt8) (n : Nat) : uintL l n = l ++ uB14 n := by unfold uintL uB14; exact behL_eq _ _ _ _ _
theorem bytesL_eq14 (l b : List UInt8) : bytesL l b = l ++ sB14 98 b := by unfold bytesL sB14; rw [behL_eq, List.append_assoc]
theorem textL_eq14 (l b : List UInt8) : textL l b = l ++ sB14 115 b := by unfold textL sB14; rw [behL_eq, List.append_assoc]
/-- what is read, one behind the other -/
def ra1 (b : List UInt8) := rdUint b false
def ra2 (b : List UInt8) := rdUint (ra1 b).2.1 (ra1 b).2.2
def ra3 (b : List UInt8) := rdSome 115 (ra2 b).2.1 (ra2 b).2.2
def ra4 (b : List UInt8) := rdUint (ra3 b).2.1 (ra3 b).2.2
def ra5 (b : List UInt8) := rdSome 115 (ra4 b).2.1 (ra4 b).2.2
def ra6 (b : List UInt8) := rdSome 115 (ra5 b).2.1 (ra5 b).2.2
def ra7 (b : List UInt8) := rdUint (ra6 b).2.1 (ra6 b).2.2
def ra8 (b : List UInt8) := rdUint (ra7 b).2.1 (ra7 b).2.2
def ra9 (b : List UInt8) := rdSome 98 (ra8 b).2.1 (ra8 b).2.2
def ra10 (b : List UInt8) := rdSome 98 (ra9 b).2.1 (ra9 b).2.2
def toldN (n : Nat) : Int := ((min n 2147483647 : Nat) : Int)
/-- the record that is read, if it is one -/
def recR (b : List UInt8) : Rc := ⟨(ra1 b).1, (ra2 b).1, ⟨(ra3 b).1.toArray⟩, toldN (ra4 b).1, ⟨(ra5 b).1.toArray⟩, ⟨(ra6 b).1.toArray⟩, (ra7 b).1, toldN (ra8 b).1, (ra9 b).1, (ra10 b).1⟩
def readRc (b : List UInt8) : Option Rc := if doneN (ra10 b).2.1 (ra10 b).2.2 = 0 ∧ rightRc (recR b) = true then some (recR b) else none
end Go.Proofs.Ytbclhaleibjkgaa
