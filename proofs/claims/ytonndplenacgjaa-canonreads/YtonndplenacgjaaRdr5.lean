/- canon's reader: Bytes, Text, Bool, Left, Done. -/
import Derived.Test.YtonndplenacgjaaRdr4
namespace Go.Proofs.Ytonndplenacgjaa
open Go.RowKit
attribute [local go_sem ↓] Go.wp_at_zero Go.wp_at_succ slo1

theorem rdSome_ok {mark : UInt8} {l : List UInt8} {br : Bool} (h : okB l br mark = true) : rdSome mark l br = ((l.drop 5).take (numTo l 4), l.drop (5 + numTo l 4), false) := by unfold rdSome; rw [h]; rfl
theorem rdSome_no {mark : UInt8} {l : List UInt8} {br : Bool} (h : okB l br mark = false) : rdSome mark l br = ([], l, true) := by unfold rdSome; rw [h]; rfl

set_option maxRecDepth 20000 in
set_option maxHeartbeats 1000000 in
theorem cBytes (B : Nat) (l : List UInt8) (br : Bool) (w : World) (h : IsR w B l br) :
    Calls Try.prog 24 #[.pointer (some ⟨B, 0, none⟩)] w fun e w' => ∃ v, e = .returned v ∧ OwnB w' w.heap.size v (rdSome 98 l br).1 ∧ IsR w' B (rdSome 98 l br).2.1 (rdSome 98 l br).2.2 ∧ w.grownBy w' (some B) := by
  have H : Hid (IsR w B l br) := h
  clear h
  cases hok : okB l br 98
  · have HO : Hid (okB l br 98 = false) := hok
    rw [rdSome_no hok]
    clear hok
    go_enter Try.func24, Try.ntmps24
    go_wp2_with fail
    refine (cbodyNo B l br 98 w H.out (by decide) HO.out).mono ?_
    rintro e w1 ⟨rfl, hr, hg⟩
    go_wp2_with fail
    refine (cClone none 0 0 [] w1 (isB_none w1) (by omega)).mono ?_
    rintro e w2 ⟨v, rfl, ho, hb⟩
    go_wp2_with fail
    go_ret
    exact ⟨_, rfl, ho.base hg.size, hr.on hb, gr_trans hg (gr_bel hb rfl _)⟩
  · have HO : Hid (okB l br 98 = true) := hok
    rw [rdSome_ok hok]
    clear hok
    have hnum := numTo_lt4 l
    go_enter Try.func24, Try.ntmps24
    go_wp2_with fail
    refine (cbodyOk B l br 98 w H.out HO.out).mono ?_
    rintro e w1 ⟨b, off, cap, rfl, hne, hi, hr, hg⟩
    have HI : Hid (IsB w1 (some ⟨b, off, none⟩) (numTo l 4) cap ((l.drop 5).take (numTo l 4))) := hi
    clear hi
    go_wp2_with fail
    refine (cClone _ _ _ _ w1 HI.out (by omega)).mono ?_
    rintro e w2 ⟨v, rfl, ho, hb⟩
    go_wp2_with fail
    go_ret
    exact ⟨_, rfl, ho.base hg.size, hr.on hb, gr_trans hg (gr_bel hb rfl _)⟩

set_option maxRecDepth 20000 in
set_option maxHeartbeats 1000000 in
theorem cText (B : Nat) (l : List UInt8) (br : Bool) (w : World) (h : IsR w B l br) :
    Calls Try.prog 26 #[.pointer (some ⟨B, 0, none⟩)] w fun e w' => e = .returned (.string ⟨(rdSome 115 l br).1.toArray⟩) ∧ IsR w' B (rdSome 115 l br).2.1 (rdSome 115 l br).2.2 ∧ w.grownBy w' (some B) := by
  have H : Hid (IsR w B l br) := h
  clear h
  cases hok : okB l br 115
  · have HO : Hid (okB l br 115 = false) := hok
    rw [rdSome_no hok]
    clear hok
    go_enter Try.func26, Try.ntmps26
    go_wp2_with fail
    refine (cbodyNo B l br 115 w H.out (by decide) HO.out).mono ?_
    rintro e w1 ⟨rfl, hr, hg⟩
    have hcv := conv_isB w1 none 0 0 [] (isB_none w1)
    go_wp2_with fail
    go_ret
    exact ⟨rfl, hr, hg⟩
  · have HO : Hid (okB l br 115 = true) := hok
    rw [rdSome_ok hok]
    clear hok
    have hnum := numTo_lt4 l
    go_enter Try.func26, Try.ntmps26
    go_wp2_with fail
    refine (cbodyOk B l br 115 w H.out HO.out).mono ?_
    rintro e w1 ⟨b, off, cap, rfl, hne, hi, hr, hg⟩
    have hcv := conv_isB w1 _ _ _ _ hi
    clear hi
    obtain ⟨t, ht⟩ : ∃ t, (l.drop 5).take (numTo l 4) = t := ⟨_, rfl⟩
    have HT : Hid ((l.drop 5).take (numTo l 4) = t) := ht
    rw [ht] at hcv
    clear ht
    have HR : Hid (IsR w1 B (l.drop (5 + numTo l 4)) false) := hr
    clear hr
    go_wp2_with fail
    go_ret
    exact ⟨by show _ = Ending.returned (.string ⟨((l.drop 5).take (numTo l 4)).toArray⟩); rw [HT.out]; rfl, HR.out, hg⟩

set_option maxRecDepth 20000 in
set_option maxHeartbeats 1000000 in
theorem cBool (B : Nat) (l : List UInt8) (br : Bool) (w : World) (h : IsR w B l br) :
    Calls Try.prog 28 #[.pointer (some ⟨B, 0, none⟩)] w fun e w' => e = .returned (.bool (rdBool l br).1) ∧ IsR w' B (rdBool l br).2.1 (rdBool l br).2.2 ∧ w.grownBy w' (some B) := by
  have H : Hid (IsR w B l br) := h
  by_cases hok : okT l br = true
  · have hbr : br = false := by cases br <;> simp [okT] at hok ⊢
    subst hbr
    have hm : nth l 0 = 116 ∨ nth l 0 = 102 := by simpa [okT] using hok
    have hl : 0 < l.length := by
      rcases Nat.eq_zero_or_pos l.length with h0 | h0
      · have : l = [] := List.eq_nil_of_length_eq_zero h0
        subst this
        rw [nth_nil] at hm
        rcases hm with hm | hm <;> exact absurd hm (by decide)
      · exact h0
    have hrd : rdBool l false = (nth l 0 == 116, l.drop 1, false) := by unfold rdBool; rw [hok]; rfl
    obtain ⟨a, cap, hb, hi, hne⟩ := h
    have c0 := hb.cell 0
    have f0 := hb.frozen 0
    have HI : Hid (IsB w a l.length cap l) := hi
    have HB : Hid (Blk w B 65 (rcell a l.length cap false)) := hb
    clear hb hi hok
    simp only [rcell, List.getElem?_cons_zero] at c0
    generalize hn : l.length = n at *
    have HN : Hid (l.length = n) := hn
    clear hn
    obtain ⟨b, off, rfl, _⟩ := HI.out.cells (by omega)
    have hbB : b ≠ B := hne _ rfl
    obtain ⟨o2, ho2⟩ := cutA_some b off cap 1
    have I1 : Hid (IsB w (some ⟨b, o2, none⟩) (n - 1) (cap - 1) (l.drop 1)) := by
      have := HI.out.cut 1 (by omega)
      rw [ho2] at this; exact this
    have h1 : 1 ≤ n := by omega
    have HR : Hid (IsR (w.setCell ⟨B, 0, none⟩ (.slice (some ⟨b, o2, none⟩) (n - 1) (cap - 1))) B (l.drop 1) false) := isR_rest HB.out I1.out (fun x hx => by injection hx with hx; rw [← hx]; exact hbB)
    rcases hm with hm | hm
    · have hmk : Hid (markOf l false = 116) := hm
      rw [hrd, hm]
      clear hm hrd
      go_enter Try.func28, Try.ntmps28
      go_wp2_with fail
      refine (cmark B l false w H.out).mono ?_
      rintro e w1 ⟨rfl, hw⟩
      rw [hw, hmk.out]; clear hw w1
      go_wp2_with fail
      go_ret
      exact ⟨rfl, HR.out, gr_set _ _ _ _⟩
    · have hmk : Hid (markOf l false = 102) := hm
      rw [hrd, hm]
      clear hm hrd
      go_enter Try.func28, Try.ntmps28
      go_wp2_with fail
      refine (cmark B l false w H.out).mono ?_
      rintro e w1 ⟨rfl, hw⟩
      rw [hw, hmk.out]; clear hw w1
      go_wp2_with fail
      go_ret
      exact ⟨rfl, HR.out, gr_set _ _ _ _⟩
  · have hrd : rdBool l br = (false, l, true) := by unfold rdBool; rw [if_neg hok]
    have hm : markOf l br ≠ 116 ∧ markOf l br ≠ 102 := by
      cases br
      · have e : markOf l false = nth l 0 := rfl
        rw [e]; simpa [okT] using hok
      · have e : markOf l true = 0 := rfl
        rw [e]; exact ⟨by decide, by decide⟩
    have q1 : (((markOf l br).toNat : Int) != 116) = true := by
      rw [bne_iff_ne]; intro h; exact hm.1 ((toNat8_inj _ 116).1 h)
    have q2 : (((markOf l br).toNat : Int) != 102) = true := by
      rw [bne_iff_ne]; intro h; exact hm.2 ((toNat8_inj _ 102).1 h)
    rw [hrd]
    clear hrd hm hok h
    go_enter Try.func28, Try.ntmps28
    go_wp2_with fail
    refine (cmark B l br w H.out).mono ?_
    rintro e w1 ⟨rfl, hw⟩
    rw [hw]; clear hw w1
    generalize ((markOf l br).toNat : Int) = mk at *
    go_wp2_with fail
    refine (cfail B l br _ H.out).mono ?_
    rintro e w2 ⟨rfl, hr, hg⟩
    go_wp2_with fail
    go_ret
    exact ⟨rfl, hr, hg⟩

set_option maxHeartbeats 1000000 in
theorem cLeft (B : Nat) (l : List UInt8) (br : Bool) (w : World) (h : IsR w B l br) :
    Calls Try.prog 32 #[.pointer (some ⟨B, 0, none⟩)] w fun e w' => e = .returned (.int .i64 (l.length : Int)) ∧ w' = w := by
  obtain ⟨a, cap, hb, hi, hne⟩ := h
  have c0 := hb.cell 0
  clear hb hi hne
  simp only [rcell, List.getElem?_cons_zero] at c0
  generalize l.length = n at *
  go_enter Try.func32, Try.ntmps32
  go_wp2
  go_ret
  exact ⟨rfl, rfl⟩

/-- whether it is done: OK (0), or ErrForm (4) -/
def doneN (l : List UInt8) (br : Bool) : Int := if br || decide (0 < l.length) then 4 else 0

set_option maxHeartbeats 1000000 in
theorem cDone (B : Nat) (l : List UInt8) (br : Bool) (w : World) (h : IsR w B l br) :
    Calls Try.prog 33 #[.pointer (some ⟨B, 0, none⟩)] w fun e w' => e = .returned (.int .i64 (doneN l br)) ∧ w' = w := by
  obtain ⟨a, cap, hb, hi, hne⟩ := h
  have c0 := hb.cell 0
  have c1 := hb.cell 1
  clear hb hi hne
  simp only [rcell, List.getElem?_cons_zero, List.getElem?_cons_succ] at c0 c1
  unfold doneN
  generalize l.length = n at *
  cases br
  · by_cases h0 : 0 < n
    · have e : (if (false || decide (0 < n)) = true then (4 : Int) else 0) = 4 := by simp [h0]
      have h0' : (0 : Int) < (n : Int) := by omega
      rw [e]
      clear e
      go_enter Try.func33, Try.ntmps33
      go_wp2_with fail
      refine (atLoad B false w c1).mono ?_
      rintro e w1 ⟨rfl, hw⟩
      rw [hw]; clear hw w1
      go_wp2_with fail
      go_ret
      exact ⟨rfl, rfl⟩
    · have e : (if (false || decide (0 < n)) = true then (4 : Int) else 0) = 0 := by simp [h0]
      have h0' : ¬ (0 : Int) < (n : Int) := by omega
      rw [e]
      clear e
      go_enter Try.func33, Try.ntmps33
      go_wp2_with fail
      refine (atLoad B false w c1).mono ?_
      rintro e w1 ⟨rfl, hw⟩
      rw [hw]; clear hw w1
      go_wp2_with fail
      go_ret
      exact ⟨rfl, rfl⟩
  · have e : (if (true || decide (0 < n)) = true then (4 : Int) else 0) = 4 := by simp
    rw [e]
    clear e
    go_enter Try.func33, Try.ntmps33
    go_wp2_with fail
    refine (atLoad B true w c1).mono ?_
    rintro e w1 ⟨rfl, hw⟩
    rw [hw]; clear hw w1
    go_wp2_with fail
    go_ret
    exact ⟨rfl, rfl⟩
end Go.Proofs.Ytonndplenacgjaa
