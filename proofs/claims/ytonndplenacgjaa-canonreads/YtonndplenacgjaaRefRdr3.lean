/- The document's reader: Bool. -/
import Derived.Test.YtonndplenacgjaaRefRdr2
namespace Go.Proofs.Ytonndplenacgjaa
open Go.RowKit
attribute [local go_sem ↓] Go.wp_at_zero Go.wp_at_succ

theorem rdBool_ok {l : List UInt8} {br : Bool} (h : okT l br = true) : rdBool l br = (nth l 0 == 116, l.drop 1, false) := by unfold rdBool; rw [h]; rfl
theorem rdBool_no {l : List UInt8} {br : Bool} (h : okT l br = false) : rdBool l br = (false, l, true) := by unfold rdBool; rw [h]; rfl

set_option maxRecDepth 20000 in
set_option maxHeartbeats 2000000 in
theorem xBoolNo (X : Nat) (a : Option Addr) (len cap : Nat) (l : List UInt8) (k : Nat) (bad : Bool) (w : World) (h : IsX w X a len cap l k bad) (hno : okT (l.drop k) bad = false) :
    Calls Try.prog 29 #[.pointer (some ⟨X, 0, none⟩)] w fun e w' => e = .returned (.bool false) ∧ IsX w' X a len cap l k true ∧ w.grownBy w' (some X) := by
  have H : Hid (IsX w X a len cap l k bad) := h
  obtain ⟨hb, hi, hne, hk⟩ := h
  have c0 := hb.cell 0
  have c1 := hb.cell 1
  have c2 := hb.cell 2
  have f2 := hb.frozen 2
  have hmx := hi.max
  have hle := hi.le
  unfold maxLen at hmx
  have HI : Hid (IsB w a len cap l) := hi
  simp only [xcell, List.getElem?_cons_zero, List.getElem?_cons_succ] at c0 c1 c2
  clear hb hi hne
  cases bad
  · by_cases hkl : k < len
    · have hm : nth l k ≠ 116 ∧ nth l k ≠ 102 := by
        have := hno
        unfold okT at this
        rw [nth_drop, Nat.add_zero] at this
        simpa using this
      have q1 : (((nth l k).toNat : Int) != 116) = true := by
        rw [bne_iff_ne]; intro h; exact hm.1 ((toNat8_inj _ 116).1 h)
      have q2 : (((nth l k).toNat : Int) != 102) = true := by
        rw [bne_iff_ne]; intro h; exact hm.2 ((toNat8_inj _ 102).1 h)
      obtain ⟨b, off, rfl, hc⟩ := HI.out.cells (by omega)
      have g := hc k (by omega)
      have hlt : (k : Int) < (len : Int) := by omega
      have hge : decide (len ≤ k) = false := decide_eq_false (by omega)
      clear hc hm hno
      generalize ((nth l k).toNat : Int) = Y at *
      go_enter Try.func29, Try.ntmps29
      go_wp2
      go_quiet (fail)
      go_wp2
      go_ret
      exact ⟨rfl, (H.out.drewN _).bad, gr_trans (gr_drewN w _ _) (gr_set _ _ _ _)⟩
    · have hge : (len : Int) ≤ (k : Int) := by omega
      clear hno
      go_enter Try.func29, Try.ntmps29
      go_wp2
      go_quiet (fail)
      go_wp2
      go_ret
      exact ⟨rfl, (H.out.drewN _).bad, gr_trans (gr_drewN w _ _) (gr_set _ _ _ _)⟩
  · go_enter Try.func29, Try.ntmps29
    go_wp2
    go_quiet (fail)
    go_wp2
    go_ret
    exact ⟨rfl, (H.out.drewN _).bad, gr_trans (gr_drewN w _ _) (gr_set _ _ _ _)⟩

end Go.Proofs.Ytonndplenacgjaa
