/- The document's reader: Uint, List, Bool. -/
import Derived.Test.YtooffagdbppmaaaRefRdr
namespace Go.Proofs.Ytooffagdbppmaaa
open Go.RowKit
attribute [local go_sem ↓] Go.wp_at_zero Go.wp_at_succ

theorem rdUint_ok {l : List UInt8} {br : Bool} (h : okH l br 117 8 = true) : rdUint l br = (numTo l 8, l.drop 9, false) := by unfold rdUint; rw [h]; rfl
theorem rdUint_no {l : List UInt8} {br : Bool} (h : okH l br 117 8 = false) : rdUint l br = (0, l, true) := by unfold rdUint; rw [h]; rfl

set_option maxRecDepth 20000 in
set_option maxHeartbeats 1000000 in
theorem xUint (X : Nat) (a : Option Addr) (len cap : Nat) (l : List UInt8) (k : Nat) (bad : Bool) (w : World) (h : IsX w X a len cap l k bad) :
    Calls Try.prog 44 #[.pointer (some ⟨X, 0, none⟩)] w fun e w' => e = .returned (.int .u64 ((rdUint (l.drop k) bad).1 : Int)) ∧ (∃ k', IsX w' X a len cap l k' (rdUint (l.drop k) bad).2.2 ∧ (rdUint (l.drop k) bad).2.1 = l.drop k') ∧ w.grownBy w' (some X) := by
  have H : Hid (IsX w X a len cap l k bad) := h
  clear h
  cases hok : okH (l.drop k) bad 117 8
  · have HO : Hid (okH (l.drop k) bad 117 8 = false) := hok
    rw [rdUint_no hok]
    clear hok
    go_enter Try.func44, Try.ntmps44
    go_wp2_with fail
    refine (xnumNo X a len cap l k bad 117 8 w H.out (by omega) HO.out).mono ?_
    rintro e w1 ⟨rfl, hr, hg⟩
    go_wp2_with fail
    go_ret
    exact ⟨rfl, ⟨k, hr, rfl⟩, hg⟩
  · have HO : Hid (okH (l.drop k) bad 117 8 = true) := hok
    rw [rdUint_ok hok]
    obtain ⟨hb, h1, _⟩ := okX_of H.out.2.1.len_eq hok
    clear hok
    have hmx := H.out.2.1.max
    have hle := H.out.2.1.le
    unfold maxLen at hmx
    obtain ⟨m, hm⟩ : ∃ m, numTo (l.drop k) 8 = m := ⟨_, rfl⟩
    have Hm : Hid (numTo (l.drop k) 8 = m) := hm
    rw [hm]; clear hm
    go_enter Try.func44, Try.ntmps44
    go_wp2_with fail
    refine (xnumOk X a len cap l k bad 117 8 w H.out (by omega) HO.out).mono ?_
    rintro e w1 ⟨rfl, n1, hw⟩
    rw [Hm.out]
    have H1 : Hid (IsX w1 X a len cap l k bad) := by rw [hw]; exact H.out.drewN n1
    have G1 : w.grownBy w1 (some X) := by rw [hw]; exact gr_drewN w n1 _
    clear hw
    have c1 := H1.out.1.cell 1
    have f1 := H1.out.1.frozen 1
    simp only [xcell, List.getElem?_cons_zero, List.getElem?_cons_succ] at c1
    have HX : Hid (IsX (w1.setCell ⟨X, 1, none⟩ (.int .i64 ((k : Int) + 9))) X a len cap l (k + 9) bad) := by
      have := H1.out.at (k + 9) (by omega)
      rw [show ((k + 9 : Nat) : Int) = (k : Int) + 9 by omega] at this
      exact this
    go_wp2_with fail
    go_ret
    exact ⟨rfl, ⟨k + 9, by rw [← hb]; exact HX.out, by rw [List.drop_drop]⟩, gr_trans G1 (gr_set _ _ _ _)⟩

theorem rdList_ok {l : List UInt8} {br : Bool} {most : Int} (h : okH l br 108 4 = true) (hm : (numTo l 4 : Int) ≤ most) : rdList l br most = (numTo l 4, l.drop 5, false) := by unfold rdList okL; rw [h]; simp [hm]
theorem rdList_no {l : List UInt8} {br : Bool} {most : Int} (h : okH l br 108 4 = false) : rdList l br most = (0, l, true) := by unfold rdList okL; rw [h]; rfl
theorem rdList_big {l : List UInt8} {br : Bool} {most : Int} (hm : ¬ (numTo l 4 : Int) ≤ most) : rdList l br most = (0, l, true) := by unfold rdList okL; simp [hm]

end Go.Proofs.Ytooffagdbppmaaa
