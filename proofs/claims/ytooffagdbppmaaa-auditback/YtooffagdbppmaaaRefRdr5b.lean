/- The document's reader: bytes and texts. -/
import Derived.Test.YtooffagdbppmaaaRefRdr5
namespace Go.Proofs.Ytooffagdbppmaaa
open Go.RowKit
attribute [local go_sem ↓] Go.wp_at_zero Go.wp_at_succ

theorem xsome (X : Nat) (a : Option Addr) (len cap : Nat) (l : List UInt8) (k : Nat) (bad : Bool) (mark : UInt8) (w : World) (h : IsX w X a len cap l k bad) (hl : len ≤ 140737488351232) :
    Calls Try.prog 65 #[.pointer (some ⟨X, 0, none⟩), .int .u8 (mark.toNat : Int)] w fun e w' => ∃ v, e = .returned v ∧ OwnB w' w.heap.size v (rdSome mark (l.drop k) bad).1 ∧ (∃ k', IsX w' X a len cap l k' (rdSome mark (l.drop k) bad).2.2 ∧ (rdSome mark (l.drop k) bad).2.1 = l.drop k') ∧ w.grownBy w' (some X) := by
  cases hok : okB (l.drop k) bad mark
  · rw [rdSome_no hok]
    refine (xsomeNo X a len cap l k bad mark w h hok).mono ?_
    rintro e w' ⟨h1, h2, h3⟩
    exact ⟨_, h1, OwnB.nil _ _, ⟨k, h2, rfl⟩, h3⟩
  · rw [rdSome_ok hok]
    refine (xsomeOk X a len cap l k bad mark w h hl hok).mono ?_
    rintro e w' ⟨v, h1, h2, h3, h4⟩
    exact ⟨v, h1, h2, ⟨_, h3, by show (l.drop k).drop (5 + numTo (l.drop k) 4) = _; rw [List.drop_drop, Nat.add_assoc]⟩, h4⟩

set_option maxHeartbeats 1000000 in
theorem xBytes (X : Nat) (a : Option Addr) (len cap : Nat) (l : List UInt8) (k : Nat) (bad : Bool) (w : World) (h : IsX w X a len cap l k bad) (hl : len ≤ 140737488351232) :
    Calls Try.prog 46 #[.pointer (some ⟨X, 0, none⟩)] w fun e w' => ∃ v, e = .returned v ∧ OwnB w' w.heap.size v (rdSome 98 (l.drop k) bad).1 ∧ (∃ k', IsX w' X a len cap l k' (rdSome 98 (l.drop k) bad).2.2 ∧ (rdSome 98 (l.drop k) bad).2.1 = l.drop k') ∧ w.grownBy w' (some X) := by
  have H : Hid (IsX w X a len cap l k bad) := h
  clear h
  go_enter Try.func46, Try.ntmps46
  go_wp2_with fail
  refine (xsome X a len cap l k bad 98 w H.out hl).mono ?_
  rintro e w1 ⟨v, rfl, h1, h2, h3⟩
  go_wp2_with fail
  go_ret
  exact ⟨_, rfl, h1, h2, h3⟩

set_option maxHeartbeats 1000000 in
theorem xText (X : Nat) (a : Option Addr) (len cap : Nat) (l : List UInt8) (k : Nat) (bad : Bool) (w : World) (h : IsX w X a len cap l k bad) (hl : len ≤ 140737488351232) :
    Calls Try.prog 45 #[.pointer (some ⟨X, 0, none⟩)] w fun e w' => e = .returned (.string ⟨(rdSome 115 (l.drop k) bad).1.toArray⟩) ∧ (∃ k', IsX w' X a len cap l k' (rdSome 115 (l.drop k) bad).2.2 ∧ (rdSome 115 (l.drop k) bad).2.1 = l.drop k') ∧ w.grownBy w' (some X) := by
  have H : Hid (IsX w X a len cap l k bad) := h
  clear h
  obtain ⟨t, ht⟩ : ∃ t, (rdSome 115 (l.drop k) bad).1 = t := ⟨_, rfl⟩
  have HT : Hid ((rdSome 115 (l.drop k) bad).1 = t) := ht
  rw [ht]; clear ht
  go_enter Try.func45, Try.ntmps45
  go_wp2_with fail
  refine (xsome X a len cap l k bad 115 w H.out hl).mono ?_
  rintro e w1 ⟨v, rfl, h1, h2, h3⟩
  rw [HT.out] at h1
  obtain ⟨x, c, rfl, hi⟩ := h1.isB
  have hcv := conv_isB w1 _ _ _ _ hi
  clear h1 hi
  obtain ⟨k2, hx2, hd2⟩ := h2
  have HX2 : Hid (IsX w1 X a len cap l k2 (rdSome 115 (l.drop k) bad).2.2) := hx2
  have HD2 : Hid ((rdSome 115 (l.drop k) bad).2.1 = l.drop k2) := hd2
  clear hx2 hd2
  go_wp2_with fail
  go_ret
  exact ⟨rfl, ⟨k2, HX2.out, HD2.out⟩, h3⟩
end Go.Proofs.Ytooffagdbppmaaa
