/- What canon's Uint, Bytes, Text, Bool, List answer. -/
import Derived.Test.YtonndplenacgjaaCanW
namespace Go.Proofs.Ytonndplenacgjaa
open Go.RowKit
attribute [local go_sem ↓] Go.wp_at_zero Go.wp_at_succ

/-- the parts, behind any bytes -/
def uintL (l : List UInt8) (n : Nat) : List UInt8 := behL l 117 n 8 8
def bytesL (l b : List UInt8) : List UInt8 := behL l 98 b.length 4 4 ++ b
def textL (l b : List UInt8) : List UInt8 := behL l 115 b.length 4 4 ++ b
def boolL (l : List UInt8) (b : Bool) : List UInt8 := l ++ [if b then 116 else 102]
def listL (l : List UInt8) (n : Int) : List UInt8 := behL l 108 (if n < 0 ∨ 2147483647 < n then 0 else n.toNat) 4 4

set_option maxHeartbeats 1000000 in
theorem canUint (a : Option Addr) (len cap : Nat) (l : List UInt8) (n : Nat) (w : World) (h : IsB w a len cap l) (hl : len ≤ 140737488351232) :
    Calls Try.prog 10 #[.slice a len cap, .int .u64 (n : Int)] w fun e w' => ∃ v, e = .returned v ∧ OwnB w' w.heap.size v (uintL l n) ∧ Below w.heap.size w w' := by
  have H : Hid (IsB w a len cap l) := h
  clear h
  go_enter Try.func10, Try.ntmps10
  go_wp2_with fail
  refine (canBehind a len cap l 117 n 8 0 w H.out (by omega) hl (by omega)).mono ?_
  rintro e w1 ⟨v, rfl, ho, hb⟩
  go_wp2_with fail
  go_ret
  exact ⟨_, rfl, ho, hb⟩

set_option maxHeartbeats 1000000 in
theorem canBool (a : Option Addr) (len cap : Nat) (l : List UInt8) (b : Bool) (w : World) (h : IsB w a len cap l) (hl : len ≤ 140737488351232) :
    Calls Try.prog 12 #[.slice a len cap, .bool b] w fun e w' => ∃ v, e = .returned v ∧ OwnB w' w.heap.size v (boolL l b) ∧ Below w.heap.size w w' := by
  have H : Hid (IsB w a len cap l) := h
  clear h
  cases b
  · go_enter Try.func12, Try.ntmps12
    go_wp2_with fail
    refine (canBehind a len cap l 102 0 0 0 w H.out (by omega) hl (by omega)).mono ?_
    rintro e w1 ⟨v, rfl, ho, hb⟩
    go_wp2_with fail
    go_ret
    exact ⟨_, rfl, ho, hb⟩
  · go_enter Try.func12, Try.ntmps12
    go_wp2_with fail
    refine (canBehind a len cap l 116 0 0 0 w H.out (by omega) hl (by omega)).mono ?_
    rintro e w1 ⟨v, rfl, ho, hb⟩
    go_wp2_with fail
    go_ret
    exact ⟨_, rfl, ho, hb⟩

set_option maxHeartbeats 1000000 in
theorem canList (a : Option Addr) (len cap : Nat) (l : List UInt8) (n : Int) (w : World) (h : IsB w a len cap l) (hl : len ≤ 140737488351232) :
    Calls Try.prog 14 #[.slice a len cap, .int .i64 n] w fun e w' => ∃ v, e = .returned v ∧ OwnB w' w.heap.size v (listL l n) ∧ Below w.heap.size w w' := by
  have H : Hid (IsB w a len cap l) := h
  clear h
  by_cases h0 : n < 0
  · go_enter Try.func14, Try.ntmps14
    go_wp2_with fail
    refine (canBehind a len cap l 108 0 4 0 w H.out (by omega) hl (by omega)).mono ?_
    rintro e w1 ⟨v, rfl, ho, hb⟩
    have e1 : listL l n = behL l 108 0 4 4 := by unfold listL; rw [if_pos (.inl h0)]
    have HO : Hid (OwnB w1 w.heap.size v (listL l n)) := by rw [e1]; exact ho
    clear ho e1
    go_wp2_with fail
    go_ret
    exact ⟨_, rfl, HO.out, hb⟩
  · by_cases h1 : 2147483647 < n
    · go_enter Try.func14, Try.ntmps14
      go_wp2_with fail
      refine (canBehind a len cap l 108 0 4 0 w H.out (by omega) hl (by omega)).mono ?_
      rintro e w1 ⟨v, rfl, ho, hb⟩
      have e1 : listL l n = behL l 108 0 4 4 := by unfold listL; rw [if_pos (.inr h1)]
      have HO : Hid (OwnB w1 w.heap.size v (listL l n)) := by rw [e1]; exact ho
      clear ho e1
      go_wp2_with fail
      go_ret
      exact ⟨_, rfl, HO.out, hb⟩
    · obtain ⟨m, rfl⟩ : ∃ m : Nat, n = (m : Int) := ⟨n.toNat, by omega⟩
      have hm : (m : Int) ≤ 2147483647 := by omega
      go_enter Try.func14, Try.ntmps14
      go_wp2_with fail
      refine (canBehind a len cap l 108 m 4 0 w H.out (by omega) hl (by omega)).mono ?_
      rintro e w1 ⟨v, rfl, ho, hb⟩
      have e1 : listL l (m : Int) = behL l 108 m 4 4 := by unfold listL; rw [if_neg (by omega)]; rfl
      have HO : Hid (OwnB w1 w.heap.size v (listL l (m : Int))) := by rw [e1]; exact ho
      clear ho e1
      go_wp2_with fail
      go_ret
      exact ⟨_, rfl, HO.out, hb⟩

set_option maxHeartbeats 1000000 in
theorem canBytes (a : Option Addr) (len cap : Nat) (l : List UInt8) (a1 : Option Addr) (len1 cap1 : Nat) (b : List UInt8) (w : World) (h : IsB w a len cap l) (h1 : IsB w a1 len1 cap1 b) (hl : len ≤ 1099511627776) (hl1 : len1 ≤ 1099511627776) :
    Calls Try.prog 17 #[.slice a len cap, .slice a1 len1 cap1] w fun e w' => ∃ v, e = .returned v ∧ OwnB w' w.heap.size v (bytesL l b) ∧ Below w.heap.size w w' := by
  have H : Hid (IsB w a len cap l) := h
  have H1 : Hid (IsB w a1 len1 cap1 b) := h1
  have HE : Hid (l.length = len) := h.len_eq
  have HE1 : Hid (b.length = len1) := h1.len_eq
  clear h h1
  go_enter Try.func17, Try.ntmps17
  go_wp2_with fail
  refine (canBehind a len cap l 98 len1 4 len1 w H.out (by omega) (by omega) (by omega)).mono ?_
  rintro e w1 ⟨v, rfl, ho, hb⟩
  go_wp2_with (at_builtin; refine list_appS _ rfl (.tmp 11) (.tmp 12) rfl w.heap.size v (behL l 98 len1 4 4) rfl ho a1 len1 cap1 b rfl (H1.out.below hb rfl) (by rw [behL_length, HE.out]; omega) hb.size ?_; intro v2 w2 ho2 hg2)
  go_ret
  refine ⟨_, rfl, ?_, grow_bel hb ho hg2⟩
  unfold bytesL; rw [HE1.out]; exact ho2

set_option maxHeartbeats 1000000 in
theorem canText (a : Option Addr) (len cap : Nat) (l : List UInt8) (s : ByteArray) (w : World) (h : IsB w a len cap l) (hl : len ≤ 1099511627776) (hl1 : s.size ≤ 1099511627776) :
    Calls Try.prog 19 #[.slice a len cap, .string s] w fun e w' => ∃ v, e = .returned v ∧ OwnB w' w.heap.size v (textL l (sL s)) ∧ Below w.heap.size w w' := by
  have H : Hid (IsB w a len cap l) := h
  have HE : Hid (l.length = len) := h.len_eq
  have HE1 : Hid ((sL s).length = s.size) := sL_length s
  clear h
  go_enter Try.func19, Try.ntmps19
  go_wp2_with fail
  refine (canBehind a len cap l 115 s.size 4 s.size w H.out (by omega) (by omega) (by omega)).mono ?_
  rintro e w1 ⟨v, rfl, ho, hb⟩
  go_wp2_with (at_builtin; refine list_appT _ rfl (.tmp 11) (.tmp 12) rfl w.heap.size v (behL l 115 s.size 4 4) rfl ho s rfl (by rw [behL_length, HE.out]; omega) hb.size ?_; intro v2 w2 ho2 hg2)
  go_ret
  refine ⟨_, rfl, ?_, grow_bel hb ho hg2⟩
  unfold textL; rw [HE1.out]; exact ho2
end Go.Proofs.Ytonndplenacgjaa
