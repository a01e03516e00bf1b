/- What the document's long, join, Uint, Bytes, Text, Bool, List answer. -/
import Derived.Test.YtbclhaleibjkgaaB10
namespace Go.Proofs.Ytbclhaleibjkgaa
open Go.RowKit
attribute [local go_sem ↓] Go.wp_at_zero Go.wp_at_succ

set_option maxRecDepth 20000 in
set_option maxHeartbeats 1000000 in
theorem refLong (n size : Nat) (w : World) (hs : size ≤ 8) :
    Calls Try.prog 52 #[.int .u64 (n : Int), .int .i64 (size : Int)] w fun e w' => ∃ v, e = .returned v ∧ OwnB w' w.heap.size v (beL n size size) ∧ Below w.heap.size w w' := by
  go_enter Try.func52, Try.ntmps52
  go_wp2
  go_loopw [5, 6] (fun v i wr => ∃ j : Nat, j ≤ size ∧ i = .int .i64 ((size : Int) - 1 - (j : Int)) ∧ OwnB wr w.heap.size v (beL n size j) ∧ Below w.heap.size w wr) (fun _ i _ => (intOf i + 1).toNat)
  case atStart => exact ⟨0, Nat.zero_le _, by go_num, OwnB.nil _ _, Below.refl _ _⟩
  case round =>
    obtain ⟨j, hj, rfl, hown, hbel⟩ := hrel
    have HL4 : Hid ((beL n size j).length = j) := beL_length n size j
    by_cases hlt : j < size
    · obtain ⟨t, ht⟩ : ∃ t : Nat, (size : Int) - 1 - (j : Int) = (t : Int) := ⟨size - 1 - j, by omega⟩
      have HT : Hid ((size : Int) - 1 - (j : Int) = (t : Int)) := ht
      have ht8 : t < 8 := by omega
      have htj : size - 1 - j = t := by omega
      have HV : Hid ((n : Int) / 2 ^ (8 * t) % 256 = ((beAt n size j).toNat : Int)) := by
        have := beAt_val n size j
        unfold Hid; rw [← this, htj]
      have HVw : IntKind.u8.wrap ((n : Int) / 2 ^ (8 * t)) = ((beAt n size j).toNat : Int) := by rw [wrap8_mod]; exact HV.out
      have HO : Hid (beL n size (j + 1) = beL n size j ++ [beAt n size j]) := beL_succ n size j
      have HB := hown.blk
      clear htj
      rw [ht]
      clear ht
      have h8 : (8 * (t : Int)).toNat = 8 * t := by omega
      go_wp2_with (at_builtin; refine list_app8 _ rfl (.tmp 13) (.tmp 20) rfl w.heap.size _ (beL n size j) rfl (hown.alloc _) wr.heap.size 1 1 [beAt n size j] rfl rfl (heap_alloc_new wr _) (by omega) (by rw [HL4.out]; omega) (by have := hbel.size; simp; omega) _ rfl ?_; intro g4 cap4 w4 hown4 hgrow4 hat4 hlt4)
      go_roundw
      case rel => exact ⟨j + 1, by omega, by have := HT.out; go_num, by rw [HO.out]; exact hown4, (hbel.alloc hbel.size _).grown hgrow4 (by have := hbel.size; simp; omega) (fun q hq => (HB q hq).1)⟩
      case measure => simp [intOf]
    · have e : j = size := by omega
      have hge : ¬ ((0 : Int) ≤ (size : Int) - 1 - (j : Int)) := by omega
      have HO : Hid (OwnB wr w.heap.size u5 (beL n size size)) := by
        have := hown
        rw [e] at this; exact this
      clear hown e
      go_wp2
      go_ret
      exact ⟨_, rfl, HO.out, hbel⟩

set_option maxHeartbeats 1000000 in
theorem refJoin (a : Option Addr) (len cap : Nat) (l : List UInt8) (a1 : Option Addr) (len1 cap1 : Nat) (b : List UInt8) (w : World) (h : IsB w a len cap l) (h1 : IsB w a1 len1 cap1 b) (hl : len + len1 ≤ 140737488355328) :
    Calls Try.prog 51 #[.slice a len cap, .slice a1 len1 cap1] w fun e w' => ∃ v, e = .returned v ∧ OwnB w' w.heap.size v (l ++ b) ∧ Below w.heap.size w w' := by
  have H : Hid (IsB w a len cap l) := h
  have H1 : Hid (IsB w a1 len1 cap1 b) := h1
  have HE : Hid (l.length = len) := h.len_eq
  clear h h1
  go_enter Try.func51, Try.ntmps51
  have hbel0 : Below w.heap.size w (w.alloc (.cells #[] 5)) := (Below.refl _ _).alloc (Nat.le_refl _) _
  have hemp : OwnB (w.alloc (.cells #[] 5)) w.heap.size (.slice (some ⟨w.heap.size, 0, none⟩) 0 0) [] := OwnB.empty w _ (Nat.le_refl _)
  go_wp2_with (first
    | (at_builtin; refine list_appS _ rfl (.tmp 5) (.tmp 6) rfl w.heap.size _ [] rfl hemp a len cap l rfl (H.out.below hbel0 rfl) (by simp; omega) (by simp) ?_; intro v1 w1 hown1 hgrow1; have hbel1 : Below w.heap.size w w1 := grow_bel hbel0 hemp hgrow1)
    | (at_builtin; refine list_appS _ rfl (.tmp 7) (.tmp 8) rfl w.heap.size v1 ([] ++ l) rfl hown1 a1 len1 cap1 b rfl (H1.out.below hbel1 rfl) (by have := HE.out; simp; omega) hbel1.size ?_; intro v2 w2 hown2 hgrow2))
  go_ret
  exact ⟨_, rfl, hown2, grow_bel hbel1 hown1 hgrow2⟩

theorem refJoinV (v1 v2 : Value) (l b : List UInt8) (w : World) (h : IsV w v1 l) (h1 : IsV w v2 b) (hl : l.length + b.length ≤ 140737488355328) :
    Calls Try.prog 51 #[v1, v2] w fun e w' => ∃ v, e = .returned v ∧ OwnB w' w.heap.size v (l ++ b) ∧ Below w.heap.size w w' := by
  obtain ⟨a, cap, rfl, i1⟩ := h
  obtain ⟨a1, cap1, rfl, i2⟩ := h1
  exact refJoin a _ cap l a1 _ cap1 b w i1 i2 hl

theorem uintL_eq (l : List UInt8) (n : Nat) : l ++ [] ++ [117] ++ beL n 8 8 = uintL l n := by simp [uintL, behL]
theorem listL_eq (l : List UInt8) (n : Nat) : l ++ [] ++ [108] ++ beL n 4 4 = behL l 108 n 4 4 := by simp [behL]
theorem bytesL_eq (l b : List UInt8) (n : Nat) (h : b.length = n) : l ++ [] ++ [98] ++ beL n 4 4 ++ b = bytesL l b := by simp [bytesL, behL, h]
theorem textL_eq (l b : List UInt8) (n : Nat) (h : b.length = n) : l ++ [] ++ [115] ++ beL n 4 4 ++ b = textL l b := by simp [textL, behL, h]

set_option maxRecDepth 20000 in
set_option maxHeartbeats 1000000 in
theorem refUint (a : Option Addr) (len cap : Nat) (l : List UInt8) (n : Nat) (w : World) (h : IsB w a len cap l) (hl : len ≤ 140737488351232) :
    Calls Try.prog 31 #[.slice a len cap, .int .u64 (n : Int)] w fun e w' => ∃ v, e = .returned v ∧ OwnB w' w.heap.size v (uintL l n) ∧ Below w.heap.size w w' := by
  have H : Hid (IsB w a len cap l) := h
  have HE : Hid (l.length = len) := h.len_eq
  clear h
  go_enter Try.func31, Try.ntmps31
  go_wp2_with fail
  refine (refJoin a len cap l none 0 0 [] w H.out (isB_none w) (by omega)).mono ?_
  rintro e w1 ⟨v1, rfl, o1, b1⟩
  go_wp2_with (at_builtin; refine list_app1 _ rfl (.tmp 6) (.tmp 7) rfl w.heap.size v1 (l ++ []) rfl (o1.alloc _) w1.heap.size 1 [117] rfl rfl (heap_alloc_new w1 _) (by have := HE.out; simp; omega) (by have := b1.size; simp; omega) ?_; intro v3 w3 o3 hg3; have b3 : Below w.heap.size w w3 := grow_bel1 b1 o1 hg3)
  refine (refLong n 8 w3 (by omega)).mono ?_
  rintro e w4 ⟨v4, rfl, o4, b4⟩
  have b4' : Below w.heap.size w w4 := b3.trans (b4.mono b3.size)
  go_wp2_with fail
  refine (refJoinV v3 v4 _ _ w4 (o3.isV.below b4 rfl) o4.isV (by have := HE.out; simp [beL_length]; omega)).mono ?_
  rintro e w5 ⟨v5, rfl, o5, b5⟩
  rw [uintL_eq] at o5
  go_wp2_with fail
  go_ret
  exact ⟨_, rfl, o5.base b4'.size, b4'.trans (b5.mono b4'.size)⟩

set_option maxRecDepth 20000 in
set_option maxHeartbeats 1000000 in
theorem refBytes2 (a : Option Addr) (len cap : Nat) (l : List UInt8) (a1 : Option Addr) (len1 cap1 : Nat) (b : List UInt8) (w : World) (h : IsB w a len cap l) (h1 : IsB w a1 len1 cap1 b) (hl : len ≤ 1099511627776) (hl1 : len1 ≤ 1099511627776) :
    Calls Try.prog 33 #[.slice a len cap, .slice a1 len1 cap1] w fun e w' => ∃ v, e = .returned v ∧ OwnB w' w.heap.size v (bytesL l b) ∧ Below w.heap.size w w' := by
  have H : Hid (IsB w a len cap l) := h
  have H1 : Hid (IsB w a1 len1 cap1 b) := h1
  have HE : Hid (l.length = len) := h.len_eq
  have HE1 : Hid (b.length = len1) := h1.len_eq
  clear h h1
  go_enter Try.func33, Try.ntmps33
  go_wp2_with fail
  refine (refJoin a len cap l none 0 0 [] w H.out (isB_none w) (by omega)).mono ?_
  rintro e w1 ⟨v1, rfl, o1, b1⟩
  go_wp2_with (at_builtin; refine list_app1 _ rfl (.tmp 6) (.tmp 7) rfl w.heap.size v1 (l ++ []) rfl (o1.alloc _) w1.heap.size 1 [98] rfl rfl (heap_alloc_new w1 _) (by have := HE.out; simp; omega) (by have := b1.size; simp; omega) ?_; intro v3 w3 o3 hg3; have b3 : Below w.heap.size w w3 := grow_bel1 b1 o1 hg3)
  refine (refLong len1 4 w3 (by omega)).mono ?_
  rintro e w4 ⟨v4, rfl, o4, b4⟩
  have b4' : Below w.heap.size w w4 := b3.trans (b4.mono b3.size)
  go_wp2_with fail
  refine (refJoinV v3 v4 _ _ w4 (o3.isV.below b4 rfl) o4.isV (by have := HE.out; simp [beL_length]; omega)).mono ?_
  rintro e w5 ⟨v5, rfl, o5, b5⟩
  have b5' : Below w.heap.size w w5 := b4'.trans (b5.mono b4'.size)
  go_wp2_with fail
  refine (refJoinV v5 (.slice a1 len1 cap1) _ b w5 o5.isV ((H1.out.below b5' rfl).isV) (by have := HE.out; have := HE1.out; simp [beL_length]; omega)).mono ?_
  rintro e w6 ⟨v6, rfl, o6, b6⟩
  rw [bytesL_eq l b len1 HE1.out] at o6
  go_wp2_with fail
  go_ret
  exact ⟨_, rfl, o6.base b5'.size, b5'.trans (b6.mono b5'.size)⟩

set_option maxRecDepth 20000 in
set_option maxHeartbeats 1000000 in
theorem refText (a : Option Addr) (len cap : Nat) (l : List UInt8) (s : ByteArray) (w : World) (h : IsB w a len cap l) (hl : len ≤ 1099511627776) (hl1 : s.size ≤ 1099511627776) :
    Calls Try.prog 32 #[.slice a len cap, .string s] w fun e w' => ∃ v, e = .returned v ∧ OwnB w' w.heap.size v (textL l (sL s)) ∧ Below w.heap.size w w' := by
  have H : Hid (IsB w a len cap l) := h
  have HE : Hid (l.length = len) := h.len_eq
  have HE1 : Hid ((sL s).length = s.size) := sL_length s
  clear h
  go_enter Try.func32, Try.ntmps32
  go_wp2_with fail
  refine (refJoin a len cap l none 0 0 [] w H.out (isB_none w) (by omega)).mono ?_
  rintro e w1 ⟨v1, rfl, o1, b1⟩
  go_wp2_with (at_builtin; refine list_app1 _ rfl (.tmp 6) (.tmp 7) rfl w.heap.size v1 (l ++ []) rfl (o1.alloc _) w1.heap.size 1 [115] rfl rfl (heap_alloc_new w1 _) (by have := HE.out; simp; omega) (by have := b1.size; simp; omega) ?_; intro v3 w3 o3 hg3; have b3 : Below w.heap.size w w3 := grow_bel1 b1 o1 hg3)
  refine (refLong s.size 4 w3 (by omega)).mono ?_
  rintro e w4 ⟨v4, rfl, o4, b4⟩
  have b4' : Below w.heap.size w w4 := b3.trans (b4.mono b3.size)
  go_wp2_with fail
  refine (refJoinV v3 v4 _ _ w4 (o3.isV.below b4 rfl) o4.isV (by have := HE.out; simp [beL_length]; omega)).mono ?_
  rintro e w5 ⟨v5, rfl, o5, b5⟩
  have b5' : Below w.heap.size w w5 := b4'.trans (b5.mono b4'.size)
  have hcv := conv_str w5 s
  have b6 := conv_str_bel w5 s
  have i6 := conv_str_isB w5 s (by unfold maxLen; omega)
  have b6' : Below w.heap.size w _ := b5'.trans (b6.mono b5'.size)
  have i5 := o5.isV.below b6 rfl
  generalize Lib.bytesWorld w5 5 s = w6 at *
  generalize grownCap w5 s.size 0 5 = c6 at *
  have I6 : Hid (IsV w6 (.slice (some ⟨w5.heap.size, 0, none⟩) s.size c6) (sL s)) := i6.isV
  clear i6
  go_wp2_with fail
  refine (refJoinV v5 (.slice (some ⟨w5.heap.size, 0, none⟩) s.size c6) _ (sL s) w6 i5 I6.out (by have := HE.out; have := HE1.out; simp [beL_length]; omega)).mono ?_
  rintro e w7 ⟨v7, rfl, o7, b7⟩
  rw [textL_eq l (sL s) s.size HE1.out] at o7
  go_wp2_with fail
  go_ret
  exact ⟨_, rfl, o7.base b6'.size, b6'.trans (b7.mono b6'.size)⟩
end Go.Proofs.Ytbclhaleibjkgaa
