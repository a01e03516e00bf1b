/- What strings.Cut answers, at a separator of one byte. -/
import Derived.Test.YtbknabmcelknmaaGreatDoorUri1
import Derived.Test.YtbknabmcelknmaaGreatDoorRet
import Derived.Test.YtbknabmcelknmaaGreatDoorShelf1
import Derived.BigQuiet
namespace Go.Proofs.YtbknabmcelknmaaGreatDoor
open Go.RowKit

theorem idx_cases (c : UInt8) (l : List UInt8) :
    (Lib.indexByte l c = -1 ∧ headL c l = l ∧ tailL c l = [] ∧ hasL c l = false) ∨
    ∃ k : Nat, k < l.length ∧ Lib.indexByte l c = (k : Int) ∧ headL c l = l.take k ∧ tailL c l = l.drop (k + 1) ∧ hasL c l = true := by
  induction l with
  | nil => exact .inl ⟨rfl, rfl, rfl, rfl⟩
  | cons b l ih =>
    by_cases hb : b = c
    · subst hb
      exact .inr ⟨0, by simp, by simp [Lib.indexByte], by simp [headL], by simp [tailL], by simp [hasL]⟩
    · have e1 : headL c (b :: l) = b :: headL c l := by unfold headL; rw [List.takeWhile_cons_of_pos (by simpa using hb)]
      have e2 : tailL c (b :: l) = tailL c l := by unfold tailL; rw [List.dropWhile_cons_of_pos (by simpa using hb)]
      have e3 : hasL c (b :: l) = hasL c l := by unfold hasL; simp [Ne.symm hb]
      have e4 : Lib.indexByte (b :: l) c = if Lib.indexByte l c == -1 then -1 else Lib.indexByte l c + 1 := by rw [Lib.indexByte]; simp [hb]
      rw [e1, e2, e3, e4]
      rcases ih with ⟨h1, h2, h3, h4⟩ | ⟨k, hk, h1, h2, h3, h4⟩
      · refine .inl ⟨by rw [h1]; rfl, by rw [h2], h3, h4⟩
      · refine .inr ⟨k + 1, by simp; omega, ?_, by rw [h2]; rfl, by rw [h3]; rfl, h4⟩
        rw [h1]
        have : ¬ ((k : Int) == -1) = true := by simp
        rw [if_neg this]; omega

theorem ret_ssb {a b c d : ByteArray} {x y : Bool} (h : a = b) (h2 : c = d) (h3 : x = y) : Ending.returned (.tuple #[.string a, .string c, .bool x]) = .returned (.tuple #[.string b, .string d, .bool y]) := by rw [h, h2, h3]

set_option maxHeartbeats 1000000 in
theorem codCut0 (s : ByteArray) (c : UInt8) (w : World) (hs : s.size ≤ 40000000000000) :
    Calls Tryz.prog 93 #[.string s, .string ⟨#[c]⟩] w fun e w' => e = .returned (.tuple #[.string (str (headL c s.data.toList)), .string (str (tailL c s.data.toList)), .bool (hasL c s.data.toList)]) ∧ Below w.heap.size w w' := by
  have HL : s.data.toList.length = s.size := by rw [Array.length_toList]; rfl
  have HC := fun w => Tryz.stringslite_Index_one s c w
  have hone : (ByteArray.mk #[c]).size = 1 := rfl
  have T1 : Hid (∀ k, s.extract 0 k = str (s.data.toList.take k)) := fun k => ext_take s k
  have T2 : Hid (∀ k, s.extract k s.size = str (s.data.toList.drop k)) := fun k => ext_drop s k
  have T3 : Hid (str s.data.toList = s) := str_of s
  rcases idx_cases c s.data.toList with ⟨h1, h2, h3, h4⟩ | ⟨k, hk, h1, h2, h3, h4⟩
  · rw [h1] at HC
    rw [h2, h3, h4]
    clear h1 h2 h3 h4 HL
    generalize str s.data.toList = s' at *
    generalize ByteArray.mk #[c] = cc at *
    go_enter Tryz.func93, Tryz.ntmps93
    go_wp2_with (go_at_call 100; refine (HC _).mono ?_; rintro e w' ⟨rfl, hww⟩; rw [hww]; clear hww w')
    go_ret3
    exact ⟨ret_ssb (by rw [T3.out]) rfl rfl, Below.refl _ _⟩
  · rw [h1] at HC
    rw [h2, h3, h4]
    have hb0 : (0 : Int) ≤ (k : Int) := by omega
    have hb1 : (k : Int) < (s.size : Int) := by omega
    have hb2 : (k : Int) + 1 ≤ (s.size : Int) := by omega
    clear h1 h2 h3 h4 HL hk
    have U1 : Hid (s.extract 0 k = str (s.data.toList.take k)) := T1.out k
    have U2 : Hid (s.extract (k + 1) s.size = str (s.data.toList.drop (k + 1))) := T2.out (k + 1)
    clear T1 T2 T3
    generalize str (s.data.toList.take k) = s1 at *
    generalize str (s.data.toList.drop (k + 1)) = s2 at *
    go_enter Tryz.func93, Tryz.ntmps93
    go_wp2_with (go_at_call 100; refine (HC _).mono ?_; rintro e w' ⟨rfl, hww⟩; rw [hww]; clear hww w')
    go_quiet (fail)
    go_wp2
    go_ret3
    exact ⟨ret_ssb U1.out U2.out rfl, bel_drewN (Below.refl _ _) _⟩

set_option maxHeartbeats 1000000 in
theorem codCut (l : List UInt8) (c : UInt8) (w : World) (hs : l.length ≤ 40000000000000) :
    Calls Tryz.prog 65 #[.string (str l), .string ⟨#[c]⟩] w fun e w' => e = .returned (.tuple #[.string (str (headL c l)), .string (str (tailL c l)), .bool (hasL c l)]) ∧ Below w.heap.size w w' := by
  have HC := codCut0 (str l) c w (by rw [str_size]; exact hs)
  rw [str_list] at HC
  generalize str l = s at *
  generalize str (headL c l) = s1 at *
  generalize str (tailL c l) = s2 at *
  generalize hasL c l = b at *
  generalize ByteArray.mk #[c] = cc at *
  go_enter Tryz.func65, Tryz.ntmps65
  go_wp2_with (go_at_call 93; refine HC.mono ?_; rintro e w' ⟨rfl, hb⟩)
  go_ret3
  exact ⟨rfl, hb⟩
end Go.Proofs.YtbknabmcelknmaaGreatDoor
