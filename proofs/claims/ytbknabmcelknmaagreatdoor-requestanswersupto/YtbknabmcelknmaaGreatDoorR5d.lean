/- request: the reader's first line, and a header. -/
import Derived.Test.YtbknabmcelknmaaGreatDoorJ12
import Derived.Test.YtbknabmcelknmaaGreatDoorJ14
import Derived.Test.YtbknabmcelknmaaGreatDoorShelf4
namespace Go.Proofs.YtbknabmcelknmaaGreatDoor
open Go.RowKit

theorem needNo (e : Int) (w : World) : Calls Tryz.prog 67 #[.bool false, .int .i64 e] w fun x w' => x = .panicked [{ v := .iface 26 (.int .i64 e), recovered := false }] ∧ w' = w := codNeed false e w
theorem needYes (e : Int) (w : World) : Calls Tryz.prog 67 #[.bool true, .int .i64 e] w fun x w' => x = .returned (.tuple #[]) ∧ w' = w := codNeed true e w
theorem codSuffix (l : List UInt8) (w : World) (hl : l.length ≤ 40000000000000) :
    Calls Tryz.prog 66 #[.string (str l), .string ⟨#[32, 72, 84, 84, 80, 47, 49, 46, 49]⟩] w fun e w' => e = .returned (.tuple #[.string (str (Lib.trimSuffix l sfx)), .bool (Lib.hasSuffix l sfx)]) ∧ w' = w := by
  have := Tryz.strings_CutSuffix (str l) ⟨#[32, 72, 84, 84, 80, 47, 49, 46, 49]⟩ w (by rw [str_size]; omega)
  rw [str_list] at this
  exact this
theorem trimSuffix_len (l p : List UInt8) : (Lib.trimSuffix l p).length ≤ l.length := by
  unfold Lib.trimSuffix
  split
  · rw [List.length_take]; omega
  · exact Nat.le_refl _

set_option maxHeartbeats 2000000 in
/-- the first line: refused, where it is none -/
theorem codFirst (B : Nat) (l : List UInt8) (w : World) (hB : Blk w B 57 [.string (str l)]) (hm : Mx w) (hs : l.length ≤ 1000000) :
    Calls Tryz.prog 46 #[.pointer (some ⟨B, 0, none⟩)] w fun x w' => (match lineL l with
      | none => x = refused 10
      | some y => if firstC y.1 = true then x = .returned (.tuple #[.string (str (headL 32 y.1)), .string (str (tgtC y.1))]) ∧ Blk w' B 57 [.string (str y.2)] else x = refused 10) ∧ Moved B w w' := by
  have HL := codLine B l 10 w hB hm hs
  cases hl : lineL l with
  | none =>
    rw [hl] at HL
    dsimp only at HL ⊢
    unfold refused at HL ⊢
    clear hB hm hs
    generalize str l = s at *
    go_enter Tryz.func46, Tryz.ntmps46
    go_wp2_with (go_at_call 64; refine HL.mono ?_; rintro x w1 ⟨⟨rfl, hB1⟩, hM⟩)
    refine bp_panic ?_
    exact ⟨by first | rfl | trivial, hM⟩
  | some y =>
    obtain ⟨h, rest⟩ := y
    rw [hl] at HL
    dsimp only at HL ⊢
    have hlen := line_length hl
    have HC := fun w => codCut h 32 w (by omega)
    have l2 := tailL_length 32 h
    have HS := fun w => codSuffix (tailL 32 h) w (by omega)
    have HMt := fun w => codMethod (headL 32 h) w
    have l3 := trimSuffix_len (tailL 32 h) sfx
    have HT := fun w => codTarget (Lib.trimSuffix (tailL 32 h) sfx) w (by omega)
    have HF : Hid (firstC h = (Lib.hasSuffix (tailL 32 h) sfx && methodL (headL 32 h) && betwL 33 126 1024 (Lib.trimSuffix (tailL 32 h) sfx))) := rfl
    have HG : str (tgtC h) = str (Lib.trimSuffix (tailL 32 h) sfx) := rfl
    simp only [HG]
    clear hB hm hs hlen l2 l3 HG hl
    generalize str (Lib.trimSuffix (tailL 32 h) sfx) = t at *
    generalize betwL 33 126 1024 (Lib.trimSuffix (tailL 32 h) sfx) = b3 at *
    generalize Lib.hasSuffix (tailL 32 h) sfx = b1 at *
    generalize methodL (headL 32 h) = b2 at *
    generalize str (headL 32 h) = m at *
    generalize str (tailL 32 h) = bh at *
    generalize hasL 32 h = b0 at *
    generalize firstC h = fc at *
    generalize str h = sh at *
    generalize str rest = sr at *
    generalize str l = s at *
    have HQ : fc = (b1 && b2 && b3) := HF.out
    clear HF
    cases b1
    · have HN := needNo 10
      have : fc = false := by rw [HQ]; rfl
      subst this
      clear HQ
      simp only [Bool.false_eq_true, if_false]
      unfold refused
      go_enter Tryz.func46, Tryz.ntmps46
      go_wp2_with (first | (go_at_call 64; refine HL.mono ?_; rintro x w1 ⟨⟨rfl, hB1⟩, hM⟩) | (go_at_call 65; refine (HC _).mono ?_; rintro x w2 ⟨rfl, hb2⟩) | (go_at_call 66; refine (HS _).mono ?_; rintro x w3 ⟨rfl, hww⟩; rw [hww]; clear hww w3) | (go_at_call 54; refine (HMt _).mono ?_; rintro x w3 ⟨rfl, hww⟩; rw [hww]; clear hww w3) | (go_at_call 56; refine (HT _).mono ?_; rintro x w3 ⟨rfl, hww⟩; rw [hww]; clear hww w3) | (go_at_call 67; refine (HN _).mono ?_; rintro x w3 ⟨rfl, hww⟩; rw [hww]; clear hww w3))
      refine bp_panic ?_
      exact ⟨by first | rfl | trivial, hM.trans (.of hb2)⟩
    · cases b2
      · have HN := needNo 10
        have : fc = false := by rw [HQ]; rfl
        subst this
        clear HQ
        simp only [Bool.false_eq_true, if_false]
        unfold refused
        go_enter Tryz.func46, Tryz.ntmps46
        go_wp2_with (first | (go_at_call 64; refine HL.mono ?_; rintro x w1 ⟨⟨rfl, hB1⟩, hM⟩) | (go_at_call 65; refine (HC _).mono ?_; rintro x w2 ⟨rfl, hb2⟩) | (go_at_call 66; refine (HS _).mono ?_; rintro x w3 ⟨rfl, hww⟩; rw [hww]; clear hww w3) | (go_at_call 54; refine (HMt _).mono ?_; rintro x w3 ⟨rfl, hww⟩; rw [hww]; clear hww w3) | (go_at_call 56; refine (HT _).mono ?_; rintro x w3 ⟨rfl, hww⟩; rw [hww]; clear hww w3) | (go_at_call 67; refine (HN _).mono ?_; rintro x w3 ⟨rfl, hww⟩; rw [hww]; clear hww w3))
        refine bp_panic ?_
        exact ⟨by first | rfl | trivial, hM.trans (.of hb2)⟩
      · cases b3
        · have HN := needNo 10
          have : fc = false := by rw [HQ]; rfl
          subst this
          clear HQ
          simp only [Bool.false_eq_true, if_false]
          unfold refused
          go_enter Tryz.func46, Tryz.ntmps46
          go_wp2_with (first | (go_at_call 64; refine HL.mono ?_; rintro x w1 ⟨⟨rfl, hB1⟩, hM⟩) | (go_at_call 65; refine (HC _).mono ?_; rintro x w2 ⟨rfl, hb2⟩) | (go_at_call 66; refine (HS _).mono ?_; rintro x w3 ⟨rfl, hww⟩; rw [hww]; clear hww w3) | (go_at_call 54; refine (HMt _).mono ?_; rintro x w3 ⟨rfl, hww⟩; rw [hww]; clear hww w3) | (go_at_call 56; refine (HT _).mono ?_; rintro x w3 ⟨rfl, hww⟩; rw [hww]; clear hww w3) | (go_at_call 67; refine (HN _).mono ?_; rintro x w3 ⟨rfl, hww⟩; rw [hww]; clear hww w3))
          refine bp_panic ?_
          exact ⟨by first | rfl | trivial, hM.trans (.of hb2)⟩
        · have HN := needYes 10
          have : fc = true := by rw [HQ]; rfl
          subst this
          clear HQ
          simp only [if_true]
          go_enter Tryz.func46, Tryz.ntmps46
          go_wp2_with (first | (go_at_call 64; refine HL.mono ?_; rintro x w1 ⟨⟨rfl, hB1⟩, hM⟩) | (go_at_call 65; refine (HC _).mono ?_; rintro x w2 ⟨rfl, hb2⟩) | (go_at_call 66; refine (HS _).mono ?_; rintro x w3 ⟨rfl, hww⟩; rw [hww]; clear hww w3) | (go_at_call 54; refine (HMt _).mono ?_; rintro x w3 ⟨rfl, hww⟩; rw [hww]; clear hww w3) | (go_at_call 56; refine (HT _).mono ?_; rintro x w3 ⟨rfl, hww⟩; rw [hww]; clear hww w3) | (go_at_call 67; refine (HN _).mono ?_; rintro x w3 ⟨rfl, hww⟩; rw [hww]; clear hww w3))
          go_ret2
          exact ⟨⟨rfl, hB1.on hb2⟩, hM.trans (.of hb2)⟩
end Go.Proofs.YtbknabmcelknmaaGreatDoor
