/- request: the reader's header. -/
import Derived.Test.YtbknabmcelknmaaGreatDoorR5d
namespace Go.Proofs.YtbknabmcelknmaaGreatDoor
open Go.RowKit

theorem tokB_lt {c : UInt8} (h : tokB c = true) : c.toNat < 128 := by
  unfold tokB tokN at h
  have := of_decide_eq_true h
  omega
theorem token_ascii {l : List UInt8} (h : tokenL l = true) : ∀ (j : Nat) (b : UInt8), l[j]? = some b → b.toNat < 128 := by
  intro j b hb
  unfold tokenL at h
  rw [Bool.and_eq_true] at h
  exact tokB_lt (List.all_eq_true.1 h.1 b (List.mem_of_getElem? hb))
theorem codLower (l : List UInt8) (w : World) (hl : l.length ≤ 140737488351232) (h : tokenL l = true) :
    Calls Tryz.prog 58 #[.string (str l)] w fun e w' => e = .returned (.string (str (lowC l))) ∧ Below w.heap.size w w' := by
  have := Tryz.strings_ToLower_ascii (str l) w (by rw [str_size]; omega) (by rw [str_list]; exact token_ascii h)
  rw [str_list] at this
  exact this

theorem Moved.setNew {B : Nat} {w w' : World} (h : Moved B w w') (g : Nat) (hg : w.heap.size ≤ g) (j : Nat) (v : Value) : Moved B w (w'.setCell ⟨g, j, none⟩ v) := by
  have hb : Below g w' (w'.setCell ⟨g, j, none⟩ v) := (Below.refl g w').setCell (p := ⟨g, j, none⟩) (Nat.le_refl _) _
  exact ⟨hb.1.trans h.1, hb.2.trans h.2, hb.3.trans h.3, Nat.le_trans h.4 hb.4, fun k hk hne => (hb.5 k (by omega)).trans (h.5 k hk hne)⟩
theorem moved_sets {B : Nat} {w w' : World} (h : Moved B w w') (_ : B < w.heap.size) (hg : w.heap.size ≤ w.heap.size) (u v : Value) : Moved B w ((w'.setCell ⟨w.heap.size, 0, none⟩ u).setCell ⟨w.heap.size, 1, none⟩ v) :=
  (h.setNew _ hg 0 u).setNew _ hg 1 v

set_option maxHeartbeats 2000000 in
/-- a header: refused, where the line is none -/
theorem codHeader (B : Nat) (l : List UInt8) (w : World) (hB : Blk w B 57 [.string (str l)]) (hm : Mx w) (hs : l.length ≤ 1000000) :
    Calls Tryz.prog 68 #[.pointer (some ⟨B, 0, none⟩)] w fun x w' => (match lineL l with
      | none => x = refused 11
      | some y => if y.1 = [] then x = .returned (.tuple #[.agg #[.string ⟨#[]⟩, .string ⟨#[]⟩], .bool false]) ∧ Blk w' B 57 [.string (str y.2)]
        else if hdC y.1 = true then x = .returned (.tuple #[.agg #[.string (str (hdP y.1).1), .string (str (hdP y.1).2)], .bool true]) ∧ Blk w' B 57 [.string (str y.2)] else x = refused 11) ∧ Moved B w w' := by
  have A0 : Below w.heap.size w (w.alloc (.cells #[.string ⟨#[]⟩, .string ⟨#[]⟩] 73)) := (Below.refl _ w).alloc (Nat.le_refl _) _
  have K0 := Blk.newAt w w.heap.size 73 _ [.string ⟨#[]⟩, .string ⟨#[]⟩] rfl rfl
  have hBw := hB.lt
  have hne : w.heap.size ≠ B := by omega
  have hMA : Moved B w (w.alloc (.cells #[.string ⟨#[]⟩, .string ⟨#[]⟩] 73)) := .of A0
  have HL := codLine B l 11 (w.alloc (.cells #[.string ⟨#[]⟩, .string ⟨#[]⟩] 73)) (hB.alloc _) (hm.below A0) hs
  cases hl : lineL l with
  | none =>
    rw [hl] at HL
    dsimp only at HL ⊢
    unfold refused at HL ⊢
    clear hB hm hs
    generalize str l = s at *
    go_enter Tryz.func68, Tryz.ntmps68
    go_wp2_with (go_at_call 64; refine HL.mono ?_; rintro x w1 ⟨⟨rfl, hB1⟩, hM0⟩; have hM := hMA.trans hM0; have K1 := hM0.blk K0 hne)
    refine bp_panic ?_
    exact ⟨by first | rfl | trivial, hM⟩
  | some y =>
    obtain ⟨h, rest⟩ := y
    rw [hl] at HL
    dsimp only at HL ⊢
    have hlen := line_length hl
    by_cases h0 : h = []
    · subst h0
      simp only [if_true]
      replace HL : Calls Tryz.prog 64 #[.pointer (some ⟨B, 0, none⟩), .int .i64 11] (w.alloc (.cells #[.string ⟨#[]⟩, .string ⟨#[]⟩] 73)) fun x w' => (x = .returned (.string ⟨#[]⟩) ∧ Blk w' B 57 [.string (str rest)]) ∧ Moved B (w.alloc (.cells #[.string ⟨#[]⟩, .string ⟨#[]⟩] 73)) w' := HL
      clear hB hm hs hlen hl
      generalize str rest = sr at *
      generalize str l = s at *
      go_enter Tryz.func68, Tryz.ntmps68
      go_wp2_with (go_at_call 64; refine HL.mono ?_; rintro x w1 ⟨⟨rfl, hB1⟩, hM0⟩; have hM := hMA.trans hM0; have K1 := hM0.blk K0 hne; have g0 : w1.cell? ⟨w.heap.size, 0, none⟩ = some (.string ⟨#[]⟩) := K1.cell 0; have g1 : w1.cell? ⟨w.heap.size, 1, none⟩ = some (.string ⟨#[]⟩) := K1.cell 1; have f0 := K1.frozen 0; have f1 := K1.frozen 1)
      have K4 : Blk ((w1.setCell ⟨w.heap.size, 0, none⟩ (.string ⟨#[]⟩)).setCell ⟨w.heap.size, 1, none⟩ (.string ⟨#[]⟩)) w.heap.size 73 [.string ⟨#[]⟩, .string ⟨#[]⟩] := (K1.set 0 (.string ⟨#[]⟩)).set 1 (.string ⟨#[]⟩)
      (try simp only [Exit.inBlock, Exit.then])
      refine bodyPost_ret (results_cellrow_tmp (P := Tryz.prog) rfl _ _ w.heap.size 73 #[.string ⟨#[]⟩, .string ⟨#[]⟩] (0, 0) _ rfl K4 Tryz.underlying73 rfl (by kernel_rfl)) rfl ⟨⟨rfl, ?_⟩, ?_⟩
      · exact (hB1.other _ _ (Ne.symm hne)).other _ _ (Ne.symm hne)
      · exact moved_sets hM hBw (by omega) _ _
    · simp only [if_neg h0]
      have hnes : (str h).toList.isEmpty = false := str_full h0
      have HC := fun w => codCut h 58 w (by omega)
      have l1 := headL_length 58 h
      have l2 := tailL_length 58 h
      have HS := fun w => codTrim (tailL 58 h) w (by omega)
      have HMt := fun w => codToken (headL 58 h) w (by omega)
      have l3 := trimC_len (tailL 58 h)
      have HT := fun w => codValue (trimC (tailL 58 h)) w (by omega)
      have HW0 := fun w => codLower (headL 58 h) w (by omega)
      have HF : Hid (hdC h = (hasL 58 h && tokenL (headL 58 h) && valC (trimC (tailL 58 h)))) := rfl
      have HG1 : (hdP h).1 = lowC (headL 58 h) := rfl
      have HG2 : (hdP h).2 = trimC (tailL 58 h) := rfl
      simp only [HG1, HG2]
      clear hB hm hs hlen l1 l2 l3 HG1 HG2 hl h0
      generalize str (lowC (headL 58 h)) = lw at *
      generalize valC (trimC (tailL 58 h)) = b3 at *
      generalize str (trimC (tailL 58 h)) = t at *
      generalize tokenL (headL 58 h) = b2 at *
      generalize str (headL 58 h) = m at *
      generalize str (tailL 58 h) = bh at *
      generalize hasL 58 h = b1 at *
      generalize hdC h = fc at *
      generalize str h = sh at *
      generalize str rest = sr at *
      generalize str l = s at *
      have HQ : fc = (b1 && b2 && b3) := HF.out
      clear HF
      cases b1
      · have HN := needNo 11
        have : fc = false := by rw [HQ]; rfl
        subst this
        clear HQ HW0
        simp only [Bool.false_eq_true, if_false]
        unfold refused
        go_enter Tryz.func68, Tryz.ntmps68
        go_wp2_with (first | (go_at_call 64; refine HL.mono ?_; rintro x w1 ⟨⟨rfl, hB1⟩, hM0⟩; have hM := hMA.trans hM0; have K1 := hM0.blk K0 hne) | (go_at_call 65; refine (HC _).mono ?_; rintro x w2 ⟨rfl, hb2⟩) | (go_at_call 81; refine (HS _).mono ?_; rintro x w3 ⟨rfl, hb3⟩) | (go_at_call 57; refine (HMt _).mono ?_; rintro x w4 ⟨rfl, hww⟩; rw [hww]; clear hww w4) | (go_at_call 59; refine (HT _).mono ?_; rintro x w4 ⟨rfl, hb4⟩) | (go_at_call 67; refine (HN _).mono ?_; rintro x w5 ⟨rfl, hww⟩; rw [hww]; clear hww w5) | (go_at_call 58; refine (HW _).mono ?_; rintro x w5 ⟨rfl, hb5⟩; have K5 := (((K1.on hb2).on hb3).on hb4).on hb5; have g0 : w5.cell? ⟨w.heap.size, 0, none⟩ = some (.string ⟨#[]⟩) := K5.cell 0; have g1 : w5.cell? ⟨w.heap.size, 1, none⟩ = some (.string ⟨#[]⟩) := K5.cell 1; have f0 := K5.frozen 0; have f1 := K5.frozen 1))
        refine bp_panic ?_
        exact ⟨by first | rfl | trivial, (hM.trans (.of hb2)).trans (.of hb3)⟩
      · cases b2
        · have HN := needNo 11
          have : fc = false := by rw [HQ]; rfl
          subst this
          clear HQ HW0
          simp only [Bool.false_eq_true, if_false]
          unfold refused
          go_enter Tryz.func68, Tryz.ntmps68
          go_wp2_with (first | (go_at_call 64; refine HL.mono ?_; rintro x w1 ⟨⟨rfl, hB1⟩, hM0⟩; have hM := hMA.trans hM0; have K1 := hM0.blk K0 hne) | (go_at_call 65; refine (HC _).mono ?_; rintro x w2 ⟨rfl, hb2⟩) | (go_at_call 81; refine (HS _).mono ?_; rintro x w3 ⟨rfl, hb3⟩) | (go_at_call 57; refine (HMt _).mono ?_; rintro x w4 ⟨rfl, hww⟩; rw [hww]; clear hww w4) | (go_at_call 59; refine (HT _).mono ?_; rintro x w4 ⟨rfl, hb4⟩) | (go_at_call 67; refine (HN _).mono ?_; rintro x w5 ⟨rfl, hww⟩; rw [hww]; clear hww w5) | (go_at_call 58; refine (HW _).mono ?_; rintro x w5 ⟨rfl, hb5⟩; have K5 := (((K1.on hb2).on hb3).on hb4).on hb5; have g0 : w5.cell? ⟨w.heap.size, 0, none⟩ = some (.string ⟨#[]⟩) := K5.cell 0; have g1 : w5.cell? ⟨w.heap.size, 1, none⟩ = some (.string ⟨#[]⟩) := K5.cell 1; have f0 := K5.frozen 0; have f1 := K5.frozen 1))
          refine bp_panic ?_
          exact ⟨by first | rfl | trivial, (hM.trans (.of hb2)).trans (.of hb3)⟩
        · have HW := fun w => HW0 w rfl
          clear HW0
          cases b3
          · have HN := needNo 11
            have : fc = false := by rw [HQ]; rfl
            subst this
            clear HQ
            simp only [Bool.false_eq_true, if_false]
            unfold refused
            go_enter Tryz.func68, Tryz.ntmps68
            go_wp2_with (first | (go_at_call 64; refine HL.mono ?_; rintro x w1 ⟨⟨rfl, hB1⟩, hM0⟩; have hM := hMA.trans hM0; have K1 := hM0.blk K0 hne) | (go_at_call 65; refine (HC _).mono ?_; rintro x w2 ⟨rfl, hb2⟩) | (go_at_call 81; refine (HS _).mono ?_; rintro x w3 ⟨rfl, hb3⟩) | (go_at_call 57; refine (HMt _).mono ?_; rintro x w4 ⟨rfl, hww⟩; rw [hww]; clear hww w4) | (go_at_call 59; refine (HT _).mono ?_; rintro x w4 ⟨rfl, hb4⟩) | (go_at_call 67; refine (HN _).mono ?_; rintro x w5 ⟨rfl, hww⟩; rw [hww]; clear hww w5) | (go_at_call 58; refine (HW _).mono ?_; rintro x w5 ⟨rfl, hb5⟩; have K5 := (((K1.on hb2).on hb3).on hb4).on hb5; have g0 : w5.cell? ⟨w.heap.size, 0, none⟩ = some (.string ⟨#[]⟩) := K5.cell 0; have g1 : w5.cell? ⟨w.heap.size, 1, none⟩ = some (.string ⟨#[]⟩) := K5.cell 1; have f0 := K5.frozen 0; have f1 := K5.frozen 1))
            refine bp_panic ?_
            exact ⟨by first | rfl | trivial, ((hM.trans (.of hb2)).trans (.of hb3)).trans (.of hb4)⟩
          · have HN := needYes 11
            have : fc = true := by rw [HQ]; rfl
            subst this
            clear HQ
            simp only [if_true]
            go_enter Tryz.func68, Tryz.ntmps68
            go_wp2_with (first | (go_at_call 64; refine HL.mono ?_; rintro x w1 ⟨⟨rfl, hB1⟩, hM0⟩; have hM := hMA.trans hM0; have K1 := hM0.blk K0 hne) | (go_at_call 65; refine (HC _).mono ?_; rintro x w2 ⟨rfl, hb2⟩) | (go_at_call 81; refine (HS _).mono ?_; rintro x w3 ⟨rfl, hb3⟩) | (go_at_call 57; refine (HMt _).mono ?_; rintro x w4 ⟨rfl, hww⟩; rw [hww]; clear hww w4) | (go_at_call 59; refine (HT _).mono ?_; rintro x w4 ⟨rfl, hb4⟩) | (go_at_call 67; refine (HN _).mono ?_; rintro x w5 ⟨rfl, hww⟩; rw [hww]; clear hww w5) | (go_at_call 58; refine (HW _).mono ?_; rintro x w5 ⟨rfl, hb5⟩; have K5 := (((K1.on hb2).on hb3).on hb4).on hb5; have g0 : w5.cell? ⟨w.heap.size, 0, none⟩ = some (.string ⟨#[]⟩) := K5.cell 0; have g1 : w5.cell? ⟨w.heap.size, 1, none⟩ = some (.string ⟨#[]⟩) := K5.cell 1; have f0 := K5.frozen 0; have f1 := K5.frozen 1))
            have K6 : Blk ((w5.setCell ⟨w.heap.size, 0, none⟩ (.string lw)).setCell ⟨w.heap.size, 1, none⟩ (.string t)) w.heap.size 73 [.string lw, .string t] := (K5.set 0 (.string lw)).set 1 (.string t)
            (try simp only [Exit.inBlock, Exit.then])
            refine bodyPost_ret (results_cellrow_tmp (P := Tryz.prog) rfl _ _ w.heap.size 73 #[.string lw, .string t] (0, 0) _ rfl K6 Tryz.underlying73 rfl (by kernel_rfl)) rfl ⟨⟨rfl, ?_⟩, ?_⟩
            · exact (((((hB1.on hb2).on hb3).on hb4).on hb5).other _ _ (Ne.symm hne)).other _ _ (Ne.symm hne)
            · exact moved_sets ((((hM.trans (.of hb2)).trans (.of hb3)).trans (.of hb4)).trans (.of hb5)) hBw (by omega) _ _
end Go.Proofs.YtbknabmcelknmaaGreatDoor
