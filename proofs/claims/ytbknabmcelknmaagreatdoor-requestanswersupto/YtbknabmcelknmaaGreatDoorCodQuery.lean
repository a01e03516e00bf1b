/- What uri.Query answers. -/
import Derived.Test.YtbknabmcelknmaaGreatDoorJ18
import Derived.Test.YtbknabmcelknmaaGreatDoorJ6
import Derived.Maps.AppendAt
namespace Go.Proofs.YtbknabmcelknmaaGreatDoor
open Go.RowKit Go.Shelf
attribute [local go_sem] Oper.semAt_some

theorem infoUQ : (Tryz.prog.info? 142).map (fun i => (i.zero, i.size, i.bytes)) = some (some (.agg #[.string ⟨#[]⟩, .string ⟨#[]⟩]), 2, 32) := by kernel_rfl

set_option maxRecDepth 100000 in
set_option maxHeartbeats 4000000 in
theorem codQuery (l : List UInt8) (w : World) (hl : l.length ≤ 40000000000000) :
    Calls Tryz.prog 70 #[.string (str l)] w fun e w' => QOut l e w' ∧ Below w.heap.size w w' := by
  obtain ⟨i0, hi, hz0, hz1, hz2⟩ := info_parts infoUQ
  refine (callsIn_wide (n := 6)).1 ?_
  refine callsIn_of_wp_marks Tryz.func70 rfl trivial ?_ rfl
  simp only [Tryz.ntmps70, List.size_toArray, List.length_cons, List.length_nil, Nat.reduceAdd, Nat.reduceSub, Array.replicate_succ, Array.replicate_zero, List.push_toArray, List.append_toArray, List.nil_append, List.cons_append]
  gi_wp2_with (refine ⟨trivial, ?_⟩; gi_at_call 97; refine (codParts _ _ _).mono ?_; rintro e w' ⟨rfl, rfl⟩)
  obtain ⟨N, hN⟩ : ∃ N, N = w.heap.size := ⟨_, rfl⟩
  have b2 := Boxed.new w 108 (.slice none 0 0)
  have b3 := Boxed.new (w.alloc (.cells #[.slice none 0 0] 108)) 26 (.int .i64 0)
  have b4 := Boxed.new ((w.alloc (.cells #[.slice none 0 0] 108)).alloc (.cells #[.int .i64 0] 26)) 108 (.slice none 0 0)
  have bS := Boxed.new (((w.alloc (.cells #[.slice none 0 0] 108)).alloc (.cells #[.int .i64 0] 26)).alloc (.cells #[.slice none 0 0] 108)) 9 (.string (str l))
  simp only [World.size_alloc] at b3 b4 bS
  have b2 := ((b2.alloc (.cells #[.int .i64 0] 26)).alloc (.cells #[.slice none 0 0] 108)).alloc (.cells #[.string (str l)] 9)
  have b3 := (b3.alloc (.cells #[.slice none 0 0] 108)).alloc (.cells #[.string (str l)] 9)
  have b4 := b4.alloc (.cells #[.string (str l)] 9)
  have hB0 : Below w.heap.size w ((((w.alloc (.cells #[.slice none 0 0] 108)).alloc (.cells #[.int .i64 0] 26)).alloc (.cells #[.slice none 0 0] 108)).alloc (.cells #[.string (str l)] 9)) :=
    ((((Below.refl _ w).alloc (Nat.le_refl _) _).alloc (by simp) _).alloc (by simp; omega) _).alloc (by simp; omega) _
  have hsz : ((((w.alloc (.cells #[.slice none 0 0] 108)).alloc (.cells #[.int .i64 0] 26)).alloc (.cells #[.slice none 0 0] 108)).alloc (.cells #[.string (str l)] 9)).heap.size = w.heap.size + 1 + 1 + 1 + 1 := by simp
  generalize ((((w.alloc (.cells #[.slice none 0 0] 108)).alloc (.cells #[.int .i64 0] 26)).alloc (.cells #[.slice none 0 0] 108)).alloc (.cells #[.string (str l)] 9)) = W0 at *
  rw [← hN] at b2 b3 b4 bS hB0 hsz ⊢
  have HN : Hid (N = w.heap.size) := hN
  have hN1 : N ≤ w.heap.size := by omega
  have hN2 : w.heap.size ≤ N := by omega
  clear hN
  refine wpIn_rangeFunc_ownG rfl (by omega) (gf := 125) (lb := #[.pointer (some ⟨N + 1 + 1 + 1, 0, none⟩)]) rfl trivial (enters_of Tryz.func125 (by kernel_rfl) rfl)
    (parts_stops _ (by omega) (N + 1 + 1 + 1) l hl W0 (by omega) bS.cell) walksK_t walksK_b (Below.refl _ _) (fun _ => rfl)
    (fun pre W => (((∃ v, Boxed W (N + 1 + 1) 108 v ∧ W.ownsRow N 142 2 v (outL pre).length (pcs (outL pre)) ∧ True) ∧ (Boxed W N 108 (.slice none 0 0) ∧ Boxed W (N + 1) 26 (.int .i64 0))) ∧ (accL pre = some (outL pre) ∧ pre.length ≤ 24)) ∧ Below N w W)
    (fun c pre W => ((Boxed W N 108 (.slice none 0 0) ∧ Boxed W (N + 1) 26 (.int .i64 13)) ∧ (c = .ret ∧ (24 < pre.length ∨ accL pre = none))) ∧ Below N w W)
    (OwnFrom.and (OwnFrom.and (OwnFrom.and (Own.from (holdsRow_own N (N + 1 + 1) 108 142 2 (fun pre => (outL pre).length) (fun pre => pcs (outL pre)) (fun _ _ => True)) _) (OwnFrom.and (Own.from (boxed_own N _ (fun _ => _)) _) (Own.from (boxed_own (N + 1) _ (fun _ => _)) _))) (ownFrom_pure _ _)) (ownFrom_below (by omega) (by omega)))
    (fun c => OwnFrom.and (OwnFrom.and (OwnFrom.and (Own.from (boxed_own N _ (fun _ => _)) _) (Own.from (boxed_own (N + 1) _ (fun _ => _)) _)) (ownFrom_pure _ _)) (ownFrom_below (by omega) (by omega)))
    ⟨⟨⟨⟨_, b4, World.ownsRow_nil _ _ _ _, trivial⟩, b2, b3⟩, rfl, by simp⟩, hB0⟩
    (fun x => { tmps := #[.string (str l), undef, .pointer (some ⟨N, 0, none⟩), .pointer (some ⟨N + 1, 0, none⟩), .pointer (some ⟨N + 1 + 1, 0, none⟩), .string (str x.1), undef, undef, undef, undef, .string (str l), .func (.func 125) #[] #[.pointer (some ⟨N + 1 + 1 + 1, 0, none⟩)], .string (str x.1), undef, undef, undef, undef, undef, undef, undef, undef, undef, undef, undef, undef, undef, undef, undef, undef, undef, undef, undef, undef, undef, undef, undef, undef, undef, undef, undef, undef, undef], defers := [] }) ?assign ?body ?done ?stop
  case assign =>
    intro l x W K hK
    gi_wp2
    exact hK
  case body =>
    rintro l0 pre x W ⟨⟨⟨⟨v, hv, hrow, -⟩, h2, h3⟩, hacc, hle⟩, hB⟩ hlt
    have hown : OwnP 142 W N v (outL pre) := hrow
    obtain ⟨a, cap, rfl, hisP⟩ := hown.isP
    have hlen := acc_len hacc
    have hk : (outL pre).length ≤ 24 := by omega
    have HA : Hid (accL (pre ++ [x]) = qStep (some (outL pre)) x.1) := by unfold Hid; rw [acc_snoc, hacc]
    have HPL : Hid (pre.length = (outL pre).length) := hlen.symm
    have HB : Hid (Below N w W) := hB
    have H2 : Hid (Boxed W N 108 (.slice none 0 0)) := h2
    have H3 : Hid (Boxed W (N + 1) 26 (.int .i64 0)) := h3
    have HV : Hid (Boxed W (N + 1 + 1) 108 (.slice a (outL pre).length cap)) := hv
    have HO : Hid (OwnP 142 W N (.slice a (outL pre).length cap) (outL pre)) := hown
    have HI : Hid (IsP W a (outL pre).length cap (outL pre)) := hisP
    have HOE : Hid (∀ nv, accL (pre ++ [x]) = some (outL pre ++ [nv]) → outL (pre ++ [x]) = outL pre ++ [nv]) := fun nv h => out_some h
    clear hacc hlen hlt hown hrow hisP b2 b3 b4 bS hB0 hB
    have hcv := hv.cell
    have hc2 := h2.cell
    have hf2 := h2.frozen
    have hc3 := h3.cell
    have hf3 := h3.frozen
    generalize hout : outL pre = out at *
    generalize hn : out.length = k at *
    by_cases h24 : k = 24
    · have hkz : (k : Int) = 24 := by omega
      gi_wp2
      --@@
      exact ⟨((KeepsOthers.setCell _ _ _).trans (KeepsOthers.setCell _ _ _)).from _, ⟨⟨(H2.out.set _).other (by omega) _, (H3.out.other (by omega) _).set _⟩, rfl, .inl (by simp; have := HPL.out; omega)⟩, (HB.out.setCell (p := ⟨N, 0, none⟩) (Nat.le_refl _) _).setCell (p := ⟨N + 1, 0, none⟩) (by simp) _⟩
    · have hkz : ¬ (k : Int) = 24 := by omega
      have HP := fun w => codPair x.1 w x.2
      unfold PairR at HP
      cases hb : bothL (headL 61 x.1) (tailL 61 x.1) with
      | none =>
        have HQ : Hid (accL (pre ++ [x]) = none) := by unfold Hid; rw [HA.out, q_none hb]
        have e3 : bothC (headL 61 x.1) (tailL 61 x.1) = 13 := by unfold bothC; rw [hb]; rfl
        rw [e3] at HP
        clear e3 hb HA
        generalize str (bothA (headL 61 x.1) (tailL 61 x.1)) = r1 at *
        generalize str (bothB (headL 61 x.1) (tailL 61 x.1)) = r2 at *
        generalize str x.1 = sx at *
        gi_wp2_with (refine ⟨trivial, ?_⟩; gi_at_call 98; refine (CallsIn.inRound l0 (callsIn_wide.2 (HP _))).mono ?_; rintro e W1 ⟨rfl, hbw⟩; have C2 := fun o => ((boxed_below H2.out hbw).alloc o).cell; have F2 := fun o => ((boxed_below H2.out hbw).alloc o).frozen; have C3 := fun o => ((boxed_below H3.out hbw).alloc o).cell; have F3 := fun o => ((boxed_below H3.out hbw).alloc o).frozen)
        exact ⟨((keeps_below (hbw.alloc hbw.size _)).trans ((KeepsOthers.setCell _ _ _).trans (KeepsOthers.setCell _ _ _))).from _, ⟨⟨(((boxed_below H2.out hbw).alloc _).set _).other (by omega) _, (((boxed_below H3.out hbw).alloc _).other (by omega) _).set _⟩, rfl, .inr HQ.out⟩, ((HB.out.trans ((hbw.alloc hbw.size _).mono (Nat.le_trans hN1 HB.out.size))).setCell (p := ⟨N, 0, none⟩) (Nat.le_refl _) _).setCell (p := ⟨N + 1, 0, none⟩) (by simp) _⟩
      | some nv =>
        obtain ⟨nm, vl⟩ := nv
        have e1 : bothA (headL 61 x.1) (tailL 61 x.1) = nm := by unfold bothA; rw [hb]; rfl
        have e2 : bothB (headL 61 x.1) (tailL 61 x.1) = vl := by unfold bothB; rw [hb]; rfl
        have e3 : bothC (headL 61 x.1) (tailL 61 x.1) = 0 := by unfold bothC; rw [hb]; rfl
        rw [e1, e2, e3] at HP
        have HS : Hid (accL (pre ++ [x]) = if nm = [] ∨ (findL out nm).isSome = true then none else some (out ++ [(nm, vl)])) := by unfold Hid; rw [HA.out, q_some hb]
        have HF := fun W' (h : IsP W' a k cap out) => codFind a k cap out nm W' h
        clear e1 e2 e3 hb HA h2 h3 hc2 hf2 hc3 hf3
        generalize str ((findL out nm).getD []) = fs at *
        generalize str x.1 = sx at *
        generalize hfb : (findL out nm).isSome = fb at *
        cases fb with
        | true =>
          have HQ : Hid (accL (pre ++ [x]) = none) := by unfold Hid; rw [HS.out, if_pos (.inr rfl)]
          clear HS
          gi_wp2_with (first | (refine ⟨trivial, ?_⟩; gi_at_call 98; refine (CallsIn.inRound l0 (callsIn_wide.2 (HP _))).mono ?_; rintro e W1 ⟨rfl, hbw⟩; have hb2 := fun o => hbw.alloc hbw.size o; have CV := fun o => ((boxed_below HV.out hbw).alloc o).cell) | (refine ⟨trivial, ?_⟩; gi_at_call 99; refine (CallsIn.inRound l0 (callsIn_wide.2 (HF _ (HI.out.below (hb2 _) rfl)))).mono ?_; rintro e W3 ⟨rfl, c3⟩; have hb3 := (hb2 _).trans (c3.mono (hb2 _).size); have KP := (Blk.newAt W1 W1.heap.size 142 _ [.string (str nm), .string (str vl)] rfl rfl).on c3; have P0 := KP.cell 0; have P1 := KP.cell 1; have B2 := boxed_below H2.out hb3; have C2 := B2.cell; have F2 := B2.frozen; have B3 := boxed_below H3.out hb3; have C3 := B3.cell; have F3 := B3.frozen; have BV := boxed_below HV.out hb3; have C4 := BV.cell; simp only [List.getElem?_cons_zero, List.getElem?_cons_succ] at P0 P1; clear CV))
          exact ⟨((keeps_below hb3).trans ((KeepsOthers.setCell _ _ _).trans (KeepsOthers.setCell _ _ _))).from _, ⟨⟨(B2.set _).other (by omega) _, (B3.other (by omega) _).set _⟩, rfl, .inr HQ.out⟩, ((HB.out.trans (hb3.mono (Nat.le_trans hN1 HB.out.size))).setCell (p := ⟨N, 0, none⟩) (Nat.le_refl _) _).setCell (p := ⟨N + 1, 0, none⟩) (by simp) _⟩
        | false =>
          by_cases hnm : nm = []
          · have HQ : Hid (accL (pre ++ [x]) = none) := by unfold Hid; rw [HS.out, if_pos (.inl hnm)]
            have he := str_none hnm
            clear HS hnm
            gi_wp2_with (first | (refine ⟨trivial, ?_⟩; gi_at_call 98; refine (CallsIn.inRound l0 (callsIn_wide.2 (HP _))).mono ?_; rintro e W1 ⟨rfl, hbw⟩; have hb2 := fun o => hbw.alloc hbw.size o; have CV := fun o => ((boxed_below HV.out hbw).alloc o).cell) | (refine ⟨trivial, ?_⟩; gi_at_call 99; refine (CallsIn.inRound l0 (callsIn_wide.2 (HF _ (HI.out.below (hb2 _) rfl)))).mono ?_; rintro e W3 ⟨rfl, c3⟩; have hb3 := (hb2 _).trans (c3.mono (hb2 _).size); have KP := (Blk.newAt W1 W1.heap.size 142 _ [.string (str nm), .string (str vl)] rfl rfl).on c3; have P0 := KP.cell 0; have P1 := KP.cell 1; have B2 := boxed_below H2.out hb3; have C2 := B2.cell; have F2 := B2.frozen; have B3 := boxed_below H3.out hb3; have C3 := B3.cell; have F3 := B3.frozen; have BV := boxed_below HV.out hb3; have C4 := BV.cell; simp only [List.getElem?_cons_zero, List.getElem?_cons_succ] at P0 P1; clear CV))
            exact ⟨((keeps_below hb3).trans ((KeepsOthers.setCell _ _ _).trans (KeepsOthers.setCell _ _ _))).from _, ⟨⟨(B2.set _).other (by omega) _, (B3.other (by omega) _).set _⟩, rfl, .inr HQ.out⟩, ((HB.out.trans (hb3.mono (Nat.le_trans hN1 HB.out.size))).setCell (p := ⟨N, 0, none⟩) (Nat.le_refl _) _).setCell (p := ⟨N + 1, 0, none⟩) (by simp) _⟩
          · have HQ : Hid (accL (pre ++ [x]) = some (out ++ [(nm, vl)])) := by unfold Hid; rw [HS.out, if_neg (by simp [hnm])]
            have he := str_full hnm
            clear HS hnm
            gi_wp2_with (first | (refine ⟨trivial, ?_⟩; gi_at_call 98; refine (CallsIn.inRound l0 (callsIn_wide.2 (HP _))).mono ?_; rintro e W1 ⟨rfl, hbw⟩; have hb2 := fun o => hbw.alloc hbw.size o; have CV := fun o => ((boxed_below HV.out hbw).alloc o).cell) | (refine ⟨trivial, ?_⟩; gi_at_call 99; refine (CallsIn.inRound l0 (callsIn_wide.2 (HF _ (HI.out.below (hb2 _) rfl)))).mono ?_; rintro e W3 ⟨rfl, c3⟩; have hb3 := (hb2 _).trans (c3.mono (hb2 _).size); have KP := (Blk.newAt W1 W1.heap.size 142 _ [.string (str nm), .string (str vl)] rfl rfl).on c3; have P0 := KP.cell 0; have P1 := KP.cell 1; have B2 := boxed_below H2.out hb3; have C2 := B2.cell; have F2 := B2.frozen; have B3 := boxed_below H3.out hb3; have C3 := B3.cell; have F3 := B3.frozen; have BV := boxed_below HV.out hb3; have C4 := BV.cell; simp only [List.getElem?_cons_zero, List.getElem?_cons_succ] at P0 P1; clear CV) | (gi_at_builtin; refine wpListIn_append_own _ rfl _ _ 108 rfl N 142 i0 (.agg #[.string ⟨#[]⟩, .string ⟨#[]⟩]) 2 32 Tryz.underlying108 hi hz0 hz1 hz2 rfl (by decide) _ _ _ rfl (World.ownsRow.alloc (HO.out.on hb3) _) ⟨W3.heap.size, 0, none⟩ 1 1 [.string (str nm), .string (str vl)] rfl rfl (fun j u hu => World.news_of_block (heap_alloc_new W3 _) j u (by simpa using hu)) (by intro u hu; simp only [List.mem_cons, List.not_mem_nil, or_false] at hu; rcases hu with rfl | rfl <;> rfl) (by unfold maxLen; omega) (by omega) (by have := HB.out.size; have := hb3.size; simp; omega) ?_; intro v' w1 hown' hgrow _; obtain ⟨g', cap', rfl⟩ := ownsRow_succ hown'; obtain ⟨hv1, hv2, hr2, hk2, hbl⟩ := BV.appended (by decide) (HO.out.on hb3) (by have := HB.out.size; have := hb3.size; omega) (by omega) hown' hgrow; have hc1 := hv1.cell; have hf1 := hv1.frozen))
            rw [hn] at hv2 hr2 hk2 hbl
            have hacc := HQ.out
            have ho := HOE.out (nm, vl) hacc
            have g2 : Boxed w1 N 108 (.slice none 0 0) := (B2.alloc _).kept hgrow (B2.not_row (by decide) (HO.out.on hb3))
            have g3 : Boxed w1 (N + 1) 26 (.int .i64 0) := (B3.alloc _).kept hgrow (B3.not_row (by decide) (HO.out.on hb3))
            have hKO := (keeps_below hb3).trans hk2
            exact ⟨hKO.from _, hKO.walks, ⟨⟨⟨_, hv2, by rw [ho, pcs_append, List.length_append, hn]; exact hr2, trivial⟩, g2.other (by omega) _, g3.other (by omega) _⟩, by rw [ho]; exact hacc, by have := HPL.out; simp; omega⟩, (HB.out.trans (hb3.mono (Nat.le_trans hN1 HB.out.size))).trans hbl⟩
  case done =>
    rintro D ys W hD hS ⟨⟨⟨⟨v, hv, hrow, -⟩, h2, h3⟩, hacc, hle⟩, hB⟩ hK
    have hown : OwnP 142 W N v (outL ys) := hrow
    obtain ⟨a, cap, rfl, -⟩ := hown.isP
    have hq := q_done hS hacc hle
    have hcv := hv.cell
    have hc2 := h2.cell
    have hf2 := h2.frozen
    have hc3 := h3.cell
    have hf3 := h3.frozen
    have HH : Hid (queryL l = some (outL ys)) := hq
    have HO : Hid (W.ownsRow N 142 2 (.slice a (outL ys).length cap) (outL ys).length (pcs (outL ys))) := hrow
    have hD' : N ≤ D := by omega
    clear hq hacc hle hS hown hrow b2 b3 b4 bS hB0
    generalize outL ys = out at *
    generalize hn : out.length = k at *
    gi_wp2
    have hK' := ((KeepsOthers.setCell W ⟨N, 0, none⟩ (.slice a k cap)).trans (KeepsOthers.setCell _ ⟨N + 1, 0, none⟩ (.int .i64 0))).same D _ hK rfl
    refine ⟨by simp, .inl ⟨_, _, rfl, run_takeDeferred hK', ?_⟩⟩
    have x2 : Boxed ((W.setCell ⟨N, 0, none⟩ (.slice a k cap)).setCell ⟨N + 1, 0, none⟩ (.int .i64 0)) N 108 (.slice a k cap) := (h2.set _).other (by omega) _
    have x3 : Boxed ((W.setCell ⟨N, 0, none⟩ (.slice a k cap)).setCell ⟨N + 1, 0, none⟩ (.int .i64 0)) (N + 1) 26 (.int .i64 0) := (h3.other (by omega) _).set _
    have y2 := cell_kept x2.cell (grownBy_putObj' _ D (.deferred none)) (fun r e => by cases e; exact ⟨_, hK', rfl⟩)
    have y3 := cell_kept x3.cell (grownBy_putObj' _ D (.deferred none)) (fun r e => by cases e; exact ⟨_, hK', rfl⟩)
    have o1 := HO.out.kept (grownBy_setCell' W N (.slice a k cap)) (.inr (h2.not_row (by decide) HO.out).symm)
    have o2 := o1.kept (grownBy_setCell' _ (N + 1) (.int .i64 0)) (.inr ((h3.other (by omega) _).not_row (by decide) o1).symm)
    have o3 := ownsRow_putObj o2 (.deferred none) hK' rfl
    have o4 : OwnP 142 (((W.setCell ⟨N, 0, none⟩ (.slice a k cap)).setCell ⟨N + 1, 0, none⟩ (.int .i64 0)).putObj D (.deferred none)) N (.slice a k cap) out := by unfold OwnP; rw [hn]; exact o3
    have hP : IsP (((W.setCell ⟨N, 0, none⟩ (.slice a k cap)).setCell ⟨N + 1, 0, none⟩ (.int .i64 0)).putObj D (.deferred none)) a k cap out := by
      obtain ⟨a', cap', e, hp⟩ := o4.isP
      rw [hn] at e hp
      cases e
      exact hp
    refine ⟨.tuple #[.slice a k cap, .int .i64 0], ?_, QOut.some HH.out hP, ?_⟩
    · simp [results, Tryz.f70, go_sem, y2, y3]
    · rw [← HN.out]
      exact ((hB.setCell (p := ⟨N, 0, none⟩) (Nat.le_refl _) _).setCell (p := ⟨N + 1, 0, none⟩) (by simp) _).trans (belowK_b (w := w) hN1 _ D _ _ (by omega) hK' rfl rfl)
  case stop =>
    rintro D c pre W hD hSp ⟨⟨⟨h2, h3⟩, rfl, hq⟩, hB⟩ hK
    gi_wp2
    refine ⟨by simp, .inl ⟨_, _, rfl, run_takeDeferred hK, ?_⟩⟩
    have y2 := cell_kept h2.cell (grownBy_putObj' _ D (.deferred none)) (fun r e => by cases e; exact ⟨_, hK, rfl⟩)
    have y3 := cell_kept h3.cell (grownBy_putObj' _ D (.deferred none)) (fun r e => by cases e; exact ⟨_, hK, rfl⟩)
    refine ⟨.tuple #[.slice none 0 0, .int .i64 13], ?_, QOut.none (q_stop hSp hq), ?_⟩
    · simp [results, Tryz.f70, go_sem, y2, y3]
    · rw [← HN.out]
      exact hB.trans (belowK_b (w := w) hN1 W D _ _ (by omega) hK rfl rfl)
end Go.Proofs.YtbknabmcelknmaaGreatDoor
