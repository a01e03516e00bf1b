/- What uri.Query answers. · What sigv4.Canonical answers. -/
import Derived.Test.YtgjmaeodgcigdaaGreatDoorB19
import Derived.Test.YtgjmaeodgcigdaaGreatDoorB25
import Derived.Test.YtgjmaeodgcigdaaGreatDoorB5
import Derived.Maps.AppendAt
import Derived.Test.YtgjmaeodgcigdaaGreatDoorB29
import Derived.Test.YtgjmaeodgcigdaaGreatDoorB33
import Derived.Test.YtgjmaeodgcigdaaGreatDoorB8
import Derived.Test.YtgjmaeodgcigdaaGreatDoorB27
import Derived.Test.YtgjmaeodgcigdaaGreatDoorB26
import Derived.Test.YtgjmaeodgcigdaaGreatDoorB18
namespace Go.Proofs.YtgjmaeodgcigdaaGreatDoor
open Go.RowKit Go.Shelf
attribute [local go_sem] Oper.semAt_some

theorem infoUQ : (Tryz.prog.info? 122).map (fun i => (i.zero, i.size, i.bytes)) = some (some (.agg #[.string ⟨#[]⟩, .string ⟨#[]⟩]), 2, 32) := by kernel_rfl

set_option maxRecDepth 100000 in
set_option maxHeartbeats 4000000 in
theorem codQuery (l : List UInt8) (w : World) (hl : l.length ≤ 40000000000000) :
    Calls Tryz.prog 33 #[.string (str l)] w fun e w' => QOut l e w' ∧ Below w.heap.size w w' := by
  obtain ⟨i0, hi, hz0, hz1, hz2⟩ := info_parts infoUQ
  refine (callsIn_wide (n := 6)).1 ?_
  refine callsIn_of_wp_marks Tryz.func33 rfl trivial ?_ rfl
  simp only [Tryz.ntmps33, List.size_toArray, List.length_cons, List.length_nil, Nat.reduceAdd, Nat.reduceSub, Array.replicate_succ, Array.replicate_zero, List.push_toArray, List.append_toArray, List.nil_append, List.cons_append]
  gi_wp2_with (refine ⟨trivial, ?_⟩; gi_at_call 79; refine (codParts _ _ _).mono ?_; rintro e w' ⟨rfl, rfl⟩)
  obtain ⟨N, hN⟩ : ∃ N, N = w.heap.size := ⟨_, rfl⟩
  have b2 := Boxed.new w 71 (.slice none 0 0)
  have b3 := Boxed.new (w.alloc (.cells #[.slice none 0 0] 71)) 29 (.int .i64 0)
  have b4 := Boxed.new ((w.alloc (.cells #[.slice none 0 0] 71)).alloc (.cells #[.int .i64 0] 29)) 71 (.slice none 0 0)
  have bS := Boxed.new (((w.alloc (.cells #[.slice none 0 0] 71)).alloc (.cells #[.int .i64 0] 29)).alloc (.cells #[.slice none 0 0] 71)) 9 (.string (str l))
  simp only [World.size_alloc] at b3 b4 bS
  have b2 := ((b2.alloc (.cells #[.int .i64 0] 29)).alloc (.cells #[.slice none 0 0] 71)).alloc (.cells #[.string (str l)] 9)
  have b3 := (b3.alloc (.cells #[.slice none 0 0] 71)).alloc (.cells #[.string (str l)] 9)
  have b4 := b4.alloc (.cells #[.string (str l)] 9)
  have hB0 : Below w.heap.size w ((((w.alloc (.cells #[.slice none 0 0] 71)).alloc (.cells #[.int .i64 0] 29)).alloc (.cells #[.slice none 0 0] 71)).alloc (.cells #[.string (str l)] 9)) :=
    ((((Below.refl _ w).alloc (Nat.le_refl _) _).alloc (by simp) _).alloc (by simp; omega) _).alloc (by simp; omega) _
  have hsz : ((((w.alloc (.cells #[.slice none 0 0] 71)).alloc (.cells #[.int .i64 0] 29)).alloc (.cells #[.slice none 0 0] 71)).alloc (.cells #[.string (str l)] 9)).heap.size = w.heap.size + 1 + 1 + 1 + 1 := by simp
  generalize ((((w.alloc (.cells #[.slice none 0 0] 71)).alloc (.cells #[.int .i64 0] 29)).alloc (.cells #[.slice none 0 0] 71)).alloc (.cells #[.string (str l)] 9)) = W0 at *
  rw [← hN] at b2 b3 b4 bS hB0 hsz ⊢
  have HN : Hid (N = w.heap.size) := hN
  have hN1 : N ≤ w.heap.size := by omega
  have hN2 : w.heap.size ≤ N := by omega
  clear hN
  refine wpIn_rangeFunc_ownG rfl (by omega) (gf := 123) (lb := #[.pointer (some ⟨N + 1 + 1 + 1, 0, none⟩)]) rfl trivial (enters_of Tryz.func123 (by kernel_rfl) rfl)
    (parts_stops _ (by omega) (N + 1 + 1 + 1) l hl W0 (by omega) bS.cell) walksK_t walksK_b (Below.refl _ _) (fun _ => rfl)
    (fun pre W => (((∃ v, Boxed W (N + 1 + 1) 71 v ∧ W.ownsRow N 122 2 v (outL pre).length (pcs (outL pre)) ∧ True) ∧ (Boxed W N 71 (.slice none 0 0) ∧ Boxed W (N + 1) 29 (.int .i64 0))) ∧ (accL pre = some (outL pre) ∧ pre.length ≤ 24)) ∧ Below N w W)
    (fun c pre W => ((Boxed W N 71 (.slice none 0 0) ∧ Boxed W (N + 1) 29 (.int .i64 13)) ∧ (c = .ret ∧ (24 < pre.length ∨ accL pre = none))) ∧ Below N w W)
    (OwnFrom.and (OwnFrom.and (OwnFrom.and (Own.from (holdsRow_own N (N + 1 + 1) 71 122 2 (fun pre => (outL pre).length) (fun pre => pcs (outL pre)) (fun _ _ => True)) _) (OwnFrom.and (Own.from (boxed_own N _ (fun _ => _)) _) (Own.from (boxed_own (N + 1) _ (fun _ => _)) _))) (ownFrom_pure _ _)) (ownFrom_below (by omega) (by omega)))
    (fun c => OwnFrom.and (OwnFrom.and (OwnFrom.and (Own.from (boxed_own N _ (fun _ => _)) _) (Own.from (boxed_own (N + 1) _ (fun _ => _)) _)) (ownFrom_pure _ _)) (ownFrom_below (by omega) (by omega)))
    ⟨⟨⟨⟨_, b4, World.ownsRow_nil _ _ _ _, trivial⟩, b2, b3⟩, rfl, by simp⟩, hB0⟩
    (fun x => { tmps := #[.string (str l), undef, .pointer (some ⟨N, 0, none⟩), .pointer (some ⟨N + 1, 0, none⟩), .pointer (some ⟨N + 1 + 1, 0, none⟩), .string (str x.1), undef, undef, undef, undef, .string (str l), .func (.func 123) #[] #[.pointer (some ⟨N + 1 + 1 + 1, 0, none⟩)], .string (str x.1), undef, undef, undef, undef, undef, undef, undef, undef, undef, undef, undef, undef, undef, undef, undef, undef, undef, undef, undef, undef, undef, undef, undef, undef, undef, undef, undef, undef, undef], defers := [] }) ?assign ?body ?done ?stop
  case assign =>
    intro l x W K hK
    gi_wp2
    exact hK
  case body =>
    rintro l0 pre x W ⟨⟨⟨⟨v, hv, hrow, -⟩, h2, h3⟩, hacc, hle⟩, hB⟩ hlt
    have hown : OwnP 122 W N v (outL pre) := hrow
    obtain ⟨a, cap, rfl, hisP⟩ := hown.isP
    have hlen := acc_len hacc
    have hk : (outL pre).length ≤ 24 := by omega
    have HA : Hid (accL (pre ++ [x]) = qStep (some (outL pre)) x.1) := by unfold Hid; rw [acc_snoc, hacc]
    have HPL : Hid (pre.length = (outL pre).length) := hlen.symm
    have HB : Hid (Below N w W) := hB
    have H2 : Hid (Boxed W N 71 (.slice none 0 0)) := h2
    have H3 : Hid (Boxed W (N + 1) 29 (.int .i64 0)) := h3
    have HV : Hid (Boxed W (N + 1 + 1) 71 (.slice a (outL pre).length cap)) := hv
    have HO : Hid (OwnP 122 W N (.slice a (outL pre).length cap) (outL pre)) := hown
    have HI : Hid (IsP W a (outL pre).length cap (outL pre)) := hisP
    have HOE : Hid (∀ nv, accL (pre ++ [x]) = some (outL pre ++ [nv]) → outL (pre ++ [x]) = outL pre ++ [nv]) := fun nv h => out_some h
    clear hacc hlen hlt hown hrow hisP b2 b3 b4 bS hB0 hB
    have hcv := hv.cell
    have hc2 := h2.cell
    have hf2 := h2.frozen
    have hc3 := h3.cell
    have hf3 := h3.frozen
    generalize hout : outL pre = out at *
    generalize hn : out.length = k at *
    by_cases h24 : k = 24
    · have hkz : (k : Int) = 24 := by omega
      gi_wp2
      --@@
      exact ⟨((KeepsOthers.setCell _ _ _).trans (KeepsOthers.setCell _ _ _)).from _, ⟨⟨(H2.out.set _).other (by omega) _, (H3.out.other (by omega) _).set _⟩, rfl, .inl (by simp; have := HPL.out; omega)⟩, (HB.out.setCell (p := ⟨N, 0, none⟩) (Nat.le_refl _) _).setCell (p := ⟨N + 1, 0, none⟩) (by simp) _⟩
    · have hkz : ¬ (k : Int) = 24 := by omega
      have HP := fun w => codPair x.1 w x.2
      unfold PairR at HP
      cases hb : bothL (headL 61 x.1) (tailL 61 x.1) with
      | none =>
        have HQ : Hid (accL (pre ++ [x]) = none) := by unfold Hid; rw [HA.out, q_none hb]
        have e3 : bothC (headL 61 x.1) (tailL 61 x.1) = 13 := by unfold bothC; rw [hb]; rfl
        rw [e3] at HP
        clear e3 hb HA
        generalize str (bothA (headL 61 x.1) (tailL 61 x.1)) = r1 at *
        generalize str (bothB (headL 61 x.1) (tailL 61 x.1)) = r2 at *
        generalize str x.1 = sx at *
        gi_wp2_with (refine ⟨trivial, ?_⟩; gi_at_call 80; refine (CallsIn.inRound l0 (callsIn_wide.2 (HP _))).mono ?_; rintro e W1 ⟨rfl, hbw⟩; have C2 := fun o => ((boxed_below H2.out hbw).alloc o).cell; have F2 := fun o => ((boxed_below H2.out hbw).alloc o).frozen; have C3 := fun o => ((boxed_below H3.out hbw).alloc o).cell; have F3 := fun o => ((boxed_below H3.out hbw).alloc o).frozen)
        exact ⟨((keeps_below (hbw.alloc hbw.size _)).trans ((KeepsOthers.setCell _ _ _).trans (KeepsOthers.setCell _ _ _))).from _, ⟨⟨(((boxed_below H2.out hbw).alloc _).set _).other (by omega) _, (((boxed_below H3.out hbw).alloc _).other (by omega) _).set _⟩, rfl, .inr HQ.out⟩, ((HB.out.trans ((hbw.alloc hbw.size _).mono (Nat.le_trans hN1 HB.out.size))).setCell (p := ⟨N, 0, none⟩) (Nat.le_refl _) _).setCell (p := ⟨N + 1, 0, none⟩) (by simp) _⟩
      | some nv =>
        obtain ⟨nm, vl⟩ := nv
        have e1 : bothA (headL 61 x.1) (tailL 61 x.1) = nm := by unfold bothA; rw [hb]; rfl
        have e2 : bothB (headL 61 x.1) (tailL 61 x.1) = vl := by unfold bothB; rw [hb]; rfl
        have e3 : bothC (headL 61 x.1) (tailL 61 x.1) = 0 := by unfold bothC; rw [hb]; rfl
        rw [e1, e2, e3] at HP
        have HS : Hid (accL (pre ++ [x]) = if nm = [] ∨ (findL out nm).isSome = true then none else some (out ++ [(nm, vl)])) := by unfold Hid; rw [HA.out, q_some hb]
        have HF := fun W' (h : IsP W' a k cap out) => codFind a k cap out nm W' h
        clear e1 e2 e3 hb HA h2 h3 hc2 hf2 hc3 hf3
        generalize str ((findL out nm).getD []) = fs at *
        generalize str x.1 = sx at *
        generalize hfb : (findL out nm).isSome = fb at *
        cases fb with
        | true =>
          have HQ : Hid (accL (pre ++ [x]) = none) := by unfold Hid; rw [HS.out, if_pos (.inr rfl)]
          clear HS
          gi_wp2_with (first | (refine ⟨trivial, ?_⟩; gi_at_call 80; refine (CallsIn.inRound l0 (callsIn_wide.2 (HP _))).mono ?_; rintro e W1 ⟨rfl, hbw⟩; have hb2 := fun o => hbw.alloc hbw.size o; have CV := fun o => ((boxed_below HV.out hbw).alloc o).cell) | (refine ⟨trivial, ?_⟩; gi_at_call 81; refine (CallsIn.inRound l0 (callsIn_wide.2 (HF _ (HI.out.below (hb2 _) rfl)))).mono ?_; rintro e W3 ⟨rfl, c3⟩; have hb3 := (hb2 _).trans (c3.mono (hb2 _).size); have KP := (Blk.newAt W1 W1.heap.size 122 _ [.string (str nm), .string (str vl)] rfl rfl).on c3; have P0 := KP.cell 0; have P1 := KP.cell 1; have B2 := boxed_below H2.out hb3; have C2 := B2.cell; have F2 := B2.frozen; have B3 := boxed_below H3.out hb3; have C3 := B3.cell; have F3 := B3.frozen; have BV := boxed_below HV.out hb3; have C4 := BV.cell; simp only [List.getElem?_cons_zero, List.getElem?_cons_succ] at P0 P1; clear CV))
          exact ⟨((keeps_below hb3).trans ((KeepsOthers.setCell _ _ _).trans (KeepsOthers.setCell _ _ _))).from _, ⟨⟨(B2.set _).other (by omega) _, (B3.other (by omega) _).set _⟩, rfl, .inr HQ.out⟩, ((HB.out.trans (hb3.mono (Nat.le_trans hN1 HB.out.size))).setCell (p := ⟨N, 0, none⟩) (Nat.le_refl _) _).setCell (p := ⟨N + 1, 0, none⟩) (by simp) _⟩
        | false =>
          by_cases hnm : nm = []
          · have HQ : Hid (accL (pre ++ [x]) = none) := by unfold Hid; rw [HS.out, if_pos (.inl hnm)]
            have he := str_none hnm
            clear HS hnm
            gi_wp2_with (first | (refine ⟨trivial, ?_⟩; gi_at_call 80; refine (CallsIn.inRound l0 (callsIn_wide.2 (HP _))).mono ?_; rintro e W1 ⟨rfl, hbw⟩; have hb2 := fun o => hbw.alloc hbw.size o; have CV := fun o => ((boxed_below HV.out hbw).alloc o).cell) | (refine ⟨trivial, ?_⟩; gi_at_call 81; refine (CallsIn.inRound l0 (callsIn_wide.2 (HF _ (HI.out.below (hb2 _) rfl)))).mono ?_; rintro e W3 ⟨rfl, c3⟩; have hb3 := (hb2 _).trans (c3.mono (hb2 _).size); have KP := (Blk.newAt W1 W1.heap.size 122 _ [.string (str nm), .string (str vl)] rfl rfl).on c3; have P0 := KP.cell 0; have P1 := KP.cell 1; have B2 := boxed_below H2.out hb3; have C2 := B2.cell; have F2 := B2.frozen; have B3 := boxed_below H3.out hb3; have C3 := B3.cell; have F3 := B3.frozen; have BV := boxed_below HV.out hb3; have C4 := BV.cell; simp only [List.getElem?_cons_zero, List.getElem?_cons_succ] at P0 P1; clear CV))
            exact ⟨((keeps_below hb3).trans ((KeepsOthers.setCell _ _ _).trans (KeepsOthers.setCell _ _ _))).from _, ⟨⟨(B2.set _).other (by omega) _, (B3.other (by omega) _).set _⟩, rfl, .inr HQ.out⟩, ((HB.out.trans (hb3.mono (Nat.le_trans hN1 HB.out.size))).setCell (p := ⟨N, 0, none⟩) (Nat.le_refl _) _).setCell (p := ⟨N + 1, 0, none⟩) (by simp) _⟩
          · have HQ : Hid (accL (pre ++ [x]) = some (out ++ [(nm, vl)])) := by unfold Hid; rw [HS.out, if_neg (by simp [hnm])]
            have he := str_full hnm
            clear HS hnm
            gi_wp2_with (first | (refine ⟨trivial, ?_⟩; gi_at_call 80; refine (CallsIn.inRound l0 (callsIn_wide.2 (HP _))).mono ?_; rintro e W1 ⟨rfl, hbw⟩; have hb2 := fun o => hbw.alloc hbw.size o; have CV := fun o => ((boxed_below HV.out hbw).alloc o).cell) | (refine ⟨trivial, ?_⟩; gi_at_call 81; refine (CallsIn.inRound l0 (callsIn_wide.2 (HF _ (HI.out.below (hb2 _) rfl)))).mono ?_; rintro e W3 ⟨rfl, c3⟩; have hb3 := (hb2 _).trans (c3.mono (hb2 _).size); have KP := (Blk.newAt W1 W1.heap.size 122 _ [.string (str nm), .string (str vl)] rfl rfl).on c3; have P0 := KP.cell 0; have P1 := KP.cell 1; have B2 := boxed_below H2.out hb3; have C2 := B2.cell; have F2 := B2.frozen; have B3 := boxed_below H3.out hb3; have C3 := B3.cell; have F3 := B3.frozen; have BV := boxed_below HV.out hb3; have C4 := BV.cell; simp only [List.getElem?_cons_zero, List.getElem?_cons_succ] at P0 P1; clear CV) | (gi_at_builtin; refine wpListIn_append_own _ rfl _ _ 71 rfl N 122 i0 (.agg #[.string ⟨#[]⟩, .string ⟨#[]⟩]) 2 32 Tryz.underlying71 hi hz0 hz1 hz2 rfl (by decide) _ _ _ rfl (World.ownsRow.alloc (HO.out.on hb3) _) ⟨W3.heap.size, 0, none⟩ 1 1 [.string (str nm), .string (str vl)] rfl rfl (fun j u hu => World.news_of_block (heap_alloc_new W3 _) j u (by simpa using hu)) (by intro u hu; simp only [List.mem_cons, List.not_mem_nil, or_false] at hu; rcases hu with rfl | rfl <;> rfl) (by unfold maxLen; omega) (by omega) (by have := HB.out.size; have := hb3.size; simp; omega) ?_; intro v' w1 hown' hgrow _; obtain ⟨g', cap', rfl⟩ := ownsRow_succ hown'; obtain ⟨hv1, hv2, hr2, hk2, hbl⟩ := BV.appended (by decide) (HO.out.on hb3) (by have := HB.out.size; have := hb3.size; omega) (by omega) hown' hgrow; have hc1 := hv1.cell; have hf1 := hv1.frozen))
            rw [hn] at hv2 hr2 hk2 hbl
            have hacc := HQ.out
            have ho := HOE.out (nm, vl) hacc
            have g2 : Boxed w1 N 71 (.slice none 0 0) := (B2.alloc _).kept hgrow (B2.not_row (by decide) (HO.out.on hb3))
            have g3 : Boxed w1 (N + 1) 29 (.int .i64 0) := (B3.alloc _).kept hgrow (B3.not_row (by decide) (HO.out.on hb3))
            have hKO := (keeps_below hb3).trans hk2
            exact ⟨hKO.from _, hKO.walks, ⟨⟨⟨_, hv2, by rw [ho, pcs_append, List.length_append, hn]; exact hr2, trivial⟩, g2.other (by omega) _, g3.other (by omega) _⟩, by rw [ho]; exact hacc, by have := HPL.out; simp; omega⟩, (HB.out.trans (hb3.mono (Nat.le_trans hN1 HB.out.size))).trans hbl⟩
  case done =>
    rintro D ys W hD hS ⟨⟨⟨⟨v, hv, hrow, -⟩, h2, h3⟩, hacc, hle⟩, hB⟩ hK
    have hown : OwnP 122 W N v (outL ys) := hrow
    obtain ⟨a, cap, rfl, -⟩ := hown.isP
    have hq := q_done hS hacc hle
    have hcv := hv.cell
    have hc2 := h2.cell
    have hf2 := h2.frozen
    have hc3 := h3.cell
    have hf3 := h3.frozen
    have HH : Hid (queryL l = some (outL ys)) := hq
    have HO : Hid (W.ownsRow N 122 2 (.slice a (outL ys).length cap) (outL ys).length (pcs (outL ys))) := hrow
    have hD' : N ≤ D := by omega
    clear hq hacc hle hS hown hrow b2 b3 b4 bS hB0
    generalize outL ys = out at *
    generalize hn : out.length = k at *
    gi_wp2
    have hK' := ((KeepsOthers.setCell W ⟨N, 0, none⟩ (.slice a k cap)).trans (KeepsOthers.setCell _ ⟨N + 1, 0, none⟩ (.int .i64 0))).same D _ hK rfl
    refine ⟨by simp, .inl ⟨_, _, rfl, run_takeDeferred hK', ?_⟩⟩
    have x2 : Boxed ((W.setCell ⟨N, 0, none⟩ (.slice a k cap)).setCell ⟨N + 1, 0, none⟩ (.int .i64 0)) N 71 (.slice a k cap) := (h2.set _).other (by omega) _
    have x3 : Boxed ((W.setCell ⟨N, 0, none⟩ (.slice a k cap)).setCell ⟨N + 1, 0, none⟩ (.int .i64 0)) (N + 1) 29 (.int .i64 0) := (h3.other (by omega) _).set _
    have y2 := cell_kept x2.cell (grownBy_putObj' _ D (.deferred none)) (fun r e => by cases e; exact ⟨_, hK', rfl⟩)
    have y3 := cell_kept x3.cell (grownBy_putObj' _ D (.deferred none)) (fun r e => by cases e; exact ⟨_, hK', rfl⟩)
    have o1 := HO.out.kept (grownBy_setCell' W N (.slice a k cap)) (.inr (h2.not_row (by decide) HO.out).symm)
    have o2 := o1.kept (grownBy_setCell' _ (N + 1) (.int .i64 0)) (.inr ((h3.other (by omega) _).not_row (by decide) o1).symm)
    have o3 := ownsRow_putObj o2 (.deferred none) hK' rfl
    have o4 : OwnP 122 (((W.setCell ⟨N, 0, none⟩ (.slice a k cap)).setCell ⟨N + 1, 0, none⟩ (.int .i64 0)).putObj D (.deferred none)) N (.slice a k cap) out := by unfold OwnP; rw [hn]; exact o3
    have hP : IsP (((W.setCell ⟨N, 0, none⟩ (.slice a k cap)).setCell ⟨N + 1, 0, none⟩ (.int .i64 0)).putObj D (.deferred none)) a k cap out := by
      obtain ⟨a', cap', e, hp⟩ := o4.isP
      rw [hn] at e hp
      cases e
      exact hp
    refine ⟨.tuple #[.slice a k cap, .int .i64 0], ?_, QOut.some HH.out hP, ?_⟩
    · simp [results, Tryz.f33, go_sem, y2, y3]
    · rw [← HN.out]
      exact ((hB.setCell (p := ⟨N, 0, none⟩) (Nat.le_refl _) _).setCell (p := ⟨N + 1, 0, none⟩) (by simp) _).trans (belowK_b (w := w) hN1 _ D _ _ (by omega) hK' rfl rfl)
  case stop =>
    rintro D c pre W hD hSp ⟨⟨⟨h2, h3⟩, rfl, hq⟩, hB⟩ hK
    gi_wp2
    refine ⟨by simp, .inl ⟨_, _, rfl, run_takeDeferred hK, ?_⟩⟩
    have y2 := cell_kept h2.cell (grownBy_putObj' _ D (.deferred none)) (fun r e => by cases e; exact ⟨_, hK, rfl⟩)
    have y3 := cell_kept h3.cell (grownBy_putObj' _ D (.deferred none)) (fun r e => by cases e; exact ⟨_, hK, rfl⟩)
    refine ⟨.tuple #[.slice none 0 0, .int .i64 13], ?_, QOut.none (q_stop hSp hq), ?_⟩
    · simp [results, Tryz.f33, go_sem, y2, y3]
    · rw [← HN.out]
      exact hB.trans (belowK_b (w := w) hN1 W D _ _ (by omega) hK rfl rfl)
end Go.Proofs.YtgjmaeodgcigdaaGreatDoor
namespace Go.Proofs.YtgjmaeodgcigdaaGreatDoor
open Go.RowKit

theorem canon_join (m e c l j x : List UInt8) : joinS [10] [m, e, c, l, j, x] = m ++ [10] ++ e ++ [10] ++ c ++ [10] ++ l ++ [10] ++ j ++ [10] ++ x := by
  simp [joinS, joinTo, nthT]
theorem codSha (a : Option Addr) (n c : Nat) (l : List UInt8) (w : World) (h : IsB w a n c l) (hn : n < 4294967296) :
    Calls Tryz.prog 39 #[.slice a n c] w fun e w' => (∃ va vc, e = .returned (.slice va 32 vc) ∧ IsB w' va 32 vc (sha256L l)) ∧ Below w.heap.size w w' := (digSha256 a n c l w h hn).mono (by
  rintro e w' ⟨v, rfl, ho, hb⟩
  obtain ⟨va, vc, rfl, hi⟩ := ho.isB
  rw [sha256L_length] at hi ⊢
  exact ⟨⟨va, vc, rfl, hi⟩, hb⟩)

set_option maxRecDepth 20000 in
set_option maxHeartbeats 8000000 in
theorem codCanonical (m p q : List UInt8) (ha : Option Addr) (hn hc : Nat) (hs : List Pr) (ba : Option Addr) (bn bc : Nat) (bd : List UInt8) (ta : Option Addr) (tn tc : Nat) (ts : List (List UInt8)) (w : World)
    (hP : IsP w ha hn hc hs) (hB : IsB w ba bn bc bd) (hT : IsT w ta tn tc ts) (zm : m.length ≤ 30000) (zp : p.length ≤ 30000) (zq : q.length ≤ 30000) (zb : bn ≤ 30000) (zh : ∀ i, i < hs.length → (nthP hs i).2.length ≤ 30000) (zt : ∀ i, i < ts.length → (nthT ts i).length ≤ 140737488351232) :
    Calls Tryz.prog 11 #[.agg #[.string (str m), .string (str p), .string (str q), .slice ha hn hc, .slice ba bn bc], .slice ta tn tc] w fun e w' => e = .returned (.tuple #[.string (str (canonT ⟨m, p, q, hs, bd⟩ ts)), .int .i64 (canonE ⟨m, p, q, hs, bd⟩ ts)]) ∧ Below w.heap.size w w' := by
  have T0 : Below w.heap.size w (w.alloc (.cells #[.string (str m), .string (str p), .string (str q), .slice ha hn hc, .slice ba bn bc] 34)) := (Below.refl _ w).alloc (Nat.le_refl _) _
  have K0 := Blk.newAt w w.heap.size 34 _ [.string (str m), .string (str p), .string (str q), .slice ha hn hc, .slice ba bn bc] rfl rfl
  have HN := codRightNames ta tn tc ts _ (hT.below T0 rfl) zt
  have HL := hT.len_eq
  cases hnm : namesL ts with
  | false =>
    obtain ⟨e1, e2⟩ := canon_no1 (r := ⟨m, p, q, hs, bd⟩) hnm
    rw [e1, e2, show str [] = (⟨#[]⟩ : ByteArray) from rfl]
    rw [hnm] at HN
    clear e1 e2
    go_enter Tryz.func11, Tryz.ntmps11
    go_wp2_with (go_at_call 30; refine HN.mono ?_; rintro e w1 ⟨rfl, rfl⟩)
    go_ret2
    exact ⟨rfl, T0⟩
  | true =>
    rw [hnm] at HN
    obtain ⟨nl, n24⟩ := names_facts hnm
    have HLi := codLines (.string (str m)) (.string (str p)) (.string (str q)) (.slice ba bn bc) ha hn hc hs ta tn tc ts _ (hP.below T0 rfl) (hT.below T0 rfl) hnm zh
    have q0 := K0.cell 0
    have q1 := K0.cell 1
    have q2 := K0.cell 2
    have q3 := K0.cell 3
    have q4 := K0.cell 4
    have HTw : Hid (∀ W, Below w.heap.size w W → IsT W ta tn tc ts) := fun W hW => hT.below hW rfl
    have HBw : Hid (∀ W, Below w.heap.size w W → IsB W ba bn bc bd) := fun W hW => hB.below hW rfl
    cases hha : hasAll hs ts with
    | false =>
      obtain ⟨e1, e2⟩ := canon_no2 (r := ⟨m, p, q, hs, bd⟩) hnm hha
      rw [e1, e2, show str [] = (⟨#[]⟩ : ByteArray) from rfl]
      rw [hha] at HLi
      change Calls Tryz.prog 31 _ _ fun e w' => e = .returned (.tuple #[.string ⟨#[]⟩, .int .i64 11]) ∧ _ at HLi
      clear e1 e2 hP hB hT
      go_enter Tryz.func11, Tryz.ntmps11
      go_wp2_with (first | (go_at_call 30; refine HN.mono ?_; rintro e w1 ⟨rfl, rfl⟩) | (go_at_call 31; refine HLi.mono ?_; rintro e w2 ⟨rfl, hb2⟩))
      go_ret2
      exact ⟨rfl, T0.trans (hb2.mono T0.size)⟩
    | true =>
      rw [hha] at HLi
      have HN3 := canon_no3 (r := ⟨m, p, q, hs, bd⟩) hnm hha
      have HYE := canon_yes (r := ⟨m, p, q, hs, bd⟩) hnm hha
      have HDe : ∀ W, Calls Tryz.prog 32 #[.string (str p)] W fun e w' => e = .returned (.tuple #[.string (str (decS p)), .int .i64 (decC p)]) ∧ Below W.heap.size W w' := fun W => by
        have := codDecode (str p) W (by rw [str_size]; omega)
        rw [str_list] at this
        exact this
      have HQu : ∀ W, Calls Tryz.prog 33 #[.string (str q)] W fun e w' => (∃ qa qm qc, e = .returned (.tuple #[.slice qa qm qc, .int .i64 (queryC q)]) ∧ IsP w' qa qm qc (queryP q)) ∧ Below W.heap.size W w' := fun W => codQuery q W (by omega)
      obtain ⟨qn, qz⟩ := queryP_facts q zq
      have HEn : ∀ W, Calls Tryz.prog 35 #[.string (str (decS p)), .bool true] W fun e w' => e = .returned (.string (str (encL true (decS p)))) ∧ Below W.heap.size W w' := fun W => codEncodeL (decS p) true W (by have := decS_len p; omega)
      have HCa : ∀ qa qm qc W, IsP W qa qm qc (queryP q) → Calls Tryz.prog 36 #[.slice qa qm qc] W fun e w' => e = .returned (.string (str (canonL (queryP q)))) ∧ Below W.heap.size W w' := fun qa qm qc W hi => codCanon qa qm qc (queryP q) W hi (by have := hi.len_eq; omega) qz
      have l5 : (joinS [59] ts).length ≤ 10000 := by
        have h1 := joinTo_le [59] ts 64 nl ts.length (Nat.le_refl _)
        have h2 : ts.length * (64 + 1) ≤ 24 * (64 + 1) := Nat.mul_le_mul_right _ (by omega)
        unfold joinS
        have h3 : ([59] : List UInt8).length = 1 := rfl
        rw [h3] at h1
        omega
      have HJo : ∀ W, Below w.heap.size w W → Calls Tryz.prog 37 #[.slice ta tn tc, .string ⟨#[59]⟩] W fun e w' => e = .returned (.string (str (joinS [59] ts))) ∧ Below W.heap.size W w' := fun W hW => codJoinT [59] ta tn tc ts W (HTw.out W hW) (by omega) (by omega)
      have HSh : ∀ W, Below w.heap.size w W → Calls Tryz.prog 39 #[.slice ba bn bc] W fun e w' => (∃ va vc, e = .returned (.slice va 32 vc) ∧ IsB w' va 32 vc (sha256L bd)) ∧ Below W.heap.size W w' := fun W hW => codSha ba bn bc bd W (HBw.out W hW) (by omega)
      have HHx : ∀ va vc W, IsB W va 32 vc (sha256L bd) → Calls Tryz.prog 38 #[.slice va 32 vc] W fun e w' => e = .returned (.string (str (hexL (sha256L bd)))) ∧ Below W.heap.size W w' := fun va vc W hi => digHex va 32 vc (sha256L bd) W hi (by omega)
      have l1 := encL_length true (decS p)
      have l2 := decS_len p
      have l3 := canon_len qz
      have l3' : (queryP q).length * 180002 ≤ 24 * 180002 := Nat.mul_le_mul_right _ qn
      have l4 : (linesTo hs ts ts.length).length ≤ 1000000 := by
        have h1 := lines_len 30000 zh nl ts.length (Nat.le_refl _)
        have h2 : ts.length * (30000 + 66) ≤ 24 * (30000 + 66) := Nat.mul_le_mul_right _ (by omega)
        omega
      have l6 : (hexL (sha256L bd)).length = 64 := by rw [hexL_length, sha256L_length]
      have hcx : joinS [10] [m, encL true (decS p), canonL (queryP q), linesTo hs ts ts.length, joinS [59] ts, hexL (sha256L bd)] = canonX ⟨m, p, q, hs, bd⟩ ts := canon_join _ _ _ _ _ _
      have HJd : ∀ X Y : World, Y = X.alloc (.cells #[.string (str m), .string (str (encL true (decS p))), .string (str (canonL (queryP q))), .string (str (linesTo hs ts ts.length)), .string (str (joinS [59] ts)), .string (str (hexL (sha256L bd)))] 9) → Calls Tryz.prog 34 #[.slice (some ⟨X.heap.size, 0, none⟩) 6 6] Y fun e w' => e = .returned (.string (str (canonX ⟨m, p, q, hs, bd⟩ ts))) ∧ Below Y.heap.size Y w' := fun X Y hY => by
        have h1 := codJoined _ _ _ _ _ (isT_new X 9 [m, encL true (decS p), canonL (queryP q), linesTo hs ts ts.length, joinS [59] ts, hexL (sha256L bd)] (by simp)) (by simp) (by
          rw [hcx]
          unfold canonX
          simp only [List.length_append, List.length_cons, List.length_nil]
          omega)
        rw [hcx] at h1
        rw [hY]
        exact h1
      change Calls Tryz.prog 31 _ _ fun e w' => e = .returned (.tuple #[.string (str (linesTo hs ts ts.length)), .int .i64 0]) ∧ _ at HLi
      clear l1 l2 l3 l3' l4 l5 l6 qn qz hcx hP hB hT
      generalize linesTo hs ts ts.length = ll at *
      by_cases hd0 : decC p = 0
      · rw [hd0] at HDe
        by_cases hq0 : queryC q = 0
        · rw [hq0] at HQu
          obtain ⟨e1, e2⟩ := HYE ⟨hd0, hq0⟩
          rw [e1, e2]
          clear HN3 HYE e1 e2 hd0 hq0
          generalize canonX ⟨m, p, q, hs, bd⟩ ts = cx at *
          go_enter Tryz.func11, Tryz.ntmps11
          go_upto_region 12 with (first | (go_at_call 30; refine HN.mono ?_; rintro e w1 ⟨rfl, rfl⟩) | (go_at_call 31; refine HLi.mono ?_; rintro e w2 ⟨rfl, hb2⟩; have K2 := K0.on hb2; have c1 : w2.cell? ⟨w.heap.size, 1, none⟩ = some (.string (str p)) := K2.cell 1) | (go_at_call 32; refine (HDe _).mono ?_; rintro e w3 ⟨rfl, hb3⟩; have K3 := K2.on hb3; have c2 : w3.cell? ⟨w.heap.size, 2, none⟩ = some (.string (str q)) := K3.cell 2) | (go_at_call 33; refine (HQu _).mono ?_; rintro e w4 ⟨⟨qa, qm, qc, rfl, hi4⟩, hb4⟩))
          have T2 := T0.trans (hb2.mono T0.size)
          have T3 := T2.trans (hb3.mono T2.size)
          have T4 : Below w.heap.size w w4 := T3.trans (hb4.mono T3.size)
          have K4 := K3.on hb4
          have HKP : ∀ w', Below w4.heap.size w4 w' → Below w4.heap.size w4 w' ∧ w'.cell? ⟨w.heap.size, 0, none⟩ = some (.string (str m)) ∧ w'.cell? ⟨w.heap.size, 4, none⟩ = some (.slice ba bn bc) := fun w' hb => ⟨hb, (K4.on hb).cell 0, (K4.on hb).cell 4⟩
          clear HDe HQu HN HLi c1 c2 K0 K2 K3 K4 q0 q1 q2 q3 q4 hb2 hb3 hb4
          generalize str m = sm at *
          generalize str (encL true (decS p)) = se at *
          generalize str (canonL (queryP q)) = sc at *
          generalize str (decS p) = sd at *
          generalize str ll = sl at *
          generalize str (joinS [59] ts) = sj at *
          generalize str (hexL (sha256L bd)) = sx at *
          go_region_held3 (fun w' => Below w4.heap.size w4 w' ∧ w'.cell? ⟨w.heap.size, 0, none⟩ = some (.string sm) ∧ w'.cell? ⟨w.heap.size, 4, none⟩ = some (.slice ba bn bc))
            (first | exact HKP _ ((Below.refl _ w4).drew) | assumption | (have hq0 := ‹Below _ _ _ ∧ _›; first | exact HKP _ (hq0.1.trans (hbE.mono hq0.1.size)) | exact HKP _ (hq0.1.trans (hbC.mono hq0.1.size)) | exact HKP _ (hq0.1.trans (hbJ.mono hq0.1.size)) | exact HKP _ (hq0.1.trans (hbS.mono hq0.1.size)) | exact HKP _ (hq0.1.trans (hbH.mono hq0.1.size)) | exact HKP _ (hq0.1.trans (hbD.mono hq0.1.size)) | exact HKP _ (hq0.1.alloc hq0.1.size _)))
            (first
              | (go_at_call 35; refine (HEn _).mono ?_; rintro e w5 ⟨rfl, hbE⟩)
              | (go_at_call 36; have hq0 := ‹Below _ _ _ ∧ _›; refine (HCa _ _ _ _ (hi4.below hq0.1 rfl)).mono ?_; rintro e w6 ⟨rfl, hbC⟩; clear hq0)
              | (go_at_call 37; have hq0 := ‹Below _ _ _ ∧ _›; refine (HJo _ (T4.trans (hq0.1.mono T4.size))).mono ?_; rintro e w7 ⟨rfl, hbJ⟩; clear hq0)
              | (go_at_call 39; have hq0 := ‹Below _ _ _ ∧ _›; refine (HSh _ (T4.trans (hq0.1.mono T4.size))).mono ?_; rintro e w8 ⟨⟨va8, vc8, rfl, hi8⟩, hbS⟩; clear hq0)
              | (go_at_call 38; refine (HHx _ _ _ (by first | exact hi8 | exact hi8.below hbE rfl | exact hi8.below hbC rfl | exact hi8.below hbJ rfl | exact (hi8.below hbE rfl).below hbC rfl | exact (hi8.below hbC rfl).below hbE rfl | exact (hi8.below hbE rfl).below hbJ rfl | exact (hi8.below hbJ rfl).below hbE rfl | exact (hi8.below hbC rfl).below hbJ rfl | exact (hi8.below hbJ rfl).below hbC rfl | exact ((hi8.below hbE rfl).below hbC rfl).below hbJ rfl | exact ((hi8.below hbE rfl).below hbJ rfl).below hbC rfl | exact ((hi8.below hbC rfl).below hbE rfl).below hbJ rfl | exact ((hi8.below hbC rfl).below hbJ rfl).below hbE rfl | exact ((hi8.below hbJ rfl).below hbE rfl).below hbC rfl | exact ((hi8.below hbJ rfl).below hbC rfl).below hbE rfl)).mono ?_; rintro e w9 ⟨rfl, hbH⟩)
              | (go_at_call 34; refine (HJd _ _ rfl).mono ?_; rintro e w10 ⟨rfl, hbD⟩))
          all_goals
            have hq9 := ‹Below _ _ _ ∧ _›
            go_wp2
            go_ret2
            exact ⟨rfl, T4.trans (hq9.1.mono T4.size)⟩
        · obtain ⟨e1, e2⟩ := HN3 (fun h => hq0 h.2)
          rw [e1, e2, show str [] = (⟨#[]⟩ : ByteArray) from rfl]
          have hz : (queryC q == 0) = false := by simpa using hq0
          clear HN3 HYE e1 e2 hd0 HJd HHx HSh HJo HCa HEn
          generalize queryC q = ce at *
          go_enter Tryz.func11, Tryz.ntmps11
          go_wp2_with (first | (go_at_call 30; refine HN.mono ?_; rintro e w1 ⟨rfl, rfl⟩) | (go_at_call 31; refine HLi.mono ?_; rintro e w2 ⟨rfl, hb2⟩; have K2 := K0.on hb2; have c1 : w2.cell? ⟨w.heap.size, 1, none⟩ = some (.string (str p)) := K2.cell 1) | (go_at_call 32; refine (HDe _).mono ?_; rintro e w3 ⟨rfl, hb3⟩; have K3 := K2.on hb3; have c2 : w3.cell? ⟨w.heap.size, 2, none⟩ = some (.string (str q)) := K3.cell 2) | (go_at_call 33; refine (HQu _).mono ?_; rintro e w4 ⟨⟨qa, qm, qc, rfl, hi4⟩, hb4⟩))
          go_ret2
          have T2 := T0.trans (hb2.mono T0.size)
          have T3 := T2.trans (hb3.mono T2.size)
          exact ⟨rfl, T3.trans (hb4.mono T3.size)⟩
      · obtain ⟨e1, e2⟩ := HN3 (fun h => hd0 h.1)
        rw [e1, e2, show str [] = (⟨#[]⟩ : ByteArray) from rfl]
        have hz : (decC p == 0) = false := by simpa using hd0
        clear HN3 HYE e1 e2 HJd HHx HSh HJo HCa HEn HQu
        generalize decC p = ce at *
        go_enter Tryz.func11, Tryz.ntmps11
        go_wp2_with (first | (go_at_call 30; refine HN.mono ?_; rintro e w1 ⟨rfl, rfl⟩) | (go_at_call 31; refine HLi.mono ?_; rintro e w2 ⟨rfl, hb2⟩; have K2 := K0.on hb2; have c1 : w2.cell? ⟨w.heap.size, 1, none⟩ = some (.string (str p)) := K2.cell 1) | (go_at_call 32; refine (HDe _).mono ?_; rintro e w3 ⟨rfl, hb3⟩))
        go_ret2
        have T2 := T0.trans (hb2.mono T0.size)
        exact ⟨rfl, T2.trans (hb3.mono T2.size)⟩
end Go.Proofs.YtgjmaeodgcigdaaGreatDoor
