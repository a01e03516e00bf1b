/- What UriSorts answers. -/
import Derived.Test.YtabhifhmhojpbabSort4
import Derived.Test.YtabhifhmhojpbabLight4
import Derived.Test.YtabhifhmhojpbabAlive4
import Derived.Test.YtabhifhmhojpbabCodQuery
import Derived.Test.YtabhifhmhojpbabCodCanon
import Derived.BigQuiet
import Derived.BigRegion
namespace Go.Proofs.Ytabhifhmhojpbab
open Go.RowKit

theorem rem_nat (a : Int) (L : Nat) (h : 0 < L) : -(L : Int) < a.tmod (L : Int) ∧ a.tmod (L : Int) < (L : Int) := by
  constructor
  · exact Int.lt_tmod_of_pos a (by omega)
  · exact Int.tmod_lt_of_pos a (by omega)

theorem OwnP.some1 {e : TypeId} {w : World} {N g cap n : Nat} {l : List Pr} (h : OwnP e w N (.slice (some ⟨g, 0, none⟩) n cap) l) (hn : l.length = n) (i : Nat) (u : Value) (j : Nat) (hj : j < n * 2) : ∃ V, (w.setCell ⟨g, i, none⟩ u).cell? ⟨g, j, none⟩ = some V := by
  subst hn
  have h1 := (World.ownsRow.stored h i u).1
  rw [h1.cellAt j hj]
  exact ⟨_, List.getElem?_eq_getElem (by rw [List.length_set, pcs_length]; exact hj)⟩
theorem OwnP.some2 {e : TypeId} {w : World} {N g cap n : Nat} {l : List Pr} (h : OwnP e w N (.slice (some ⟨g, 0, none⟩) n cap) l) (hn : l.length = n) (i : Nat) (u : Value) (i' : Nat) (u' : Value) (j : Nat) (hj : j < n * 2) : ∃ V, ((w.setCell ⟨g, i, none⟩ u).setCell ⟨g, i', none⟩ u').cell? ⟨g, j, none⟩ = some V := by
  subst hn
  have h1 := (World.ownsRow.stored (World.ownsRow.stored h i u).1 i' u').1
  rw [h1.cellAt j hj]
  exact ⟨_, List.getElem?_eq_getElem (by rw [List.length_set, List.length_set, pcs_length]; exact hj)⟩

set_option maxRecDepth 20000 in
set_option maxHeartbeats 4000000 in
theorem sortWalk (a0 : ByteArray) (a1 a2 : Int) (w : World) (w0 : a0.size ≤ maxLen) :
    Calls Try.prog 3 #[.string a0, .int .i64 a1, .int .i64 a2] w fun e w' => e = .returned (.bool true) ∧ Below w.heap.size w w' := by
  have HL := light1 a0 w (by unfold maxLen at w0; omega)
  have T1 := lightW_bel a0 w
  by_cases hl : a0.size ≤ 20000
  · rw [decide_eq_true hl] at HL
    have lz : a0.data.toList.length = a0.size := by rw [Array.length_toList]; rfl
    have HQ := fun w => codQuery a0.data.toList w (by omega)
    rw [str_of] at HQ
    generalize lightW a0 w = x1 at *
    generalize hl0 : a0.data.toList = l0 at *
    clear hl0 w0
    cases hq : queryL l0 with
    | none =>
      obtain ⟨e1, e2⟩ := query_none hq
      unfold QOut at HQ
      rw [e2] at HQ
      clear hq e1 e2 lz hl
      go_enter Try.func3, Try.ntmps3
      go_wp2_with fail
      refine HL.mono ?_
      rintro e w1 ⟨rfl, hw⟩
      rw [hw]; clear hw HL w1
      go_wp2_with fail
      refine (HQ x1).mono ?_
      rintro e x2 ⟨⟨a, n, cap, rfl, hP⟩, c2⟩
      have T2 := T1.trans (c2.mono T1.size)
      clear c2 hP
      go_wp2_with fail
      refine (lawAlive x2).mono ?_
      rintro e x3 ⟨rfl, c3⟩
      go_wp2_with fail
      go_ret
      exact ⟨rfl, T2.trans (c3.mono T2.size)⟩
    | some l =>
      obtain ⟨e1, e2⟩ := query_some hq
      obtain ⟨hgood, h24⟩ := query_good hq
      have hlen := query_len hq
      unfold QOut at HQ
      rw [e1, e2] at HQ
      have HG : Hid (GoodP l) := hgood
      have HZ : Hid (∀ q ∈ l, q.1.length ≤ 20000 ∧ q.2.length ≤ 20000) := fun q hq => by have := hlen q hq; omega
      clear hq e1 e2 lz hl hgood hlen
      by_cases h0 : l.length = 0
      · go_enter Try.func3, Try.ntmps3
        go_wp2_with fail
        refine HL.mono ?_
        rintro e w1 ⟨rfl, hw⟩
        rw [hw]; clear hw HL w1
        go_wp2_with fail
        refine (HQ x1).mono ?_
        rintro e x2 ⟨⟨a, n, cap, rfl, hP⟩, c2⟩
        have T2 := T1.trans (c2.mono T1.size)
        have hn : n = 0 := by rw [← hP.len_eq]; exact h0
        subst hn
        clear c2 hP h0
        go_wp2_with fail
        refine (lawAlive x2).mono ?_
        rintro e x3 ⟨rfl, c3⟩
        go_wp2_with fail
        go_ret
        exact ⟨rfl, T2.trans (c3.mono T2.size)⟩
      · go_enter Try.func3, Try.ntmps3
        go_wp2_with fail
        refine HL.mono ?_
        rintro e w1 ⟨rfl, hw⟩
        rw [hw]; clear hw HL w1
        go_wp2_with fail
        refine (HQ x1).mono ?_
        rintro e x2 ⟨⟨a, n, cap, rfl, hP⟩, c2⟩
        have T2 := T1.trans (c2.mono T1.size)
        have HN : Hid (l.length = n) := hP.len_eq
        have hn0 : 0 < n := by have := hP.len_eq; omega
        have hn24 : n ≤ 24 := by rw [← hP.len_eq]; exact h24
        have HP2 : Hid (IsP x2 a n cap l) := hP
        have hnz : ¬ (n : Int) = 0 := by omega
        clear c2 hP h0 h24 T1 HQ
        have OE := OwnP.empty 29 x2 x2.heap.size (Nat.le_refl _)
        have PV : IsPV (x2.alloc (.cells #[] 29)) (.slice a n cap) l := ⟨a, cap, by rw [HN.out], by rw [HN.out]; exact HP2.out.below ((Below.refl _ _).alloc (Nat.le_refl _) _) rfl⟩
        go_upto_region 7 with (at_builtin; refine list_appV 24 29 Try.underlying24 infoUQ _ rfl _ _ rfl x2.heap.size _ [] rfl OE _ l rfl PV (by rw [HN.out]; simp; omega) (by simp) ?_; intro v3 x3 hown3 hgrow3)
        have hown3 : OwnP 29 x3 x2.heap.size v3 l := hown3
        have c3 : Below x2.heap.size x2 x3 := ((Below.refl _ x2).alloc (Nat.le_refl _) _).grown hgrow3 (by simp) (fun j hj => (OE.blk j hj).1)
        obtain ⟨g, cap3, hv3, hg1, hg2⟩ := World.ownsRow.form hown3 (by rw [HN.out]; exact hn0)
        rw [HN.out] at hv3
        subst hv3
        have HO3 : Hid (OwnP 29 x3 x2.heap.size (.slice (some ⟨g, 0, none⟩) n cap3) l) := hown3
        have HT2 : Hid (Below w.heap.size w x2) := T2
        clear OE PV hgrow3 hown3 T2
        obtain ⟨r11, r12⟩ := rem_nat a1 n hn0
        obtain ⟨r21, r22⟩ := rem_nat a2 n hn0
        generalize hr1 : a1.tmod (n : Int) = r1 at *
        generalize hr2 : a2.tmod (n : Int) = r2 at *
        go_quiet (fail)
        clear hr1 hr2
        have c4 : Below x2.heap.size x2 (x3.drewN nq) := bel_drewN c3 nq
        have HO4 : Hid (OwnP 29 (x3.drewN nq) x2.heap.size (.slice (some ⟨g, 0, none⟩) n cap3) l) := HO3.out.heap rfl
        have hg4 : g < (x3.drewN nq).heap.size := hg2
        clear c3 HO3 hg2
        generalize x3.drewN nq = x4 at *
        go_upto_if 48 with fail
        go_cut [10] from 48 (fun v10 wx => ∃ iN : Nat, iN < n ∧ v10 = .int .i64 (iN : Int) ∧ wx = x4)
        case first =>
          by_cases h1 : r1 < 0
          · go_wp2
            go_meet
            case rel => exact ⟨(r1 + n).toNat, by omega, by rw [Int.toNat_of_nonneg (by omega)], by first | rfl | trivial⟩
          · have h1' : 0 ≤ r1 := by omega
            go_wp2
            go_meet
            case rel => exact ⟨r1.toNat, by omega, by rw [Int.toNat_of_nonneg h1'], by first | rfl | trivial⟩
        case rest =>
          obtain ⟨iN, hiN, rfl, rfl⟩ := hcut
          go_upto_if 54 with fail
          go_cut [11] from 54 (fun v11 wx => ∃ kN : Nat, kN < n ∧ v11 = .int .i64 (kN : Int) ∧ wx = wc)
          case first =>
            by_cases h1 : r2 < 0
            · go_wp2
              go_meet
              case rel => exact ⟨(r2 + n).toNat, by omega, by rw [Int.toNat_of_nonneg (by omega)], by first | rfl | trivial⟩
            · have h1' : 0 ≤ r2 := by omega
              go_wp2
              go_meet
              case rel => exact ⟨r2.toNat, by omega, by rw [Int.toNat_of_nonneg h1'], by first | rfl | trivial⟩
          case rest =>
            obtain ⟨kN, hkN, rfl, rfl⟩ := hcut
            go_upto_region 12 with fail
            have hi0 : (0 : Int) ≤ (iN : Int) := by omega
            have hi1 : (iN : Int) < (n : Int) := by omega
            have hk0 : (0 : Int) ≤ (kN : Int) := by omega
            have hk1 : (kN : Int) < (n : Int) := by omega
            obtain ⟨p1, p2⟩ := HO4.out.cellAt HN.out iN hiN
            obtain ⟨q1, q2⟩ := HO4.out.cellAt HN.out kN hkN
            have f1 := HO4.out.frozenAt HN.out (iN * 2)
            have f2 := HO4.out.frozenAt HN.out (iN * 2 + 1)
            have f3 := HO4.out.frozenAt HN.out (kN * 2)
            have f4 := HO4.out.frozenAt HN.out (kN * 2 + 1)
            have HOx : Hid (OwnP 29 ((((wc.setCell ⟨g, iN * 2, none⟩ (.string (str (nthP l kN).1))).setCell ⟨g, iN * 2 + 1, none⟩ (.string (str (nthP l kN).2))).setCell ⟨g, kN * 2, none⟩ (.string (str (nthP l iN).1))).setCell ⟨g, kN * 2 + 1, none⟩ (.string (str (nthP l iN).2))) x2.heap.size (.slice (some ⟨g, 0, none⟩) n cap3) (swpL l iN kN)) := (HO4.out.set HN.out iN (nthP l kN)).set (by rw [List.length_set]; exact HN.out) kN (nthP l iN)
            have c5 : Below x2.heap.size x2 ((((wc.setCell ⟨g, iN * 2, none⟩ (.string (str (nthP l kN).1))).setCell ⟨g, iN * 2 + 1, none⟩ (.string (str (nthP l kN).2))).setCell ⟨g, kN * 2, none⟩ (.string (str (nthP l iN).1))).setCell ⟨g, kN * 2 + 1, none⟩ (.string (str (nthP l iN).2))) := (((c4.setCell (p := ⟨g, iN * 2, none⟩) hg1 _).setCell (p := ⟨g, iN * 2 + 1, none⟩) hg1 _).setCell (p := ⟨g, kN * 2, none⟩) hg1 _).setCell (p := ⟨g, kN * 2 + 1, none⟩) hg1 _
            have HC5 : Hid (Below x2.heap.size x2 _) := c5
            obtain ⟨V1, z1⟩ := OwnP.some1 HO4.out HN.out (iN * 2) (.string (str (nthP l kN).1)) (kN * 2) (by omega)
            obtain ⟨V2, z2⟩ := OwnP.some2 HO4.out HN.out (iN * 2) (.string (str (nthP l kN).1)) (iN * 2 + 1) (.string (str (nthP l kN).2)) (kN * 2) (by omega)
            obtain ⟨V3, z3⟩ := OwnP.some2 HO4.out HN.out (iN * 2) (.string (str (nthP l kN).1)) (iN * 2 + 1) (.string (str (nthP l kN).2)) (kN * 2 + 1) (by omega)
            obtain ⟨V4, z4⟩ := OwnP.some1 HO4.out HN.out (iN * 2 + 1) (.string (str (nthP l kN).2)) (kN * 2 + 1) (by omega)
            clear c5 c4
            generalize str (nthP l kN).1 = t1 at *
            generalize str (nthP l kN).2 = t2 at *
            generalize str (nthP l iN).1 = s1 at *
            generalize str (nthP l iN).2 = s2 at *
            go_region
            have HOy : Hid (OwnP 29 ((((wc.setCell ⟨g, iN * 2, none⟩ (.string t1)).setCell ⟨g, iN * 2 + 1, none⟩ (.string t2)).setCell ⟨g, kN * 2, none⟩ (.string s1)).setCell ⟨g, kN * 2 + 1, none⟩ (.string s2)).drew x2.heap.size (.slice (some ⟨g, 0, none⟩) n cap3) (swpL l iN kN)) := HOx.out.heap rfl
            have HCy : Hid (Below x2.heap.size x2 ((((wc.setCell ⟨g, iN * 2, none⟩ (.string t1)).setCell ⟨g, iN * 2 + 1, none⟩ (.string t2)).setCell ⟨g, kN * 2, none⟩ (.string s1)).setCell ⟨g, kN * 2 + 1, none⟩ (.string s2)).drew) := HC5.out.drew
            clear HOx HC5 HO4 z1 z2 z3 z4 p1 p2 q1 q2 f1 f2 f3 f4 hi0 hi1 hk0 hk1 r11 r12 r21 r22 hg4
            generalize ((((wc.setCell ⟨g, iN * 2, none⟩ (.string t1)).setCell ⟨g, iN * 2 + 1, none⟩ (.string t2)).setCell ⟨g, kN * 2, none⟩ (.string s1)).setCell ⟨g, kN * 2 + 1, none⟩ (.string s2)).drew = y at *
            have T4 : Below w.heap.size w y := HT2.out.trans (HCy.out.mono HT2.out.size)
            have HP4 : Hid (IsP y a n cap l) := HP2.out.below HCy.out rfl
            have HM4 : Hid (IsP y (some ⟨g, 0, none⟩) n cap3 (swpL l iN kN)) := by
              have hsl : (swpL l iN kN).length = n := by unfold swpL; rw [List.length_set, List.length_set]; exact HN.out
              obtain ⟨a', cap', e, hp⟩ := HOy.out.isP
              rw [hsl] at e hp
              cases e
              exact hp
            have hsp : (swpL l iN kN).Perm l := swpL_perm l iN kN (by rw [HN.out]; exact hiN) (by rw [HN.out]; exact hkN)
            have HSZ : Hid (∀ q ∈ swpL l iN kN, q.1.length ≤ 20000 ∧ q.2.length ≤ 20000) := fun q hq => HZ.out q (hsp.mem_iff.1 hq)
            have HSC : Hid (canonL (swpL l iN kN) = canonL l) := canonL_perm hsp
            obtain ⟨m, hmp, hmq⟩ := query_canon l HG.out (by rw [HN.out]; exact hn0) (by rw [HN.out]; exact hn24)
            obtain ⟨e1, e2⟩ := query_some hmq
            have HMZ : Hid (∀ q ∈ m, q.1.length ≤ 20000 ∧ q.2.length ≤ 20000) := fun q hq => HZ.out q (hmp.mem_iff.1 hq)
            have HMC : Hid (canonL m = canonL l) := canonL_perm hmp
            have HMN : Hid (m.length = n) := by unfold Hid; rw [hmp.length_eq]; exact HN.out
            have HMF : Hid (∀ j, j < n → findL m (nthP l j).1 = some (nthP l j).2) := fun j hj => by
              have hmem : nthP l j ∈ m := by
                rw [hmp.mem_iff, nthP_eq l j (by rw [HN.out]; exact hj)]
                exact List.getElem_mem _
              exact find_mem m (HG.out.perm hmp).apart _ hmem
            have hcl : (canonL l).length ≤ 40000000000000 := by
              have hs : (sortL l).length = n := by rw [sortL_length]; exact HN.out
              have := joinK_length (sortL l) n (fun i hi => by
                rw [nthP_eq _ _ (by rw [hs]; exact hi)]
                have hm := (sortL_perm l).mem_iff.1 (List.getElem_mem (l := sortL l) (n := i) (by rw [hs]; exact hi))
                obtain ⟨p, hp, e⟩ := List.mem_map.1 hm
                have hz := HZ.out p hp
                rw [← e]
                have h1 := encL_length false p.1
                have h2 := encL_length false p.2
                exact ⟨by show (encL false p.1).length ≤ 60000; omega, by show (encL false p.2).length ≤ 60000; omega⟩) n (Nat.le_refl _)
              unfold canonL joinL; rw [hs]; omega
            have HQ2 := fun w => codQuery (canonL l) w hcl
            unfold QOut at HQ2
            rw [e1, e2] at HQ2
            clear hsp hmp hmq e1 e2 hcl HOy HCy HP2 HG
            go_wp2_with fail
            refine (codCanon a n cap l y HP4.out (by omega) HZ.out).mono ?_
            rintro e y1 ⟨rfl, c1⟩
            have T5 := T4.trans (c1.mono T4.size)
            have HP5 : Hid (IsP y1 a n cap l) := HP4.out.below c1 rfl
            have HM5 : Hid (IsP y1 (some ⟨g, 0, none⟩) n cap3 (swpL l iN kN)) := HM4.out.below c1 rfl
            clear c1 T4 HP4 HM4
            go_wp2_with fail
            refine (HQ2 y1).mono ?_
            rintro e y2 ⟨⟨a', n', cap', rfl, hR⟩, c2⟩
            have hn' : n' = n := by rw [← hR.len_eq]; exact HMN.out
            subst hn'
            have T6 := T5.trans (c2.mono T5.size)
            have HP6 : Hid (IsP y2 a n' cap l) := HP5.out.below c2 rfl
            have HM6 : Hid (IsP y2 (some ⟨g, 0, none⟩) n' cap3 (swpL l iN kN)) := HM5.out.below c2 rfl
            have HR6 : Hid (IsP y2 a' n' cap' m) := hR
            clear c2 T5 HP5 HM5 hR HQ2
            have K1 := codCanon (some ⟨g, 0, none⟩) n' cap3 (swpL l iN kN) y2 HM6.out (by omega) HSZ.out
            rw [HSC.out] at K1
            have K2 := fun w (h : IsP w a' n' cap' m) => codCanon a' n' cap' m w h (by omega) HMZ.out
            rw [HMC.out] at K2
            generalize str (canonL l) = cs at *
            go_wp2_with fail
            refine K1.mono ?_
            rintro e y3 ⟨rfl, c3⟩
            have T7 := T6.trans (c3.mono T6.size)
            have HP7 : Hid (IsP y3 a n' cap l) := HP6.out.below c3 rfl
            have HR7 : Hid (IsP y3 a' n' cap' m) := HR6.out.below c3 rfl
            clear c3 T6 HP6 HM6 HR6 K1
            go_wp2_with fail
            refine (K2 y3 HR7.out).mono ?_
            rintro e y4 ⟨rfl, c4⟩
            have T8 := T7.trans (c4.mono T7.size)
            have HP8 : Hid (IsP y4 a n' cap l) := HP7.out.below c4 rfl
            have HR8 : Hid (IsP y4 a' n' cap' m) := HR7.out.below c4 rfl
            clear c4 T7 HP7 HR7 K2 HSZ HSC HMZ HMC
            go_wp2_with fail
            go_loopw [15] (fun i wr => ∃ (j : Nat), j ≤ n' ∧ i = .int .i64 (j : Int) ∧ Below y4.heap.size y4 wr) (fun i _ => n' - (intOf i).toNat)
            case atStart => exact ⟨0, Nat.zero_le _, rfl, Below.refl _ _⟩
            case round =>
              obtain ⟨j, hj, rfl, hbel⟩ := hrel
              have HP9 : Hid (IsP wr a n' cap l) := HP8.out.below hbel rfl
              have HR9 : Hid (IsP wr a' n' cap' m) := HR8.out.below hbel rfl
              by_cases hlt : j < n'
              · obtain ⟨b, off, rfl, hc⟩ := HP9.out.cells (by omega)
                obtain ⟨d1, d2⟩ := hc j hlt
                have gb : b < wr.heap.size := cell_lt d1
                have hb0 : (0 : Int) ≤ (j : Int) := by omega
                have hb1 : (j : Int) < (n' : Int) := by omega
                have HF := codFind a' n' cap' m (nthP l j).1 wr HR9.out
                rw [HMF.out j hlt] at HF
                change Calls _ _ _ _ fun e w' => e = .returned (.tuple #[.string (str (nthP l j).2), .bool true]) ∧ _ at HF
                have D2 := fun w' (hb : Below wr.heap.size wr w') => (hb.cell (p := ⟨b, off + j * 2 + 1, none⟩) gb).trans d2
                clear hc HP8 HR8 HP9 HR9
                generalize str (nthP l j).1 = t1 at *
                generalize str (nthP l j).2 = t2 at *
                go_wp2_with (go_at_call 8; refine HF.mono ?_; rintro e y5 ⟨rfl, c5⟩; have d3 := D2 y5 c5)
                go_roundw
                case rel => exact ⟨j + 1, by omega, by go_num, hbel.trans (c5.mono hbel.size)⟩
                case measure => simp [intOf]; omega
              · have hge : ¬ (j : Int) < (n' : Int) := by omega
                go_wp2_with (go_at_call 5; refine (lawAlive _).mono ?_; rintro e y6 ⟨rfl, c6⟩)
                go_ret
                have T9 := T8.trans (hbel.mono T8.size)
                exact ⟨rfl, T9.trans (c6.mono T9.size)⟩
  · rw [decide_eq_false hl] at HL
    clear hl w0
    generalize lightW a0 w = x1 at *
    go_enter Try.func3, Try.ntmps3
    go_wp2_with fail
    refine HL.mono ?_
    rintro e w1 ⟨rfl, hw⟩
    rw [hw]; clear hw HL w1
    go_wp2_with fail
    refine (lawAlive x1).mono ?_
    rintro e x2 ⟨rfl, c2⟩
    have T2 := T1.trans (c2.mono T1.size)
    go_wp2_with fail
    go_ret
    exact ⟨rfl, T2⟩
end Go.Proofs.Ytabhifhmhojpbab
