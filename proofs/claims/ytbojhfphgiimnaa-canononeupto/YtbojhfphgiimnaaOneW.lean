/- The walk of CanonOne. -/
import Derived.Test.YtbojhfphgiimnaaPartU
import Derived.Deep.RegionHeld3
namespace Go.Proofs.Ytbojhfphgiimnaa
open Go.RowKit
attribute [local go_sem ↓] Go.wp_at_zero Go.wp_at_succ

theorem sameTo'_mono (ps qs : List Pt) (j n : Nat) (h : j ≤ n) (hf : sameTo' ps qs j = false) : sameTo' ps qs n = false := by
  unfold sameTo' at *
  rw [decide_eq_false_iff_not] at *
  exact fun hn => hf fun i hi => hn i (by omega)

set_option maxRecDepth 20000 in
set_option maxHeartbeats 1000000 in
theorem oneWalk (a0 : Option Addr) (len0 cap0 : Nat) (ps : List Pt) (a1 : Option Addr) (len1 cap1 : Nat) (qs : List Pt) (w : World) (h : IsPs w a0 len0 cap0 ps) (hok : Pts.ok ps) (h' : IsPs w a1 len1 cap1 qs) (hok' : Pts.ok qs) :
    Calls Try.prog 7 #[.slice a0 len0 cap0, .slice a1 len1 cap1] w fun e w' => e = .returned (.bool true) ∧ Below w.heap.size w w' := by
  have H : Hid (IsPs w a0 len0 cap0 ps) := h
  have HE : Hid (ps.length = len0) := h.len_eq
  have HO : Hid (Pts.ok ps) := hok
  have H' : Hid (IsPs w a1 len1 cap1 qs) := h'
  have HE' : Hid (qs.length = len1) := h'.len_eq
  have HO' : Hid (Pts.ok qs) := hok'
  have hle := h.le
  have hmx := h.max
  have hle' := h'.le
  have hmx' := h'.max
  unfold maxLen at hmx hmx'
  clear h hok h' hok'
  by_cases h2 : 200 < len0
  · have h2' : (200 : Int) < (len0 : Int) := by omega
    go_enter Try.func7, Try.ntmps7
    go_wp2_with fail
    refine (alive w).mono ?_
    rintro e w1 ⟨rfl, hb⟩
    go_wp2_with fail
    go_ret
    exact ⟨rfl, hb⟩
  by_cases h3 : 200 < len1
  · have h2' : ¬ (200 : Int) < (len0 : Int) := by omega
    have h3' : (200 : Int) < (len1 : Int) := by omega
    go_enter Try.func7, Try.ntmps7
    go_wp2_with fail
    refine (alive w).mono ?_
    rintro e w1 ⟨rfl, hb⟩
    go_wp2_with fail
    go_ret
    exact ⟨rfl, hb⟩
  have h2' : ¬ (200 : Int) < (len0 : Int) := by omega
  have h3' : ¬ (200 : Int) < (len1 : Int) := by omega
  go_enter Try.func7, Try.ntmps7
  go_wp2_with fail
  go_loopw [5, 7] (fun v i wx => ∃ j : Nat, j ≤ len0 ∧ i = .int .i64 (j : Int) ∧ Hid (OwnB wx w.heap.size v (wrP ps j)) ∧ Below w.heap.size w wx) (fun _ i _ => len0 - (intOf i).toNat)
  case atStart => exact ⟨0, by omega, rfl, OwnB.nil _ _, Below.refl _ _⟩
  case round =>
    obtain ⟨j, hj, rfl, hown, hbel⟩ := hrel
    by_cases hjl : j < len0
    · obtain ⟨b, off, rfl, hc⟩ := (H.out.below hbel).cells (by omega)
      obtain ⟨ai, ci, g0, g1, g2, hi⟩ := hc j hjl
      have hjl' : (j : Int) < (len0 : Int) := by omega
      have HW : Hid (wrP ps (j + 1) = putL (wrP ps j) (kindP (nthP ps j))) := wrP_succ ps j (by rw [HE.out]; exact hjl)
      have hpo := HO.out j (by rw [HE.out]; exact hjl)
      have hwl := wrP_le ps j HO.out (by omega)
      obtain ⟨x3, c3, rfl, i3⟩ := hown.out.isB
      have I3 : Hid (IsB wr x3 (wrP ps j).length c3 (wrP ps j)) := i3
      clear hown i3
      have HP : Hid (IsPt wr (.agg (pcell (nthP ps j).k (nthP ps j).n ai (nthP ps j).b.length ci).toArray) (nthP ps j)) := ⟨ai, ci, rfl, hi⟩
      clear hc hi
      go_wp2_with fail
      refine (lKind _ _ wr HP.out).mono ?_
      rintro e y1 ⟨v1, rfl, hp1, c1⟩
      have I4 : Hid (IsB y1 x3 (wrP ps j).length c3 (wrP ps j)) := I3.out.below c1 rfl
      have HP1 : Hid (IsPt y1 v1 (kindP (nthP ps j))) := hp1
      have t1 : Below w.heap.size w y1 := hbel.trans (c1.mono hbel.size)
      clear hp1 I3 HP
      generalize (wrP ps j).length = m3 at *
      go_wp2_with fail
      refine (lPut x3 m3 c3 (wrP ps j) v1 _ y1 I4.out HP1.out hwl (by rw [kindP_b]; omega) (by rw [kindP_n]; exact hpo.1)).mono ?_
      rintro e y2 ⟨r, rfl, ho, c2⟩
      have ho' : Hid (OwnB y2 w.heap.size r (wrP ps (j + 1))) := by rw [HW.out]; exact ho.base t1.size
      have t2 : Below w.heap.size w y2 := t1.trans (c2.mono t1.size)
      clear ho HW
      go_wp2_with fail
      go_roundw
      case rel => exact ⟨j + 1, by omega, by go_num, ho', t2⟩
      case measure => simp [intOf]; omega
    · have HW : Hid (wrP ps j = encA (ps.map kindP)) := wrP_all ps j (by rw [HE.out]; omega)
      have VA : Hid (IsV wr u5 (encA (ps.map kindP))) := by rw [← HW.out]; exact hown.out.isV
      have hjl' : ¬ ((j : Int) < (len0 : Int)) := by omega
      clear hown HW
      generalize u5 = va at *
      generalize wr = z1 at *
      go_wp2_with fail
      clear hjl'
      go_loopw [6, 8] (fun v i wx => ∃ k : Nat, k ≤ len1 ∧ i = .int .i64 (k : Int) ∧ Hid (OwnB wx z1.heap.size v (wrP qs k)) ∧ Below z1.heap.size z1 wx) (fun _ i _ => len1 - (intOf i).toNat)
      case atStart => exact ⟨0, by omega, rfl, OwnB.nil _ _, Below.refl _ _⟩
      case round =>
        obtain ⟨k, hk, rfl, hown, hb2⟩ := hrel
        have hbelk : Below w.heap.size w wr := hbel.trans (hb2.mono hbel.size)
        by_cases hkl : k < len1
        · obtain ⟨b, off, rfl, hc⟩ := (H'.out.below hbelk).cells (by omega)
          obtain ⟨ai, ci, g0, g1, g2, hi⟩ := hc k hkl
          have hkl' : (k : Int) < (len1 : Int) := by omega
          have HW : Hid (wrP qs (k + 1) = putL (wrP qs k) (kindP (nthP qs k))) := wrP_succ qs k (by rw [HE'.out]; exact hkl)
          have hpo := HO'.out k (by rw [HE'.out]; exact hkl)
          have hwl := wrP_le qs k HO'.out (by omega)
          obtain ⟨x3, c3, rfl, i3⟩ := hown.out.isB
          have I3 : Hid (IsB wr x3 (wrP qs k).length c3 (wrP qs k)) := i3
          clear hown i3
          have HP : Hid (IsPt wr (.agg (pcell (nthP qs k).k (nthP qs k).n ai (nthP qs k).b.length ci).toArray) (nthP qs k)) := ⟨ai, ci, rfl, hi⟩
          clear hc hi
          go_wp2_with fail
          refine (lKind _ _ wr HP.out).mono ?_
          rintro e y1 ⟨v1, rfl, hp1, c1⟩
          have I4 : Hid (IsB y1 x3 (wrP qs k).length c3 (wrP qs k)) := I3.out.below c1 rfl
          have HP1 : Hid (IsPt y1 v1 (kindP (nthP qs k))) := hp1
          have t1 : Below z1.heap.size z1 y1 := hb2.trans (c1.mono hb2.size)
          clear hp1 I3 HP
          generalize (wrP qs k).length = m3 at *
          go_wp2_with fail
          refine (lPut x3 m3 c3 (wrP qs k) v1 _ y1 I4.out HP1.out hwl (by rw [kindP_b]; omega) (by rw [kindP_n]; exact hpo.1)).mono ?_
          rintro e y2 ⟨r, rfl, ho, c2⟩
          have ho' : Hid (OwnB y2 z1.heap.size r (wrP qs (k + 1))) := by rw [HW.out]; exact ho.base t1.size
          have t2 : Below z1.heap.size z1 y2 := t1.trans (c2.mono t1.size)
          clear ho HW
          go_wp2_with fail
          go_roundw
          case rel => exact ⟨k + 1, by omega, by go_num, ho', t2⟩
          case measure => simp [intOf]; omega
        · have HW : Hid (wrP qs k = encA (qs.map kindP)) := wrP_all qs k (by rw [HE'.out]; omega)
          have VB : Hid (IsV wr u6 (encA (qs.map kindP))) := by rw [← HW.out]; exact hown.out.isV
          have VA2 : Hid (IsV wr va (encA (ps.map kindP))) := VA.out.below hb2 rfl
          have hkl' : ¬ ((k : Int) < (len1 : Int)) := by omega
          clear hown HW VA hb2 hbel
          generalize u6 = vb at *
          generalize wr = z2 at *
          have hdec : ((len0 : Int) == (len1 : Int)) = decide (len0 = len1) := eqN len0 len1
          go_wp2_with fail
          clear hkl' hdec
          go_loopw [9, 10] (fun v i wx => ∃ (n : Nat) (t : Bool), n ≤ len0 ∧ i = .int .i64 (n : Int) ∧ v = .bool t ∧ Hid (t = (decide (len0 = len1) && sameTo' ps qs n)) ∧ Below z2.heap.size z2 wx) (fun _ i _ => len0 - (intOf i).toNat)
          case atStart => exact ⟨0, decide (len0 = len1), by omega, rfl, by simp, by unfold Hid; rw [sameTo'_zero, Bool.and_true], Below.refl _ _⟩
          case round =>
            obtain ⟨n, t, hn, rfl, rfl, ht, hb3⟩ := hrel
            have hbel3 : Below w.heap.size w wr := hbelk.trans (hb3.mono hbelk.size)
            cases t
            · have EQ : Hid (eqB (encA (ps.map kindP)) (encA (qs.map kindP)) = false) := by
                unfold Hid
                rw [eqB_parts ps qs HO.out HO'.out, HE.out, HE'.out]
                have := ht.out
                cases hd : decide (len0 = len1)
                · rfl
                · rw [hd, Bool.true_and] at this
                  rw [Bool.true_and]
                  exact sameTo'_mono ps qs n len0 hn this.symm
              clear ht
              by_cases hnl : n < len0
              · have hnl' : (n : Int) < (len0 : Int) := by omega
                have VA3 : Hid (IsV wr va (encA (ps.map kindP))) := VA2.out.below hb3 rfl
                have VB3 : Hid (IsV wr vb (encA (qs.map kindP))) := VB.out.below hb3 rfl
                obtain ⟨p1, c1, rfl, i1⟩ := VA3.out
                obtain ⟨p2, c2, rfl, i2⟩ := VB3.out
                have I1 : Hid (IsB wr p1 (encA (ps.map kindP)).length c1 (encA (ps.map kindP))) := i1
                have I2 : Hid (IsB wr p2 (encA (qs.map kindP)).length c2 (encA (qs.map kindP))) := i2
                clear i1 i2 VA3 VB3 VA2 VB
                generalize (encA (ps.map kindP)).length = m1 at *
                generalize (encA (qs.map kindP)).length = m2 at *
                go_wp2_with fail
                refine (refSame _ _ _ _ _ _ _ _ wr I1.out I2.out).mono ?_
                rintro e y1 ⟨rfl, kk, hw⟩
                rw [EQ.out]
                have T1 : Below w.heap.size w y1 := by rw [hw]; exact bel_drewN hbel3 kk
                clear hw I1 I2
                go_wp2_with fail
                refine (alive y1).mono ?_
                rintro e y2 ⟨rfl, b2⟩
                go_wp2_with fail
                go_ret
                exact ⟨rfl, T1.trans (b2.mono T1.size)⟩
              · have hnl' : ¬ (n : Int) < (len0 : Int) := by omega
                have VA3 : Hid (IsV wr va (encA (ps.map kindP))) := VA2.out.below hb3 rfl
                have VB3 : Hid (IsV wr vb (encA (qs.map kindP))) := VB.out.below hb3 rfl
                obtain ⟨p1, c1, rfl, i1⟩ := VA3.out
                obtain ⟨p2, c2, rfl, i2⟩ := VB3.out
                have I1 : Hid (IsB wr p1 (encA (ps.map kindP)).length c1 (encA (ps.map kindP))) := i1
                have I2 : Hid (IsB wr p2 (encA (qs.map kindP)).length c2 (encA (qs.map kindP))) := i2
                clear i1 i2 VA3 VB3 VA2 VB
                generalize (encA (ps.map kindP)).length = m1 at *
                generalize (encA (qs.map kindP)).length = m2 at *
                go_wp2_with fail
                refine (refSame _ _ _ _ _ _ _ _ wr I1.out I2.out).mono ?_
                rintro e y1 ⟨rfl, kk, hw⟩
                rw [EQ.out]
                have T1 : Below w.heap.size w y1 := by rw [hw]; exact bel_drewN hbel3 kk
                clear hw I1 I2
                go_wp2_with fail
                refine (alive y1).mono ?_
                rintro e y2 ⟨rfl, b2⟩
                go_wp2_with fail
                go_ret
                exact ⟨rfl, T1.trans (b2.mono T1.size)⟩
            · by_cases hnl : n < len0
              · have hle01 : len0 = len1 := by
                  have := ht.out
                  rw [eq_comm, Bool.and_eq_true, decide_eq_true_eq] at this
                  exact this.1
                have hs0 : Hid (sameTo' ps qs n = true) := by
                  have := ht.out
                  rw [eq_comm, Bool.and_eq_true] at this
                  exact this.2
                have hnl' : (n : Int) < (len0 : Int) := by omega
                have hnl1 : (n : Int) < (len1 : Int) := by omega
                obtain ⟨b0, o0, rfl, hc0⟩ := (H.out.below hbel3).cells (by omega)
                obtain ⟨ai, ci, g0, g1, g2, hi⟩ := hc0 n hnl
                obtain ⟨b1, o1, rfl, hc1⟩ := (H'.out.below hbel3).cells (by omega)
                obtain ⟨aj, cj, k0, k1, k2, hi1⟩ := hc1 n (by omega)
                have X1 : Hid (IsPt wr (.agg (pcell (nthP ps n).k (nthP ps n).n ai (nthP ps n).b.length ci).toArray) (nthP ps n)) := ⟨ai, ci, rfl, hi⟩
                have X2 : Hid (IsPt wr (.agg (pcell (nthP qs n).k (nthP qs n).n aj (nthP qs n).b.length cj).toArray) (nthP qs n)) := ⟨aj, cj, rfl, hi1⟩
                have hpo := HO.out n (by rw [HE.out]; exact hnl)
                have hqo := HO'.out n (by rw [HE'.out]; omega)
                have l0 := cell_lt g0
                have l1 := cell_lt k0
                have HL01 : Hid (len0 = len1) := hle01
                clear hc0 hc1 hi hi1 ht hle01
                go_wp2_with fail
                go_region_held3 (fun w' => w'.cell? ⟨b0, o0 + n * 3, none⟩ = some (.int .i64 (nthP ps n).k) ∧ w'.cell? ⟨b0, o0 + n * 3 + 1, none⟩ = some (.int .u64 ((nthP ps n).n : Int)) ∧ w'.cell? ⟨b0, o0 + n * 3 + 2, none⟩ = some (.slice ai (nthP ps n).b.length ci) ∧ w'.cell? ⟨b1, o1 + n * 3, none⟩ = some (.int .i64 (nthP qs n).k) ∧ w'.cell? ⟨b1, o1 + n * 3 + 1, none⟩ = some (.int .u64 ((nthP qs n).n : Int)) ∧ w'.cell? ⟨b1, o1 + n * 3 + 2, none⟩ = some (.slice aj (nthP qs n).b.length cj))
                  (first | (exact ⟨(d3.cell (p := ⟨b0, _, none⟩) l0).trans g0, (d3.cell (p := ⟨b0, _, none⟩) l0).trans g1, (d3.cell (p := ⟨b0, _, none⟩) l0).trans g2, (d3.cell (p := ⟨b1, _, none⟩) l1).trans k0, (d3.cell (p := ⟨b1, _, none⟩) l1).trans k1, (d3.cell (p := ⟨b1, _, none⟩) l1).trans k2⟩) | (exact ⟨(d2.cell (p := ⟨b0, _, none⟩) l0).trans g0, (d2.cell (p := ⟨b0, _, none⟩) l0).trans g1, (d2.cell (p := ⟨b0, _, none⟩) l0).trans g2, (d2.cell (p := ⟨b1, _, none⟩) l1).trans k0, (d2.cell (p := ⟨b1, _, none⟩) l1).trans k1, (d2.cell (p := ⟨b1, _, none⟩) l1).trans k2⟩) | (exact ⟨(d1.cell (p := ⟨b0, _, none⟩) l0).trans g0, (d1.cell (p := ⟨b0, _, none⟩) l0).trans g1, (d1.cell (p := ⟨b0, _, none⟩) l0).trans g2, (d1.cell (p := ⟨b1, _, none⟩) l1).trans k0, (d1.cell (p := ⟨b1, _, none⟩) l1).trans k1, (d1.cell (p := ⟨b1, _, none⟩) l1).trans k2⟩) | go_keep)
                  ((first | (go_at_call 36; refine (lSame _ _ _ _ _ (hp1.below c2 rfl) hp2 (by rw [kindP_n]; exact hpo.1) (by rw [kindP_n]; exact hqo.1)).mono ?_; rintro e y3 ⟨rfl, c3⟩; have d3 : Below wr.heap.size wr y3 := d2.trans (c3.mono d2.size)) | (go_at_call 35; refine (lKind _ _ _ (X2.out.below d1 rfl)).mono ?_; rintro e y2 ⟨v2, rfl, hp2, c2⟩; have d2 : Below wr.heap.size wr y2 := d1.trans (c2.mono d1.size)) | (go_at_call 35; refine (lKind _ _ _ (X1.out.below (n := wr.heap.size) ((Below.refl _ _).drew) rfl)).mono ?_; rintro e y1 ⟨v1, rfl, hp1, c1⟩; have d1 : Below wr.heap.size wr y1 := ((Below.refl _ _).drew).trans c1)))
                all_goals
                  have ht2 : Hid (sameP (kindP (nthP ps n)) (kindP (nthP qs n)) = (decide (len0 = len1) && sameTo' ps qs (n + 1))) := by
                    unfold Hid; rw [sameTo'_succ, hs0.out, HL01.out]; simp
                  have d3' : Below z2.heap.size z2 y3 := hb3.trans (d3.mono hb3.size)
                  clear g0 g1 g2 k0 k1 k2 hs0 d1 d2 c1 c2 c3 hp1 hp2 X1 X2
                  generalize sameP (kindP (nthP ps n)) (kindP (nthP qs n)) = tt at *
                  go_wp2_with fail
                  go_roundw
                  case rel => exact ⟨n + 1, tt, by omega, by go_num, rfl, ht2, d3'⟩
                  case measure => simp [intOf]; omega
              · have hne : n = len0 := by omega
                have EQ : Hid (eqB (encA (ps.map kindP)) (encA (qs.map kindP)) = true) := by
                  unfold Hid
                  rw [eqB_parts ps qs HO.out HO'.out, HE.out, HE'.out, ← hne]
                  have := ht.out
                  rw [← hne] at this
                  exact this.symm
                have hnl' : ¬ (n : Int) < (len0 : Int) := by omega
                clear ht hne
                have VA3 : Hid (IsV wr va (encA (ps.map kindP))) := VA2.out.below hb3 rfl
                have VB3 : Hid (IsV wr vb (encA (qs.map kindP))) := VB.out.below hb3 rfl
                obtain ⟨p1, c1, rfl, i1⟩ := VA3.out
                obtain ⟨p2, c2, rfl, i2⟩ := VB3.out
                have I1 : Hid (IsB wr p1 (encA (ps.map kindP)).length c1 (encA (ps.map kindP))) := i1
                have I2 : Hid (IsB wr p2 (encA (qs.map kindP)).length c2 (encA (qs.map kindP))) := i2
                clear i1 i2 VA3 VB3 VA2 VB
                generalize (encA (ps.map kindP)).length = m1 at *
                generalize (encA (qs.map kindP)).length = m2 at *
                go_wp2_with fail
                refine (refSame _ _ _ _ _ _ _ _ wr I1.out I2.out).mono ?_
                rintro e y1 ⟨rfl, kk, hw⟩
                rw [EQ.out]
                have T1 : Below w.heap.size w y1 := by rw [hw]; exact bel_drewN hbel3 kk
                clear hw I1 I2
                go_wp2_with fail
                refine (alive y1).mono ?_
                rintro e y2 ⟨rfl, b2⟩
                go_wp2_with fail
                go_ret
                exact ⟨rfl, T1.trans (b2.mono T1.size)⟩
end Go.Proofs.Ytbojhfphgiimnaa
