/- What the document's Put leaves. -/
import Derived.Test.YthjdmfbengpepaaGreatB30
namespace Go.Proofs.YthjdmfbengpepaaGreat
open Go.RowKit

set_option maxRecDepth 20000 in
set_option maxHeartbeats 4000000 in
theorem refPut12 {w : World} {R U K D base m : Nat} {t : Tl} {j : Jl} (h : RefS w R U K D base m t j) (hm : m ≤ 100000) (ho : j.p.off = false) (ba : Option Addr) (len bc : Nat) (b : List UInt8) (hb : ∀ W, KC base w W → IsB W ba len bc b) (hl : len ≤ 100000) :
    Calls Tryz.prog 19 #[.pointer (some ⟨R, 0, none⟩), .slice ba len bc] w fun e w' => (∃ q, e = .returned (.tuple #[.agg (rfc (putR t j b) q).toArray, .int .i64 (putE t j b)]) ∧ RfK w' (putR t j b) q) ∧ Hid (RefS w' R U K D base m (putT t j b) j) ∧ Hid (KC base w w') := by
  have HS := mkHid h
  have HLo := mkHid h.lo
  have HBb : Hid (∀ W, KC base w W → IsB W ba len bc b) := hb
  have HLen : Hid (b.length = len) := (hb w (KC.of_below (Below.refl _ _) h.lo)).len_eq
  clear h hb
  have k0 := Blk.new w 46 [.int .i64 0, .slice none 0 0, .slice none 0 0]
  have b0 : Below w.heap.size w (w.alloc (.cells #[.int .i64 0, .slice none 0 0, .slice none 0 0] 46)) := (Below.refl _ w).alloc (Nat.le_refl _) _
  have HK0 := mkHid k0
  have HB0 := mkHid b0
  have r0 := k0.cell 0
  have r1 := k0.cell 1
  have r2 := k0.cell 2
  have g0 := k0.frozen 0
  have g1 := k0.frozen 1
  have g2 := k0.frozen 2
  have HS0 := mkHid (HS.out.on b0)
  clear k0 b0
  simp only [List.getElem?_cons_zero, List.getElem?_cons_succ] at r0 r1 r2
  by_cases hbig : 6144 < len
  · have hbig' : (6144 : Int) < (len : Int) := by omega
    have HE : Hid (putE t j b = 3) := by unfold Hid putE; rw [if_pos (by rw [HLen.out]; exact hbig)]
    have HT : Hid (putT t j b = t) := by unfold Hid putT; rw [if_pos (.inl (by rw [HLen.out]; exact hbig))]
    go_enter Tryz.func19, Tryz.ntmps19
    go_wp2_with fail
    (try simp only [Exit.inBlock, Exit.then])
    refine bodyPost_ret (results_cellrow_tmp (P := Tryz.prog) rfl _ _ w.heap.size 46 #[.int .i64 0, .slice none 0 0, .slice none 0 0] (0, 0) _ rfl HK0.out Tryz.underlying46 rfl (by kernel_rfl)) rfl ⟨?_, by rw [HT.out]; exact HS0, mkHid (KC.of_below HB0.out HLo.out)⟩
    exact put_no HE.out (by omega)
  have hbig' : ¬ (6144 : Int) < (len : Int) := by omega
  have HNd := fun W => refNeed12 (len : Int) W (by omega)
  obtain ⟨n, hn⟩ : ∃ n : Nat, (n : Int) = needL (len : Int) := ⟨(needL (len : Int)).toNat, by have := needL_nn (len : Int); omega⟩
  have HPn : Hid (putN b = n) := by unfold Hid putN; rw [HLen.out]; omega
  have hn12 : n ≤ 12 := by
    have : needL (len : Int) ≤ 12 := by unfold needL; split <;> omega
    omega
  rw [← hn] at HNd
  have HNn : Hid ((n : Int) = needL (len : Int)) := hn
  clear hn
  go_enter Tryz.func19, Tryz.ntmps19
  go_wp2_with fail
  refine (HNd _).mono ?_
  rintro e y1 ⟨rfl, hy1⟩
  obtain rfl := hy1.symm
  clear hy1 HNd
  go_upto_region 4 with fail
  generalize w.alloc (.cells #[.int .i64 0, .slice none 0 0, .slice none 0 0] 46) = Y at *
  have HFr := refFree11 HS0.out hm
  have hfl := freeL_le (mapL t j) (j.p.n - 51)
  have hfn := HS0.out.few.n
  have hl48 := HS0.out.len
  generalize hrm : decide (roomOk t j n) = rm at *
  have HRm := mkHid hrm
  clear hrm
  go_cut [34] from 20 (fun v wx => v = .bool (!rm) ∧ Hid (Below Y.heap.size Y wx))
  case first =>
    by_cases hn0 : n = 0
    · subst hn0
      have e : rm = true := by rw [← HRm.out]; exact decide_eq_true (.inl rfl)
      subst e
      go_wp2_with fail
      go_meet
      case rel => exact ⟨rfl, Below.refl _ _⟩
    · have hnp : (0 : Int) < (n : Int) := by omega
      generalize hfr : freeL (mapL t j) (j.p.n - 51) = fr at *
      have HRo : Hid (rm = decide (n ≤ fr ∧ (n : Int) ≤ 48 - (t.l.length : Int) - 1)) := by
        unfold Hid
        rw [← HRm.out]
        refine decide_eq_decide.2 ?_
        unfold roomOk
        rw [hfr]
        exact ⟨fun h => h.elim (fun e => absurd e hn0) id, .inr⟩
      go_wp2_with fail
      refine HFr.mono ?_
      rintro e y2 ⟨rfl, hb2⟩
      have HB2 := mkHid hb2
      have HLf := refLeft11 (HS0.out.on hb2)
      clear HFr hb2
      by_cases hf : fr < n
      · have hf' : (fr : Int) < (n : Int) := by omega
        have e : rm = false := by rw [HRo.out]; exact decide_eq_false (fun h => by omega)
        subst e
        go_wp2_with fail
        go_meet
        case rel => exact ⟨rfl, HB2⟩
      · have hf' : ¬ (fr : Int) < (n : Int) := by omega
        have df : decide ((fr : Int) < (n : Int)) = false := decide_eq_false hf'
        go_wp2_with fail
        refine HLf.mono ?_
        rintro e y3 ⟨rfl, hb3⟩
        have HB3 := mkHid (HB2.out.trans (hb3.mono HB2.out.size))
        clear HLf hb3
        by_cases hg : (48 : Int) - (t.l.length : Int) - 1 < (n : Int)
        · have e : rm = false := by rw [HRo.out]; exact decide_eq_false (fun h => by omega)
          subst e
          go_wp2_with fail
          go_meet
          case rel => exact ⟨rfl, HB3⟩
        · have e : rm = true := by rw [HRo.out]; exact decide_eq_true ⟨by omega, by omega⟩
          have dg : decide ((48 : Int) - (t.l.length : Int) - 1 < (n : Int)) = false := decide_eq_false hg
          subst e
          go_wp2_with fail
          go_meet
          case rel => exact ⟨by first | rfl | rw [dg]; rfl, HB3⟩
  case rest =>
    obtain ⟨rfl, HBc⟩ := hcut
    have HKc := mkHid (Blk.on HK0.out HBc.out)
    have HSc := mkHid (HS0.out.on HBc.out)
    have HBw := mkHid (HB0.out.trans (HBc.out.mono HB0.out.size))
    have q0 : wc.cell? ⟨w.heap.size, 0, none⟩ = some (.int .i64 0) := HKc.out.cell 0
    have q1 : wc.cell? ⟨w.heap.size, 1, none⟩ = some (.slice none 0 0) := HKc.out.cell 1
    have q2 : wc.cell? ⟨w.heap.size, 2, none⟩ = some (.slice none 0 0) := HKc.out.cell 2
    have p0 := HKc.out.frozen 0
    have p1 := HKc.out.frozen 1
    have p2 := HKc.out.frozen 2
    clear HK0 HS0 HB0 HBc HFr r0 r1 r2 g0 g1 g2 hfl
    cases rm with
    | false =>
      have hro : ¬ roomOk t j (putN b) := by rw [HPn.out]; exact of_decide_eq_false HRm.out
      have HE : Hid (putE t j b = 44) := by unfold Hid putE; rw [if_neg (by rw [HLen.out]; exact hbig), if_pos hro]
      have HT : Hid (putT t j b = t) := by unfold Hid putT; rw [if_pos (.inr hro)]
      go_wp2_with fail
      (try simp only [Exit.inBlock, Exit.then])
      refine bodyPost_ret (results_cellrow_tmp (P := Tryz.prog) rfl _ _ w.heap.size 46 #[.int .i64 0, .slice none 0 0, .slice none 0 0] (0, 0) _ rfl (((HKc.out.set 0 (.int .i64 0)).set 1 (.slice none 0 0)).set 2 (.slice none 0 0)) Tryz.underlying46 rfl (by kernel_rfl)) rfl ⟨?_, ?_⟩
      · exact put_no HE.out (by omega)
      · have hT : KeepT [46] wc (((wc.setCell ⟨w.heap.size, 0, none⟩ (.int .i64 0)).setCell ⟨w.heap.size, 1, none⟩ (.slice none 0 0)).setCell ⟨w.heap.size, 2, none⟩ (.slice none 0 0)) := (((KeepT.refl _ _).set HKc.out (by decide) 0 _).set (HKc.out.set 0 _) (by decide) 1 _).set ((HKc.out.set 0 _).set 1 _) (by decide) 2 _
        exact ⟨by rw [HT.out]; exact mkHid (HSc.out.keepR (KeepO.ofT hT (by decide))), mkHid (KC.of_below (((HBw.out.setCell (p := ⟨w.heap.size, 0, none⟩) (Nat.le_refl _) _).setCell (p := ⟨w.heap.size, 1, none⟩) (Nat.le_refl _) _).setCell (p := ⟨w.heap.size, 2, none⟩) (Nat.le_refl _) _) HLo.out)⟩
    | true =>
      have hro : roomOk t j (putN b) := by rw [HPn.out]; exact of_decide_eq_true HRm.out
      have HE : Hid (putE t j b = (putAll t j b).1) := by unfold Hid putE; rw [if_neg (by rw [HLen.out]; exact hbig), if_neg (fun h => h hro)]
      have HT : Hid (putT t j b = (putAll t j b).2.1) := by unfold Hid putT; rw [if_neg (fun h => h.elim (fun h => by rw [HLen.out] at h; exact hbig h) (fun h => h hro))]
      have HP : Hid (putAll t j b = putGo j b n 0 t []) := by unfold Hid putAll; rw [HPn.out]
      clear hro q0 q1 q2 p0 p1 p2
      have HKC := mkHid (KC.of_below HBw.out HLo.out)
      have HSh := refSha256 ba len bc b wc (HBb.out wc HKC.out) (by omega)
      go_wp2_with fail
      refine HSh.mono ?_
      rintro e y4 ⟨v4, rfl, ho4, hb4⟩
      obtain ⟨sa, sc, hse, _⟩ := ho4.isB
      rw [sha256L_length] at hse
      subst hse
      have HK4 := mkHid (Blk.on HKc.out hb4)
      have HS4 := mkHid (HSc.out.on hb4)
      have HC4 := mkHid (HKC.out.trans (KC.of_below hb4 HSc.out.lo))
      have hsz : w.heap.size < y4.heap.size := HK4.out.lt
      have HO4 : Hid (OwnB y4 w.heap.size (.slice sa 32 sc) (sha256L b)) := ho4.base HKC.out.t.size
      have HSz := mkHid hsz
      clear HSh ho4 hb4 HKc HSc HBw HKC hsz
      go_wp2_with fail
      have hA : Below y4.heap.size y4 (y4.alloc (.cells #[.int .i64 (len : Int), .slice sa 32 sc, .slice none 0 0] 46)) := (Below.refl _ y4).alloc (Nat.le_refl _) _
      have HA0 : Hid (PtAt w (y4.alloc (.cells #[.int .i64 (len : Int), .slice sa 32 sc, .slice none 0 0] 46)) R U K D base m t j y4.heap.size (len : Int) (.slice sa 32 sc) (.slice none 0 0) (sha256L b) []) :=
        ⟨Blk.on HK4.out hA, Blk.new y4 _ [_, _, _], HSz.out, own_keepO (us := [5]) (KeepO.of_below hA) HO4.out (by decide), OwnZ.nil _ _, HS4.out.on hA, HC4.out.trans (KC.of_below hA HS4.out.lo), HLo.out⟩
      clear hA HK4 HS4 HC4 HO4 HSz
      generalize y4.alloc (.cells #[.int .i64 (len : Int), .slice sa 32 sc, .slice none 0 0] 46) = Z at *
      generalize y4.heap.size = q at *
      go_loopw [8] (fun i wr => ∃ (k : Nat) (t' : Tl) (vz : Value) (acc : List Int), k ≤ n ∧ i = .int .i64 (k : Int) ∧ acc.length = k ∧ Hid (PtAt w wr R U K D base m t' j q (len : Int) (.slice sa 32 sc) vz (sha256L b) acc) ∧ Hid (putAll t j b = putGo j b (n - k) k t' acc)) (fun i _ => n - (Go.RowKit.intOf i).toNat)
      case atStart => exact ⟨0, t, _, [], Nat.zero_le _, rfl, rfl, HA0, HP⟩
      case round =>
        clear HA0 HP
        obtain ⟨k, t', vz, acc, hk, rfl, hacc, HA, HG⟩ := hrel
        have HAc := mkHid hacc
        clear hacc
        by_cases hlt : k < n
        · have hlt' : (k : Int) < (n : Int) := by omega
          have HTk := refTake11 HA.out.rs hm ho
          have HG1 : Hid (putAll t j b = if tkE t' j ≠ 0 then (tkE t' j, tkT t' j, acc) else if spWrE (tkT t' j) j (tkV t' j : Int) (chunkL b k) ≠ 0 then (spWrE (tkT t' j) j (tkV t' j : Int) (chunkL b k), spWr (tkT t' j) j (tkV t' j : Int) (chunkL b k), acc) else putGo j b (n - (k + 1)) (k + 1) (spWr (tkT t' j) j (tkV t' j : Int) (chunkL b k)) (acc ++ [(tkV t' j : Int)])) := by
            unfold Hid
            rw [HG.out, show n - k = (n - (k + 1)) + 1 by omega, putGo]
          clear HG
          generalize tkT t' j = t1 at *
          generalize tkV t' j = sv at *
          generalize tkE t' j = E at *
          by_cases hz : E ≠ 0
          · have HEe : Hid (putE t j b = E) := by unfold Hid; rw [HE.out, HG1.out, if_pos hz]
            have HTe : Hid (putT t j b = t1) := by unfold Hid; rw [HT.out, HG1.out, if_pos hz]
            go_wp2_with fail
            refine HTk.mono ?_
            rintro e y5 ⟨rfl, hs5, hk5⟩
            have HAe := mkHid (HA.out.call hs5.out hk5.out)
            clear HTk hs5 hk5 HA
            have q0 : y5.cell? ⟨w.heap.size, 0, none⟩ = some (.int .i64 0) := HAe.out.res.cell 0
            have q1 : y5.cell? ⟨w.heap.size, 1, none⟩ = some (.slice none 0 0) := HAe.out.res.cell 1
            have q2 : y5.cell? ⟨w.heap.size, 2, none⟩ = some (.slice none 0 0) := HAe.out.res.cell 2
            have p0 := HAe.out.res.frozen 0
            have p1 := HAe.out.res.frozen 1
            have p2 := HAe.out.res.frozen 2
            go_wp2_with fail
            (try simp only [Exit.inBlock, Exit.then])
            refine bodyPost_ret (results_cellrow_tmp (P := Tryz.prog) rfl _ _ w.heap.size 46 #[.int .i64 0, .slice none 0 0, .slice none 0 0] (0, 0) _ rfl (((HAe.out.res.set 0 (.int .i64 0)).set 1 (.slice none 0 0)).set 2 (.slice none 0 0)) Tryz.underlying46 rfl (by kernel_rfl)) rfl ⟨?_, ?_⟩
            · exact put_no HEe.out hz
            · have hT : KeepT [46] y5 (((y5.setCell ⟨w.heap.size, 0, none⟩ (.int .i64 0)).setCell ⟨w.heap.size, 1, none⟩ (.slice none 0 0)).setCell ⟨w.heap.size, 2, none⟩ (.slice none 0 0)) := (((KeepT.refl _ _).set HAe.out.res (by decide) 0 _).set (HAe.out.res.set 0 _) (by decide) 1 _).set ((HAe.out.res.set 0 _).set 1 _) (by decide) 2 _
              exact ⟨by rw [HTe.out]; exact mkHid (HAe.out.rs.keepR (KeepO.ofT hT (by decide))), mkHid (HAe.out.kc.new ((((Below.refl _ y5).setCell (p := ⟨w.heap.size, 0, none⟩) (Nat.le_refl _) _).setCell (p := ⟨w.heap.size, 1, none⟩) (Nat.le_refl _) _).setCell (p := ⟨w.heap.size, 2, none⟩) (Nat.le_refl _) _) HAe.out.lo)⟩
          · have hz := Classical.not_not.1 hz
            subst hz
            simp only [ne_eq, not_true_eq_false, if_false] at HG1
            go_wp2_with fail
            refine HTk.mono ?_
            rintro e y5 ⟨rfl, hs5, hk5⟩
            have HA5 := mkHid (HA.out.call hs5.out hk5.out)
            clear HTk hs5 hk5 HA
            have hkl : k * 512 < len := by
              have h1 := HNn.out
              unfold needL at h1
              split at h1 <;> omega
            have HI0 := HBb.out w (KC.of_below (Below.refl _ _) HLo.out)
            obtain ⟨bb, boff, hba, _⟩ := HI0.cells (by omega)
            subst hba
            have ec : ((k * 512 : Nat) : Int) = (k : Int) * 512 := by omega
            have hsl := fun W => slB bb boff len bc (k * 512) (by omega) W
            rw [ec] at hsl
            have HCut : Hid (∀ W, KC base w W → IsB W (cutA bb boff bc (k * 512)) (len - k * 512) (bc - k * 512) (b.drop (k * 512))) := fun W hW => (HBb.out W hW).cut (k * 512) (by omega)
            have HK5 := mkHid HA5.out.kc
            have HL5 := mkHid HA5.out.rs.lo
            have hcl : 0 < len - k * 512 := by omega
            have HWr : ∀ (W : World) (v : Value) (W0 : Nat), Hid (RefS W R U K D base m t1 j) → Hid (OwnB W W0 v (chunkL b k)) → Calls Tryz.prog 54 #[.pointer (some ⟨R, 0, none⟩), .int .i64 (sv : Int), v] W fun e w' => e = .returned (.int .i64 (spWrE t1 j (sv : Int) (chunkL b k))) ∧ Hid (RefS w' R U K D base m (spWr t1 j (sv : Int) (chunkL b k)) j) ∧ Hid (KC base W w') := fun W v W0 hW hv => refSWrite11 hW.out (sv : Int) hv.out
            generalize spWr t1 j (sv : Int) (chunkL b k) = t2 at *
            generalize spWrE t1 j (sv : Int) (chunkL b k) = E2 at *
            clear HI0 ec
            generalize cutA bb boff bc (k * 512) = ca at *
            generalize len - k * 512 = cn at *
            generalize bc - k * 512 = cc at *
            go_wp2_with (at_make; refine make_full8 y5 rfl _ _ rfl y5.heap.size .i64 .i64 _ _ 512 rfl rfl rfl rfl (by omega) (Nat.le_refl _) ?_; intro w6 ho6 hg6; have hb6 : Below y5.heap.size y5 w6 := (Below.refl _ y5).grown hg6 (Nat.le_refl _) (fun k e => by cases e); obtain ⟨w7, hr7, hB7, hg7⟩ := copyP w6 y5.heap.size ca cn cc (b.drop (k * 512)) (own_full ho6 (List.length_replicate ..)) (HCut.out w6 (HK5.out.trans (KC.of_below hb6 HL5.out))) hcl; have HO7 : Hid (OwnB w7 y5.heap.size (.slice (some ⟨y5.heap.size, 0, none⟩) 512 512) (chunkL b k)) := full_own hB7 (pad512_len _) (Nat.le_refl _); have HA7 := mkHid (HA5.out.on (hb6.trans ((Below.refl _ w6).grown hg7 hb6.size (fun x e => Nat.le_of_eq (Option.some.inj e))))); clear ho6 hg6 hb6 hB7 hg7; generalize ((min 512 cn : Nat) : Int) = cm at *)
            refine (HWr w7 _ _ (mkHid HA7.out.rs) HO7).mono ?_
            rintro e y8 ⟨rfl, hs8, hk8⟩
            by_cases hz2 : E2 ≠ 0
            · have HEe : Hid (putE t j b = E2) := by unfold Hid; rw [HE.out, HG1.out, if_pos hz2]
              have HTe : Hid (putT t j b = t2) := by unfold Hid; rw [HT.out, HG1.out, if_pos hz2]
              have HAe := mkHid (HA7.out.call hs8.out hk8.out)
              clear hs8 hk8 HA7 HA5 HO7
              have q0 : y8.cell? ⟨w.heap.size, 0, none⟩ = some (.int .i64 0) := HAe.out.res.cell 0
              have q1 : y8.cell? ⟨w.heap.size, 1, none⟩ = some (.slice none 0 0) := HAe.out.res.cell 1
              have q2 : y8.cell? ⟨w.heap.size, 2, none⟩ = some (.slice none 0 0) := HAe.out.res.cell 2
              have p0 := HAe.out.res.frozen 0
              have p1 := HAe.out.res.frozen 1
              have p2 := HAe.out.res.frozen 2
              go_wp2_with fail
              (try simp only [Exit.inBlock, Exit.then])
              refine bodyPost_ret (results_cellrow_tmp (P := Tryz.prog) rfl _ _ w.heap.size 46 #[.int .i64 0, .slice none 0 0, .slice none 0 0] (0, 0) _ rfl (((HAe.out.res.set 0 (.int .i64 0)).set 1 (.slice none 0 0)).set 2 (.slice none 0 0)) Tryz.underlying46 rfl (by kernel_rfl)) rfl ⟨?_, ?_⟩
              · exact put_no HEe.out hz2
              · have hT : KeepT [46] y8 (((y8.setCell ⟨w.heap.size, 0, none⟩ (.int .i64 0)).setCell ⟨w.heap.size, 1, none⟩ (.slice none 0 0)).setCell ⟨w.heap.size, 2, none⟩ (.slice none 0 0)) := (((KeepT.refl _ _).set HAe.out.res (by decide) 0 _).set (HAe.out.res.set 0 _) (by decide) 1 _).set ((HAe.out.res.set 0 _).set 1 _) (by decide) 2 _
                exact ⟨by rw [HTe.out]; exact mkHid (HAe.out.rs.keepR (KeepO.ofT hT (by decide))), mkHid (HAe.out.kc.new ((((Below.refl _ y8).setCell (p := ⟨w.heap.size, 0, none⟩) (Nat.le_refl _) _).setCell (p := ⟨w.heap.size, 1, none⟩) (Nat.le_refl _) _).setCell (p := ⟨w.heap.size, 2, none⟩) (Nat.le_refl _) _) HAe.out.lo)⟩
            · have hz2 := Classical.not_not.1 hz2
              subst hz2
              simp only [not_true_eq_false, if_false] at HG1
              have HA8 := mkHid (HA7.out.call hs8.out hk8.out)
              clear hs8 hk8 HA7 HA5 HO7
              obtain ⟨za, zc, hze, _⟩ := HA8.out.zs.isZ
              have rz : y8.cell? ⟨q, 2, none⟩ = some vz := HA8.out.r.cell 2
              have hA : Below y8.heap.size y8 (y8.alloc (.cells #[.int .i64 (sv : Int)] 3)) := (Below.refl _ y8).alloc (Nat.le_refl _) _
              have HA9 := mkHid (HA8.out.on hA)
              have HLz : Hid (acc.length ≤ 4096) := by have := HAc.out; unfold Hid; omega
              have HBz : Hid (w.heap.size ≤ (y8.alloc (.cells #[.int .i64 (sv : Int)] 3)).heap.size) := HA9.out.kc.t.size
              clear hA HA8
              subst hze
              go_wp2_with (at_builtin; refine list_appZ _ rfl (.tmp 71) (.tmp 73) rfl w.heap.size _ acc rfl HA9.out.zs y8.heap.size (sv : Int) rfl (heap_alloc_new y8 _) HLz.out HBz.out ?_; intro v' x3 ho3 hg3; have HA10 := mkHid (HA9.out.grown ho3 hg3); have HR3 := mkHid ((KeepT.grownZ HA9.out.zs hg3).blk HA9.out.r (by decide)); obtain ⟨za', zc', hze', _⟩ := ho3.isZ; clear ho3 hg3; obtain ⟨ln, hln⟩ : ∃ ln, ln = (acc ++ [(sv : Int)]).length := ⟨_, rfl⟩; rw [← hln] at hze'; subst hze'; have rz3 := HR3.out.cell 2; have fz3 := HR3.out.frozen 2)
              rw [List.length_append, List.length_singleton] at hln
              subst hln
              go_roundw
              case rel => exact ⟨k + 1, t2, _, acc ++ [(sv : Int)], by omega, by go_num, by rw [List.length_append, List.length_singleton, HAc.out], HA10, HG1⟩
              case measure => simp [Go.RowKit.intOf]; omega
        · have hlt' : ¬ (k : Int) < (n : Int) := by omega
          have hkn : n - k = 0 := by omega
          rw [hkn, putGo] at HG
          obtain ⟨za, zc, hze, _⟩ := HA.out.zs.isZ
          subst hze
          have q0 : wr.cell? ⟨w.heap.size, 0, none⟩ = some (.int .i64 0) := HA.out.res.cell 0
          have q1 : wr.cell? ⟨w.heap.size, 1, none⟩ = some (.slice none 0 0) := HA.out.res.cell 1
          have q2 : wr.cell? ⟨w.heap.size, 2, none⟩ = some (.slice none 0 0) := HA.out.res.cell 2
          have p0 := HA.out.res.frozen 0
          have p1 := HA.out.res.frozen 1
          have p2 := HA.out.res.frozen 2
          have s0 : wr.cell? ⟨q, 0, none⟩ = some (.int .i64 (len : Int)) := HA.out.r.cell 0
          have s1 : wr.cell? ⟨q, 1, none⟩ = some (.slice sa 32 sc) := HA.out.r.cell 1
          have s2 : wr.cell? ⟨q, 2, none⟩ = some (.slice za acc.length zc) := HA.out.r.cell 2
          have HEy : Hid (putE t j b = 0) := by unfold Hid; rw [HE.out, HG.out]
          have HTy : Hid (putT t j b = t') := by unfold Hid; rw [HT.out, HG.out]
          have HLy : Hid ((putAll t j b).2.2 = acc) := by unfold Hid; rw [HG.out]
          clear HG hkn
          go_wp2_with fail
          (try simp only [Exit.inBlock, Exit.then])
          have hT : KeepT [46] wr (((wr.setCell ⟨w.heap.size, 0, none⟩ (.int .i64 (len : Int))).setCell ⟨w.heap.size, 1, none⟩ (.slice sa 32 sc)).setCell ⟨w.heap.size, 2, none⟩ (.slice za acc.length zc)) := (((KeepT.refl _ _).set HA.out.res (by decide) 0 _).set (HA.out.res.set 0 _) (by decide) 1 _).set ((HA.out.res.set 0 _).set 1 _) (by decide) 2 _
          refine bodyPost_ret (results_cellrow_tmp (P := Tryz.prog) rfl _ _ w.heap.size 46 #[.int .i64 (len : Int), .slice sa 32 sc, .slice za acc.length zc] (0, 0) _ rfl (((HA.out.res.set 0 (.int .i64 (len : Int))).set 1 (.slice sa 32 sc)).set 2 (.slice za acc.length zc)) Tryz.underlying46 rfl (by kernel_rfl)) rfl ⟨?_, by rw [HTy.out]; exact mkHid (HA.out.rs.keepR (KeepO.ofT hT (by decide))), mkHid (HA.out.kc.new ((((Below.refl _ wr).setCell (p := ⟨w.heap.size, 0, none⟩) (Nat.le_refl _) _).setCell (p := ⟨w.heap.size, 1, none⟩) (Nat.le_refl _) _).setCell (p := ⟨w.heap.size, 2, none⟩) (Nat.le_refl _) _) HA.out.lo)⟩
          have hY := put_yes (q0 := ⟨sa, sc, za, zc⟩) HEy.out HLy.out (RfK.own (base := w.heap.size) (by show OwnB _ _ (.slice sa (sha256L b).length sc) (sha256L b); rw [sha256L_length]; exact own_keep hT HA.out.sum (by decide)) (own_keep hT HA.out.zs (by decide)) (by show (-9223372036854775808 : Int) ≤ (b.length : Int); omega) (by show (b.length : Int) ≤ 9223372036854775807; have := HLen.out; omega))
          obtain ⟨q1', he, hI⟩ := hY
          refine ⟨q1', ?_, hI⟩
          rw [← he]
          simp only [rfc, sha256L_length, HLen.out]
          rfl
end Go.Proofs.YthjdmfbengpepaaGreat
