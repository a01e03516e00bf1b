/- BlobPlays, over any blob that keeps the document. -/
import Derived.Test.YthjdmfbengpepaaGreatBlH
namespace Go.Proofs.YthjdmfbengpepaaGreat
open Go.RowKit

set_option maxRecDepth 20000 in
set_option maxHeartbeats 8000000 in
theorem plays12 {JA : World → Nat → Nat → Nat → Jl → Prop} {TA SA : World → Nat → Nat → Nat → Nat → Tl → Jl → Prop} (ok : JrnOK JA TA) (so : SpcOK JA SA) (bo : BlbOK SA) (kf : ∀ {w w' : World} {S J P base : Nat} {t : Tl} {j : Jl}, SA w S J P base t j → KeepT [46] w w' → SA w' S J P base t j) (a : Option Addr) (len cap : Nat) (os : List Oq2) (w : World) (hos : IsO12 w a len cap os) :
    Calls Tryz.prog 3 #[.slice a len cap] w fun e w' => e = .returned (.bool true) ∧ Below w.heap.size w w' := by
  have HX := mkHid hos
  have hmax : (len : Int) ≤ 140737488351232 := by have := hos.max; omega
  clear hos
  have HAl := lawAlive12 ok so bo
  by_cases h60 : 60 < len
  · have h60' : (60 : Int) < (len : Int) := by omega
    go_enter Tryz.func3, Tryz.ntmps3
    go_wp2_with fail
    refine (HAl w).mono ?_
    rintro e x1 ⟨rfl, hb1⟩
    go_wp2_with fail
    go_ret
    exact ⟨rfl, hb1⟩
  have h60' : ¬ (60 : Int) < (len : Int) := by omega
  obtain ⟨base, hbase⟩ : ∃ base, base = w.heap.size := ⟨_, rfl⟩
  have HFr := lawFresh12 ok so w base (by omega)
  have HBase := mkHid hbase
  rw [← hbase]
  clear hbase
  go_enter Tryz.func3, Tryz.ntmps3
  go_wp2_with fail
  refine HFr.mono ?_
  rintro e x1 ⟨⟨J, S, P, rfl, hS1⟩, hk1⟩
  have HB1 := mkHid hk1.out.b
  have HL1 : Hid (base ≤ x1.heap.size) := so.lo hS1.out
  have HM := rkNewN 64 (by omega) (by omega) base x1 HL1.out
  clear HFr hk1
  go_wp2_with fail
  refine HM.mono ?_
  rintro e x2 ⟨⟨D, rfl, hD2⟩, hb2⟩
  have HB2 := mkHid (HB1.out.trans (hb2.mono HL1.out))
  have HS2 := mkHid (so.keep hS1.out (KeepT.of_below hb2))
  have HD2 := mkHid hD2
  have HL2 : Hid (base ≤ x2.heap.size) := hD2.low
  clear HM hD2 hb2 hS1 HB1 HL1
  go_wp2_with fail
  refine (HAl x2).mono ?_
  rintro e x3 ⟨rfl, hb3⟩
  have HB3 := mkHid (HB2.out.trans (hb3.mono HL2.out))
  have HS3 := mkHid (so.keep HS2.out (KeepT.of_below hb3))
  have HD3 := mkHid (HD2.out.on hb3)
  have HRm := refMountN 64 (by omega) (by omega) D base x3 HD3.out
  clear hb3 HS2 HD2 HB2 HL2 HAl
  go_wp2_with fail
  refine HRm.mono ?_
  rintro e x5 ⟨⟨K, rfl, hK5, hl5⟩, hR5, hk5⟩
  have HB5 := mkHid (HB3.out.trans hk5.out.b)
  have HS5 := mkHid (so.keep HS3.out hk5.out.t)
  have HRo := refOpen11 (j := aj0) hK5.out hR5.out ((few_mnew 64 (by omega) (by omega)).more (by omega)) (by show (0 : Nat) < 18446744073709551616; omega) hl5.out (by omega) rfl
  have HL5 : Hid (base ≤ x5.heap.size) := hR5.out.low
  clear hk5 HS3 HD3 HRm HB3 hK5 hl5 hR5
  go_wp2_with fail
  refine HRo.mono ?_
  rintro e x7 ⟨⟨R, U, rfl, hr7⟩, hb7⟩
  have HP7 : Hid (Pl12 SA x7 S R U J K P D base as0 (.slice none 0 0) []) := ⟨so.keep HS5.out (KeepT.of_below hb7.out), hr7.out, outs0, OwnF.nil _ _, fun x hx => by cases hx⟩
  have HB7 := mkHid (HB5.out.trans (hb7.out.mono HL5.out))
  clear HRo hr7 hb7 HB5 HS5 HL5
  go_wp2_with fail
  go_loopw [10, 11] (fun vl i wr => ∃ (k : Nat) (t : Tl) (ls : List Rq), k ≤ len ∧ ls.length ≤ k ∧ i = .int .i64 (k : Int) ∧ Hid (Pl12 SA wr S R U J K P D base t vl ls) ∧ Hid (Below base w wr)) (fun _ i _ => len - (Go.RowKit.intOf i).toNat)
  case atStart => exact ⟨0, as0, [], Nat.zero_le _, Nat.le_refl _, rfl, HP7, HB7⟩
  case round =>
    clear HP7 HB7
    obtain ⟨k, t, ls, hk, hls, rfl, HA, HB⟩ := hrel
    by_cases hlt : k < len
    · have hlt' : (k : Int) < (len : Int) := by omega
      obtain ⟨b, off, rfl, hbl, hc⟩ := HX.out.cells (by omega)
      have hck := hc k hlt
      have hok := HX.out.ok k hlt
      rw [← HBase.out] at hbl
      generalize os.getD k oq2 = o at *
      obtain ⟨dr, n, y⟩ := o
      change -9223372036854775808 ≤ n ∧ n ≤ 9223372036854775807 at hok
      have c0 : wr.cell? ⟨b, off + k * 3, none⟩ = some (.bool dr) := (HB.out.cell (p := ⟨b, off + k * 3, none⟩) hbl).trans (hck 0 (by omega))
      have c1 : wr.cell? ⟨b, off + k * 3 + 1, none⟩ = some (.int .i64 n) := (HB.out.cell (p := ⟨b, off + k * 3 + 1, none⟩) hbl).trans (hck 1 (by omega))
      have c2 : wr.cell? ⟨b, off + k * 3 + 2, none⟩ = some (.int .u8 (y.toNat : Int)) := (HB.out.cell (p := ⟨b, off + k * 3 + 2, none⟩) hbl).trans (hck 2 (by omega))
      clear hck hc
      have hbY : Below wr.heap.size wr (wr.alloc (.cells #[.bool dr, .int .i64 n, .int .u8 (y.toNat : Int)] 39)) := (Below.refl _ wr).alloc (Nat.le_refl _) _
      have HBl : Hid (Blk (wr.alloc (.cells #[.bool dr, .int .i64 n, .int .u8 (y.toNat : Int)] 39)) wr.heap.size 39 [.bool dr, .int .i64 n, .int .u8 (y.toNat : Int)]) := Blk.newAt wr _ _ _ _ rfl rfl
      have HAY := mkHid (HA.out.on so hbY)
      have HBY := mkHid (HB.out.trans (hbY.mono HA.out.lo))
      obtain ⟨la, lc, hle, hlcap, hlf, -⟩ := HA.out.ow.form
      subst hle
      clear hbY HA HB
      generalize hln : ls.length = ln at *
      have HLn := mkHid hln
      clear hln
      cases dr with
      | true =>
        by_cases h0 : ln = 0 ∨ n < 0
        · by_cases h1 : ln = 0
          · subst h1
            go_wp2_with fail
            go_roundw
            case rel => exact ⟨k + 1, t, ls, by omega, by have := HLn.out; omega, by go_num, HAY, HBY⟩
            case measure => simp [Go.RowKit.intOf]; omega
          · have h1' : ¬ (ln : Int) = 0 := by omega
            have b1 : ((ln : Int) == 0) = false := beq_eq_false_iff_ne.2 h1'
            have h2 : n < 0 := h0.resolve_left h1
            go_wp2_with fail
            go_roundw
            case rel => exact ⟨k + 1, t, ls, by omega, by have := HLn.out; omega, by go_num, HAY, HBY⟩
            case measure => simp [Go.RowKit.intOf]; omega
        · have h1' : ¬ (ln : Int) = 0 := by omega
          have b1 : ((ln : Int) == 0) = false := beq_eq_false_iff_ne.2 h1'
          have h2 : ¬ n < 0 := fun h => h0 (.inr h)
          have d2 : decide (n < 0) = false := decide_eq_false h2
          obtain ⟨nn, rfl⟩ : ∃ nn : Nat, n = (nn : Int) := ⟨n.toNat, by omega⟩
          obtain ⟨ix, hix⟩ : ∃ ix, ix = nn % ln := ⟨_, rfl⟩
          have hrm : (nn : Int).tmod (ln : Int) = (ix : Int) := by rw [Int.tmod_eq_emod_of_nonneg (by omega), hix]; omega
          have hixl : ix < ln := by rw [hix]; exact Nat.mod_lt _ (by omega)
          clear hix
          go_upto_region 21 with fail
          generalize wr.alloc (.cells #[.bool true, .int .i64 (nn : Int), .int .u8 (y.toNat : Int)] 39) = Y at *
          generalize wr.heap.size = BO at *
          have hixs : ix < ls.length := by rw [HLn.out]; exact hixl
          obtain ⟨g, hge, _, hgs, hgc⟩ := HAY.out.ow.at_ ix hixs
          subst hge
          obtain ⟨hE0, hO0⟩ := drop_one (B := secsOf (ls.drop (ix + 1))) (r := (ls[ix]).1) (by rw [← (secsOf_cut ls ix hixs).1]; exact HAY.out.outs) (HAY.out.rk _ (List.getElem_mem hixs)).2
          rw [← (secsOf_cut ls ix hixs).2] at hO0
          have HO0 := mkHid hO0
          have HRk : Hid (RfK Y (ls[ix]).1 (ls[ix]).2) := (HAY.out.rk _ (List.getElem_mem hixs)).1
          obtain ⟨hln1, hln2⟩ := HAY.out.len (List.getElem_mem hixs)
          have HOw : ∀ W, Calls Tryz.prog 13 #[.agg (rfc (ls[ix]).1 (ls[ix]).2).toArray] W fun e w' => e = .returned (.agg (rfc (ls[ix]).1 (ls[ix]).2).toArray) ∧ Below W.heap.size W w' := fun W => lawOwn12 _ _ W
          have HDr : ∀ W, SA W S J P base t aj0 → KQ base Y W → Calls Tryz.prog 12 #[.pointer (some ⟨S, 0, none⟩), .agg (rfc (ls[ix]).1 (ls[ix]).2).toArray] W fun e w' => e = .returned (.int .i64 0) ∧ SA w' S J P base (dropT t aj0 (ls[ix]).1) aj0 ∧ KS base W w' := fun W hS hW => by
            have := bo.drop W S J P base 0 t aj0 (ls[ix]).1 (ls[ix]).2 hS HAY.out.ft hln1 (by omega) (fun V hV => HRk.out V ((hW.o.less (by decide)).trans (hV.o.less (by decide))))
            rw [hE0] at this
            exact this
          have HRd : ∀ W, RefS W R U K D base 50 t aj0 → KQ base Y W → Calls Tryz.prog 14 #[.pointer (some ⟨R, 0, none⟩), .agg (rfc (ls[ix]).1 (ls[ix]).2).toArray] W fun e w' => e = .returned (.int .i64 0) ∧ Hid (RefS w' R U K D base 50 (dropT t aj0 (ls[ix]).1) aj0) ∧ Hid (KC base W w') := fun W hR hW => by
            have := refDrop12 hR (by omega) rfl (ls[ix]).1 (ls[ix]).2 (fun V hV => HRk.out V ((hW.o.less (by decide)).trans (KeepO.ofT hV.t (by decide))))
            rw [hE0] at this
            exact this
          have HRt : Hid (∀ x ∈ ls.take ix ++ ls.drop (ix + 1), RfK Y x.1 x.2 ∧ rightL x.1 = true) := fun x hx => HAY.out.rk x (by
            rcases List.mem_append.1 hx with h | h
            · exact List.mem_of_mem_take h
            · exact List.mem_of_mem_drop h)
          have HKP0 : ∀ W, KQ base Y W → ∀ j, j < 3 → W.cell? ⟨g, ix * 3 + j, none⟩ = (rfc (ls[ix]).1 (ls[ix]).2)[j]? := fun W hW j hj => by
            obtain ⟨g', e', _, _, hc'⟩ := OwnF.at_ (own_keepO hW.o HAY.out.ow (by decide)) ix hixs
            obtain rfl := (Addr.mk.inj (Option.some.inj e')).1
            exact hc' j hj
          have HFp : ∀ W t', SA W S J P base t' aj0 → Outs t' (secsOf (ls.take ix ++ ls.drop (ix + 1))) → Calls Tryz.prog 15 #[.pointer (some ⟨S, 0, none⟩)] W fun e w' => e = .returned (.int .i64 (freeL (mapL t' aj0) (aj0.p.n - 51) : Int)) ∧ SA w' S J P base t' aj0 ∧ KS base W w' := fun W t' hS hO => so.free W S J P base 0 t' aj0 hS hO.fit
          have HFr : ∀ W t', RefS W R U K D base 50 t' aj0 → Calls Tryz.prog 16 #[.pointer (some ⟨R, 0, none⟩)] W fun e w' => e = .returned (.int .i64 (freeL (mapL t' aj0) (aj0.p.n - 51) : Int)) ∧ Below W.heap.size W w' := fun W t' hR => refFree11 hR (by omega)
          have HSY := mkHid HAY.out.sa
          have HRY := mkHid HAY.out.rs
          have HOw0 := mkHid HAY.out.ow
          have HLo := mkHid HAY.out.lo
          clear hgc hE0 hO0 HAY
          generalize dropT t aj0 (ls[ix]).1 = t2 at *
          have HFp2 := fun W hS => HFp W t2 hS HO0.out
          have HFr2 := fun W hS => HFr W t2 hS
          generalize (freeL (mapL t2 aj0) (aj0.p.n - 51) : Int) = F at *
          generalize ls[ix] = xq at *
          obtain ⟨⟨rl, rs, rz⟩, ⟨qa, qc, qb, qd⟩⟩ := xq
          simp only [rfc] at HOw HDr HRd HKP0
          have HKP : ∀ w', KQ base Y w' → KQ base Y w' ∧ w'.cell? ⟨g, ix * 3, none⟩ = some (.int .i64 rl) ∧ w'.cell? ⟨g, ix * 3 + 1, none⟩ = some (.slice qa rs.length qc) ∧ w'.cell? ⟨g, ix * 3 + 2, none⟩ = some (.slice qb rz.length qd) := fun w' hW => ⟨hW, HKP0 w' hW 0 (by omega), HKP0 w' hW 1 (by omega), HKP0 w' hW 2 (by omega)⟩
          clear HKP0 HFp HFr hln1 hln2 HRk
          have hdr : Below Y.heap.size Y Y.drew := (Below.refl _ Y).drew
          have HSd := mkHid (so.keep HSY.out (KeepT.of_below hdr))
          have HRdd := mkHid (HRY.out.on hdr)
          have HQd : KQ base Y Y.drew := KQ.of_below hdr HLo.out
          have hlq : (ix : Int) < (ln : Int) := by omega
          clear HSY HRY hdr
          go_cut [102] from 57 to 182 (fun v wx => v = .bool false ∧ Hid (SA wx S J P base t2 aj0) ∧ Hid (RefS wx R U K D base 50 t2 aj0) ∧ Hid (KQ base Y wx))
          case first =>
            go_region_held3 (fun w' => KQ base Y w' ∧ w'.cell? ⟨g, ix * 3, none⟩ = some (.int .i64 rl) ∧ w'.cell? ⟨g, ix * 3 + 1, none⟩ = some (.slice qa rs.length qc) ∧ w'.cell? ⟨g, ix * 3 + 2, none⟩ = some (.slice qb rz.length qd))
              (first | exact HKP _ HQd | assumption | (have hq0 := ‹KQ _ _ _ ∧ _›; first | exact HKP _ (hq0.1.trans (KQ.of_below hbO (Nat.le_trans HLo.out hq0.1.b.size))) | exact HKP _ (hq0.1.trans (KQ.ofS hkD)) | exact HKP _ (hq0.1.trans (KQ.ofK hkC.out)) | exact HKP _ (hq0.1.trans (KQ.ofS hkF)) | exact HKP _ (hq0.1.trans (KQ.of_below hbG (Nat.le_trans HLo.out hq0.1.b.size)))))
              (first
                | (go_at_call 13; refine (HOw _).mono ?_; rintro e w4 ⟨rfl, hbO⟩)
                | (go_at_call 12; have hq0 := ‹KQ _ _ _ ∧ _›; refine (HDr _ (by first | exact so.keep HSd.out (KeepT.of_below hbO) | exact so.keep (so.keep HSd.out hkC.out.t) (KeepT.of_below hbO) | exact so.keep (so.keep HSd.out (KeepT.of_below hbO)) hkC.out.t) hq0.1).mono ?_; rintro e w5 ⟨rfl, hsD, hkD⟩; clear hq0)
                | (go_at_call 14; have hq0 := ‹KQ _ _ _ ∧ _›; refine (HRd _ (by first | exact HRdd.out | exact HRdd.out.on hbO | exact (HRdd.out.on hbO).keepS hkD) hq0.1).mono ?_; rintro e w6 ⟨rfl, hsR, hkC⟩; clear hq0)
                | (go_at_call 15; refine (HFp2 _ (by first | exact hsD | exact so.keep hsD hkC.out.t | exact so.keep hsD (KeepT.of_below hbG) | exact so.keep (so.keep hsD hkC.out.t) (KeepT.of_below hbG))).mono ?_; rintro e w7 ⟨rfl, hsF, hkF⟩)
                | (go_at_call 16; refine (HFr2 _ (by first | exact hsR.out | exact hsR.out.keepS hkD | exact hsR.out.keepS hkF | exact (hsR.out.keepS hkD).keepS hkF | exact (hsR.out.on hbO).keepS hkD | exact ((hsR.out.on hbO).keepS hkD).keepS hkF)).mono ?_; rintro e w8 ⟨rfl, hbG⟩))
            all_goals
              have hq9 := ‹KQ _ _ _ ∧ _›
              have HQf := mkHid hq9.1
              go_wp2_with fail
              go_meet
              case rel =>
                refine ⟨by simp, ?_, ?_, HQf⟩
                · first | exact mkHid (so.keep hsF (KeepT.of_below hbG)) | exact mkHid hsF
                · first | exact mkHid ((hsR.out.keepS hkF).on hbG) | exact mkHid (((hsR.out.on hbO).keepS hkD).keepS hkF |>.on hbG) | exact mkHid (((hsR.out.keepS hkD).keepS hkF).on hbG)
          case rest =>
            obtain ⟨rfl, HS1, HR1, HK1⟩ := hcut
            go_upto_region 23 with fail
            rename World => Z
            have HOz : Hid (OwnF Z base (.slice (some ⟨g, 0, none⟩) ln lc) ls) := own_keepO HK1.out.o HOw0.out (by decide)
            have HRz : Hid (∀ x ∈ ls.take ix ++ ls.drop (ix + 1), RfK Z x.1 x.2 ∧ rightL x.1 = true) := fun x hx => ⟨(HRt.out x hx).1.keep (HK1.out.o.less (by decide)), (HRt.out x hx).2⟩
            have HLz : Hid (base ≤ Z.heap.size) := HR1.out.lo
            have hZd : Below Z.heap.size Z Z.drew := (Below.refl _ Z).drew
            have HZd := mkHid hZd
            have HSc : Hid (∀ W, Below Z.heap.size Z W → SrcF W (some ⟨g, 0, none⟩) ix lc (ls.take ix) ∧ SrcF W (cutF (some ⟨g, 0, none⟩) lc (ix + 1)) (ln - (ix + 1)) (lc - (ix + 1)) (ls.drop (ix + 1))) := fun W hW => ⟨((HOz.out.on hW).src HLn.out.symm ix (by omega)).1, ((HOz.out.on hW).src HLn.out.symm (ix + 1) (by omega)).2⟩
            have hs1 := fun W => slFh (some ⟨g, 0, none⟩) ln lc ix (by omega) (.inr ⟨g, rfl⟩) W
            have hs2 := fun W => slFl (some ⟨g, 0, none⟩) ln lc (ix + 1) (by omega) W
            rw [show ((ix + 1 : Nat) : Int) = (ix : Int) + 1 by omega] at hs2
            have hwp : IntKind.i64.wrap ((ix : Int) + 1) = (ix : Int) + 1 := by rw [IntKind.wrap_i64]; omega
            generalize cutF (some ⟨g, 0, none⟩) lc (ix + 1) = cu at *
            generalize hcn : ln - (ix + 1) = cn at *
            generalize lc - (ix + 1) = cc at *
            have HCn := mkHid hcn
            clear hcn
            refine wp_region_noPanic ?_
            refine wp_region_held_drew (S := fun w' => Below Z.heap.size Z w') (by kernel_rfl) hZd (fun hHeld => ?_)
            clear hZd
            refine takeH (some 104) (i := 1) (v := ?_) rfl (by kernel_rfl) (by kernel_rfl) (by kernel_rfl) (fun _ _ _ h => h) (Or.inl ⟨by rfl, ?_⟩) hHeld rfl ?_
            rotate_left
            · intro w hSw; go_simp; with_reducible rfl
            (try simp only [Act.put, List.setIfInBounds_toArray, List.set_cons_zero, List.set_cons_succ])
            refine takeH (some 105) (i := 2) (v := ?_) rfl (by kernel_rfl) (by kernel_rfl) (by kernel_rfl) (fun _ _ _ h => h) (Or.inl ⟨by rfl, ?_⟩) hHeld rfl ?_
            rotate_left
            · intro w hSw; go_simp; with_reducible rfl
            (try simp only [Act.put, List.setIfInBounds_toArray, List.set_cons_zero, List.set_cons_succ])
            refine takeH (some 106) (i := 3) (v := .slice (some ⟨g, 0, none⟩) ix lc) rfl (by kernel_rfl) (by kernel_rfl) (by kernel_rfl) (fun _ _ _ h => h) (Or.inl ⟨by rfl, ?_⟩) hHeld rfl ?_
            · intro w hSw; go_simp
            (try simp only [Act.put, List.setIfInBounds_toArray, List.set_cons_zero, List.set_cons_succ])
            refine takeH (some 108) (i := 5) (v := ?_) rfl (by kernel_rfl) (by kernel_rfl) (by kernel_rfl) (fun _ _ _ h => h) (Or.inl ⟨by rfl, ?_⟩) hHeld rfl ?_
            rotate_left
            · intro w hSw; go_simp; with_reducible rfl
            (try simp only [Act.put, List.setIfInBounds_toArray, List.set_cons_zero, List.set_cons_succ])
            refine takeH (some 109) (i := 6) (v := ?_) rfl (by kernel_rfl) (by kernel_rfl) (by kernel_rfl) (fun _ _ _ h => h) (Or.inl ⟨by rfl, ?_⟩) hHeld rfl ?_
            rotate_left
            · intro w hSw; go_simp; with_reducible rfl
            (try simp only [Act.put, List.setIfInBounds_toArray, List.set_cons_zero, List.set_cons_succ])
            refine takeH (some 110) (i := 7) (v := .int .i64 ((ix : Int) + 1)) rfl (by kernel_rfl) (by kernel_rfl) (by kernel_rfl) (fun _ _ _ h => h) (Or.inl ⟨by rfl, ?_⟩) hHeld rfl ?_
            · intro w hSw; go_simp
            (try simp only [Act.put, List.setIfInBounds_toArray, List.set_cons_zero, List.set_cons_succ])
            refine takeH (some 111) (i := 8) (v := .slice cu cn cc) rfl (by kernel_rfl) (by kernel_rfl) (by kernel_rfl) (fun _ _ _ h => h) (Or.inl ⟨by rfl, ?_⟩) hHeld rfl ?_
            · intro w hSw; go_simp
            (try simp only [Act.put, List.setIfInBounds_toArray, List.set_cons_zero, List.set_cons_succ])
            refine wpAnyH_ready (rs := [0]) (by kernel_rfl) (by simp) (AllReadyH.cons rfl (fun K hK => ?_) AllReadyH.nil)
            go_simp
            have D1 : Below Z.heap.size Z (Z.alloc (.cells #[] 46)).drew := ((Below.refl _ Z).alloc (Nat.le_refl _) _).drew
            have KE : OwnF (Z.alloc (.cells #[] 46)).drew Z.heap.size (.slice (some ⟨Z.heap.size, 0, none⟩) 0 0) [] := (OwnF.empty Z Z.heap.size (Nat.le_refl _)).on ((Below.refl _ _).drew)
            refine hK.out _ _ D1 (fun hHeld => ?_)
            (try simp only [Act.put, List.setIfInBounds_toArray, List.set_cons_zero, List.set_cons_succ])
            clear hK K
            generalize (Z.alloc (.cells #[] 46)).drew = V1 at *
            refine wpAnyH_ready (rs := [4]) (by kernel_rfl) (by simp) (AllReadyH.cons rfl (fun K hK => ?_) AllReadyH.nil)
            refine step_appFs V1 (by rfl) _ _ (by rfl) Z.heap.size _ [] (by rfl) KE (some ⟨g, 0, none⟩) ix lc (ls.take ix) (by rfl) (HSc.out V1 D1).1 (by simp only [List.length_nil]; omega) D1.size 107 rfl ?_
            intro v2 V2 ho2 hg2
            have D2 := D1.grown hg2 D1.size (fun j hj => (World.ownsRow.lt KE j hj).1)
            rw [List.nil_append] at ho2
            refine hK.out _ _ D2 (fun hHeld => ?_)
            (try simp only [Act.put, List.setIfInBounds_toArray, List.set_cons_zero, List.set_cons_succ])
            clear hK K hg2 KE
            refine wpAnyH_ready (rs := [9]) (by kernel_rfl) (by simp) (AllReadyH.cons rfl (fun K hK => ?_) AllReadyH.nil)
            refine step_appFs V2 (by rfl) _ _ (by rfl) Z.heap.size v2 (ls.take ix) (by rfl) ho2 cu cn cc (ls.drop (ix + 1)) (by rfl) (HSc.out V2 D2).2 (by rw [List.length_take]; have := HLn.out; have := HCn.out; omega) D2.size 112 rfl ?_
            intro v3 V3 ho3 hg3
            have D3 := D2.grown hg3 D2.size (fun j hj => (World.ownsRow.lt ho2 j hj).1)
            refine hK.out _ _ D3 (fun hHeld => ?_)
            (try simp only [Act.put, List.setIfInBounds_toArray, List.set_cons_zero, List.set_cons_succ])
            clear hK K hg3 ho2
            refine wpAnyH_ready (rs := [10]) (by kernel_rfl) (by simp) (AllReadyH.cons rfl (fun K hK => ?_) AllReadyH.nil)
            go_simp
            refine hK.out _ _ D3 (fun hHeld => ?_)
            (try simp only [Act.put, List.setIfInBounds_toArray, List.set_cons_zero, List.set_cons_succ])
            clear hK K
            refine wpAnyH_done (by kernel_rfl) ?_ _
            refine NoPanic.normal ?_
            have HA3 : Hid (Pl12 SA V3 S R U J K P D base t2 v3 (ls.take ix ++ ls.drop (ix + 1))) := ⟨so.keep HS1.out (KeepT.of_below D3), HR1.out.on D3, HO0.out, own_base ho3 HLz.out, fun x hx => ⟨(HRz.out x hx).1.keep (KeepO.of_below D3), (HRz.out x hx).2⟩⟩
            have HB3 : Hid (Below base w V3) := (HBY.out.trans HK1.out.b).trans (D3.mono HLz.out)
            have HL3 : Hid ((ls.take ix ++ ls.drop (ix + 1)).length ≤ k + 1) := by unfold Hid; rw [List.length_append, List.length_take, List.length_drop]; have := HLn.out; omega
            clear D1 D2 D3 ho3 hHeld hs1 hs2
            go_wp2_with fail
            go_roundw
            case rel => exact ⟨k + 1, t2, _, by omega, HL3.out, by go_num, HA3, HB3⟩
            case measure => simp [Go.RowKit.intOf]; omega
      | false =>
        by_cases h0 : n < 0 ∨ 7000 < n
        · by_cases h1 : n < 0
          · go_wp2_with fail
            go_roundw
            case rel => exact ⟨k + 1, t, ls, by omega, by have := HLn.out; omega, by go_num, HAY, HBY⟩
            case measure => simp [Go.RowKit.intOf]; omega
          · have h2 : 7000 < n := h0.resolve_left h1
            have d1 : decide (n < 0) = false := decide_eq_false h1
            go_wp2_with fail
            go_roundw
            case rel => exact ⟨k + 1, t, ls, by omega, by have := HLn.out; omega, by go_num, HAY, HBY⟩
            case measure => simp [Go.RowKit.intOf]; omega
        · have h1 : ¬ n < 0 := fun h => h0 (.inl h)
          have h2 : ¬ 7000 < n := fun h => h0 (.inr h)
          have d1 : decide (n < 0) = false := decide_eq_false h1
          have d2 : decide (7000 < n) = false := decide_eq_false h2
          obtain ⟨nn, rfl⟩ : ∃ nn : Nat, n = (nn : Int) := ⟨n.toNat, by omega⟩
          have hnn : nn ≤ 7000 := by omega
          have HPC := put_cases HAY.out.outs (filledL nn y)
          have HOu : Hid (∃ L2, Outs (putT t aj0 (filledL nn y)) L2) := by
            rcases HPC with ⟨p1, p2, _⟩ | ⟨_, p2, _⟩
            · exact ⟨_, (put_get HAY.out.outs p1 p2).2.2.1⟩
            · rw [p2]; exact ⟨_, HAY.out.outs⟩
          have HYes : Hid (putE t aj0 (filledL nn y) = 0 → Outs (putT t aj0 (filledL nn y)) (secsOf ls ++ (putR t aj0 (filledL nn y)).secs) ∧ rightL (putR t aj0 (filledL nn y)) = true ∧ getE (putT t aj0 (filledL nn y)) aj0 (putR t aj0 (filledL nn y)) = 0 ∧ getB (putT t aj0 (filledL nn y)) aj0 (putR t aj0 (filledL nn y)) = filledL nn y) := fun he => by
            rcases HPC with ⟨p1, p2, _⟩ | ⟨p1, _, _⟩
            · exact (put_get HAY.out.outs p1 p2).2.2
            · rw [he] at p1; rcases p1 with h | h <;> cases h
          have HNo : Hid (putE t aj0 (filledL nn y) ≠ 0 → putT t aj0 (filledL nn y) = t) := fun he => by
            rcases HPC with ⟨_, _, p3⟩ | ⟨_, p2, _⟩
            · exact absurd p3 he
            · exact p2
          have hXl : (putR t aj0 (filledL nn y)).secs.length ≤ 12 ∧ (putR t aj0 (filledL nn y)).sum.length ≤ 32 := by
            rcases HPC with ⟨p1, p2, _⟩ | ⟨_, _, p3⟩
            · have h1 := (put_get HAY.out.outs p1 p2).2.2.2.1
              exact ⟨right_len h1, by rw [right_sum h1]; omega⟩
            · rw [p3]; exact ⟨Nat.zero_le _, Nat.zero_le _⟩
          have hE3 : putE t aj0 (filledL nn y) = 0 ∨ putE t aj0 (filledL nn y) = 3 ∨ putE t aj0 (filledL nn y) = 44 := by
            rcases HPC with ⟨_, _, p3⟩ | ⟨p1 | p1, _, _⟩
            · exact .inl p3
            · exact .inr (.inl p1)
            · exact .inr (.inr p1)
          have HFl : ∀ W, Calls Tryz.prog 18 #[.int .i64 (nn : Int), .int .u8 (y.toNat : Int)] W fun e w' => (∃ va vc, e = .returned (.slice va nn vc) ∧ OwnB w' W.heap.size (.slice va nn vc) (filledL nn y)) ∧ Below W.heap.size W w' := fun W => (lawFilled12 nn y W (by omega)).mono (by
            rintro e w' ⟨v, rfl, ho, hb⟩
            obtain ⟨va, vc, rfl, _⟩ := ho.isB
            rw [filled_len] at ho ⊢
            exact ⟨⟨va, vc, rfl, ho⟩, hb⟩)
          have HPp : ∀ W va vc B, SA W S J P base t aj0 → OwnB W B (.slice va nn vc) (filledL nn y) → Calls Tryz.prog 17 #[.pointer (some ⟨S, 0, none⟩), .slice va nn vc] W fun e w' => (∃ q, e = .returned (.tuple #[.agg (rfc (putR t aj0 (filledL nn y)) q).toArray, .int .i64 (putE t aj0 (filledL nn y))]) ∧ RfK w' (putR t aj0 (filledL nn y)) q) ∧ SA w' S J P base (putT t aj0 (filledL nn y)) aj0 ∧ KS base W w' := fun W va vc B hS hO => bo.put W S J P base 0 t aj0 va nn vc _ hS HAY.out.ft (by omega) (fun V hV => by
            have := own_isB (own_keepO hV.o hO (by decide))
            rw [filled_len] at this
            exact this)
          have HPr : ∀ W va vc B, RefS W R U K D base 50 t aj0 → OwnB W B (.slice va nn vc) (filledL nn y) → Calls Tryz.prog 19 #[.pointer (some ⟨R, 0, none⟩), .slice va nn vc] W fun e w' => (∃ q, e = .returned (.tuple #[.agg (rfc (putR t aj0 (filledL nn y)) q).toArray, .int .i64 (putE t aj0 (filledL nn y))]) ∧ RfK w' (putR t aj0 (filledL nn y)) q) ∧ Hid (RefS w' R U K D base 50 (putT t aj0 (filledL nn y)) aj0) ∧ Hid (KC base W w') := fun W va vc B hR hO => refPut12 hR (by omega) rfl va nn vc _ (fun V hV => by
            have := own_isB (own_keep hV.t hO (by decide))
            rw [filled_len] at this
            exact this) (by omega)
          have HBk : ∀ W q, Calls Tryz.prog 21 #[.agg (rfc (putR t aj0 (filledL nn y)) q).toArray] W fun e w' => e = .returned (.agg (rfc (putR t aj0 (filledL nn y)) q).toArray) ∧ Below W.heap.size W w' := fun W q => lawBack12 _ q W
          have HSf : ∀ W q1 q2, IsRf W (putR t aj0 (filledL nn y)) q1 → IsRf W (putR t aj0 (filledL nn y)) q2 → Calls Tryz.prog 20 #[.agg (rfc (putR t aj0 (filledL nn y)) q1).toArray, .agg (rfc (putR t aj0 (filledL nn y)) q2).toArray] W fun e w' => e = .returned (.bool true) ∧ Below W.heap.size W w' := fun W q1 q2 h1 h2 => refSame12 _ q1 q2 W h1 h2 (by omega)
          have HGt : ∀ W q, SA W S J P base (putT t aj0 (filledL nn y)) aj0 → RfK W (putR t aj0 (filledL nn y)) q → Calls Tryz.prog 22 #[.func (.func 23) #[.pointer (some ⟨S, 0, none⟩)] #[], .agg (rfc (putR t aj0 (filledL nn y)) q).toArray] W fun e w' => (∃ v, e = .returned (.tuple #[v, .int .i64 (getE (putT t aj0 (filledL nn y)) aj0 (putR t aj0 (filledL nn y)))]) ∧ IsV w' v (getB (putT t aj0 (filledL nn y)) aj0 (putR t aj0 (filledL nn y)))) ∧ SA w' S J P base (putT t aj0 (filledL nn y)) aj0 ∧ KS base W w' := fun W q hS hR => by
            obtain ⟨L2, hO2⟩ := HOu.out
            exact bo.get W S J P base 0 _ aj0 _ q hS hO2.fit (by omega) (by omega) (fun V hV => hR V (hV.o.less (by decide)))
          have HFp : ∀ W, SA W S J P base (putT t aj0 (filledL nn y)) aj0 → Calls Tryz.prog 15 #[.pointer (some ⟨S, 0, none⟩)] W fun e w' => e = .returned (.int .i64 (freeL (mapL (putT t aj0 (filledL nn y)) aj0) (aj0.p.n - 51) : Int)) ∧ SA w' S J P base (putT t aj0 (filledL nn y)) aj0 ∧ KS base W w' := fun W hS => by
            obtain ⟨L2, hO2⟩ := HOu.out
            exact so.free W S J P base 0 _ aj0 hS hO2.fit
          have HFr : ∀ W, RefS W R U K D base 50 (putT t aj0 (filledL nn y)) aj0 → Calls Tryz.prog 16 #[.pointer (some ⟨R, 0, none⟩)] W fun e w' => e = .returned (.int .i64 (freeL (mapL (putT t aj0 (filledL nn y)) aj0) (aj0.p.n - 51) : Int)) ∧ Below W.heap.size W w' := fun W hR => refFree11 hR (by omega)
          have HFe := mkHid (filled_len nn y)
          generalize (freeL (mapL (putT t aj0 (filledL nn y)) aj0) (aj0.p.n - 51) : Int) = F at *
          generalize getE (putT t aj0 (filledL nn y)) aj0 (putR t aj0 (filledL nn y)) = gE at *
          generalize getB (putT t aj0 (filledL nn y)) aj0 (putR t aj0 (filledL nn y)) = gB at *
          generalize putT t aj0 (filledL nn y) = t2 at *
          generalize putR t aj0 (filledL nn y) = X at *
          generalize putE t aj0 (filledL nn y) = E at *
          generalize filledL nn y = fb at *
          clear HPC
          obtain ⟨xl, xs, xz⟩ := X
          simp only [rfc] at HPp HPr HBk HSf HGt
          go_upto_region 25 with fail
          have c3 : (wr.alloc (.cells #[.bool false, .int .i64 (nn : Int), .int .u8 (y.toNat : Int)] 39)).cell? ⟨wr.heap.size, 1, none⟩ = some (.int .i64 (nn : Int)) := HBl.out.cell 1
          have c4 : (wr.alloc (.cells #[.bool false, .int .i64 (nn : Int), .int .u8 (y.toNat : Int)] 39)).cell? ⟨wr.heap.size, 2, none⟩ = some (.int .u8 (y.toNat : Int)) := HBl.out.cell 2
          generalize wr.alloc (.cells #[.bool false, .int .i64 (nn : Int), .int .u8 (y.toNat : Int)] 39) = Y at *
          generalize wr.heap.size = BO at *
          go_wp2_with fail
          refine (HFl Y).mono ?_
          rintro e y1 ⟨⟨va1, vc1, rfl, ho1⟩, hb1⟩
          have HA1 := mkHid (HAY.out.on so hb1)
          have HBl1 := mkHid (HBl.out.on hb1)
          have HQ1 := mkHid (KQ.of_below (base := base) hb1 HAY.out.lo)
          have HP1 := HPp y1 va1 vc1 _ HA1.out.sa ho1
          clear ho1 hb1 c0 c1 c2 c3 c4 HPp
          go_wp2_with fail
          refine HP1.mono ?_
          rintro e y2 ⟨⟨⟨pa, pc, pb, pd⟩, rfl, hp2⟩, hs2, hk2⟩
          simp only
          have HQ2 := mkHid (HQ1.out.trans (KQ.ofS hk2))
          have HR2 := mkHid (HA1.out.rs.keepS hk2)
          have HW2 : Hid (OwnF y2 base (.slice la ln lc) ls) := own_keepO hk2.o HA1.out.ow (by decide)
          have HK2 : Hid (∀ x ∈ ls, RfK y2 x.1 x.2 ∧ rightL x.1 = true) := fun x hx => ⟨rfk_S (HA1.out.rk x hx).1 hk2, (HA1.out.rk x hx).2⟩
          have HBl2 := mkHid (hk2.o.blk HBl1.out (by decide))
          have HL2 : Hid (base ≤ y2.heap.size) := so.lo hs2
          have HS2 := mkHid hs2
          have HX2 := mkHid hp2
          clear hp2 hs2 hk2 HP1 HQ1 HBl1 HA1 HBl
          have hA2 : Below y2.heap.size y2 (y2.alloc (.cells #[.int .i64 xl, .slice pa xs.length pc, .slice pb xz.length pd] 44)) := (Below.refl _ y2).alloc (Nat.le_refl _) _
          have HPk2 := mkHid (Blk.new y2 44 [.int .i64 xl, .slice pa xs.length pc, .slice pb xz.length pd])
          go_upto_region 26 with fail
          have HS3 := mkHid (so.keep HS2.out (KeepT.of_below hA2))
          have HR3 := mkHid (HR2.out.on hA2)
          have HW3 := mkHid (HW2.out.on hA2)
          have HK3 : Hid (∀ x ∈ ls, RfK _ x.1 x.2 ∧ rightL x.1 = true) := fun x hx => ⟨(HK2.out x hx).1.keep (KeepO.of_below hA2), (HK2.out x hx).2⟩
          have HBl3 := mkHid (HBl2.out.on hA2)
          have HX3 := mkHid (HX2.out.keep (KeepO.of_below hA2))
          have HQ3 := mkHid (HQ2.out.trans (KQ.of_below hA2 HL2.out))
          have HL3 : Hid (base ≤ (y2.alloc (.cells #[.int .i64 xl, .slice pa xs.length pc, .slice pb xz.length pd] 44)).heap.size) := Nat.le_trans HL2.out hA2.size
          clear hA2 HS2 HR2 HW2 HK2 HBl2 HX2 HQ2 HL2
          generalize y2.alloc (.cells #[.int .i64 xl, .slice pa xs.length pc, .slice pb xz.length pd] 44) = Y2 at *
          generalize y2.heap.size = B14 at *
          have c3 : Y2.cell? ⟨BO, 1, none⟩ = some (.int .i64 (nn : Int)) := HBl3.out.cell 1
          have c4 : Y2.cell? ⟨BO, 2, none⟩ = some (.int .u8 (y.toNat : Int)) := HBl3.out.cell 2
          go_wp2_with fail
          refine (HFl Y2).mono ?_
          rintro e y4 ⟨⟨va4, vc4, rfl, ho4⟩, hb4⟩
          have HS4 := mkHid (so.keep HS3.out (KeepT.of_below hb4))
          have HW4 := mkHid (HW3.out.on hb4)
          have HK4 : Hid (∀ x ∈ ls, RfK y4 x.1 x.2 ∧ rightL x.1 = true) := fun x hx => ⟨(HK3.out x hx).1.keep (KeepO.of_below hb4), (HK3.out x hx).2⟩
          have HBl4 := mkHid (HBl3.out.on hb4)
          have HX4 := mkHid (HX3.out.keep (KeepO.of_below hb4))
          have HPk4 := mkHid (HPk2.out.on hb4)
          have HQ4 := mkHid (HQ3.out.trans (KQ.of_below hb4 HL3.out))
          have HP4 := HPr y4 va4 vc4 _ (HR3.out.on hb4) ho4
          clear ho4 hb4 c3 c4 HPr HS3 HR3 HW3 HK3 HBl3 HX3 HQ3 HL3 HPk2
          go_wp2_with fail
          refine HP4.mono ?_
          rintro e y5 ⟨⟨⟨ua, uc, ub, ud⟩, rfl, hu5⟩, hr5, hk5⟩
          simp only
          have hk5' := hk5.out
          have HS5 := mkHid (so.keep HS4.out hk5'.t)
          have HW5 : Hid (OwnF y5 base (.slice la ln lc) ls) := own_keep hk5'.t HW4.out (by decide)
          have HK5 : Hid (∀ x ∈ ls, RfK y5 x.1 x.2 ∧ rightL x.1 = true) := fun x hx => ⟨rfk_C (HK4.out x hx).1 hk5', (HK4.out x hx).2⟩
          have HBl5 := mkHid (hk5'.t.blk HBl4.out (by decide))
          have HX5 := mkHid (rfk_C HX4.out hk5')
          have HPk5 := mkHid (hk5'.t.blk HPk4.out (by decide))
          have HQ5 := mkHid (HQ4.out.trans (KQ.ofK hk5'))
          have HL5 : Hid (base ≤ y5.heap.size) := hr5.out.lo
          have HU5 := mkHid hu5
          clear hk5 hk5' hu5 HP4 HS4 HW4 HK4 HBl4 HX4 HPk4 HQ4
          have hA5 : Below y5.heap.size y5 (y5.alloc (.cells #[.int .i64 xl, .slice ua xs.length uc, .slice ub xz.length ud] 46)) := (Below.refl _ y5).alloc (Nat.le_refl _) _
          have HUk5 := mkHid (Blk.new y5 46 [.int .i64 xl, .slice ua xs.length uc, .slice ub xz.length ud])
          go_upto_region 27 with fail
          have HS6 := mkHid (so.keep HS5.out (KeepT.of_below hA5))
          have HR6 := mkHid (hr5.out.on hA5)
          have HW6 := mkHid (HW5.out.on hA5)
          have HK6 : Hid (∀ x ∈ ls, RfK _ x.1 x.2 ∧ rightL x.1 = true) := fun x hx => ⟨(HK5.out x hx).1.keep (KeepO.of_below hA5), (HK5.out x hx).2⟩
          have HBl6 := mkHid (HBl5.out.on hA5)
          have HX6 := mkHid (HX5.out.keep (KeepO.of_below hA5))
          have HU6 := mkHid (HU5.out.keep (KeepO.of_below hA5))
          have HPk6 := mkHid (HPk5.out.on hA5)
          have HQ6 := mkHid (HQ5.out.trans (KQ.of_below hA5 HL5.out))
          have HL6 : Hid (base ≤ (y5.alloc (.cells #[.int .i64 xl, .slice ua xs.length uc, .slice ub xz.length ud] 46)).heap.size) := Nat.le_trans HL5.out hA5.size
          clear hA5 HS5 hr5 HW5 HK5 HBl5 HX5 HU5 HPk5 HQ5 HL5
          generalize y5.alloc (.cells #[.int .i64 xl, .slice ua xs.length uc, .slice ub xz.length ud] 46) = Y6 at *
          generalize y5.heap.size = B16 at *
          have HKP : ∀ w', KQ base Y6 w' → KQ base Y6 w' ∧ w'.cell? ⟨B14, 0, none⟩ = some (.int .i64 xl) ∧ w'.cell? ⟨B14, 1, none⟩ = some (.slice pa xs.length pc) ∧ w'.cell? ⟨B14, 2, none⟩ = some (.slice pb xz.length pd) ∧ w'.cell? ⟨B16, 0, none⟩ = some (.int .i64 xl) ∧ w'.cell? ⟨B16, 1, none⟩ = some (.slice ua xs.length uc) ∧ w'.cell? ⟨B16, 2, none⟩ = some (.slice ub xz.length ud) := fun w' hW => ⟨hW, (hW.o.blk HPk6.out (by decide)).cell 0, (hW.o.blk HPk6.out (by decide)).cell 1, (hW.o.blk HPk6.out (by decide)).cell 2, (hW.o.blk HUk5.out (by decide)).cell 0, (hW.o.blk HUk5.out (by decide)).cell 1, (hW.o.blk HUk5.out (by decide)).cell 2⟩
          have hdr : Below Y6.heap.size Y6 Y6.drew := (Below.refl _ Y6).drew
          have HSd := mkHid (so.keep HS6.out (KeepT.of_below hdr))
          have HRd := mkHid (HR6.out.on hdr)
          have HQd : KQ base Y6 Y6.drew := KQ.of_below hdr HL6.out
          have HBk2 : ∀ W, Calls Tryz.prog 21 #[.agg #[.int .i64 xl, .slice pa xs.length pc, .slice pb xz.length pd]] W fun e w' => e = .returned (.agg #[.int .i64 xl, .slice pa xs.length pc, .slice pb xz.length pd]) ∧ Below W.heap.size W w' := fun W => HBk W ⟨pa, pc, pb, pd⟩
          have HSf2 : ∀ W, KQ base Y6 W → Calls Tryz.prog 20 #[.agg #[.int .i64 xl, .slice pa xs.length pc, .slice pb xz.length pd], .agg #[.int .i64 xl, .slice ua xs.length uc, .slice ub xz.length ud]] W fun e w' => e = .returned (.bool true) ∧ Below W.heap.size W w' := fun W hW => HSf W ⟨pa, pc, pb, pd⟩ ⟨ua, uc, ub, ud⟩ (HX6.out W (hW.o.less (by decide))) (HU6.out W (hW.o.less (by decide)))
          clear hdr HBk HSf HS6 HR6
          go_cut [157] from 57 to 182 (fun v wx => v = .bool false ∧ Hid (SA wx S J P base t2 aj0) ∧ Hid (RefS wx R U K D base 50 t2 aj0) ∧ Hid (KQ base Y6 wx))
          case first =>
            clear HYes HNo HGt
            rcases hE3 with rfl | rfl | rfl
            all_goals
              go_region_held3 (fun w' => KQ base Y6 w' ∧ w'.cell? ⟨B14, 0, none⟩ = some (.int .i64 xl) ∧ w'.cell? ⟨B14, 1, none⟩ = some (.slice pa xs.length pc) ∧ w'.cell? ⟨B14, 2, none⟩ = some (.slice pb xz.length pd) ∧ w'.cell? ⟨B16, 0, none⟩ = some (.int .i64 xl) ∧ w'.cell? ⟨B16, 1, none⟩ = some (.slice ua xs.length uc) ∧ w'.cell? ⟨B16, 2, none⟩ = some (.slice ub xz.length ud))
                (first | exact HKP _ HQd | assumption | (have hq0 := ‹KQ _ _ _ ∧ _›; first | exact HKP _ (hq0.1.trans (KQ.of_below hbK (Nat.le_trans HL6.out hq0.1.b.size))) | exact HKP _ (hq0.1.trans (KQ.of_below hbF (Nat.le_trans HL6.out hq0.1.b.size))) | exact HKP _ (hq0.1.trans (KQ.ofS hkF)) | exact HKP _ (hq0.1.trans (KQ.of_below hbG (Nat.le_trans HL6.out hq0.1.b.size)))))
                (first
                  | (go_at_call 21; refine (HBk2 _).mono ?_; rintro e w4 ⟨rfl, hbK⟩)
                  | (go_at_call 20; have hq0 := ‹KQ _ _ _ ∧ _›; refine (HSf2 _ hq0.1).mono ?_; rintro e w5 ⟨rfl, hbF⟩; clear hq0)
                  | (go_at_call 15; refine (HFp _ (by first | exact so.keep (so.keep HSd.out (KeepT.of_below hbK)) (KeepT.of_below hbF) | exact so.keep (so.keep (so.keep HSd.out (KeepT.of_below hbK)) (KeepT.of_below hbF)) (KeepT.of_below hbG))).mono ?_; rintro e w7 ⟨rfl, hsF, hkF⟩)
                  | (go_at_call 16; refine (HFr _ (by first | exact ((HRd.out.on hbK).on hbF).keepS hkF | exact (HRd.out.on hbK).on hbF)).mono ?_; rintro e w8 ⟨rfl, hbG⟩))
              all_goals
                have hq9 := ‹KQ _ _ _ ∧ _›
                have HQf := mkHid hq9.1
                go_wp2_with fail
                go_meet
                case rel =>
                  refine ⟨by simp, ?_, ?_, HQf⟩
                  · first | exact mkHid (so.keep hsF (KeepT.of_below hbG)) | exact mkHid hsF
                  · first | exact mkHid ((((HRd.out.on hbK).on hbF).keepS hkF).on hbG) | exact mkHid ((((HRd.out.on hbK).on hbF).on hbG).keepS hkF)
          case rest =>
            obtain ⟨rfl, HS7, HR7, HQ7⟩ := hcut
            clear HSd HRd HQd HBk2 HSf2 HFp HFr HOu HKP
            go_upto_region 29 with fail
            rename World => Z
            have HWz : Hid (OwnF Z base (.slice la ln lc) ls) := own_keepO HQ7.out.o HW6.out (by decide)
            have HKz : Hid (∀ x ∈ ls, RfK Z x.1 x.2 ∧ rightL x.1 = true) := fun x hx => ⟨(HK6.out x hx).1.keep (HQ7.out.o.less (by decide)), (HK6.out x hx).2⟩
            have HXz := mkHid (HX6.out.keep (HQ7.out.o.less (by decide)))
            have HUz := mkHid (HU6.out.keep (HQ7.out.o.less (by decide)))
            have HPz := mkHid (HQ7.out.o.blk HPk6.out (by decide))
            have HUk := mkHid (HQ7.out.o.blk HUk5.out (by decide))
            have HBz := mkHid (HQ7.out.o.blk HBl6.out (by decide))
            have HBw : Hid (Below base w Z) := HBY.out.trans (HQ6.out.trans HQ7.out).b
            have HLz : Hid (base ≤ Z.heap.size) := HR7.out.lo
            have HOt := mkHid HAY.out.outs
            clear HW6 HK6 HX6 HU6 HPk6 HUk5 HBl6 HQ6 HQ7 HL6 HBY HAY
            by_cases hE : E = 0
            · subst hE
              obtain ⟨hO2, hr2, hg2, hgb2⟩ := HYes.out rfl
              rw [hg2, hgb2] at HGt
              have HO2 : Hid (Outs t2 (secsOf (ls ++ [(⟨⟨xl, xs, xz⟩, ⟨ua, uc, ub, ud⟩⟩ : Rq)]))) := by unfold Hid; rw [secsOf_snoc]; exact hO2
              have HLf : Hid (∀ x ∈ ls ++ [(⟨⟨xl, xs, xz⟩, ⟨ua, uc, ub, ud⟩⟩ : Rq)], RfK Z x.1 x.2 ∧ rightL x.1 = true) := fun x hx => by
                rcases List.mem_append.1 hx with h | h
                · exact HKz.out x h
                · rw [List.mem_singleton.1 h]; exact ⟨HUz.out, hr2⟩
              have d0 : Z.cell? ⟨B16, 0, none⟩ = some (.int .i64 xl) := HUk.out.cell 0
              have d1 : Z.cell? ⟨B16, 1, none⟩ = some (.slice ua xs.length uc) := HUk.out.cell 1
              have d2 : Z.cell? ⟨B16, 2, none⟩ = some (.slice ub xz.length ud) := HUk.out.cell 2
              have hbA : Below Z.heap.size Z (Z.alloc (.cells #[.int .i64 xl, .slice ua xs.length uc, .slice ub xz.length ud] 46)) := (Below.refl _ Z).alloc (Nat.le_refl _) _
              have HbA := mkHid hbA
              have HWa := mkHid (HWz.out.on hbA)
              have hlsl : ls.length ≤ 4096 := by have := HLn.out; omega
              have HLs := mkHid hlsl
              have HLa : Hid (base ≤ (Z.alloc (.cells #[.int .i64 xl, .slice ua xs.length uc, .slice ub xz.length ud] 46)).heap.size) := Nat.le_trans HLz.out hbA.size
              have hmf : ∀ (fn : Fn) (first cap : Array Value) (w : World), (Instr.makeFunc fn first cap).run Tryz.prog w = .ok (.func fn first cap) w := fun _ _ _ _ => rfl
              clear hO2 hr2 hg2 hgb2 HYes HNo hbA hE3 hlsl HKz HUz
              go_upto_region 31 with (at_builtin; refine list_appF _ rfl (.tmp 160) (.tmp 162) rfl base (.slice la ln lc) ls rfl HWa.out Z.heap.size (⟨⟨xl, xs, xz⟩, ⟨ua, uc, ub, ud⟩⟩ : Rq) rfl (heap_alloc_new Z _) HLs.out HLa.out ?_; intro v5 Z5 ho5 hg5)
              have hKT := KeepT.grownF HWa.out hg5
              have HS8 := mkHid (kf (so.keep HS7.out (KeepT.of_below HbA.out)) hKT)
              have HR8 := mkHid ((HR7.out.on HbA.out).keepR (KeepO.ofT hKT (by decide)))
              have HW8 := mkHid ho5
              have hKO : KeepO RfU Z Z5 := (KeepO.of_below HbA.out).trans (KeepO.ofT hKT (by decide))
              have HK8 : Hid (∀ x ∈ ls ++ [(⟨⟨xl, xs, xz⟩, ⟨ua, uc, ub, ud⟩⟩ : Rq)], RfK Z5 x.1 x.2 ∧ rightL x.1 = true) := fun x hx => ⟨(HLf.out x hx).1.keep hKO, (HLf.out x hx).2⟩
              have HX8 := mkHid (HXz.out.keep hKO)
              have HP8 := mkHid (hKT.blk (HPz.out.on HbA.out) (by decide))
              have HBl8 := mkHid (hKT.blk (HBz.out.on HbA.out) (by decide))
              have HB8 : Hid (Below base w Z5) := (HBw.out.trans (HbA.out.mono HLz.out)).grown hg5 HLa.out (fun j hj => (World.ownsRow.lt HWa.out j hj).1)
              have HL8 : Hid (base ≤ Z5.heap.size) := Nat.le_trans HLa.out hg5.size
              have HG8 := HGt Z5 ⟨pa, pc, pb, pd⟩ HS8.out HX8.out
              have e0 : Z5.cell? ⟨B14, 0, none⟩ = some (.int .i64 xl) := HP8.out.cell 0
              have e1 : Z5.cell? ⟨B14, 1, none⟩ = some (.slice pa xs.length pc) := HP8.out.cell 1
              have e2 : Z5.cell? ⟨B14, 2, none⟩ = some (.slice pb xz.length pd) := HP8.out.cell 2
              clear hKT hKO ho5 hg5 HWa HS7 HR7 HWz HXz HPz HBz HBw HLf HbA HLa HS8 HX8 HP8 d0 d1 d2 HGt HUk
              go_wp2_with fail
              refine HG8.mono ?_
              rintro e y8 ⟨⟨v8, rfl, hv8⟩, hs8, hk8⟩
              obtain ⟨ga, gc, rfl, hi8⟩ := hv8
              rw [HFe.out] at hi8 ⊢
              have HS9 := mkHid hs8
              have HR9 := mkHid (HR8.out.keepS hk8)
              have HW9 : Hid (OwnF y8 base v5 (ls ++ [(⟨⟨xl, xs, xz⟩, ⟨ua, uc, ub, ud⟩⟩ : Rq)])) := own_keepO hk8.o HW8.out (by decide)
              have HK9 : Hid (∀ x ∈ ls ++ [(⟨⟨xl, xs, xz⟩, ⟨ua, uc, ub, ud⟩⟩ : Rq)], RfK y8 x.1 x.2 ∧ rightL x.1 = true) := fun x hx => ⟨rfk_S (HK8.out x hx).1 hk8, (HK8.out x hx).2⟩
              have HBl9 := mkHid (hk8.o.blk HBl8.out (by decide))
              have HB9 := mkHid (HB8.out.trans hk8.b)
              have HI9 := mkHid hi8
              have c5 : y8.cell? ⟨BO, 1, none⟩ = some (.int .i64 (nn : Int)) := HBl9.out.cell 1
              have c6 : y8.cell? ⟨BO, 2, none⟩ = some (.int .u8 (y.toNat : Int)) := HBl9.out.cell 2
              have HL9 : Hid (base ≤ y8.heap.size) := so.lo hs8
              clear hs8 hk8 hi8 HG8 HR8 HW8 HK8 HBl8 HB8 HL8 e0 e1 e2
              go_wp2_with fail
              refine (HFl y8).mono ?_
              rintro e y9 ⟨⟨va9, vc9, rfl, ho9⟩, hb9⟩
              have hi9 : IsB y9 va9 nn vc9 fb := by
                have := own_isB ho9
                rw [HFe.out] at this
                exact this
              have HSm := refSame ga nn gc fb va9 nn vc9 fb y9 (HI9.out.below hb9 rfl) hi9
              rw [eqB_self] at HSm
              have Hb9 := mkHid hb9
              clear ho9 hb9 hi9 c5 c6
              go_wp2_with fail
              refine HSm.mono ?_
              rintro e y10 ⟨rfl, nd, hnd⟩
              have hb10 : Below y9.heap.size y9 y10 := by rw [hnd]; exact bel_drewN (Below.refl _ _) nd
              have hbT := Hb9.out.trans (hb10.mono Hb9.out.size)
              have HA10 : Hid (Pl12 SA y10 S R U J K P D base t2 v5 (ls ++ [(⟨⟨xl, xs, xz⟩, ⟨ua, uc, ub, ud⟩⟩ : Rq)])) := ⟨so.keep HS9.out (KeepT.of_below hbT), HR9.out.on hbT, HO2.out, HW9.out.on hbT, fun x hx => ⟨(HK9.out x hx).1.keep (KeepO.of_below hbT), (HK9.out x hx).2⟩⟩
              have HB10 := mkHid (HB9.out.trans (hbT.mono HL9.out))
              have HL10 : Hid ((ls ++ [(⟨⟨xl, xs, xz⟩, ⟨ua, uc, ub, ud⟩⟩ : Rq)]).length ≤ k + 1) := by unfold Hid; rw [List.length_append, List.length_singleton]; have := HLn.out; omega
              clear hnd hb10 hbT HSm HS9 HR9 HW9 HK9 HBl9 HB9 HI9
              go_wp2_with fail
              go_roundw
              case rel => exact ⟨k + 1, t2, _, by omega, HL10.out, by go_num, HA10, HB10⟩
              case measure => simp [Go.RowKit.intOf]; omega
            · have e2 := HNo.out hE
              subst e2
              have HAz : Hid (Pl12 SA Z S R U J K P D base t2 (.slice la ln lc) ls) := ⟨HS7.out, HR7.out, HOt.out, HWz.out, HKz.out⟩
              clear HYes HNo HGt
              rcases hE3 with rfl | rfl | rfl
              · exact absurd rfl hE
              all_goals
                go_wp2_with fail
                go_roundw
                case rel => exact ⟨k + 1, t2, ls, by omega, by have := HLn.out; omega, by go_num, HAz, HBw⟩
                case measure => simp [Go.RowKit.intOf]; omega
    · have hlt' : ¬ (k : Int) < (len : Int) := by omega
      go_wp2_with fail
      go_ret
      exact ⟨rfl, HB.out⟩
end Go.Proofs.YthjdmfbengpepaaGreat
