/- SpacePlays, over any space that keeps the document. -/
import Derived.Test.YtdeoankmmolebaaGreatSpJ
namespace Go.Proofs.YtdeoankmmolebaaGreat
open Go.RowKit

set_option maxRecDepth 20000 in
set_option maxHeartbeats 8000000 in
theorem plays11 {JA : World → Nat → Nat → Nat → Jl → Prop} {TA SA : World → Nat → Nat → Nat → Nat → Tl → Jl → Prop} (ok : JrnOK JA TA) (so : SpcOK JA SA) (z : Int) (a : Option Addr) (len cap : Nat) (os : List Sq) (w : World) (hos : IsSs w a len cap os) :
    Calls Tryz.prog 4 #[.int .i64 z, .slice a len cap] w fun e w' => e = .returned (.bool true) ∧ Below w.heap.size w w' := by
  have HX := mkHid hos
  have hmax : (len : Int) ≤ 140737488351232 := by have := hos.max; omega
  clear hos
  have HAl := lawAlive11 ok so
  by_cases h150 : 150 < len
  · have h150' : (150 : Int) < (len : Int) := by omega
    go_enter Tryz.func4, Tryz.ntmps4
    go_wp2_with fail
    refine (HAl w).mono ?_
    rintro e x1 ⟨rfl, hb1⟩
    go_wp2_with fail
    go_ret
    exact ⟨rfl, hb1⟩
  have h150' : ¬ (150 : Int) < (len : Int) := by omega
  have HN := codNew (fun _ => False) z w w.heap.size (Nat.le_refl _) (fun _ h => h.elim)
  by_cases hz : ¬ (64 ≤ z ∧ z ≤ 4096)
  · simp only [if_neg hz] at HN
    have HM : ∀ W, Calls Tryz.prog 13 #[.int .i64 z] W fun e w' => e = .returned (.pointer none) ∧ Below W.heap.size W w' := fun W => by
      have := refNew9 z W
      simp only [if_neg hz] at this
      exact this
    clear hz
    go_enter Tryz.func4, Tryz.ntmps4
    go_wp2_with fail
    refine HN.mono ?_
    rintro e x1 ⟨rfl, hb1⟩
    have HB1 := mkHid hb1
    clear hb1 HN
    go_wp2_with fail
    refine (HM x1).mono ?_
    rintro e x2 ⟨rfl, hb2⟩
    have HB2 := mkHid (HB1.out.trans (hb2.mono HB1.out.size))
    clear hb2 HM
    go_wp2_with fail
    refine (HAl x2).mono ?_
    rintro e x3 ⟨rfl, hb3⟩
    have HB3 := mkHid (HB2.out.trans (hb3.mono HB2.out.size))
    clear hb3
    go_wp2_with fail
    go_ret
    exact ⟨rfl, HB3.out⟩
  have hz := Classical.not_not.1 hz
  obtain ⟨n, rfl⟩ : ∃ n : Nat, z = (n : Int) := ⟨z.toNat, by omega⟩
  simp only [if_pos hz] at HN
  have hn0 : 64 ≤ n := by omega
  have hn1 : n ≤ 4096 := by omega
  have en : (n : Int).toNat = n := by omega
  rw [en] at HN
  clear hz en
  obtain ⟨base, hbase⟩ : ∃ base, base = w.heap.size := ⟨_, rfl⟩
  have HBase := mkHid hbase
  rw [← hbase] at HN ⊢
  clear hbase
  go_enter Tryz.func4, Tryz.ntmps4
  go_wp2_with fail
  refine HN.mono ?_
  rintro e x1 ⟨⟨P, rfl, hI1⟩, hb1⟩
  have HB1 := mkHid hb1
  have HI1 := mkHid hI1
  have HL1 : Hid (base ≤ x1.heap.size) := hI1.low
  have HM := rkNewN n hn0 hn1 base x1 HL1.out
  clear HN hI1 hb1
  go_wp2_with fail
  refine HM.mono ?_
  rintro e x2 ⟨⟨D, rfl, hD2⟩, hb2⟩
  have HB2 := mkHid (HB1.out.trans (hb2.mono HL1.out))
  have HI2 := mkHid (HI1.out.on hb2)
  have HD2 := mkHid hD2
  have HL2 : Hid (base ≤ x2.heap.size) := hD2.low
  clear HM hD2 hb2 HI1 HB1 HL1
  go_wp2_with fail
  refine (HAl x2).mono ?_
  rintro e x3 ⟨rfl, hb3⟩
  have HB3 := mkHid (HB2.out.trans (hb3.mono HL2.out))
  have HI3 := mkHid (HI2.out.on hb3)
  have HD3 := mkHid (HD2.out.on hb3)
  have HMt := jMount ok HI3.out (few_mnew n hn0 hn1) (by omega) (mountN n hn0 hn1).1
  rw [(mountN n hn0 hn1).2.1, (mountN n hn0 hn1).2.2] at HMt
  clear hb3 HI2 HD2 HB2 HL2 HAl
  go_wp2_with fail
  refine HMt.mono ?_
  rintro e x4 ⟨⟨J, rfl, hJ4⟩, hk4⟩
  have HB4 := mkHid (HB3.out.trans hk4.b)
  have HJ4 := mkHid hJ4
  have HD4 := mkHid (HD3.out.keepO hk4.o (by decide) (by decide) (by decide))
  have HRm := refMountN n hn0 hn1 D base x4 HD4.out
  clear hJ4 hk4 HMt HB3 HI3 HD3
  go_wp2_with fail
  refine HRm.mono ?_
  rintro e x5 ⟨⟨K, rfl, hK5, hl5⟩, hR5, hk5⟩
  have HB5 := mkHid (HB4.out.trans hk5.out.b)
  have HJ5 := mkHid (ok.keepJ HJ4.out hk5.out.t)
  have HO := so.open_ x5 J P base 50 _ HJ5.out (newFit n hn0 hn1)
  clear hk5 HJ4 HD4 HRm HB4
  go_wp2_with fail
  refine HO.mono ?_
  rintro e x6 ⟨⟨S, rfl, hS6⟩, hk6⟩
  have HB6 := mkHid (HB5.out.trans hk6.b)
  have HS6 := mkHid hS6
  have HK6 : Hid (RjAt x6 K D 0 false) := hk6.o.blk hK5.out (by decide)
  have HR6 := mkHid (hR5.out.keepO hk6.o (by decide) (by decide) (by decide))
  have HRo := refOpen11 (j := ⟨Pl.new n, 0, false⟩) HK6.out HR6.out ((few_mnew n hn0 hn1).more (by omega)) (by show (0 : Nat) < 18446744073709551616; omega) hl5.out (by omega) rfl
  clear HO hS6 hk6 hK5 hR5 HJ5 HB5
  go_wp2_with fail
  refine HRo.mono ?_
  rintro e x7 ⟨⟨R, U, rfl, hr7⟩, hb7⟩
  have HP7 : Hid (Both11 SA x7 S R U J K P D base 50 ⟨[], false⟩ ⟨Pl.new n, 0, false⟩) := ⟨so.keep HS6.out (KeepT.of_below hb7.out), hr7.out, newFit n hn0 hn1⟩
  have HB7 := mkHid (HB6.out.trans (hb7.out.mono HR6.out.low))
  clear HRo hr7 hb7 HB6 HS6 HK6 HR6
  go_wp2_with fail
  go_loopw [12, 13, 14, 15, 16] (fun vt va vr vb i wr => ∃ (k S R U m : Nat) (t : Tl) (j : Jl), k ≤ len ∧ m ≤ 50 + k * 150 ∧ i = .int .i64 (k : Int) ∧ vt = .pointer (some ⟨S, 0, none⟩) ∧ va = .int .i64 0 ∧ vr = .pointer (some ⟨R, 0, none⟩) ∧ vb = .int .i64 0 ∧ Hid (Both11 SA wr S R U J K P D base m t j) ∧ Hid (Below base w wr)) (fun _ _ _ _ i _ => len - (Go.RowKit.intOf i).toNat)
  case atStart => exact ⟨0, S, R, U, 50, _, _, Nat.zero_le _, by omega, rfl, rfl, rfl, rfl, rfl, HP7, HB7⟩
  case round =>
    clear HP7 HB7
    obtain ⟨k, S, R, U, m, t, j, hk, hm, rfl, rfl, rfl, rfl, rfl, HA, HB⟩ := hrel
    by_cases hlt : k < len
    · have hlt' : (k : Int) < (len : Int) := by omega
      obtain ⟨b, off, rfl, hbl, hc⟩ := HX.out.cells (by omega)
      have hck := hc k hlt
      have HOk := mkHid (HX.out.ok k hlt)
      rw [← HBase.out] at hbl
      generalize os.getD k sq0 = o at *
      obtain ⟨kind, at', by'⟩ := o
      have c0 : wr.cell? ⟨b, off + k * 3, none⟩ = some (.int .i64 kind) := (HB.out.cell (p := ⟨b, off + k * 3, none⟩) hbl).trans (hck 0 (by omega))
      have c1 : wr.cell? ⟨b, off + k * 3 + 1, none⟩ = some (.int .i64 at') := (HB.out.cell (p := ⟨b, off + k * 3 + 1, none⟩) hbl).trans (hck 1 (by omega))
      have c2 : wr.cell? ⟨b, off + k * 3 + 2, none⟩ = some (.int .u8 (by'.toNat : Int)) := (HB.out.cell (p := ⟨b, off + k * 3 + 2, none⟩) hbl).trans (hck 2 (by omega))
      clear hck hc
      have hm8 : m ≤ 25000 := by omega
      have HBl : Hid (Blk (wr.alloc (.cells #[.int .i64 kind, .int .i64 at', .int .u8 (by'.toNat : Int)] 47)) wr.heap.size 47 [.int .i64 kind, .int .i64 at', .int .u8 (by'.toNat : Int)]) := Blk.newAt wr _ _ _ _ rfl rfl
      have hbY : Below wr.heap.size wr (wr.alloc (.cells #[.int .i64 kind, .int .i64 at', .int .u8 (by'.toNat : Int)] 47)) := (Below.refl _ wr).alloc (Nat.le_refl _) _
      have HLo : Hid (base ≤ wr.heap.size) := HA.out.rs.lo
      have HAY := mkHid (HA.out.on so hbY)
      have HBY := mkHid (HB.out.trans (hbY.mono HLo.out))
      by_cases h5 : kind = 5
      · subst h5
        have HSt := step11_commit ok so ⟨5, at', by'⟩ S R U J K P D base m t j _ HAY.out rfl
        obtain ⟨_, hFn, _⟩ := HA.out.fit.commit (by omega)
        have HFn := mkHid hFn
        clear hbY HA HB hFn
        simp only [sqc] at HSt
        go_wp2_with fail
        generalize wr.alloc (.cells #[.int .i64 5, .int .i64 at', .int .u8 (by'.toNat : Int)] 47) = Y at *
        refine HSt.mono ?_
        rintro e y1 ⟨rfl, hJ1, hR1, hk1⟩
        have HB1 := mkHid (HBY.out.trans hk1.out.b)
        have d0 : y1.cell? ⟨wr.heap.size, 0, none⟩ = some (.int .i64 5) := (hk1.out.o.blk HBl.out (by decide)).cell 0
        clear hk1 HSt HAY HBY HBl c0 c1 c2
        generalize cmJ t j = j1 at *
        have HOp := so.open_ y1 J P base (m + 150) j1 hJ1.out HFn.out
        go_wp2_with fail
        refine HOp.mono ?_
        rintro e y2 ⟨⟨S2, rfl, hS2⟩, hk2⟩
        have HR2 := mkHid (hR1.out.keepS hk2)
        have HB2 := mkHid (HB1.out.trans hk2.b)
        have HS2 := mkHid hS2
        obtain ⟨vL2, ls2, hr2⟩ := HR2.out.rt
        have HRo := refOpen11 hr2.rj hr2.rk hr2.few hr2.seq hr2.lowK (by omega) HFn.out.good.off
        have HL2 : Hid (base ≤ y2.heap.size) := HR2.out.lo
        clear hS2 hk2 HOp hJ1 hR1 HB1 hr2 HR2 d0
        go_wp2_with fail
        refine HRo.mono ?_
        rintro e y3 ⟨⟨R3, U3, rfl, hr3⟩, hb3⟩
        have HA3 : Hid (Both11 SA y3 S2 R3 U3 J K P D base (m + 150) ⟨[], false⟩ j1) := ⟨so.keep HS2.out (KeepT.of_below hb3.out), hr3.out, HFn.out⟩
        have HB3 := mkHid (HB2.out.trans (hb3.out.mono HL2.out))
        clear HRo hr3 hb3 HS2 HB2
        go_wp2_with fail
        go_roundw
        case rel => exact ⟨k + 1, S2, R3, U3, m + 150, _, j1, by omega, by omega, by go_num, rfl, rfl, rfl, rfl, HA3, HB3⟩
        case measure => simp [Go.RowKit.intOf]; omega
      · have HSt := step11_rest so ⟨kind, at', by'⟩ S R U J K P D base m t j _ HAY.out HOk.out h5
        clear hbY HA HB
        simp only [sqc] at HSt
        go_wp2_with fail
        generalize wr.alloc (.cells #[.int .i64 kind, .int .i64 at', .int .u8 (by'.toNat : Int)] 47) = Y at *
        refine HSt.mono ?_
        rintro e y1 ⟨rfl, ⟨t1, hA1⟩, hk1⟩
        have HB1 := mkHid (HBY.out.trans hk1.out.b)
        have d0 : y1.cell? ⟨wr.heap.size, 0, none⟩ = some (.int .i64 kind) := (hk1.out.o.blk HBl.out (by decide)).cell 0
        clear hk1 HSt HAY HBY HBl c0 c1 c2
        by_cases h6 : kind = 6
        · subst h6
          have HFn := mkHid hA1.out.fit.fresh
          have HOp := so.open_ y1 J P base m j (so.toJ hA1.out.sa) HFn.out
          go_wp2_with fail
          refine HOp.mono ?_
          rintro e y2 ⟨⟨S2, rfl, hS2⟩, hk2⟩
          have HR2 := mkHid (hA1.out.rs.keepS hk2)
          have HB2 := mkHid (HB1.out.trans hk2.b)
          have HS2 := mkHid hS2
          obtain ⟨vL2, ls2, hr2⟩ := HR2.out.rt
          have HRo := refOpen11 hr2.rj hr2.rk hr2.few hr2.seq hr2.lowK (by omega) HFn.out.good.off
          have HL2 : Hid (base ≤ y2.heap.size) := HR2.out.lo
          clear hS2 hk2 HOp hA1 HB1 hr2 HR2 d0
          go_wp2_with fail
          refine HRo.mono ?_
          rintro e y3 ⟨⟨R3, U3, rfl, hr3⟩, hb3⟩
          have HA3 : Hid (Both11 SA y3 S2 R3 U3 J K P D base m ⟨[], false⟩ j) := ⟨so.keep HS2.out (KeepT.of_below hb3.out), hr3.out, HFn.out⟩
          have HB3 := mkHid (HB2.out.trans (hb3.out.mono HL2.out))
          clear HRo hr3 hb3 HS2 HB2
          go_wp2_with fail
          go_roundw
          case rel => exact ⟨k + 1, S2, R3, U3, m, _, j, by omega, by omega, by go_num, rfl, rfl, rfl, rfl, HA3, HB3⟩
          case measure => simp [Go.RowKit.intOf]; omega
        · have b5 : (kind == 5) = false := beq_eq_false_iff_ne.2 h5
          have b6 : (kind == 6) = false := beq_eq_false_iff_ne.2 h6
          have d5 : decide (kind = 5) = false := decide_eq_false h5
          have d6 : decide (kind = 6) = false := decide_eq_false h6
          have HF1 := so.free y1 S J P base m t1 j hA1.out.sa hA1.out.fit
          have HFit := mkHid hA1.out.fit
          have hl48 := hA1.out.fit.len
          generalize hfr : freeL (mapL t1 j) (j.p.n - 51) = fr at *
          go_wp2_with fail
          refine HF1.mono ?_
          rintro e y2 ⟨rfl, hS2, hk2⟩
          have HR2 := mkHid (hA1.out.rs.keepS hk2)
          have HB2 := mkHid (HB1.out.trans hk2.b)
          have HF2 := refFree11 HR2.out (by omega)
          rw [hfr] at HF2
          have HS2 := mkHid hS2
          clear HF1 hA1 HB1 hS2 hk2 d0
          go_wp2_with fail
          refine HF2.mono ?_
          rintro e y3 ⟨rfl, hb3⟩
          have HS3 := mkHid (so.keep HS2.out (KeepT.of_below hb3))
          have HR3 := mkHid (HR2.out.on hb3)
          have HB3 := mkHid (HB2.out.trans (hb3.mono HR2.out.lo))
          have HL1 := so.left y3 S J P base m t1 j HS3.out HFit.out
          clear HF2 HS2 HR2 HB2 hb3
          go_wp2_with fail
          refine HL1.mono ?_
          rintro e y4 ⟨rfl, hS4, hk4⟩
          have HR4 := mkHid (HR3.out.keepS hk4)
          have HB4 := mkHid (HB3.out.trans hk4.b)
          have HS4 := mkHid hS4
          have HL2 := refLeft11 HR4.out
          clear HL1 HS3 HR3 HB3 hS4 hk4
          go_wp2_with fail
          refine HL2.mono ?_
          rintro e y5 ⟨rfl, hb5⟩
          have HA5 : Hid (Both11 SA y5 S R U J K P D base m t1 j) := ⟨so.keep HS4.out (KeepT.of_below hb5), HR4.out.on hb5, HFit.out⟩
          have HB5 := mkHid (HB4.out.trans (hb5.mono HR4.out.lo))
          clear HL2 HS4 HR4 HB4 hb5
          go_wp2_with fail
          go_roundw
          case rel => exact ⟨k + 1, S, R, U, m, t1, j, by omega, by omega, by go_num, rfl, rfl, rfl, rfl, HA5, HB5⟩
          case measure => simp [Go.RowKit.intOf]; omega
    · have hlt' : ¬ (k : Int) < (len : Int) := by omega
      have hm8 : m ≤ 25000 := by omega
      obtain ⟨vL, ls, hrt⟩ := HA.out.rs.rt
      have HD0 := mkHid hrt.rk
      have HP0 := mkHid (ok.disk (so.toJ HA.out.sa))
      have HFe := mkHid (hrt.rk.few (show m ≤ 100000 by omega))
      have HLo : Hid (base ≤ wr.heap.size) := HA.out.rs.lo
      clear hrt HA
      go_wp2_with fail
      generalize wr = W0 at *
      go_loopw [18] (fun i w1 => ∃ q : Nat, q ≤ 70 ∧ q ≤ n ∧ i = .int .i64 (q : Int) ∧ Hid (Below W0.heap.size W0 w1)) (fun i _ => 70 - (Go.RowKit.intOf i).toNat)
      case atStart => exact ⟨0, Nat.zero_le _, Nat.zero_le _, rfl, Below.refl _ _⟩
      case round =>
        obtain ⟨q, hq, hqn, rfl, HBw⟩ := hrel
        have HE : Hid (Below base w wr) := HB.out.trans (HBw.out.mono HLo.out)
        by_cases hqt : q < n ∧ q < 70
        · have hq1 : (q : Int) < (n : Int) := by omega
          have hq2 : (q : Int) < 70 := by omega
          have HS1 := dkStable (HP0.out.on HBw.out) HFe.out (q : Int)
          generalize hst : j.p.stE (q : Int) = se at *
          go_wp2_with fail
          refine HS1.mono ?_
          rintro e x1 ⟨⟨v1, rfl, hv1⟩, hb1⟩
          have HV1 := mkHid hv1
          have HB1 := mkHid (HBw.out.trans (hb1.mono HBw.out.size))
          have HS2 := rkStable D base m j.p (q : Int) x1 (HD0.out.on HB1.out) (by omega)
          rw [hst] at HS2
          clear HS1 hv1 hb1
          go_wp2_with fail
          refine HS2.mono ?_
          rintro e x2 ⟨v2, rfl, hv2, hb2⟩
          have HB2 := mkHid (HB1.out.trans (hb2.mono HB1.out.size))
          have HS := sameV (HV1.out.below hb2 rfl) hv2.isV
          rw [eqB_self] at HS
          clear HS2 hv2 hb2
          go_wp2_with fail
          refine HS.mono ?_
          rintro e x3 ⟨rfl, hb3⟩
          have HB3 := mkHid (HB2.out.trans (hb3.mono HB2.out.size))
          clear HS hb3
          go_wp2_with fail
          go_roundw
          case rel => exact ⟨q + 1, by omega, by omega, by go_num, HB3⟩
          case measure => simp [Go.RowKit.intOf]; omega
        · by_cases hq1 : (q : Int) < (n : Int)
          · have hq2 : ¬ (q : Int) < 70 := by omega
            go_wp2_with fail
            go_ret
            exact ⟨rfl, HE.out⟩
          · go_wp2_with fail
            go_ret
            exact ⟨rfl, HE.out⟩
end Go.Proofs.YtdeoankmmolebaaGreat
