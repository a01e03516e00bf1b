/- JournalTwice: the walk, over any journal that keeps the document. -/
import Derived.Test.YtacnoagjcacniaaGreatB43
namespace Go.Proofs.YtacnoagjcacniaaGreat
open Go.RowKit

theorem lightX_l {os : List Xq} (h : lightX os = true) {i : Nat} (hi : i < os.length) : (os.getD i xq0).l.length ≤ 60 := by
  unfold lightX at h
  exact (of_decide_eq_true h).1 i hi
theorem lightX_len {os : List Xq} (h : lightX os = true) : os.length ≤ 12 := by
  unfold lightX at h
  exact (of_decide_eq_true h).2

set_option maxRecDepth 20000 in
set_option maxHeartbeats 8000000 in
theorem twice10 {JA : World → Nat → Nat → Nat → Jl → Prop} {TA : World → Nat → Nat → Nat → Nat → Tl → Jl → Prop} (ok : JrnOK JA TA) (a : Option Addr) (len cap : Nat) (os : List Xq) (w : World) (hos : IsXs w a len cap os) :
    Calls Tryz.prog 5 #[.slice a len cap] w fun e w' => e = .returned (.bool true) ∧ Below w.heap.size w w' := by
  have HA := fun W => lawAlive10 ok W
  have HL := lawLight10 a len cap os w hos
  cases hli : lightX os with
  | false =>
    rw [hli] at HL
    clear hos hli
    go_enter Tryz.func5, Tryz.ntmps5
    go_wp2_with fail
    refine HL.mono ?_
    rintro e x1 ⟨rfl, hb1⟩
    go_wp2_with fail
    refine (HA _).mono ?_
    rintro e x2 ⟨rfl, hb2⟩
    go_wp2_with fail
    go_ret
    exact ⟨rfl, hb1.trans (hb2.mono hb1.size)⟩
  | true =>
    rw [hli] at HL
    have HLi := mkHid hli
    have HOS := mkHid hos
    obtain ⟨base, hbase⟩ : ∃ base, base = w.heap.size := ⟨_, rfl⟩
    have HBase := mkHid hbase
    have hmax : (len : Int) ≤ 12 := by
      have := lightX_len hli
      rw [hos.len_eq] at this
      omega
    rw [← hbase] at HL ⊢
    clear hos hli hbase
    go_enter Tryz.func5, Tryz.ntmps5
    go_wp2_with fail
    refine HL.mono ?_
    rintro e x0 ⟨rfl, hb0⟩
    have HB0 := mkHid hb0
    have BB0 : base ≤ x0.heap.size := Nat.le_trans (Nat.le_of_eq HBase.out) hb0.size
    have HN : Calls Tryz.prog 9 #[.int .i64 64] x0 fun e w' => (∃ P, e = .returned (.tuple #[.pointer (some ⟨P, 0, none⟩), .int .i64 0]) ∧ IsD0 w' P base (Pl.new 64)) ∧ Hid (Below x0.heap.size x0 w') := by
      refine (codNew (fun _ => False) 64 x0 base BB0 (fun _ h => h.elim)).mono ?_
      rintro e w' ⟨h1, h2⟩
      rw [if_pos (by omega)] at h1
      exact ⟨h1, h2⟩
    clear HL hb0
    go_wp2_with fail
    refine HN.mono ?_
    rintro e x1 ⟨⟨P, rfl, hI1⟩, hb1⟩
    have HB1 := mkHid (HB0.out.trans (hb1.out.mono BB0))
    have BB1 := mkHid (Nat.le_trans BB0 hb1.out.size)
    have HI1 := mkHid hI1
    clear HN hI1 hb1 BB0
    go_wp2_with fail
    refine (HA _).mono ?_
    rintro e x2 ⟨rfl, hb2⟩
    have HB2 := mkHid (HB1.out.trans (hb2.mono BB1.out))
    have HI2 := mkHid (HI1.out.on hb2)
    clear HA hb2
    go_wp2_with fail
    go_loopw [5] (fun i wr => ∃ k : Nat, k ≤ len ∧ i = .int .i64 (k : Int) ∧ (∃ p, Hid (IsD0 wr P base p ∧ FewM p (k * 300) ∧ Good p)) ∧ Hid (Below base w wr)) (fun i _ => len - (intOf i).toNat)
    case atStart => exact ⟨0, Nat.zero_le _, rfl, ⟨_, mkHid ⟨HI2.out, few_mnew 64 (by omega) (by omega), good_new 64⟩⟩, HB2⟩
    case round =>
      obtain ⟨k, hk, rfl, ⟨p, HIp⟩, HBw⟩ := hrel
      clear HI2 HB2 HI1 HB1 HB0 BB1
      by_cases hlt : k < len
      · have hlt' : (k : Int) < (len : Int) := by omega
        obtain ⟨b, off, rfl, hbl, hc⟩ := HOS.out.cells (by omega)
        have hck := hc k hlt
        have hoq := HOS.out.ok k hlt
        have hl60 : (os.getD k xq0).l.length ≤ 60 := lightX_l HLi.out (by rw [HOS.out.len_eq]; exact hlt)
        rw [← HBase.out] at hbl hoq
        generalize os.getD k xq0 = o at *
        obtain ⟨l, la, lc, arm, keep, ka, kc, more, rest, ra, rc⟩ := o
        have c0 : wr.cell? ⟨b, off + k * 5, none⟩ = some (.slice la l.length lc) := (HBw.out.cell (p := ⟨b, off + k * 5, none⟩) hbl).trans (hck 0 (by omega))
        have c1 : wr.cell? ⟨b, off + k * 5 + 1, none⟩ = some (.int .i64 arm) := (HBw.out.cell (p := ⟨b, off + k * 5 + 1, none⟩) hbl).trans (hck 1 (by omega))
        have c2 : wr.cell? ⟨b, off + k * 5 + 2, none⟩ = some (.slice ka keep.length kc) := (HBw.out.cell (p := ⟨b, off + k * 5 + 2, none⟩) hbl).trans (hck 2 (by omega))
        have c3 : wr.cell? ⟨b, off + k * 5 + 3, none⟩ = some (.int .i64 more) := (HBw.out.cell (p := ⟨b, off + k * 5 + 3, none⟩) hbl).trans (hck 3 (by omega))
        have c4 : wr.cell? ⟨b, off + k * 5 + 4, none⟩ = some (.slice ra rest.length rc) := (HBw.out.cell (p := ⟨b, off + k * 5 + 4, none⟩) hbl).trans (hck 4 (by omega))
        have HQ := mkHid (hoq.on HBw.out)
        clear hck hoq hc
        go_wp2_with fail
        have KB : Blk (wr.alloc (.cells #[.slice la l.length lc, .int .i64 arm, .slice ka keep.length kc, .int .i64 more, .slice ra rest.length rc] 38)) wr.heap.size 38 [.slice la l.length lc, .int .i64 arm, .slice ka keep.length kc, .int .i64 more, .slice ra rest.length rc] := Blk.newAt wr _ _ _ _ rfl rfl
        have hbY0 : Below wr.heap.size wr (wr.alloc (.cells #[.slice la l.length lc, .int .i64 arm, .slice ka keep.length kc, .int .i64 more, .slice ra rest.length rc] 38)) := (Below.refl _ wr).alloc (Nat.le_refl _) _
        have BBw : base ≤ wr.heap.size := Nat.le_trans (Nat.le_of_eq HBase.out) HBw.out.size
        have HIY := mkHid (HIp.out.1.on hbY0)
        generalize wr.alloc (.cells #[.slice la l.length lc, .int .i64 arm, .slice ka keep.length kc, .int .i64 more, .slice ra rest.length rc] 38) = Y at *
        have HBY := mkHid (hbY0.mono BBw)
        generalize wr.heap.size = B at *
        have HKB := mkHid KB
        have hl60' : (l.length : Int) ≤ 60 := by have : l.length ≤ 60 := hl60; omega
        have HF := mkHid (HIp.out.2.1)
        obtain ⟨hme, hgood1, _⟩ := mount_good HF.out HIp.out.2.2
        have HMt := jMount ok HIY.out HF.out (by omega) hme
        have HF1 := mkHid HF.out.mount
        clear c0 c1 c2 c3 c4 hbY0 BBw KB hme hgood1 hl60
        generalize mountP p = p1 at *
        have HS1 : Hid (mountS p < 18446744073709551616) := mountS_lt
        generalize mountS p = s1 at *
        refine HMt.mono ?_
        rintro e x3 ⟨⟨J, rfl, hJ3⟩, hk3⟩
        have HK3 := mkHid hk3
        have o1 : x3.cell? ⟨B, 1, none⟩ = some (.int .i64 arm) := (hk3.o.blk HKB.out (by decide)).cell 1
        have HJ3 := mkHid hJ3
        have HAr := armT (fun _ => False) x3 P base p1 arm (ok.disk hJ3) HQ.out.arm0 HQ.out.arm1
        clear HMt hJ3 hk3
        go_wp2_with fail
        refine HAr.mono ?_
        rintro e x4 ⟨⟨y4, rfl⟩, hI4, hT4, _, hb4⟩
        have HJ4 := mkHid (ok.turn HJ3.out hT4 hI4)
        have HK4 := mkHid (HK3.out.trans (KP.ofPD hT4 hb4))
        have HBg := ok.begin_ x4 J P base _ _ HJ4.out (HF1.out.armed arm) (by omega)
        clear HAr hI4 hT4 hb4 o1
        go_wp2_with fail
        refine HBg.mono ?_
        rintro e x5 ⟨⟨T, rfl, hT5⟩, hk5⟩
        have HT5 := mkHid hT5
        have HK5 := mkHid (HK4.out.trans hk5)
        clear HBg hT5 hk5
        go_wp2_with fail
        go_loopw [10] (fun n wr2 => ∃ q : Nat, q ≤ l.length ∧ n = .int .i64 (q : Int) ∧ (∃ t, Hid (TA wr2 T J P base t ⟨p1.armed arm, s1, false⟩ ∧ t.l.length ≤ 48)) ∧ Hid (KP base Y wr2)) (fun n _ => l.length - (intOf n).toNat)
        case atStart => exact ⟨0, Nat.zero_le _, rfl, ⟨_, mkHid ⟨HT5.out, Nat.zero_le _⟩⟩, HK5⟩
        case round =>
          obtain ⟨q, hq, rfl, ⟨t, HT⟩, HK⟩ := hrel
          rename World => wr2
          clear HT5 HK5 HJ4 HK4 HJ3 HK3
          have o0 : wr2.cell? ⟨B, 0, none⟩ = some (.slice la l.length lc) := (HK.out.o.blk HKB.out (by decide)).cell 0
          by_cases hql : q < l.length
          · have hql' : (q : Int) < (l.length : Int) := by omega
            obtain ⟨b2, off2, rfl, hbl2, hc2⟩ := (HQ.out.ps wr2 (HBY.out.trans HK.out.b)).cells (by show 0 < l.length; omega)
            have d0 := hc2 q hql 0 (by omega)
            have d1 := hc2 q hql 1 (by omega)
            have d2 := hc2 q hql 2 (by omega)
            have hat := HQ.out.at0 (l.getD q pq0) (by
              rw [List.getD_eq_getElem?_getD, List.getElem?_eq_getElem hql]
              exact List.getElem_mem hql)
            have HPs : Hid (∀ W, Below base wr2 W → ∀ j, j < 3 → W.cell? ⟨b2, off2 + q * 3 + j, none⟩ = (pqc (l.getD q pq0))[j]?) := fun W hW j hj => by
              obtain ⟨b3, off3, e3, _, hc3⟩ := (HQ.out.ps W (HBY.out.trans (HK.out.b.trans hW))).cells (by show 0 < l.length; omega)
              simp only [Option.some.injEq, Addr.mk.injEq] at e3
              obtain ⟨rfl, rfl, _⟩ := e3
              exact hc3 q hql j hj
            dsimp only at d0 d1 d2
            generalize l.getD q pq0 = pu at *
            obtain ⟨at', by', odd⟩ := pu
            generalize l.length = ll at *
            have HLow : Hid (base ≤ wr2.heap.size) := (ok.disk (ok.toJ HT.out.1)).low
            have HSec : ∀ W, base ≤ W.heap.size → Calls Tryz.prog 16 #[.int .u8 (by'.toNat : Int), .int .u8 (odd.toNat : Int)] W fun e w' => ∃ v, e = .returned v ∧ Hid (OwnB w' W.heap.size v (secL by' odd)) ∧ Hid (Below W.heap.size W w') ∧ Hid (KP base W w') := fun W hW => (lawSector9 by' odd W).mono fun e w' ⟨v, h1, h2, h3⟩ => ⟨v, h1, h2, h3, KP.of_below h3 hW⟩
            have HWr : ∀ W v W0, TA W T J P base t ⟨p1.armed arm, s1, false⟩ → OwnB W W0 v (secL by' odd) → Calls Tryz.prog 15 #[.pointer (some ⟨T, 0, none⟩), .int .i64 at', v] W fun e w' => e = .returned (.int .i64 (t.wrE ⟨p1.armed arm, s1, false⟩ at' (secL by' odd))) ∧ Hid (TA w' T J P base (t.write ⟨p1.armed arm, s1, false⟩ at' (secL by' odd)) ⟨p1.armed arm, s1, false⟩) ∧ Hid (KP base W w') := fun W v W0 h1 h2 => jWrite ok h1 HT.out.2 (HF1.out.armed arm) (by omega) hat.1 hat.2 (by rw [secL_len]; omega) h2
            have HTl : Hid ((t.write ⟨p1.armed arm, s1, false⟩ at' (secL by' odd)).l.length ≤ 48) := tlWrite_len _ _ _ _ HT.out.2
            generalize t.wrE ⟨p1.armed arm, s1, false⟩ at' (secL by' odd) = we at *
            have HKP : ∀ w', Hid (KP base wr2 w') → Hid (KP base wr2 w') ∧ w'.cell? ⟨B, 0, none⟩ = some (.slice (some ⟨b2, off2, none⟩) ll lc) ∧ w'.cell? ⟨b2, off2 + q * 3, none⟩ = some (.int .i64 at') ∧ w'.cell? ⟨b2, off2 + q * 3 + 1, none⟩ = some (.int .u8 (by'.toNat : Int)) ∧ w'.cell? ⟨b2, off2 + q * 3 + 2, none⟩ = some (.int .u8 (odd.toNat : Int)) := fun w' h => ⟨h, (h.out.o.blk (HK.out.o.blk HKB.out (by decide)) (by decide)).cell 0, HPs.out w' h.out.b 0 (by omega), HPs.out w' h.out.b 1 (by omega), HPs.out w' h.out.b 2 (by omega)⟩
            clear d0 d1 d2 hc2
            have HK0 := mkHid (HKP _ (mkHid (KP.of_below ((Below.refl _ wr2).drew) HLow.out)))
            go_wp2_with fail
            go_region_held3 (fun w' => Hid (KP base wr2 w') ∧ w'.cell? ⟨B, 0, none⟩ = some (.slice (some ⟨b2, off2, none⟩) ll lc) ∧ w'.cell? ⟨b2, off2 + q * 3, none⟩ = some (.int .i64 at') ∧ w'.cell? ⟨b2, off2 + q * 3 + 1, none⟩ = some (.int .u8 (by'.toNat : Int)) ∧ w'.cell? ⟨b2, off2 + q * 3 + 2, none⟩ = some (.int .u8 (odd.toNat : Int)))
              (first | exact HK0.out | assumption | (have hq0 := ‹Hid (KP _ _ _) ∧ _›; exact HKP _ (mkHid (hq0.1.out.trans hkx.out))))
              (first
                | (go_at_call 16; have hq0 := ‹Hid (KP _ _ _) ∧ _›; refine (HSec _ (Nat.le_trans HLow.out hq0.1.out.b.size)).mono ?_; rintro e y1 ⟨v1, rfl, hv1, hnx, hkx⟩; clear hq0)
                | (go_at_call 15; refine (HWr _ _ _ (ok.keepT HT.out.1 (KeepT.of_below (((Below.refl _ wr2).drew).trans hnx.out))) hv1.out).mono ?_; rintro e y2 ⟨rfl, hT2, hkx⟩))
            all_goals
              have hq9 := ‹Hid (KP _ _ _) ∧ _›
              have HKn := mkHid (HK.out.trans hq9.1.out)
              clear hq9
              go_wp2_with fail
              go_roundw
              case rel => exact ⟨q + 1, by omega, by go_num, ⟨_, mkHid ⟨hT2.out, HTl.out⟩⟩, HKn⟩
              case measure => simp [intOf]; omega
          · have hql' : ¬ (q : Int) < (l.length : Int) := by omega
            have HC := ok.commit wr2 T J P base _ t _ HT.out.1 HT.out.2 (HF1.out.armed arm) (by omega) HS1.out
            have HF2 := mkHid ((HF1.out.armed arm).commit (j := ⟨p1.armed arm, s1, false⟩) HT.out.2)
            generalize cmE t ⟨p1.armed arm, s1, false⟩ = ce at *
            generalize cmJ t ⟨p1.armed arm, s1, false⟩ = j2 at *
            generalize cmT t ⟨p1.armed arm, s1, false⟩ = t2 at *
            go_wp2_with fail
            refine HC.mono ?_
            rintro e x6 ⟨rfl, hT6, hk6⟩
            have HK6 := mkHid (HK.out.trans hk6)
            have HI6 := mkHid (ok.disk (ok.toJ hT6))
            have o2 : x6.cell? ⟨B, 2, none⟩ = some (.slice ka keep.length kc) := (HK6.out.o.blk HKB.out (by decide)).cell 2
            have HCr := crashT (fun _ => False) x6 P base j2.p ka kc keep HI6.out (HF2.out.few (by omega)) HQ.out.keepLen (fun W _ hW => HQ.out.keep W (HBY.out.trans (HK6.out.b.trans hW)))
            have HF3 := mkHid (HF2.out.crash keep)
            have HG3 := mkHid (good_crash j2.p keep)
            have HC3 : Hid ((j2.p.crash keep).ca = []) := rfl
            generalize j2.p.crash keep = p3 at *
            clear HC hT6 hk6 o0
            go_wp2_with fail
            refine HCr.mono ?_
            rintro e x7 ⟨⟨y7, rfl⟩, hI7, hT7, _, hb7⟩
            have HK7 := mkHid (HK6.out.trans (KP.ofPD hT7 hb7))
            obtain ⟨hme3, hg4, _⟩ := mount_good HF3.out HG3.out
            have HM4 := jMountT ok hI7 HF3.out (by omega) hme3
            have HF4 := mkHid HF3.out.mount
            have HG4 := mkHid hg4
            obtain ⟨hme5, hg5, _⟩ := mount_good HF4.out hg4
            have HF5 := mkHid HF4.out.mount
            have HG5 := mkHid hg5
            have HTw := mkHid (mount_twice HF3.out HG3.out HC3.out)
            have HNn : Hid ((mountP (mountP p3)).n = (mountP p3).n) := mount_n _
            have HME5 := mkHid hme5
            clear HCr hI7 hT7 hb7 o2 hme3 hg4 hme5 hg5
            go_wp2_with fail
            refine HM4.mono ?_
            rintro e x8 ⟨⟨Ja, rfl, hJ8⟩, hT8, hb8⟩
            have HK8 := mkHid (HK7.out.trans (KP.ofPD hT8 hb8))
            have HJ8 := mkHid hJ8
            have HIm := lawImage10 P base _ _ x8 (ok.disk hJ8) HF4.out (by omega)
            generalize mountP p3 = p4 at *
            generalize mountS p3 = s3 at *
            clear HM4 hJ8 hT8 hb8
            go_wp2_with fail
            refine HIm.mono ?_
            rintro e x9 ⟨⟨v9, rfl, hv9⟩, hb9⟩
            have HJ9 := mkHid (ok.keepJ HJ8.out (KeepT.of_below hb9))
            have HK9 := mkHid (HK8.out.trans (KP.of_below hb9 (ok.disk HJ8.out).low))
            have HV9 := mkHid hv9
            have HM5 := jMountT ok (ok.disk HJ9.out) HF4.out (by omega) HME5.out
            clear HIm hv9 hb9
            go_wp2_with fail
            refine HM5.mono ?_
            rintro e xa ⟨⟨Jb, rfl, hJa⟩, hTa, hba⟩
            have HKa := mkHid (HK9.out.trans (KP.ofPD hTa hba))
            have HJb := mkHid hJa
            have HJa := mkHid (ok.turn HJ9.out hTa (ok.disk hJa))
            have HVa : Hid (OwnB xa x8.heap.size v9 (imgTo p4 p4.n)) := own_keep hTa HV9.out (by decide)
            have hs4 : mountS p4 = s3 := HTw.out.1
            have HI5 : Hid (imgTo (mountP p4) (mountP p4).n = imgTo p4 p4.n) := by unfold Hid imgTo; rw [HNn.out, HTw.out.2.1]
            have HQa := ok.seq xa Ja P base _ HJa.out
            clear HM5 hJa hTa hba
            rw [hs4] at HJb
            dsimp only at HQa
            go_wp2_with fail
            refine HQa.mono ?_
            rintro e xb ⟨rfl, hbb⟩
            have HLa : Hid (base ≤ xa.heap.size) := (ok.disk HJb.out).low
            have HKb := mkHid (HKa.out.trans (KP.of_below hbb HLa.out))
            have HJb2 := mkHid (ok.keepJ HJb.out (KeepT.of_below hbb))
            have HVb : Hid (OwnB xb x8.heap.size v9 (imgTo p4 p4.n)) := own_keep (ts := []) (KeepT.of_below hbb) HVa.out (by simp)
            have HQb := ok.seq xb Jb P base _ HJb2.out
            dsimp only at HQb
            clear HQa hbb
            go_wp2_with fail
            refine HQb.mono ?_
            rintro e xc ⟨rfl, hbc⟩
            have HLb : Hid (base ≤ xb.heap.size) := (ok.disk HJb2.out).low
            have HKc := mkHid (HKb.out.trans (KP.of_below hbc HLb.out))
            have HJc := mkHid (ok.keepJ HJb2.out (KeepT.of_below hbc))
            have HVc : Hid (OwnB xc x8.heap.size v9 (imgTo p4 p4.n)) := own_keep (ts := []) (KeepT.of_below hbc) HVb.out (by simp)
            have HIc := lawImage10 P base _ _ xc (ok.disk HJc.out) HF5.out (by omega)
            clear HQb hbc
            go_wp2_with fail
            refine HIc.mono ?_
            rintro e xd ⟨⟨vd, rfl, hvd⟩, hbd⟩
            have HLc : Hid (base ≤ xc.heap.size) := (ok.disk HJc.out).low
            have HKd := mkHid (HKc.out.trans (KP.of_below hbd HLc.out))
            have HId := mkHid ((ok.disk HJc.out).on hbd)
            have HVd : Hid (OwnB xd x8.heap.size v9 (imgTo p4 p4.n)) := own_keep (ts := []) (KeepT.of_below hbd) HVc.out (by simp)
            rw [HI5.out] at hvd
            have HSm := sameV HVd.out.isV hvd.isV
            rw [eqB_self] at HSm
            clear HIc hvd hbd
            go_wp2_with fail
            refine HSm.mono ?_
            rintro e xe ⟨rfl, hbe⟩
            have HLd : Hid (base ≤ xd.heap.size) := HId.out.low
            have HKe := mkHid (HKd.out.trans (KP.of_below hbe HLd.out))
            have HIe := mkHid (HId.out.on hbe)
            have HBe := mkHid (HBw.out.trans (HBY.out.trans HKe.out.b))
            have HFe : Hid (FewM (mountP p4) ((k + 1) * 300)) := HF5.out.more (by omega)
            clear HSm hbe
            go_wp2_with fail
            go_roundw
            case rel => exact ⟨k + 1, by omega, by go_num, ⟨_, mkHid ⟨HIe.out, HFe.out, HG5.out⟩⟩, HBe⟩
            case measure => simp [intOf]; omega
      · have hlt' : ¬ (k : Int) < (len : Int) := by omega
        go_wp2_with fail
        go_ret
        exact ⟨rfl, HBw.out⟩
end Go.Proofs.YtacnoagjcacniaaGreat
