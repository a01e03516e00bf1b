/- JournalPlays: the walk, over any journal that keeps the document. (Made by mkplays10.py.) -/
import Derived.Test.YtacnoagjcacniaaGreatJsC
import Derived.Test.YtacnoagjcacniaaGreatJs9
import Derived.Test.YtacnoagjcacniaaGreatB4
namespace Go.Proofs.YtacnoagjcacniaaGreat
open Go.RowKit

set_option maxRecDepth 20000 in
set_option maxHeartbeats 8000000 in
theorem plays10 {JA : World → Nat → Nat → Nat → Jl → Prop} {TA : World → Nat → Nat → Nat → Nat → Tl → Jl → Prop} (ok : JrnOK JA TA) (a : Option Addr) (len cap : Nat) (os : List Xq) (w : World) (hos : IsXs w a len cap os) :
    Calls Tryz.prog 3 #[.slice a len cap] w fun e w' => e = .returned (.bool true) ∧ Below w.heap.size w w' := by
  have HA := fun W => lawAlive10 ok W
  have HL := lawLight10 a len cap os w hos
  cases hli : lightX os with
  | false =>
    rw [hli] at HL
    clear hos hli
    go_enter Tryz.func3, Tryz.ntmps3
    go_wp2_with fail
    refine HL.mono ?_
    rintro e x1 ⟨rfl, hb1⟩
    go_wp2_with fail
    refine (HA _).mono ?_
    rintro e x2 ⟨rfl, hb2⟩
    go_wp2_with fail
    go_ret
    exact ⟨rfl, hb1.trans (hb2.mono hb1.size)⟩
  | true =>
    rw [hli] at HL
    have HLi := mkHid hli
    have HOS := mkHid hos
    obtain ⟨base, hbase⟩ : ∃ base, base = w.heap.size := ⟨_, rfl⟩
    have HBase := mkHid hbase
    have hmax : (len : Int) ≤ 12 := by
      unfold lightX at hli
      have := (of_decide_eq_true hli).2
      rw [hos.len_eq] at this
      omega
    rw [← hbase] at HL ⊢
    clear hos hli hbase
    go_enter Tryz.func3, Tryz.ntmps3
    go_wp2_with fail
    refine HL.mono ?_
    rintro e x0 ⟨rfl, hb0⟩
    have HB0 := mkHid hb0
    have BB0 : base ≤ x0.heap.size := Nat.le_trans (Nat.le_of_eq HBase.out) hb0.size
    have HN : Calls Tryz.prog 9 #[.int .i64 64] x0 fun e w' => (∃ P, e = .returned (.tuple #[.pointer (some ⟨P, 0, none⟩), .int .i64 0]) ∧ IsD0 w' P base (Pl.new 64)) ∧ Hid (Below x0.heap.size x0 w') := by
      refine (codNew (fun _ => False) 64 x0 base BB0 (fun _ h => h.elim)).mono ?_
      rintro e w' ⟨h1, h2⟩
      rw [if_pos (by omega)] at h1
      exact ⟨h1, h2⟩
    clear HL hb0
    go_wp2_with fail
    refine HN.mono ?_
    rintro e x1 ⟨⟨P, rfl, hI1⟩, hb1⟩
    have HB1 := mkHid (HB0.out.trans (hb1.out.mono BB0))
    have BB1 : base ≤ x1.heap.size := Nat.le_trans BB0 hb1.out.size
    have HI1 := mkHid hI1
    have HM := rkNew base x1 BB1
    clear HN hI1 hb1 BB0
    go_wp2_with fail
    refine HM.mono ?_
    rintro e x2 ⟨⟨D, rfl, hD2⟩, hb2⟩
    have HB2 := mkHid (HB1.out.trans (hb2.mono BB1))
    have BB2 := mkHid (Nat.le_trans BB1 hb2.size)
    have HI2 := mkHid (HI1.out.on hb2)
    have HD2 := mkHid hD2
    clear HM hD2 hb2 BB1
    go_wp2_with fail
    refine (HA _).mono ?_
    rintro e x3 ⟨rfl, hb3⟩
    have HB3 := mkHid (HB2.out.trans (hb3.mono BB2.out))
    have HMt := lawMount10 ok P D base 0 (Pl.new 64) x3 (HI2.out.on hb3) (HD2.out.on hb3) (few_mnew 64 (by omega) (by omega)) (by omega)
    clear HA hb3
    go_wp2_with fail
    refine HMt.mono ?_
    rintro e x4 ⟨⟨vj, vk, rfl, hmt⟩, hD4, _, hb4⟩
    unfold MtBoth at hmt
    rw [if_pos aj_mount.1, aj_mount.2.1, aj_mount.2.2] at hmt
    rw [aj_mount.2.1] at hD4
    obtain ⟨J, K, rfl, rfl, hJ, hK, hlK⟩ := hmt
    have HB4 := mkHid (HB3.out.trans hb4)
    have HPl : Hid (PlayB JA x4 J K P D base 50 ⟨Pl.new 64, 0, false⟩) := ⟨hJ, hK, hD4, (few_mnew 64 (by omega) (by omega)).more (by omega), Nat.le_trans (Nat.le_trans (Nat.le_of_eq HBase.out) HB3.out.size) hlK, by show 0 < _; omega⟩
    clear HMt hJ hK hD4 hb4 hlK
    go_wp2_with fail
    go_loopw [6, 7, 8, 9] (fun vj vk vs i wr => ∃ (k J K : Nat) (jl : Jl), k ≤ len ∧ i = .int .i64 (k : Int) ∧ vj = .pointer (some ⟨J, 0, none⟩) ∧ vk = .pointer (some ⟨K, 0, none⟩) ∧ vs = .bool true ∧ Hid (PlayB JA wr J K P D base (50 + k * 300) jl ∧ jl.p.off = false) ∧ Hid (Below base w wr)) (fun _ _ _ i _ => len - (intOf i).toNat)
    case atStart => exact ⟨0, J, K, _, Nat.zero_le _, rfl, rfl, rfl, rfl, mkHid ⟨HPl.out, rfl⟩, HB4⟩
    case round =>
      obtain ⟨k, J, K', jl, hk, rfl, rfl, rfl, rfl, HPb, HBw⟩ := hrel
      clear HPl HB4 HB3 HB2 HB1 HB0 HI1 HI2 HD2 BB2
      by_cases hlt : k < len
      · have hlt' : (k : Int) < (len : Int) := by omega
        obtain ⟨b, off, rfl, hbl, hc⟩ := HOS.out.cells (by omega)
        have hck := hc k hlt
        have hoq := HOS.out.ok k hlt
        have hl60 : (os.getD k xq0).l.length ≤ 60 := lightX_l HLi.out (by rw [HOS.out.len_eq]; exact hlt)
        rw [← HBase.out] at hbl hoq
        generalize os.getD k xq0 = o at *
        obtain ⟨l, la, lc, arm, keep, ka, kc, more, rest, ra, rc⟩ := o
        have c0 : wr.cell? ⟨b, off + k * 5, none⟩ = some (.slice la l.length lc) := (HBw.out.cell (p := ⟨b, off + k * 5, none⟩) hbl).trans (hck 0 (by omega))
        have c1 : wr.cell? ⟨b, off + k * 5 + 1, none⟩ = some (.int .i64 arm) := (HBw.out.cell (p := ⟨b, off + k * 5 + 1, none⟩) hbl).trans (hck 1 (by omega))
        have c2 : wr.cell? ⟨b, off + k * 5 + 2, none⟩ = some (.slice ka keep.length kc) := (HBw.out.cell (p := ⟨b, off + k * 5 + 2, none⟩) hbl).trans (hck 2 (by omega))
        have c3 : wr.cell? ⟨b, off + k * 5 + 3, none⟩ = some (.int .i64 more) := (HBw.out.cell (p := ⟨b, off + k * 5 + 3, none⟩) hbl).trans (hck 3 (by omega))
        have c4 : wr.cell? ⟨b, off + k * 5 + 4, none⟩ = some (.slice ra rest.length rc) := (HBw.out.cell (p := ⟨b, off + k * 5 + 4, none⟩) hbl).trans (hck 4 (by omega))
        have HQ := mkHid (hoq.on HBw.out)
        have KB : Blk (wr.alloc (.cells #[.slice la l.length lc, .int .i64 arm, .slice ka keep.length kc, .int .i64 more, .slice ra rest.length rc] 38)) wr.heap.size 38 [.slice la l.length lc, .int .i64 arm, .slice ka keep.length kc, .int .i64 more, .slice ra rest.length rc] := Blk.newAt wr _ _ _ _ rfl rfl
        have hbY0 : Below wr.heap.size wr (wr.alloc (.cells #[.slice la l.length lc, .int .i64 arm, .slice ka keep.length kc, .int .i64 more, .slice ra rest.length rc] 38)) := (Below.refl _ wr).alloc (Nat.le_refl _) _
        have BBw : base ≤ wr.heap.size := Nat.le_trans (Nat.le_of_eq HBase.out) HBw.out.size
        have HJ0 := mkHid (ok.keepJ HPb.out.1.ja (KeepT.of_below hbY0))
        have HRk0 := mkHid (HPb.out.1.rk.on hbY0)
        have HRj0 : Hid (RjAt _ K' D jl.seq jl.dead) := Blk.on HPb.out.1.rj hbY0
        have HFw := mkHid HPb.out.1.few
        have HSq := mkHid HPb.out.1.seq
        have HLk := mkHid HPb.out.1.lowK
        have HUp := mkHid HPb.out.2
        clear hck hoq hc HPb
        go_upto_region 14 with fail
        generalize wr.alloc (.cells #[.slice la l.length lc, .int .i64 arm, .slice ka keep.length kc, .int .i64 more, .slice ra rest.length rc] 38) = Y at *
        have HBY := mkHid (hbY0.mono BBw)
        generalize wr.heap.size = B at *
        have HKB := mkHid KB
        have hl60' : (l.length : Int) ≤ 60 := by have : l.length ≤ 60 := hl60; omega
        have o1 : Y.cell? ⟨B, 1, none⟩ = some (.int .i64 arm) := HKB.out.cell 1
        have HAr := armT (fun _ => False) Y P base jl.p arm (ok.disk HJ0.out) HQ.out.arm0 HQ.out.arm1
        clear c0 c1 c2 c3 c4 hbY0 BBw KB hl60
        obtain ⟨p, s, dead⟩ := jl
        dsimp only at *
        go_wp2_with fail
        refine HAr.mono ?_
        rintro e x5 ⟨⟨y5, rfl⟩, hI5, hT5, _, hb5⟩
        have hkp5 := KP.ofPD hT5 hb5
        have HJ5 := mkHid (ok.turn HJ0.out hT5 hI5)
        have HRk5 := mkHid (HRk0.out.keepO hkp5.o (by decide) (by decide) (by decide))
        have HRj5 : Hid (RjAt x5 K' D s dead) := hkp5.o.blk HRj0.out (by decide)
        have HK5 := mkHid (KQ.ofP hkp5)
        have o1 : x5.cell? ⟨B, 1, none⟩ = some (.int .i64 arm) := (HK5.out.o.blk HKB.out (by decide)).cell 1
        have HRa := rkArm D base (50 + k * 300) p arm x5 HRk5.out ⟨HQ.out.arm0, HQ.out.arm1⟩
        clear HAr hI5 hT5 hb5 hkp5 HJ0 HRk0 HRj0 HRk5
        go_wp2_with fail
        refine HRa.mono ?_
        rintro e x6 ⟨⟨y6, rfl⟩, hRk6, hT6, _, hb6⟩
        have HRk6 := mkHid hRk6
        have HJ6 := mkHid (ok.keepJ HJ5.out (hT6.wide (by decide)))
        have HRj6 : Hid (RjAt x6 K' D s dead) := hT6.blk HRj5.out (by decide)
        have HK6 := mkHid (HK5.out.trans (KQ.ofC (hT6.wide (by decide)) hb6))
        have HBg := ok.begin_ x6 J P base _ _ HJ6.out (HFw.out.armed arm) (by omega)
        clear HRa hRk6 hT6 hb6 HJ5 HRj5 HK5 o1
        go_wp2_with fail
        refine HBg.mono ?_
        rintro e x7 ⟨⟨T, rfl, hT7⟩, hk7⟩
        have HT7 := mkHid hT7
        have HRk7 := mkHid (HRk6.out.keepO hk7.o (by decide) (by decide) (by decide))
        have HRj7 : Hid (RjAt x7 K' D s dead) := hk7.o.blk HRj6.out (by decide)
        have HK7 := mkHid (HK6.out.trans (KQ.ofP hk7))
        have HLo7 : Hid (base ≤ x7.heap.size) := (ok.disk (ok.toJ hT7)).low
        have hb8 : Below x7.heap.size x7 (x7.alloc (.cells #[.pointer (some ⟨K', 0, none⟩), .slice none 0 0, .bool false] 45)) := (Below.refl _ x7).alloc (Nat.le_refl _) _
        have HTB : Hid (TB TA (x7.alloc (.cells #[.pointer (some ⟨K', 0, none⟩), .slice none 0 0, .bool false] 45)) T x7.heap.size J K' P D base (50 + k * 300 + 1) ⟨[], false⟩ ⟨p.armed arm, s, dead⟩) := ⟨ok.keepT HT7.out (KeepT.of_below hb8), _, _, RefT.begin_ (j := ⟨p.armed arm, s, dead⟩) (Blk.newAt x7 _ _ _ _ rfl rfl) hb8 HLo7.out HLk.out HRj7.out HRk7.out ((HFw.out.armed arm).more (by omega)) HSq.out⟩
        have HK8 := mkHid (HK7.out.trans (KQ.of_below hb8 HLo7.out))
        have hbu : Tryz.prog.built 45 [(0, .pointer (some ⟨K', 0, none⟩))] = some #[.pointer (some ⟨K', 0, none⟩), .slice none 0 0, .bool false] := by kernel_rfl
        clear HBg hT7 hk7 HRk6 HJ6 HRj6 HK6 HT7 HRk7 HRj7 HK7 hb8
        go_wp2_with fail
        generalize x7.alloc (.cells #[.pointer (some ⟨K', 0, none⟩), .slice none 0 0, .bool false] 45) = x8 at *
        generalize x7.heap.size = U at *
        obtain ⟨m1, hm1⟩ : ∃ m1, m1 = 50 + k * 300 + 1 := ⟨_, rfl⟩
        have hm1' : m1 ≤ 4000 := by omega
        rw [← hm1] at HTB
        have HM1 := mkHid hm1
        clear hm1
        have HUp2 : Hid ((p.armed arm).off = false) := HUp.out
        generalize hj' : (⟨p.armed arm, s, dead⟩ : Jl) = j' at *
        have HUp3 : Hid (j'.p.off = false) := by rw [← hj']; exact HUp2.out
        clear hbu
        go_loopw [13] (fun n wr2 => ∃ (q : Nat) (t : Tl), q ≤ l.length ∧ n = .int .i64 (q : Int) ∧ Hid (TB TA wr2 T U J K' P D base m1 t j') ∧ Hid (KQ base Y wr2)) (fun n _ => l.length - (intOf n).toNat)
        case atStart => exact ⟨0, _, Nat.zero_le _, rfl, HTB, HK8⟩
        case round =>
          obtain ⟨q, t, hq, rfl, HT, HK⟩ := hrel
          rename World => wr2
          clear HTB HK8
          have o0 : wr2.cell? ⟨B, 0, none⟩ = some (.slice la l.length lc) := (HK.out.o.blk HKB.out (by decide)).cell 0
          by_cases hql : q < l.length
          · have hql' : (q : Int) < (l.length : Int) := by omega
            have hq0' : (0 : Int) ≤ (q : Int) := by omega
            obtain ⟨b2, off2, rfl, hbl2, hc2⟩ := (HQ.out.ps wr2 (HBY.out.trans HK.out.b)).cells (by show 0 < l.length; omega)
            have d0 := hc2 q hql 0 (by omega)
            have d1 := hc2 q hql 1 (by omega)
            have d2 := hc2 q hql 2 (by omega)
            have hat := HQ.out.at0 (l.getD q pq0) (by
              rw [List.getD_eq_getElem?_getD, List.getElem?_eq_getElem hql]
              exact List.getElem_mem hql)
            have HPs : Hid (∀ W, Below base Y W → ∀ j, j < 3 → W.cell? ⟨b2, off2 + q * 3 + j, none⟩ = (pqc (l.getD q pq0))[j]?) := fun W hW j hj => by
              obtain ⟨b3, off3, e3, _, hc3⟩ := (HQ.out.ps W (HBY.out.trans hW)).cells (by show 0 < l.length; omega)
              simp only [Option.some.injEq, Addr.mk.injEq] at e3
              obtain ⟨rfl, rfl, _⟩ := e3
              exact hc3 q hql j hj
            dsimp only at d0 d1 d2
            generalize l.getD q pq0 = pu at *
            obtain ⟨at', by', odd⟩ := pu
            generalize l.length = ll at *
            have HLow : Hid (base ≤ wr2.heap.size) := HT.out.low
            have HSec : ∀ W, Calls Tryz.prog 16 #[.int .u8 (by'.toNat : Int), .int .u8 (odd.toNat : Int)] W fun e w' => ∃ v, e = .returned v ∧ Hid (OwnB w' W.heap.size v (secL by' odd)) ∧ Hid (Below W.heap.size W w') := fun W => lawSector9 by' odd W
            have HWr : ∀ W v W0, TA W T J P base t j' → OwnB W W0 v (secL by' odd) → Calls Tryz.prog 15 #[.pointer (some ⟨T, 0, none⟩), .int .i64 at', v] W fun e w' => e = .returned (.int .i64 (t.wrE j' at' (secL by' odd))) ∧ Hid (TA w' T J P base (t.write j' at' (secL by' odd)) j') ∧ Hid (KP base W w') := fun W v W0 h1 h2 => jWrite ok h1 HT.out.len HT.out.few (by omega) hat.1 hat.2 (by rw [secL_len]; omega) h2
            have HKP : Hid (∀ w', KQ base wr2 w' → w'.cell? ⟨B, 0, none⟩ = some (.slice (some ⟨b2, off2, none⟩) ll lc) ∧ w'.cell? ⟨b2, off2 + q * 3, none⟩ = some (.int .i64 at') ∧ w'.cell? ⟨b2, off2 + q * 3 + 1, none⟩ = some (.int .u8 (by'.toNat : Int)) ∧ w'.cell? ⟨b2, off2 + q * 3 + 2, none⟩ = some (.int .u8 (odd.toNat : Int))) := fun w' h => ⟨(h.o.blk (HK.out.o.blk HKB.out (by decide)) (by decide)).cell 0, HPs.out w' (HK.out.b.trans h.b) 0 (by omega), HPs.out w' (HK.out.b.trans h.b) 1 (by omega), HPs.out w' (HK.out.b.trans h.b) 2 (by omega)⟩
            clear d0 d1 d2 hc2
            have HS0 := mkHid (HKP.out _ (KQ.of_below ((Below.refl _ wr2).drew) HLow.out))
            go_upto_region 23 with fail
            clear o0
            go_cut [133] from 81 to 133 (fun v wx => v = .bool false ∧ Hid (TB TA wx T U J K' P D base m1 (t.write j' at' (secL by' odd)) j') ∧ Hid (KQ base Y wx))
            case first =>
              as_aux_lemma =>
                refine wp_region_noPanic ?_
                refine wp_region_held_drew (S := fun w' => w'.cell? ⟨B, 0, none⟩ = some (.slice (some ⟨b2, off2, none⟩) ll lc) ∧ w'.cell? ⟨b2, off2 + q * 3, none⟩ = some (.int .i64 at') ∧ w'.cell? ⟨b2, off2 + q * 3 + 1, none⟩ = some (.int .u8 (by'.toNat : Int)) ∧ w'.cell? ⟨b2, off2 + q * 3 + 2, none⟩ = some (.int .u8 (odd.toNat : Int))) (by kernel_rfl) HS0.out (fun hHeld => ?_)
                refine takeH (some 81) (i := 0) (v := ?_) rfl (by kernel_rfl) (by kernel_rfl) (by kernel_rfl) (fun _ _ _ h => h) (Or.inl ⟨by rfl, ?_⟩) hHeld rfl ?_
                rotate_left
                · intro w hSw; obtain ⟨hS1, hS2, hS3, hS4⟩ := hSw; go_simp; with_reducible rfl
                (try simp only [Act.put, List.setIfInBounds_toArray, List.set_cons_zero, List.set_cons_succ])
                refine takeH (some 82) (i := 1) (v := ?_) rfl (by kernel_rfl) (by kernel_rfl) (by kernel_rfl) (fun _ _ _ h => h) (Or.inl ⟨by rfl, ?_⟩) hHeld rfl ?_
                rotate_left
                · intro w hSw; obtain ⟨hS1, hS2, hS3, hS4⟩ := hSw; go_simp; with_reducible rfl
                (try simp only [Act.put, List.setIfInBounds_toArray, List.set_cons_zero, List.set_cons_succ])
                refine takeH (some 83) (i := 2) (v := ?_) rfl (by kernel_rfl) (by kernel_rfl) (by kernel_rfl) (fun _ _ _ h => h) (Or.inl ⟨by rfl, ?_⟩) hHeld rfl ?_
                rotate_left
                · intro w hSw; obtain ⟨hS1, hS2, hS3, hS4⟩ := hSw; go_simp; with_reducible rfl
                (try simp only [Act.put, List.setIfInBounds_toArray, List.set_cons_zero, List.set_cons_succ])
                refine takeH (some 84) (i := 3) (v := ?_) rfl (by kernel_rfl) (by kernel_rfl) (by kernel_rfl) (fun _ _ _ h => h) (Or.inl ⟨by rfl, ?_⟩) hHeld rfl ?_
                rotate_left
                · intro w hSw; obtain ⟨hS1, hS2, hS3, hS4⟩ := hSw; go_simp; with_reducible rfl
                (try simp only [Act.put, List.setIfInBounds_toArray, List.set_cons_zero, List.set_cons_succ])
                refine takeH (some 85) (i := 4) (v := ?_) rfl (by kernel_rfl) (by kernel_rfl) (by kernel_rfl) (fun _ _ _ h => h) (Or.inl ⟨by rfl, ?_⟩) hHeld rfl ?_
                rotate_left
                · intro w hSw; obtain ⟨hS1, hS2, hS3, hS4⟩ := hSw; go_simp; with_reducible rfl
                (try simp only [Act.put, List.setIfInBounds_toArray, List.set_cons_zero, List.set_cons_succ])
                refine takeH (some 86) (i := 5) (v := ?_) rfl (by kernel_rfl) (by kernel_rfl) (by kernel_rfl) (fun _ _ _ h => h) (Or.inl ⟨by rfl, ?_⟩) hHeld rfl ?_
                rotate_left
                · intro w hSw; obtain ⟨hS1, hS2, hS3, hS4⟩ := hSw; go_simp; with_reducible rfl
                (try simp only [Act.put, List.setIfInBounds_toArray, List.set_cons_zero, List.set_cons_succ])
                refine takeH (some 87) (i := 6) (v := ?_) rfl (by kernel_rfl) (by kernel_rfl) (by kernel_rfl) (fun _ _ _ h => h) (Or.inl ⟨by rfl, ?_⟩) hHeld rfl ?_
                rotate_left
                · intro w hSw; obtain ⟨hS1, hS2, hS3, hS4⟩ := hSw; go_simp; with_reducible rfl
                (try simp only [Act.put, List.setIfInBounds_toArray, List.set_cons_zero, List.set_cons_succ])
                refine takeH (some 88) (i := 7) (v := ?_) rfl (by kernel_rfl) (by kernel_rfl) (by kernel_rfl) (fun _ _ _ h => h) (Or.inl ⟨by rfl, ?_⟩) hHeld rfl ?_
                rotate_left
                · intro w hSw; obtain ⟨hS1, hS2, hS3, hS4⟩ := hSw; go_simp; with_reducible rfl
                (try simp only [Act.put, List.setIfInBounds_toArray, List.set_cons_zero, List.set_cons_succ])
                refine takeH (some 89) (i := 8) (v := ?_) rfl (by kernel_rfl) (by kernel_rfl) (by kernel_rfl) (fun _ _ _ h => h) (Or.inl ⟨by rfl, ?_⟩) hHeld rfl ?_
                rotate_left
                · intro w hSw; obtain ⟨hS1, hS2, hS3, hS4⟩ := hSw; go_simp; with_reducible rfl
                (try simp only [Act.put, List.setIfInBounds_toArray, List.set_cons_zero, List.set_cons_succ])
                refine takeH (some 90) (i := 9) (v := ?_) rfl (by kernel_rfl) (by kernel_rfl) (by kernel_rfl) (fun _ _ _ h => h) (Or.inl ⟨by rfl, ?_⟩) hHeld rfl ?_
                rotate_left
                · intro w hSw; obtain ⟨hS1, hS2, hS3, hS4⟩ := hSw; go_simp; with_reducible rfl
                (try simp only [Act.put, List.setIfInBounds_toArray, List.set_cons_zero, List.set_cons_succ])
                refine takeH (some 91) (i := 10) (v := ?_) rfl (by kernel_rfl) (by kernel_rfl) (by kernel_rfl) (fun _ _ _ h => h) (Or.inl ⟨by rfl, ?_⟩) hHeld rfl ?_
                rotate_left
                · intro w hSw; obtain ⟨hS1, hS2, hS3, hS4⟩ := hSw; go_simp; with_reducible rfl
                (try simp only [Act.put, List.setIfInBounds_toArray, List.set_cons_zero, List.set_cons_succ])
                refine takeH (some 92) (i := 11) (v := ?_) rfl (by kernel_rfl) (by kernel_rfl) (by kernel_rfl) (fun _ _ _ h => h) (Or.inl ⟨by rfl, ?_⟩) hHeld rfl ?_
                rotate_left
                · intro w hSw; obtain ⟨hS1, hS2, hS3, hS4⟩ := hSw; go_simp; with_reducible rfl
                (try simp only [Act.put, List.setIfInBounds_toArray, List.set_cons_zero, List.set_cons_succ])
                refine takeH (some 93) (i := 12) (v := ?_) rfl (by kernel_rfl) (by kernel_rfl) (by kernel_rfl) (fun _ _ _ h => h) (Or.inl ⟨by rfl, ?_⟩) hHeld rfl ?_
                rotate_left
                · intro w hSw; obtain ⟨hS1, hS2, hS3, hS4⟩ := hSw; go_simp; with_reducible rfl
                (try simp only [Act.put, List.setIfInBounds_toArray, List.set_cons_zero, List.set_cons_succ])
                refine takeH (some 94) (i := 13) (v := ?_) rfl (by kernel_rfl) (by kernel_rfl) (by kernel_rfl) (fun _ _ _ h => h) (Or.inl ⟨by rfl, ?_⟩) hHeld rfl ?_
                rotate_left
                · intro w hSw; obtain ⟨hS1, hS2, hS3, hS4⟩ := hSw; go_simp; with_reducible rfl
                (try simp only [Act.put, List.setIfInBounds_toArray, List.set_cons_zero, List.set_cons_succ])
                refine takeH (some 95) (i := 14) (v := ?_) rfl (by kernel_rfl) (by kernel_rfl) (by kernel_rfl) (fun _ _ _ h => h) (Or.inl ⟨by rfl, ?_⟩) hHeld rfl ?_
                rotate_left
                · intro w hSw; obtain ⟨hS1, hS2, hS3, hS4⟩ := hSw; go_simp; with_reducible rfl
                (try simp only [Act.put, List.setIfInBounds_toArray, List.set_cons_zero, List.set_cons_succ])
                refine takeH (some 96) (i := 15) (v := ?_) rfl (by kernel_rfl) (by kernel_rfl) (by kernel_rfl) (fun _ _ _ h => h) (Or.inl ⟨by rfl, ?_⟩) hHeld rfl ?_
                rotate_left
                · intro w hSw; obtain ⟨hS1, hS2, hS3, hS4⟩ := hSw; go_simp; with_reducible rfl
                (try simp only [Act.put, List.setIfInBounds_toArray, List.set_cons_zero, List.set_cons_succ])
                refine takeH (some 97) (i := 16) (v := ?_) rfl (by kernel_rfl) (by kernel_rfl) (by kernel_rfl) (fun _ _ _ h => h) (Or.inl ⟨by rfl, ?_⟩) hHeld rfl ?_
                rotate_left
                · intro w hSw; obtain ⟨hS1, hS2, hS3, hS4⟩ := hSw; go_simp; with_reducible rfl
                (try simp only [Act.put, List.setIfInBounds_toArray, List.set_cons_zero, List.set_cons_succ])
                refine takeH (some 98) (i := 17) (v := ?_) rfl (by kernel_rfl) (by kernel_rfl) (by kernel_rfl) (fun _ _ _ h => h) (Or.inl ⟨by rfl, ?_⟩) hHeld rfl ?_
                rotate_left
                · intro w hSw; obtain ⟨hS1, hS2, hS3, hS4⟩ := hSw; go_simp; with_reducible rfl
                (try simp only [Act.put, List.setIfInBounds_toArray, List.set_cons_zero, List.set_cons_succ])
                refine takeH (some 99) (i := 18) (v := ?_) rfl (by kernel_rfl) (by kernel_rfl) (by kernel_rfl) (fun _ _ _ h => h) (Or.inl ⟨by rfl, ?_⟩) hHeld rfl ?_
                rotate_left
                · intro w hSw; obtain ⟨hS1, hS2, hS3, hS4⟩ := hSw; go_simp; with_reducible rfl
                (try simp only [Act.put, List.setIfInBounds_toArray, List.set_cons_zero, List.set_cons_succ])
                refine takeH (some 102) (i := 21) (v := ?_) rfl (by kernel_rfl) (by kernel_rfl) (by kernel_rfl) (fun _ _ _ h => h) (Or.inl ⟨by rfl, ?_⟩) hHeld rfl ?_
                rotate_left
                · intro w hSw; obtain ⟨hS1, hS2, hS3, hS4⟩ := hSw; go_simp; with_reducible rfl
                (try simp only [Act.put, List.setIfInBounds_toArray, List.set_cons_zero, List.set_cons_succ])
                refine takeH (some 103) (i := 22) (v := ?_) rfl (by kernel_rfl) (by kernel_rfl) (by kernel_rfl) (fun _ _ _ h => h) (Or.inl ⟨by rfl, ?_⟩) hHeld rfl ?_
                rotate_left
                · intro w hSw; obtain ⟨hS1, hS2, hS3, hS4⟩ := hSw; go_simp; with_reducible rfl
                (try simp only [Act.put, List.setIfInBounds_toArray, List.set_cons_zero, List.set_cons_succ])
                refine takeH (some 104) (i := 23) (v := ?_) rfl (by kernel_rfl) (by kernel_rfl) (by kernel_rfl) (fun _ _ _ h => h) (Or.inl ⟨by rfl, ?_⟩) hHeld rfl ?_
                rotate_left
                · intro w hSw; obtain ⟨hS1, hS2, hS3, hS4⟩ := hSw; go_simp; with_reducible rfl
                (try simp only [Act.put, List.setIfInBounds_toArray, List.set_cons_zero, List.set_cons_succ])
                refine takeH (some 105) (i := 24) (v := ?_) rfl (by kernel_rfl) (by kernel_rfl) (by kernel_rfl) (fun _ _ _ h => h) (Or.inl ⟨by rfl, ?_⟩) hHeld rfl ?_
                rotate_left
                · intro w hSw; obtain ⟨hS1, hS2, hS3, hS4⟩ := hSw; go_simp; with_reducible rfl
                (try simp only [Act.put, List.setIfInBounds_toArray, List.set_cons_zero, List.set_cons_succ])
                refine takeH (some 106) (i := 25) (v := ?_) rfl (by kernel_rfl) (by kernel_rfl) (by kernel_rfl) (fun _ _ _ h => h) (Or.inl ⟨by rfl, ?_⟩) hHeld rfl ?_
                rotate_left
                · intro w hSw; obtain ⟨hS1, hS2, hS3, hS4⟩ := hSw; go_simp; with_reducible rfl
                (try simp only [Act.put, List.setIfInBounds_toArray, List.set_cons_zero, List.set_cons_succ])
                refine takeH (some 107) (i := 26) (v := ?_) rfl (by kernel_rfl) (by kernel_rfl) (by kernel_rfl) (fun _ _ _ h => h) (Or.inl ⟨by rfl, ?_⟩) hHeld rfl ?_
                rotate_left
                · intro w hSw; obtain ⟨hS1, hS2, hS3, hS4⟩ := hSw; go_simp; with_reducible rfl
                (try simp only [Act.put, List.setIfInBounds_toArray, List.set_cons_zero, List.set_cons_succ])
                refine takeH (some 108) (i := 27) (v := ?_) rfl (by kernel_rfl) (by kernel_rfl) (by kernel_rfl) (fun _ _ _ h => h) (Or.inl ⟨by rfl, ?_⟩) hHeld rfl ?_
                rotate_left
                · intro w hSw; obtain ⟨hS1, hS2, hS3, hS4⟩ := hSw; go_simp; with_reducible rfl
                (try simp only [Act.put, List.setIfInBounds_toArray, List.set_cons_zero, List.set_cons_succ])
                refine takeH (some 109) (i := 28) (v := ?_) rfl (by kernel_rfl) (by kernel_rfl) (by kernel_rfl) (fun _ _ _ h => h) (Or.inl ⟨by rfl, ?_⟩) hHeld rfl ?_
                rotate_left
                · intro w hSw; obtain ⟨hS1, hS2, hS3, hS4⟩ := hSw; go_simp; with_reducible rfl
                (try simp only [Act.put, List.setIfInBounds_toArray, List.set_cons_zero, List.set_cons_succ])
                refine takeH (some 110) (i := 29) (v := ?_) rfl (by kernel_rfl) (by kernel_rfl) (by kernel_rfl) (fun _ _ _ h => h) (Or.inl ⟨by rfl, ?_⟩) hHeld rfl ?_
                rotate_left
                · intro w hSw; obtain ⟨hS1, hS2, hS3, hS4⟩ := hSw; go_simp; with_reducible rfl
                (try simp only [Act.put, List.setIfInBounds_toArray, List.set_cons_zero, List.set_cons_succ])
                refine takeH (some 111) (i := 30) (v := ?_) rfl (by kernel_rfl) (by kernel_rfl) (by kernel_rfl) (fun _ _ _ h => h) (Or.inl ⟨by rfl, ?_⟩) hHeld rfl ?_
                rotate_left
                · intro w hSw; obtain ⟨hS1, hS2, hS3, hS4⟩ := hSw; go_simp; with_reducible rfl
                (try simp only [Act.put, List.setIfInBounds_toArray, List.set_cons_zero, List.set_cons_succ])
                refine takeH (some 112) (i := 31) (v := ?_) rfl (by kernel_rfl) (by kernel_rfl) (by kernel_rfl) (fun _ _ _ h => h) (Or.inl ⟨by rfl, ?_⟩) hHeld rfl ?_
                rotate_left
                · intro w hSw; obtain ⟨hS1, hS2, hS3, hS4⟩ := hSw; go_simp; with_reducible rfl
                (try simp only [Act.put, List.setIfInBounds_toArray, List.set_cons_zero, List.set_cons_succ])
                refine takeH (some 113) (i := 32) (v := ?_) rfl (by kernel_rfl) (by kernel_rfl) (by kernel_rfl) (fun _ _ _ h => h) (Or.inl ⟨by rfl, ?_⟩) hHeld rfl ?_
                rotate_left
                · intro w hSw; obtain ⟨hS1, hS2, hS3, hS4⟩ := hSw; go_simp; with_reducible rfl
                (try simp only [Act.put, List.setIfInBounds_toArray, List.set_cons_zero, List.set_cons_succ])
                refine takeH (some 114) (i := 33) (v := ?_) rfl (by kernel_rfl) (by kernel_rfl) (by kernel_rfl) (fun _ _ _ h => h) (Or.inl ⟨by rfl, ?_⟩) hHeld rfl ?_
                rotate_left
                · intro w hSw; obtain ⟨hS1, hS2, hS3, hS4⟩ := hSw; go_simp; with_reducible rfl
                (try simp only [Act.put, List.setIfInBounds_toArray, List.set_cons_zero, List.set_cons_succ])
                refine takeH (some 115) (i := 34) (v := ?_) rfl (by kernel_rfl) (by kernel_rfl) (by kernel_rfl) (fun _ _ _ h => h) (Or.inl ⟨by rfl, ?_⟩) hHeld rfl ?_
                rotate_left
                · intro w hSw; obtain ⟨hS1, hS2, hS3, hS4⟩ := hSw; go_simp; with_reducible rfl
                (try simp only [Act.put, List.setIfInBounds_toArray, List.set_cons_zero, List.set_cons_succ])
                refine takeH (some 116) (i := 35) (v := ?_) rfl (by kernel_rfl) (by kernel_rfl) (by kernel_rfl) (fun _ _ _ h => h) (Or.inl ⟨by rfl, ?_⟩) hHeld rfl ?_
                rotate_left
                · intro w hSw; obtain ⟨hS1, hS2, hS3, hS4⟩ := hSw; go_simp; with_reducible rfl
                (try simp only [Act.put, List.setIfInBounds_toArray, List.set_cons_zero, List.set_cons_succ])
                refine takeH (some 117) (i := 36) (v := ?_) rfl (by kernel_rfl) (by kernel_rfl) (by kernel_rfl) (fun _ _ _ h => h) (Or.inl ⟨by rfl, ?_⟩) hHeld rfl ?_
                rotate_left
                · intro w hSw; obtain ⟨hS1, hS2, hS3, hS4⟩ := hSw; go_simp; with_reducible rfl
                (try simp only [Act.put, List.setIfInBounds_toArray, List.set_cons_zero, List.set_cons_succ])
                refine takeH (some 118) (i := 37) (v := ?_) rfl (by kernel_rfl) (by kernel_rfl) (by kernel_rfl) (fun _ _ _ h => h) (Or.inl ⟨by rfl, ?_⟩) hHeld rfl ?_
                rotate_left
                · intro w hSw; obtain ⟨hS1, hS2, hS3, hS4⟩ := hSw; go_simp; with_reducible rfl
                (try simp only [Act.put, List.setIfInBounds_toArray, List.set_cons_zero, List.set_cons_succ])
                refine takeH (some 119) (i := 38) (v := ?_) rfl (by kernel_rfl) (by kernel_rfl) (by kernel_rfl) (fun _ _ _ h => h) (Or.inl ⟨by rfl, ?_⟩) hHeld rfl ?_
                rotate_left
                · intro w hSw; obtain ⟨hS1, hS2, hS3, hS4⟩ := hSw; go_simp; with_reducible rfl
                (try simp only [Act.put, List.setIfInBounds_toArray, List.set_cons_zero, List.set_cons_succ])
                refine takeH (some 120) (i := 39) (v := ?_) rfl (by kernel_rfl) (by kernel_rfl) (by kernel_rfl) (fun _ _ _ h => h) (Or.inl ⟨by rfl, ?_⟩) hHeld rfl ?_
                rotate_left
                · intro w hSw; obtain ⟨hS1, hS2, hS3, hS4⟩ := hSw; go_simp; with_reducible rfl
                (try simp only [Act.put, List.setIfInBounds_toArray, List.set_cons_zero, List.set_cons_succ])
                refine wpAnyH_ready (rs := [19]) (by kernel_rfl) (by simp) (AllReadyH.cons rfl (fun K hK => ?_) AllReadyH.nil)
                go_simp
                go_wp2_with (go_at_call 16; refine (HSec _).mono ?_; rintro e y1 ⟨v1, rfl, hv1, hb1⟩)
                have K1 : Hid (Below wr2.heap.size wr2 y1) := mkHid (((Below.refl _ wr2).drew).trans hb1.out)
                have T1 := mkHid (HT.out.on ok K1.out)
                clear hb1
                refine hK.out _ _ (HKP.out _ (KQ.of_below K1.out HLow.out)) (fun hHeld => ?_)
                (try simp only [Act.put, List.setIfInBounds_toArray, List.set_cons_zero, List.set_cons_succ])
                clear hK K
                refine wpAnyH_ready (rs := [20]) (by kernel_rfl) (by simp) (AllReadyH.cons rfl (fun K hK => ?_) AllReadyH.nil)
                go_simp
                go_wp2_with (go_at_call 15; refine (HWr _ _ _ T1.out.ta hv1.out).mono ?_; rintro e y2 ⟨rfl, ht2, hk2⟩)
                have R2 := mkHid (T1.out.rt.elim fun vL h => h.elim fun ls h => ⟨vL, ls, h.keepP hk2.out⟩ : ∃ vL ls, RefT y2 U K' D base m1 vL ls t j')
                have Q2 := mkHid ((KQ.of_below K1.out HLow.out).trans (KQ.ofP hk2.out))
                have L2 : Hid (base ≤ y2.heap.size) := Nat.le_trans HLow.out Q2.out.b.size
                clear T1 K1 hv1 hk2
                refine hK.out _ _ (HKP.out _ Q2.out) (fun hHeld => ?_)
                (try simp only [Act.put, List.setIfInBounds_toArray, List.set_cons_zero, List.set_cons_succ])
                clear hK K
                refine wpAnyH_ready (rs := [40]) (by kernel_rfl) (by simp) (AllReadyH.cons rfl (fun K hK => ?_) AllReadyH.nil)
                go_simp
                go_wp2_with (go_at_call 16; refine (HSec _).mono ?_; rintro e y3 ⟨v3, rfl, hv3, hb3⟩)
                have R3 := mkHid (R2.out.elim fun vL h => h.elim fun ls h => ⟨vL, ls, h.on hb3.out⟩ : ∃ vL ls, RefT y3 U K' D base m1 vL ls t j')
                have ht3 := mkHid (ok.keepT ht2.out (KeepT.of_below hb3.out))
                have Q3 := mkHid (Q2.out.trans (KQ.of_below hb3.out L2.out))
                clear R2 ht2 Q2 L2 hb3
                refine hK.out _ _ (HKP.out _ Q3.out) (fun hHeld => ?_)
                (try simp only [Act.put, List.setIfInBounds_toArray, List.set_cons_zero, List.set_cons_succ])
                clear hK K
                refine wpAnyH_ready (rs := [41]) (by kernel_rfl) (by simp) (AllReadyH.cons rfl (fun K hK => ?_) AllReadyH.nil)
                obtain ⟨vL3, ls3, R3⟩ := R3.out
                go_simp
                go_wp2_with (go_at_call 17; refine (refWriteV R3 at' hv3.out).mono ?_; rintro e y4 ⟨rfl, hr4, hk4, hb4⟩)
                have ht4 := mkHid (ok.keepT ht3.out hk4.out)
                have Q4 := mkHid (Q3.out.trans (KQ.ofC hk4.out hb4.out))
                clear R3 ht3 Q3 hv3 hk4 hb4
                obtain ⟨vL4, ls4, R4⟩ := hr4.out
                obtain ⟨aL, nl, cL, hnl, rfl, d4⟩ := R4.cellL
                have HLe := ok.len y4 T J P base _ j' ht4.out R4.len
                rw [← hnl] at HLe
                have R4 := mkHid R4
                clear hnl hr4
                refine hK.out _ _ (HKP.out _ Q4.out) (fun hHeld => ?_)
                (try simp only [Act.put, List.setIfInBounds_toArray, List.set_cons_zero, List.set_cons_succ])
                clear hK K
                refine takeH (some 123) (i := 42) (v := .bool false) rfl (by kernel_rfl) (by kernel_rfl) (by kernel_rfl) (fun _ _ _ h => h) (Or.inl ⟨by rfl, ?_⟩) hHeld rfl ?_
                · intro w hSw; go_simp <;> simp
                (try simp only [Act.put, List.setIfInBounds_toArray, List.set_cons_zero, List.set_cons_succ])
                refine takeH (some 124) (i := 43) (v := ?_) rfl (by kernel_rfl) (by kernel_rfl) (by kernel_rfl) (fun _ _ _ h => h) (Or.inl ⟨by rfl, ?_⟩) hHeld rfl ?_
                rotate_left
                · intro w hSw; go_simp; with_reducible rfl
                (try simp only [Act.put, List.setIfInBounds_toArray, List.set_cons_zero, List.set_cons_succ])
                refine takeH (some 125) (i := 44) (v := ?_) rfl (by kernel_rfl) (by kernel_rfl) (by kernel_rfl) (fun _ _ _ h => h) (Or.inl ⟨by rfl, ?_⟩) hHeld rfl ?_
                rotate_left
                · intro w hSw; go_simp; with_reducible rfl
                (try simp only [Act.put, List.setIfInBounds_toArray, List.set_cons_zero, List.set_cons_succ])
                refine takeH (some 127) (i := 46) (v := ?_) rfl (by kernel_rfl) (by kernel_rfl) (by kernel_rfl) (fun _ _ _ h => h) (Or.inl ⟨by rfl, ?_⟩) hHeld rfl ?_
                rotate_left
                · intro w hSw; go_simp; with_reducible rfl
                (try simp only [Act.put, List.setIfInBounds_toArray, List.set_cons_zero, List.set_cons_succ])
                refine takeH (some 128) (i := 47) (v := ?_) rfl (by kernel_rfl) (by kernel_rfl) (by kernel_rfl) (fun _ _ _ h => h) (Or.inl ⟨by rfl, ?_⟩) hHeld rfl ?_
                rotate_left
                · intro w hSw; go_simp; with_reducible rfl
                (try simp only [Act.put, List.setIfInBounds_toArray, List.set_cons_zero, List.set_cons_succ])
                refine takeH (some 129) (i := 48) (v := ?_) rfl (by kernel_rfl) (by kernel_rfl) (by kernel_rfl) (fun _ _ _ h => h) (Or.inl ⟨by rfl, ?_⟩) hHeld rfl ?_
                rotate_left
                · intro w hSw; go_simp; with_reducible rfl
                (try simp only [Act.put, List.setIfInBounds_toArray, List.set_cons_zero, List.set_cons_succ])
                refine wpAnyH_ready (rs := [45, 49]) (by kernel_rfl) (by simp) ?_
                refine AllReadyH.cons rfl (fun K hK => ?_) (AllReadyH.cons rfl (fun K hK => ?_) AllReadyH.nil)
                · skip
                  go_simp
                  go_wp2_with (go_at_call 18; refine HLe.mono ?_; rintro e y5 ⟨rfl, ht5, hk5⟩)
                  have R5 := mkHid (R4.out.keepP hk5)
                  have Q5 := mkHid (Q4.out.trans (KQ.ofP hk5))
                  have ht5 := mkHid ht5
                  clear hk5 HLe R4 Q4 ht4
                  refine hK.out _ _ (HKP.out _ Q5.out) (fun hHeld => ?_)
                  (try simp only [Act.put, List.setIfInBounds_toArray, List.set_cons_zero, List.set_cons_succ])
                  clear hK K
                  have d5 : y5.cell? ⟨U, 1, none⟩ = some (.slice aL nl cL) := R5.out.rt.blk.cell 1
                  refine wpAnyH_ready (rs := [49]) (by kernel_rfl) (by simp) (AllReadyH.cons rfl (fun K hK => ?_) AllReadyH.nil)
                  go_simp
                  refine hK.out _ _ hHeld (fun hHeld => ?_)
                  (try simp only [Act.put, List.setIfInBounds_toArray, List.set_cons_zero, List.set_cons_succ])
                  clear hK K
                  refine takeH (some 131) (i := 50) (v := ?_) rfl (by kernel_rfl) (by kernel_rfl) (by kernel_rfl) (fun _ _ _ h => h) (Or.inl ⟨by rfl, ?_⟩) hHeld rfl ?_
                  rotate_left
                  · intro w hSw; go_simp; with_reducible rfl
                  (try simp only [Act.put, List.setIfInBounds_toArray, List.set_cons_zero, List.set_cons_succ])
                  refine takeH (some 132) (i := 51) (v := .bool false) rfl (by kernel_rfl) (by kernel_rfl) (by kernel_rfl) (fun _ _ _ h => h) (Or.inl ⟨by rfl, ?_⟩) hHeld rfl ?_
                  · intro w hSw; go_simp <;> simp
                  (try simp only [Act.put, List.setIfInBounds_toArray, List.set_cons_zero, List.set_cons_succ])
                  refine takeH (some 133) (i := 52) (v := ?_) rfl (by kernel_rfl) (by kernel_rfl) (by kernel_rfl) (fun _ _ _ h => h) (Or.inl ⟨by rfl, ?_⟩) hHeld rfl ?_
                  rotate_left
                  · intro w hSw; go_simp; with_reducible rfl
                  (try simp only [Act.put, List.setIfInBounds_toArray, List.set_cons_zero, List.set_cons_succ])
                  refine wpAnyH_done (by kernel_rfl) ?_ _
                  refine NoPanic.normal ?_
                  go_wp2_with fail
                  go_meet
                  case rel => exact ⟨rfl, mkHid ⟨ht5.out, _, _, R5.out⟩, mkHid (HK.out.trans Q5.out)⟩
                · skip
                  go_simp
                  refine hK.out _ _ hHeld (fun hHeld => ?_)
                  (try simp only [Act.put, List.setIfInBounds_toArray, List.set_cons_zero, List.set_cons_succ])
                  clear hK K
                  refine takeH (some 131) (i := 50) (v := ?_) rfl (by kernel_rfl) (by kernel_rfl) (by kernel_rfl) (fun _ _ _ h => h) (Or.inl ⟨by rfl, ?_⟩) hHeld rfl ?_
                  rotate_left
                  · intro w hSw; go_simp; with_reducible rfl
                  (try simp only [Act.put, List.setIfInBounds_toArray, List.set_cons_zero, List.set_cons_succ])
                  refine wpAnyH_ready (rs := [45]) (by kernel_rfl) (by simp) (AllReadyH.cons rfl (fun K hK => ?_) AllReadyH.nil)
                  go_simp
                  go_wp2_with (go_at_call 18; refine HLe.mono ?_; rintro e y5 ⟨rfl, ht5, hk5⟩)
                  have R5 := mkHid (R4.out.keepP hk5)
                  have Q5 := mkHid (Q4.out.trans (KQ.ofP hk5))
                  have ht5 := mkHid ht5
                  clear hk5 HLe R4 Q4 ht4
                  refine hK.out _ _ (HKP.out _ Q5.out) (fun hHeld => ?_)
                  (try simp only [Act.put, List.setIfInBounds_toArray, List.set_cons_zero, List.set_cons_succ])
                  clear hK K
                  refine takeH (some 132) (i := 51) (v := .bool false) rfl (by kernel_rfl) (by kernel_rfl) (by kernel_rfl) (fun _ _ _ h => h) (Or.inl ⟨by rfl, ?_⟩) hHeld rfl ?_
                  · intro w hSw; go_simp <;> simp
                  (try simp only [Act.put, List.setIfInBounds_toArray, List.set_cons_zero, List.set_cons_succ])
                  refine takeH (some 133) (i := 52) (v := ?_) rfl (by kernel_rfl) (by kernel_rfl) (by kernel_rfl) (fun _ _ _ h => h) (Or.inl ⟨by rfl, ?_⟩) hHeld rfl ?_
                  rotate_left
                  · intro w hSw; go_simp; with_reducible rfl
                  (try simp only [Act.put, List.setIfInBounds_toArray, List.set_cons_zero, List.set_cons_succ])
                  refine wpAnyH_done (by kernel_rfl) ?_ _
                  refine NoPanic.normal ?_
                  go_wp2_with fail
                  go_meet
                  case rel => exact ⟨rfl, mkHid ⟨ht5.out, _, _, R5.out⟩, mkHid (HK.out.trans Q5.out)⟩
            case rest =>
              obtain ⟨rfl, HT2, HK2⟩ := hcut
              have HKW : Hid (∀ W, KQ base Y W → W.cell? ⟨B, 0, none⟩ = some (.slice (some ⟨b2, off2, none⟩) ll lc) ∧ W.cell? ⟨b2, off2 + q * 3, none⟩ = some (.int .i64 at')) := fun W hW => ⟨(hW.o.blk HKB.out (by decide)).cell 0, HPs.out W hW.b 0 (by omega)⟩
              clear HT HK HKP HS0 HWr HSec HPs
              generalize t.write j' at' (secL by' odd) = tw at *
              have HRd := ok.read wc T J P base m1 tw j' at' HT2.out.ta HT2.out.len HT2.out.few (by omega) hat.1 hat.2 HUp3.out
              have o0 := (HKW.out wc HK2.out).1
              have d0 := (HKW.out wc HK2.out).2
              generalize hre : tw.rdE j' at' = re at *
              go_wp2_with fail
              refine HRd.mono ?_
              rintro e x9 ⟨⟨v9, rfl, hv9⟩, ht9, hk9⟩
              have HV9 := mkHid hv9
              have HK9 := mkHid (HK2.out.trans (KQ.ofP hk9))
              obtain ⟨vL2, ls2, hr2⟩ := HT2.out.rt
              have HR9 := mkHid (hr2.keepP hk9)
              have HT9 := mkHid ht9
              have o0 := (HKW.out x9 HK9.out).1
              have d0 := (HKW.out x9 HK9.out).2
              have HRr := HR9.out.read (by omega) at'
              rw [hre] at HRr
              clear HRd hv9 ht9 hk9 hr2 HT2 HK2
              go_wp2_with fail
              refine HRr.mono ?_
              rintro e xa ⟨va, rfl, hva, hba⟩
              have HLo9 : Hid (base ≤ x9.heap.size) := HR9.out.low
              have HKa := mkHid (HK9.out.trans (KQ.of_below hba HLo9.out))
              have HTa : Hid (TB TA xa T U J K' P D base m1 tw j') := ⟨ok.keepT HT9.out (KeepT.of_below hba), _, _, HR9.out.on hba⟩
              have HS := sameV (HV9.out.below hba rfl) hva.isV
              rw [eqB_self] at HS
              clear HRr hva hba HR9 HT9 HK9 o0 d0
              go_wp2_with fail
              refine HS.mono ?_
              rintro e xb ⟨rfl, hbb⟩
              have HKb := mkHid (HKa.out.trans (KQ.of_below hbb HTa.out.low))
              have HTb := mkHid (HTa.out.on ok hbb)
              clear HS hbb HTa HKa
              go_wp2_with fail
              go_roundw
              case rel => exact ⟨q + 1, tw, by omega, by go_num, HTb, HKb⟩
              case measure => simp [intOf]; omega
          · have hql' : ¬ (q : Int) < (l.length : Int) := by omega
            go_upto_region 29 with fail
            clear o0
            go_cut [189] from 165 to 189 (fun v wx => v = .bool false ∧ Hid (TB TA wx T U J K' P D base (m1 + 150) (cmT t j') (cmJ t j')) ∧ Hid (KQ base Y wx))
            case first =>
              as_aux_lemma =>
                have HLow : Hid (base ≤ wr2.heap.size) := HT.out.low
                have HC1 := ok.commit wr2.drew T J P base m1 t j' (HT.out.on ok ((Below.refl _ wr2).drew)).ta HT.out.len HT.out.few (by omega) HT.out.seq
                obtain ⟨e51, eJ⟩ := cmE_twice t j'
                have eT := cmT_twice t j'
                obtain ⟨vL0, ls0, hr0⟩ := HT.out.rt
                have R0 := mkHid (hr0.on ((Below.refl _ wr2).drew))
                have Q0 := mkHid (KQ.of_below ((Below.refl _ wr2).drew) HLow.out)
                clear hr0
                have HE51 := mkHid (And.intro e51 (And.intro eJ eT))
                clear e51 eJ eT
                refine wp_region_noPanic ?_
                refine wp_region_held_drew (S := fun _ => True) (by kernel_rfl) trivial (fun hHeld => ?_)
                refine takeH (some 165) (i := 0) (v := ?_) rfl (by kernel_rfl) (by kernel_rfl) (by kernel_rfl) (fun _ _ _ h => h) (Or.inl ⟨by rfl, ?_⟩) hHeld rfl ?_
                rotate_left
                · intro w hSw; go_simp; with_reducible rfl
                (try simp only [Act.put, List.setIfInBounds_toArray, List.set_cons_zero, List.set_cons_succ])
                refine takeH (some 167) (i := 2) (v := ?_) rfl (by kernel_rfl) (by kernel_rfl) (by kernel_rfl) (fun _ _ _ h => h) (Or.inl ⟨by rfl, ?_⟩) hHeld rfl ?_
                rotate_left
                · intro w hSw; go_simp; with_reducible rfl
                (try simp only [Act.put, List.setIfInBounds_toArray, List.set_cons_zero, List.set_cons_succ])
                refine wpAnyH_ready (rs := [1]) (by kernel_rfl) (by simp) (AllReadyH.cons rfl (fun K hK => ?_) AllReadyH.nil)
                go_simp
                go_wp2_with (go_at_call 22; refine HC1.mono ?_; rintro e y1 ⟨rfl, ht1, hk1⟩)
                have R1 := mkHid (R0.out.keepP hk1)
                have Q1 := mkHid (Q0.out.trans (KQ.ofP hk1))
                have ht1 := mkHid ht1
                have HC2 := R1.out.commit (by omega)
                clear hk1 R0 Q0 HC1
                refine hK.out _ _ trivial (fun hHeld => ?_)
                (try simp only [Act.put, List.setIfInBounds_toArray, List.set_cons_zero, List.set_cons_succ])
                clear hK K
                refine wpAnyH_ready (rs := [3]) (by kernel_rfl) (by simp) (AllReadyH.cons rfl (fun K hK => ?_) AllReadyH.nil)
                go_simp
                go_wp2_with (go_at_call 23; refine HC2.mono ?_; rintro e y2 ⟨he2, hr2, hk2, hb2⟩; obtain rfl := he2)
                have R2 := mkHid hr2
                have Q2 := mkHid (Q1.out.trans (KQ.ofC hk2 hb2))
                have ht2 := mkHid (ok.keepT ht1.out hk2)
                have HC3 := ok.commit y2 T J P base (m1 + 150) (cmT t j') (cmJ t j') ht2.out R2.out.len R2.out.few (by omega) R2.out.seq
                rw [HE51.out.1, HE51.out.2.1, HE51.out.2.2] at HC3
                clear hk2 hb2 hr2 R1 Q1 ht1 HC2
                refine hK.out _ _ trivial (fun hHeld => ?_)
                (try simp only [Act.put, List.setIfInBounds_toArray, List.set_cons_zero, List.set_cons_succ])
                clear hK K
                refine takeH (some 169) (i := 4) (v := .bool false) rfl (by kernel_rfl) (by kernel_rfl) (by kernel_rfl) (fun _ _ _ h => h) (Or.inl ⟨by rfl, ?_⟩) hHeld rfl ?_
                · intro w hSw; go_simp <;> simp
                (try simp only [Act.put, List.setIfInBounds_toArray, List.set_cons_zero, List.set_cons_succ])
                refine takeH (some 170) (i := 5) (v := ?_) rfl (by kernel_rfl) (by kernel_rfl) (by kernel_rfl) (fun _ _ _ h => h) (Or.inl ⟨by rfl, ?_⟩) hHeld rfl ?_
                rotate_left
                · intro w hSw; go_simp; with_reducible rfl
                (try simp only [Act.put, List.setIfInBounds_toArray, List.set_cons_zero, List.set_cons_succ])
                refine takeH (some 171) (i := 6) (v := ?_) rfl (by kernel_rfl) (by kernel_rfl) (by kernel_rfl) (fun _ _ _ h => h) (Or.inl ⟨by rfl, ?_⟩) hHeld rfl ?_
                rotate_left
                · intro w hSw; go_simp; with_reducible rfl
                (try simp only [Act.put, List.setIfInBounds_toArray, List.set_cons_zero, List.set_cons_succ])
                refine wpAnyH_ready (rs := [7]) (by kernel_rfl) (by simp) (AllReadyH.cons rfl (fun K hK => ?_) AllReadyH.nil)
                go_simp
                go_wp2_with (go_at_call 22; refine HC3.mono ?_; rintro e y3 ⟨rfl, ht3, hk3⟩)
                have R3 := mkHid (R2.out.keepP hk3)
                have Q3 := mkHid (Q2.out.trans (KQ.ofP hk3))
                have ht3 := mkHid ht3
                have HSq := ok.seq y3 J P base (cmJ t j') (ok.toJ ht3.out)
                have L3 : Hid (base ≤ y3.heap.size) := R3.out.low
                clear hk3 R2 Q2 ht2 HC3
                refine hK.out _ _ trivial (fun hHeld => ?_)
                (try simp only [Act.put, List.setIfInBounds_toArray, List.set_cons_zero, List.set_cons_succ])
                clear hK K
                have d3 : y3.cell? ⟨K', 1, none⟩ = some (.int .u64 ((cmJ t j').seq : Int)) := Blk.cell R3.out.rj 1
                refine takeH (some 173) (i := 8) (v := ?_) rfl (by kernel_rfl) (by kernel_rfl) (by kernel_rfl) (fun _ _ _ h => h) (Or.inl ⟨by rfl, ?_⟩) hHeld rfl ?_
                rotate_left
                · intro w hSw; go_simp; with_reducible rfl
                (try simp only [Act.put, List.setIfInBounds_toArray, List.set_cons_zero, List.set_cons_succ])
                refine takeH (some 174) (i := 9) (v := ?_) rfl (by kernel_rfl) (by kernel_rfl) (by kernel_rfl) (fun _ _ _ h => h) (Or.inl ⟨by rfl, ?_⟩) hHeld rfl ?_
                rotate_left
                · intro w hSw; go_simp; with_reducible rfl
                (try simp only [Act.put, List.setIfInBounds_toArray, List.set_cons_zero, List.set_cons_succ])
                refine takeH (some 175) (i := 10) (v := ?_) rfl (by kernel_rfl) (by kernel_rfl) (by kernel_rfl) (fun _ _ _ h => h) (Or.inl ⟨by rfl, ?_⟩) hHeld rfl ?_
                rotate_left
                · intro w hSw; go_simp; with_reducible rfl
                (try simp only [Act.put, List.setIfInBounds_toArray, List.set_cons_zero, List.set_cons_succ])
                refine takeH (some 176) (i := 11) (v := ?_) rfl (by kernel_rfl) (by kernel_rfl) (by kernel_rfl) (fun _ _ _ h => h) (Or.inl ⟨by rfl, ?_⟩) hHeld rfl ?_
                rotate_left
                · intro w hSw; go_simp; with_reducible rfl
                (try simp only [Act.put, List.setIfInBounds_toArray, List.set_cons_zero, List.set_cons_succ])
                refine takeH (some 178) (i := 13) (v := ?_) rfl (by kernel_rfl) (by kernel_rfl) (by kernel_rfl) (fun _ _ _ h => h) (Or.inl ⟨by rfl, ?_⟩) hHeld rfl ?_
                rotate_left
                · intro w hSw; go_simp; with_reducible rfl
                (try simp only [Act.put, List.setIfInBounds_toArray, List.set_cons_zero, List.set_cons_succ])
                refine takeH (some 179) (i := 14) (v := ?_) rfl (by kernel_rfl) (by kernel_rfl) (by kernel_rfl) (fun _ _ _ h => h) (Or.inl ⟨by rfl, ?_⟩) hHeld rfl ?_
                rotate_left
                · intro w hSw; go_simp; with_reducible rfl
                (try simp only [Act.put, List.setIfInBounds_toArray, List.set_cons_zero, List.set_cons_succ])
                refine takeH (some 180) (i := 15) (v := ?_) rfl (by kernel_rfl) (by kernel_rfl) (by kernel_rfl) (fun _ _ _ h => h) (Or.inl ⟨by rfl, ?_⟩) hHeld rfl ?_
                rotate_left
                · intro w hSw; go_simp; with_reducible rfl
                (try simp only [Act.put, List.setIfInBounds_toArray, List.set_cons_zero, List.set_cons_succ])
                refine wpAnyH_ready (rs := [12, 16]) (by kernel_rfl) (by simp) ?_
                refine AllReadyH.cons rfl (fun K hK => ?_) (AllReadyH.cons rfl (fun K hK => ?_) AllReadyH.nil)
                · skip
                  go_simp
                  go_wp2_with (go_at_call 24; refine HSq.mono ?_; rintro e y4 ⟨rfl, hb4⟩)
                  have R4 := mkHid (R3.out.on hb4)
                  have Q4 := mkHid (Q3.out.trans (KQ.of_below hb4 L3.out))
                  have ht4 := mkHid (ok.keepT ht3.out (KeepT.of_below hb4))
                  have HAr := lawArea10 P D base base (m1 + 150) (cmJ t j').p y4 (ok.disk (ok.toJ ht4.out)) R4.out.rk (by omega)
                  clear hb4 R3 Q3 ht3 HSq L3
                  refine hK.out _ _ trivial (fun hHeld => ?_)
                  (try simp only [Act.put, List.setIfInBounds_toArray, List.set_cons_zero, List.set_cons_succ])
                  clear hK K
                  have d4 : y4.cell? ⟨K', 1, none⟩ = some (.int .u64 ((cmJ t j').seq : Int)) := Blk.cell R4.out.rj 1
                  refine wpAnyH_ready (rs := [16]) (by kernel_rfl) (by simp) (AllReadyH.cons rfl (fun K hK => ?_) AllReadyH.nil)
                  go_simp
                  refine hK.out _ _ trivial (fun hHeld => ?_)
                  (try simp only [Act.put, List.setIfInBounds_toArray, List.set_cons_zero, List.set_cons_succ])
                  clear hK K
                  refine takeH (some 182) (i := 17) (v := .bool false) rfl (by kernel_rfl) (by kernel_rfl) (by kernel_rfl) (fun _ _ _ h => h) (Or.inl ⟨by rfl, ?_⟩) hHeld rfl ?_
                  · intro w hSw; go_simp <;> simp
                  (try simp only [Act.put, List.setIfInBounds_toArray, List.set_cons_zero, List.set_cons_succ])
                  refine takeH (some 183) (i := 18) (v := ?_) rfl (by kernel_rfl) (by kernel_rfl) (by kernel_rfl) (fun _ _ _ h => h) (Or.inl ⟨by rfl, ?_⟩) hHeld rfl ?_
                  rotate_left
                  · intro w hSw; go_simp; with_reducible rfl
                  (try simp only [Act.put, List.setIfInBounds_toArray, List.set_cons_zero, List.set_cons_succ])
                  refine takeH (some 184) (i := 19) (v := ?_) rfl (by kernel_rfl) (by kernel_rfl) (by kernel_rfl) (fun _ _ _ h => h) (Or.inl ⟨by rfl, ?_⟩) hHeld rfl ?_
                  rotate_left
                  · intro w hSw; go_simp; with_reducible rfl
                  (try simp only [Act.put, List.setIfInBounds_toArray, List.set_cons_zero, List.set_cons_succ])
                  refine takeH (some 185) (i := 20) (v := ?_) rfl (by kernel_rfl) (by kernel_rfl) (by kernel_rfl) (fun _ _ _ h => h) (Or.inl ⟨by rfl, ?_⟩) hHeld rfl ?_
                  rotate_left
                  · intro w hSw; go_simp; with_reducible rfl
                  (try simp only [Act.put, List.setIfInBounds_toArray, List.set_cons_zero, List.set_cons_succ])
                  refine takeH (some 186) (i := 21) (v := ?_) rfl (by kernel_rfl) (by kernel_rfl) (by kernel_rfl) (fun _ _ _ h => h) (Or.inl ⟨by rfl, ?_⟩) hHeld rfl ?_
                  rotate_left
                  · intro w hSw; go_simp; with_reducible rfl
                  (try simp only [Act.put, List.setIfInBounds_toArray, List.set_cons_zero, List.set_cons_succ])
                  refine wpAnyH_ready (rs := [22]) (by kernel_rfl) (by simp) (AllReadyH.cons rfl (fun K hK => ?_) AllReadyH.nil)
                  go_simp
                  go_wp2_with (go_at_call 25; refine HAr.mono ?_; rintro e y5 ⟨rfl, hb5⟩)
                  have R5 := mkHid (R4.out.on hb5)
                  have Q5 := mkHid (Q4.out.trans (KQ.of_below hb5 R4.out.low))
                  have ht5 := mkHid (ok.keepT ht4.out (KeepT.of_below hb5))
                  clear hb5 R4 Q4 ht4 HAr
                  refine hK.out _ _ trivial (fun hHeld => ?_)
                  (try simp only [Act.put, List.setIfInBounds_toArray, List.set_cons_zero, List.set_cons_succ])
                  clear hK K
                  refine takeH (some 188) (i := 23) (v := ?_) rfl (by kernel_rfl) (by kernel_rfl) (by kernel_rfl) (fun _ _ _ h => h) (Or.inl ⟨by rfl, ?_⟩) hHeld rfl ?_
                  rotate_left
                  · intro w hSw; go_simp; with_reducible rfl
                  (try simp only [Act.put, List.setIfInBounds_toArray, List.set_cons_zero, List.set_cons_succ])
                  refine takeH (some 189) (i := 24) (v := ?_) rfl (by kernel_rfl) (by kernel_rfl) (by kernel_rfl) (fun _ _ _ h => h) (Or.inl ⟨by rfl, ?_⟩) hHeld rfl ?_
                  rotate_left
                  · intro w hSw; go_simp; with_reducible rfl
                  (try simp only [Act.put, List.setIfInBounds_toArray, List.set_cons_zero, List.set_cons_succ])
                  refine wpAnyH_done (by kernel_rfl) ?_ _
                  refine NoPanic.normal ?_
                  go_wp2_with fail
                  go_meet
                  case rel => exact ⟨rfl, mkHid ⟨ht5.out, _, _, R5.out⟩, mkHid (HK.out.trans Q5.out)⟩
                · skip
                  go_simp
                  refine hK.out _ _ trivial (fun hHeld => ?_)
                  (try simp only [Act.put, List.setIfInBounds_toArray, List.set_cons_zero, List.set_cons_succ])
                  clear hK K
                  refine wpAnyH_ready (rs := [12]) (by kernel_rfl) (by simp) (AllReadyH.cons rfl (fun K hK => ?_) AllReadyH.nil)
                  go_simp
                  go_wp2_with (go_at_call 24; refine HSq.mono ?_; rintro e y4 ⟨rfl, hb4⟩)
                  have R4 := mkHid (R3.out.on hb4)
                  have Q4 := mkHid (Q3.out.trans (KQ.of_below hb4 L3.out))
                  have ht4 := mkHid (ok.keepT ht3.out (KeepT.of_below hb4))
                  have HAr := lawArea10 P D base base (m1 + 150) (cmJ t j').p y4 (ok.disk (ok.toJ ht4.out)) R4.out.rk (by omega)
                  clear hb4 R3 Q3 ht3 HSq L3
                  refine hK.out _ _ trivial (fun hHeld => ?_)
                  (try simp only [Act.put, List.setIfInBounds_toArray, List.set_cons_zero, List.set_cons_succ])
                  clear hK K
                  refine takeH (some 182) (i := 17) (v := .bool false) rfl (by kernel_rfl) (by kernel_rfl) (by kernel_rfl) (fun _ _ _ h => h) (Or.inl ⟨by rfl, ?_⟩) hHeld rfl ?_
                  · intro w hSw; go_simp <;> simp
                  (try simp only [Act.put, List.setIfInBounds_toArray, List.set_cons_zero, List.set_cons_succ])
                  refine takeH (some 183) (i := 18) (v := ?_) rfl (by kernel_rfl) (by kernel_rfl) (by kernel_rfl) (fun _ _ _ h => h) (Or.inl ⟨by rfl, ?_⟩) hHeld rfl ?_
                  rotate_left
                  · intro w hSw; go_simp; with_reducible rfl
                  (try simp only [Act.put, List.setIfInBounds_toArray, List.set_cons_zero, List.set_cons_succ])
                  refine takeH (some 184) (i := 19) (v := ?_) rfl (by kernel_rfl) (by kernel_rfl) (by kernel_rfl) (fun _ _ _ h => h) (Or.inl ⟨by rfl, ?_⟩) hHeld rfl ?_
                  rotate_left
                  · intro w hSw; go_simp; with_reducible rfl
                  (try simp only [Act.put, List.setIfInBounds_toArray, List.set_cons_zero, List.set_cons_succ])
                  refine takeH (some 185) (i := 20) (v := ?_) rfl (by kernel_rfl) (by kernel_rfl) (by kernel_rfl) (fun _ _ _ h => h) (Or.inl ⟨by rfl, ?_⟩) hHeld rfl ?_
                  rotate_left
                  · intro w hSw; go_simp; with_reducible rfl
                  (try simp only [Act.put, List.setIfInBounds_toArray, List.set_cons_zero, List.set_cons_succ])
                  refine takeH (some 186) (i := 21) (v := ?_) rfl (by kernel_rfl) (by kernel_rfl) (by kernel_rfl) (fun _ _ _ h => h) (Or.inl ⟨by rfl, ?_⟩) hHeld rfl ?_
                  rotate_left
                  · intro w hSw; go_simp; with_reducible rfl
                  (try simp only [Act.put, List.setIfInBounds_toArray, List.set_cons_zero, List.set_cons_succ])
                  refine wpAnyH_ready (rs := [22]) (by kernel_rfl) (by simp) (AllReadyH.cons rfl (fun K hK => ?_) AllReadyH.nil)
                  go_simp
                  go_wp2_with (go_at_call 25; refine HAr.mono ?_; rintro e y5 ⟨rfl, hb5⟩)
                  have R5 := mkHid (R4.out.on hb5)
                  have Q5 := mkHid (Q4.out.trans (KQ.of_below hb5 R4.out.low))
                  have ht5 := mkHid (ok.keepT ht4.out (KeepT.of_below hb5))
                  clear hb5 R4 Q4 ht4 HAr
                  refine hK.out _ _ trivial (fun hHeld => ?_)
                  (try simp only [Act.put, List.setIfInBounds_toArray, List.set_cons_zero, List.set_cons_succ])
                  clear hK K
                  refine takeH (some 188) (i := 23) (v := ?_) rfl (by kernel_rfl) (by kernel_rfl) (by kernel_rfl) (fun _ _ _ h => h) (Or.inl ⟨by rfl, ?_⟩) hHeld rfl ?_
                  rotate_left
                  · intro w hSw; go_simp; with_reducible rfl
                  (try simp only [Act.put, List.setIfInBounds_toArray, List.set_cons_zero, List.set_cons_succ])
                  refine takeH (some 189) (i := 24) (v := ?_) rfl (by kernel_rfl) (by kernel_rfl) (by kernel_rfl) (fun _ _ _ h => h) (Or.inl ⟨by rfl, ?_⟩) hHeld rfl ?_
                  rotate_left
                  · intro w hSw; go_simp; with_reducible rfl
                  (try simp only [Act.put, List.setIfInBounds_toArray, List.set_cons_zero, List.set_cons_succ])
                  refine wpAnyH_done (by kernel_rfl) ?_ _
                  refine NoPanic.normal ?_
                  go_wp2_with fail
                  go_meet
                  case rel => exact ⟨rfl, mkHid ⟨ht5.out, _, _, R5.out⟩, mkHid (HK.out.trans Q5.out)⟩
            case rest =>
              as_aux_lemma =>
                obtain ⟨rfl, HT2, HK2⟩ := hcut
                clear HT HK
                generalize cmT t j' = t2 at *
                generalize cmJ t j' = j2 at *
                have HDw := dkDown (ok.disk (ok.toJ HT2.out.ta))
                have HSe := mkHid HT2.out.seq
                have HFe := mkHid HT2.out.few
                obtain ⟨vL2, ls2, hr2⟩ := HT2.out.rt
                have HRk := mkHid (hr2.rk.thin (X := fun _ => False) (fun _ h => h.elim))
                have HRj := mkHid hr2.rj
                have HJa := mkHid (ok.toJ HT2.out.ta)
                clear hr2 HT2
                cases hoff : j2.p.off with
                | false =>
                  rw [hoff] at HDw
                  go_wp2_with fail
                  refine HDw.mono ?_
                  rintro e xe ⟨rfl, hxe⟩
                  obtain rfl := hxe.symm
                  have HBe := mkHid (HBw.out.trans (HBY.out.trans HK2.out.b))
                  have HPn : Hid (PlayB JA wc J K' P D base (50 + (k + 1) * 300) j2 ∧ j2.p.off = false) := ⟨⟨HJa.out, HRj.out, HRk.out.more (by have := HM1.out; omega), HFe.out.more (by have := HM1.out; omega), HLk.out, HSe.out⟩, hoff⟩
                  clear HDw hoff
                  go_wp2_with fail
                  go_roundw
                  case rel => exact ⟨k + 1, J, K', j2, by omega, by go_num, rfl, rfl, rfl, HPn, HBe⟩
                  case measure => simp [intOf]; omega
                | true =>
                  rw [hoff] at HDw
                  obtain ⟨m2, hm2⟩ : ∃ m2, m2 = m1 + 150 := ⟨_, rfl⟩
                  have HM2 := mkHid hm2
                  have hm2' : m2 ≤ 4200 := by omega
                  rw [← hm2] at HRk HFe
                  clear hoff hm2
                  have HIp := mkHid (ok.disk HJa.out)
                  go_wp2_with fail
                  refine HDw.mono ?_
                  rintro e xe ⟨rfl, hxe⟩
                  obtain rfl := hxe.symm
                  have o2 : wc.cell? ⟨B, 2, none⟩ = some (.slice ka keep.length kc) := (HK2.out.o.blk HKB.out (by decide)).cell 2
                  have HCr := crashT (fun _ => False) wc P base j2.p ka kc keep HIp.out (HFe.out.few (by omega)) HQ.out.keepLen (fun W _ hW => HQ.out.keep W (HBY.out.trans (HK2.out.b.trans hW)))
                  have HF3 := mkHid (HFe.out.crash keep)
                  have HG3 := mkHid (good_crash j2.p keep)
                  generalize hp3 : j2.p.crash keep = p3 at *
                  clear HDw
                  go_wp2_with fail
                  refine HCr.mono ?_
                  rintro e x1 ⟨⟨y1, rfl⟩, hI1, hT1, _, hb1⟩
                  have hkp1 := KP.ofPD hT1 hb1
                  have HI1 := mkHid hI1
                  have HRk1 := mkHid (HRk.out.keepO hkp1.o (by decide) (by decide) (by decide))
                  have HK1 := mkHid (HK2.out.trans (KQ.ofP hkp1))
                  have o2 : x1.cell? ⟨B, 2, none⟩ = some (.slice ka keep.length kc) := (HK1.out.o.blk HKB.out (by decide)).cell 2
                  have HRc := rkCrash D base m2 j2.p ka keep.length kc keep x1 HRk1.out (by omega) (fun W _ hW => HQ.out.keep W (HBY.out.trans (HK1.out.b.trans hW))) HQ.out.keepLen
                  rw [hp3] at HRc
                  clear HCr hI1 hT1 hb1 hkp1
                  go_wp2_with fail
                  refine HRc.mono ?_
                  rintro e x2 ⟨⟨y2, rfl⟩, hR2, hT2, _, hb2⟩
                  have HRk2 := mkHid hR2
                  have HI2 := mkHid (HI1.out.keep hT2 (by decide) (by decide) (by decide))
                  have HK2b := mkHid (HK1.out.trans (KQ.ofC (hT2.wide (by decide)) hb2))
                  have o3 : x2.cell? ⟨B, 3, none⟩ = some (.int .i64 more) := (HK2b.out.o.blk HKB.out (by decide)).cell 3
                  have HAr := armT (fun _ => False) x2 P base p3 more HI2.out HQ.out.more0 HQ.out.more1
                  clear HRc hR2 hT2 hb2 HRk1 HI1 HK1 o2
                  go_wp2_with fail
                  refine HAr.mono ?_
                  rintro e x3 ⟨⟨y3, rfl⟩, hI3, hT3, _, hb3⟩
                  have hkp3 := KP.ofPD hT3 hb3
                  have HI3 := mkHid hI3
                  have HRk3 := mkHid (HRk2.out.keepO hkp3.o (by decide) (by decide) (by decide))
                  have HK3 := mkHid (HK2b.out.trans (KQ.ofP hkp3))
                  have o3 : x3.cell? ⟨B, 3, none⟩ = some (.int .i64 more) := (HK3.out.o.blk HKB.out (by decide)).cell 3
                  have HRa := rkArm D base (m2 + 1) p3 more x3 HRk3.out ⟨HQ.out.more0, HQ.out.more1⟩
                  clear HAr hI3 hT3 hb3 hkp3 HRk2 HI2 HK2b
                  go_wp2_with fail
                  refine HRa.mono ?_
                  rintro e x4 ⟨⟨y4, rfl⟩, hR4, hT4, _, hb4⟩
                  have HRk4 := mkHid hR4
                  have HI4 := mkHid (HI3.out.keep hT4 (by decide) (by decide) (by decide))
                  have HK4 := mkHid (HK3.out.trans (KQ.ofC (hT4.wide (by decide)) hb4))
                  have HF4 := mkHid ((HF3.out.armed more).more (show m2 ≤ m2 + 1 + 1 by omega))
                  generalize hp4 : p3.armed more = p4 at *
                  have HMt := lawMount10 ok P D base (m2 + 1 + 1) p4 x4 HI4.out HRk4.out HF4.out (by omega)
                  clear HRa hR4 hT4 hb4 HRk3 HI3 HK3 o3
                  go_wp2_with fail
                  refine HMt.mono ?_
                  rintro e x5 ⟨⟨vj, vk, rfl, hmt⟩, hR5, hk5, hb5⟩
                  have HK5 := mkHid (HK4.out.trans ⟨hk5, hb5⟩)
                  have HRk5 := mkHid hR5
                  have HF5 := mkHid HF4.out.mount
                  have hMl : x4.heap.size ≤ x4.heap.size := Nat.le_refl _
                  have HL4 : Hid (base ≤ x4.heap.size) := HI4.out.low
                  unfold MtBoth at hmt
                  clear HMt hR5 hk5 hb5 hMl HRk4 HI4 HK4
                  by_cases hme : mountE p4 = 0
                  · rw [if_pos hme] at hmt
                    obtain ⟨J5, K5, rfl, rfl, hJ5, hK5, hlK5⟩ := hmt
                    have HUp5 := mkHid (mount_up hme)
                    have HSl5 : Hid (mountS p4 < 18446744073709551616) := mountS_lt
                    have HJ5 := mkHid hJ5
                    have HRj5 := mkHid hK5
                    have HLk5 : Hid (base ≤ K5) := Nat.le_trans HL4.out hlK5
                    clear hJ5 hK5 hlK5 hme
                    generalize mountP p4 = p5 at *
                    generalize mountS p4 = s5 at *
                    have HAa := lawArea10 P D base base _ p5 x5 (ok.disk HJ5.out) HRk5.out (by omega)
                    go_wp2_with fail
                    refine HAa.mono ?_
                    rintro e x6 ⟨rfl, hb6⟩
                    have HBe := mkHid (HBw.out.trans (HBY.out.trans (HK5.out.trans (KQ.of_below hb6 HRk5.out.low)).b))
                    have HPn : Hid (PlayB JA x6 J5 K5 P D base (50 + (k + 1) * 300) ⟨p5, s5, false⟩ ∧ p5.off = false) := ⟨⟨ok.keepJ HJ5.out (KeepT.of_below hb6), Blk.on HRj5.out hb6, (HRk5.out.on hb6).more (by have := HM1.out; have := HM2.out; omega), HF5.out.more (by have := HM1.out; have := HM2.out; omega), HLk5.out, HSl5.out⟩, HUp5.out⟩
                    clear HAa hb6
                    go_wp2_with fail
                    go_roundw
                    case rel => exact ⟨k + 1, J5, K5, _, by omega, by go_num, rfl, rfl, rfl, HPn, HBe⟩
                    case measure => simp [intOf]; omega
                  · rw [if_neg hme] at hmt
                    obtain ⟨rfl, rfl, hI5⟩ := hmt
                    have HI5 := mkHid hI5
                    clear hI5 hme
                    generalize mountP p4 = p5 at *
                    have o4 : x5.cell? ⟨B, 4, none⟩ = some (.slice ra rest.length rc) := (HK5.out.o.blk HKB.out (by decide)).cell 4
                    have HCr := crashT (fun _ => False) x5 P base p5 ra rc rest HI5.out (HF5.out.few (by omega)) HQ.out.restLen (fun W _ hW => HQ.out.rest W (HBY.out.trans (HK5.out.b.trans hW)))
                    have HF6 := mkHid ((HF5.out.crash rest).more (show m2 + 1 + 1 + 50 ≤ m2 + 1 + 1 + 50 + 1 by omega))
                    have HG6 := mkHid (good_crash p5 rest)
                    generalize hp6 : p5.crash rest = p6 at *
                    go_wp2_with fail
                    refine HCr.mono ?_
                    rintro e x6 ⟨⟨y6, rfl⟩, hI6, hT6, _, hb6⟩
                    have hkp6 := KP.ofPD hT6 hb6
                    have HI6 := mkHid hI6
                    have HRk6 := mkHid (HRk5.out.keepO hkp6.o (by decide) (by decide) (by decide))
                    have HK6 := mkHid (HK5.out.trans (KQ.ofP hkp6))
                    have o4 : x6.cell? ⟨B, 4, none⟩ = some (.slice ra rest.length rc) := (HK6.out.o.blk HKB.out (by decide)).cell 4
                    have HRc := rkCrash D base (m2 + 1 + 1 + 50) p5 ra rest.length rc rest x6 HRk6.out (by omega) (fun W _ hW => HQ.out.rest W (HBY.out.trans (HK6.out.b.trans hW))) HQ.out.restLen
                    rw [hp6] at HRc
                    clear HCr hI6 hT6 hb6 hkp6 HRk5 HI5 HK5
                    go_wp2_with fail
                    refine HRc.mono ?_
                    rintro e x7 ⟨⟨y7, rfl⟩, hR7, hT7, _, hb7⟩
                    have HRk7 := mkHid hR7
                    have HI7 := mkHid (HI6.out.keep hT7 (by decide) (by decide) (by decide))
                    have HK7 := mkHid (HK6.out.trans (KQ.ofC (hT7.wide (by decide)) hb7))
                    have HL7 : Hid (base ≤ x7.heap.size) := HI7.out.low
                    have HMt := lawMount10 ok P D base (m2 + 1 + 1 + 50 + 1) p6 x7 HI7.out HRk7.out HF6.out (by omega)
                    obtain ⟨hme, _, _⟩ := mount_good HF6.out HG6.out
                    have HME := mkHid hme
                    clear HRc hR7 hT7 hb7 HRk6 HI6 HK6 o4 hme
                    go_wp2_with fail
                    refine HMt.mono ?_
                    rintro e x8 ⟨⟨vj, vk, rfl, hmt⟩, hR8, hk8, hb8⟩
                    have HK8 := mkHid (HK7.out.trans ⟨hk8, hb8⟩)
                    have HRk8 := mkHid hR8
                    have HF8 := mkHid HF6.out.mount
                    unfold MtBoth at hmt
                    rw [if_pos HME.out] at hmt
                    obtain ⟨J5, K5, rfl, rfl, hJ5, hK5, hlK5⟩ := hmt
                    have HUp5 := mkHid (mount_up HME.out)
                    have HSl5 : Hid (mountS p6 < 18446744073709551616) := mountS_lt
                    have HJ5 := mkHid hJ5
                    have HRj5 := mkHid hK5
                    have HLk5 : Hid (base ≤ K5) := Nat.le_trans HL7.out hlK5
                    clear HMt hR8 hk8 hb8 hJ5 hK5 hlK5 HRk7 HI7 HK7 HME HG6
                    generalize mountP p6 = p8 at *
                    generalize mountS p6 = s8 at *
                    have HAa := lawArea10 P D base base _ p8 x8 (ok.disk HJ5.out) HRk8.out (by omega)
                    go_wp2_with fail
                    refine HAa.mono ?_
                    rintro e x9 ⟨rfl, hb9⟩
                    have HBe := mkHid (HBw.out.trans (HBY.out.trans (HK8.out.trans (KQ.of_below hb9 HRk8.out.low)).b))
                    have HPn : Hid (PlayB JA x9 J5 K5 P D base (50 + (k + 1) * 300) ⟨p8, s8, false⟩ ∧ p8.off = false) := ⟨⟨ok.keepJ HJ5.out (KeepT.of_below hb9), Blk.on HRj5.out hb9, (HRk8.out.on hb9).more (by have := HM1.out; have := HM2.out; omega), HF8.out.more (by have := HM1.out; have := HM2.out; omega), HLk5.out, HSl5.out⟩, HUp5.out⟩
                    clear HAa hb9
                    go_wp2_with fail
                    go_roundw
                    case rel => exact ⟨k + 1, J5, K5, _, by omega, by go_num, rfl, rfl, rfl, HPn, HBe⟩
                    case measure => simp [intOf]; omega
      · have hlt' : ¬ (k : Int) < (len : Int) := by omega
        go_wp2_with fail
        go_ret
        exact ⟨rfl, HBw.out⟩
end Go.Proofs.YtacnoagjcacniaaGreat
