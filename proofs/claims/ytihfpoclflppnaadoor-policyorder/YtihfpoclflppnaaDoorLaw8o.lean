/- The walk of PolicyOrder. -/
import Derived.Test.YtihfpoclflppnaaDoorB37
import Derived.Test.YtihfpoclflppnaaDoorOwnR2
import Derived.Test.YtihfpoclflppnaaDoorTakeH
import Derived.Test.YtihfpoclflppnaaDoorOwnR3
import Derived.BigQuiet
import Derived.Deep.CutBlock
import Derived.Deep.CutRange
namespace Go.Proofs.YtihfpoclflppnaaDoor
open Go.RowKit
attribute [local go_sem ↓] Go.wp_at_zero Go.wp_at_succ

set_option maxRecDepth 20000 in
set_option maxHeartbeats 8000000 in
theorem walkOrder8 (a : Option Addr) (cap : Nat) (l : List Ru) (x1 x2 : Int) (mo : Ru) (root : Bool) (p q s : List UInt8) (w : World) (hr : IsRs w a l.length cap l) (hrr : ReachR l) (hnb : l.length * 56 ≤ 140737488351232) (hm : MxS w)
    (m1 : mo.who.length ≤ 140737488351232) (m2 : mo.act.length ≤ 140737488351232) (m3 : mo.res.length ≤ 140737488351232) (zp : p.length ≤ 140737488351232) (zq : q.length ≤ 140737488351232) (zs : s.length ≤ 140737488351232)
    (_i1 : -9223372036854775808 ≤ x1 ∧ x1 ≤ 9223372036854775807) (_i2 : -9223372036854775808 ≤ x2 ∧ x2 ≤ 9223372036854775807) :
    Calls Tryd.prog 8 #[.slice a l.length cap, .int .i64 x1, .int .i64 x2, .agg #[.bool mo.deny, .string (str mo.who), .string (str mo.act), .string (str mo.res)], .bool root, .agg #[.string (str p), .string (str q), .string (str s)]] w fun e w' => e = .returned (.bool true) ∧ Below w.heap.size w w' := by
  obtain ⟨W0, hW0⟩ : ∃ W0, W0 = (w.alloc (.cells #[.bool mo.deny, .string (str mo.who), .string (str mo.act), .string (str mo.res)] 38)).alloc (.cells #[.string (str p), .string (str q), .string (str s)] 48) := ⟨_, rfl⟩
  have KM : Blk W0 w.heap.size 38 (ruc mo) := by rw [hW0]; exact (Blk.newAt w _ _ _ _ rfl rfl).alloc _
  have KA : Blk W0 (w.heap.size + 1) 48 [.string (str p), .string (str q), .string (str s)] := by rw [hW0]; exact Blk.newAt _ _ _ _ _ (by simp) rfl
  have T0 : Below w.heap.size w W0 := by rw [hW0]; exact ((Below.refl _ w).alloc (Nat.le_refl _) _).alloc (by simp) _
  have Z0 : w.heap.size + 2 ≤ W0.heap.size := by rw [hW0]; simp
  have HRl : Hid (∀ W, Below w.heap.size w W → IsRs W a l.length cap l) := fun W hW => hr.below hW rfl
  have HM : Hid (∀ W, Below w.heap.size w W → MxS W) := fun W hW => hm.below hW hm.lt
  have HA := fun W (h : MxS W) => lawAlive8 W h
  have HLi : Hid (∀ W a2 c2 B, IsRs W a2 (l.length + 1) c2 (l ++ [mo]) → Blk W B 9 [.string (str p), .string (str q), .string (str s)] → Calls Tryd.prog 9 #[.slice a2 (l.length + 1) c2, .slice (some ⟨B, 0, none⟩) 3 3] W fun e w' => e = .returned (.bool (lightL (l ++ [mo]) [p, q, s])) ∧ Below W.heap.size W w') := fun W a2 c2 B hi hb => by
    have hlen : (l ++ [mo]).length = l.length + 1 := by simp
    refine lawLight8 a2 (l.length + 1) c2 (l ++ [mo]) (some ⟨B, 0, none⟩) 3 3 [p, q, s] W hi ⟨rfl, fun _ => ⟨B, 0, rfl, fun i hi3 => ?_⟩⟩ (fun i hi4 => ?_) (fun i hi3 => ?_) (by omega) (by omega)
    · rw [Nat.zero_add, hb.cell i]
      obtain rfl | rfl | rfl : i = 0 ∨ i = 1 ∨ i = 2 := by omega
      · rfl
      · rfl
      · rfl
    · by_cases hil : i < l.length
      · have := hrr i hil
        rw [nthR_eq l i hil] at this
        rw [nthR_eq _ i hi4, List.getElem_append_left hil]
        exact this
      · have e : i = l.length := by rw [hlen] at hi4; omega
        subst e
        have : nthR (l ++ [mo]) l.length = mo := by rw [nthR_eq _ _ hi4]; simp
        rw [this]; exact ⟨m1, m2, m3⟩
    · obtain rfl | rfl | rfl : i = 0 ∨ i = 1 ∨ i = 2 := by omega
      · exact zp
      · exact zq
      · exact zs
  obtain ⟨lb, hlb⟩ : ∃ lb, lb = lightL (l ++ [mo]) [p, q, s] := ⟨_, rfl⟩
  rw [← hlb] at HLi
  have HLB : Hid (lb = lightL (l ++ [mo]) [p, q, s]) := hlb
  clear hlb hr hm hrr m1 m2 m3 zp zq zs
  generalize hsp : str p = sp at *
  generalize hsq : str q = sq at *
  generalize hss : str s = ss at *
  have HSS : Hid (str p = sp ∧ str q = sq ∧ str s = ss) := ⟨hsp, hsq, hss⟩
  clear hsp hsq hss
  have HMo0 : ruc mo = [.bool mo.deny, .string (str mo.who), .string (str mo.act), .string (str mo.res)] := rfl
  generalize hm1 : str mo.who = e1 at *
  generalize hm2 : str mo.act = e2 at *
  generalize hm3 : str mo.res = e3 at *
  have HMo : Hid (ruc mo = [.bool mo.deny, .string e1, .string e2, .string e3]) := HMo0
  have HMe : Hid (str mo.who = e1 ∧ str mo.act = e2 ∧ str mo.res = e3) := ⟨hm1, hm2, hm3⟩
  rw [HMo0] at KM
  clear hm1 hm2 hm3 HMo0
  have HB1 : Hid ((([] : List Ru).length + l.length) * 56 ≤ 140737488355328) := by unfold Hid; rw [List.length_nil]; omega
  have HB2 : Hid ((l.length + [mo].length) * 56 ≤ 140737488355328) := by unfold Hid; rw [List.length_singleton]; omega
  have HLe : Hid ((l ++ [mo]).length = l.length + 1) := by simp [Hid]
  go_enter Tryd.func8, Tryd.ntmps8
  go_wp2_with fail
  rw [← hW0]
  have a0 : W0.cell? ⟨w.heap.size + 1, 0, none⟩ = some (.string sp) := KA.cell 0
  have a1 : W0.cell? ⟨w.heap.size + 1, 1, none⟩ = some (.string sq) := KA.cell 1
  have a2 : W0.cell? ⟨w.heap.size + 1, 2, none⟩ = some (.string ss) := KA.cell 2
  clear hW0
  go_quiet (fail)
  have T1 : Below w.heap.size w (W0.drewN nq) := bel_drewN T0 nq
  have KM1 := KM.drewN nq
  have Z1 : w.heap.size + 2 ≤ (W0.drewN nq).heap.size := Z0
  generalize W0.drewN nq = W1 at *
  clear a0 a1 a2 KM KA Z0 T0 W0
  obtain ⟨M0, hM0⟩ : ∃ M0, M0 = w.heap.size := ⟨_, rfl⟩
  have HKM : Hid (Blk W1 w.heap.size 38 [.bool mo.deny, .string e1, .string e2, .string e3]) := KM1
  have HKP : Hid (∀ w', Below W1.heap.size W1 w' → Below W1.heap.size W1 w' ∧ w'.cell? ⟨M0, 0, none⟩ = some (.bool mo.deny) ∧ w'.cell? ⟨M0, 1, none⟩ = some (.string e1) ∧ w'.cell? ⟨M0, 2, none⟩ = some (.string e2) ∧ w'.cell? ⟨M0, 3, none⟩ = some (.string e3)) := fun w' hb => by
    rw [hM0]
    exact ⟨hb, (KM1.on hb).cell 0, (KM1.on hb).cell 1, (KM1.on hb).cell 2, (KM1.on hb).cell 3⟩
  have HT1 : Hid (Below w.heap.size w W1) := T1
  clear KM1 T1
  obtain ⟨bt, hbt⟩ : ∃ bt, bt = (!lb || decide (l.length = 0)) := ⟨_, rfl⟩
  have HBT : Hid (bt = (!lb || decide (l.length = 0))) := hbt
  clear hbt
  rw [← hM0]
  go_upto_region 2 with fail
  go_cut [43] from 27 (fun v wx => v = .bool bt ∧ Below W1.heap.size W1 wx)
  case first =>
    have HM0 : Hid (M0 = w.heap.size) := hM0
    clear hM0 _i1 _i2 Z1 hnb
    refine wp_region_noPanic ?_
    refine wp_region_held_drew (S := fun w' => Below W1.heap.size W1 w' ∧ w'.cell? ⟨M0, 0, none⟩ = some (.bool mo.deny) ∧ w'.cell? ⟨M0, 1, none⟩ = some (.string e1) ∧ w'.cell? ⟨M0, 2, none⟩ = some (.string e2) ∧ w'.cell? ⟨M0, 3, none⟩ = some (.string e3)) (by kernel_rfl) (HKP.out _ ((Below.refl _ W1).drew)) (fun hHeld => ?_)
    have D : Below W1.heap.size W1 W1.drew := (Below.refl _ W1).drew
    refine takeH (some 28) (i := 1) (v := ?_) rfl (by kernel_rfl) (by kernel_rfl) (by kernel_rfl) (fun _ _ _ h => h) (Or.inl ⟨by rfl, ?_⟩) hHeld rfl ?_
    rotate_left
    · intro w hSw; obtain ⟨hS0, hS1, hS2, hS3, hS4⟩ := hSw; go_simp; with_reducible rfl
    (try simp only [Act.put]); (try simp only [List.setIfInBounds_toArray]); (try simp only [List.set_cons_zero, List.set_cons_succ])
    refine takeH (some 30) (i := 3) (v := ?_) rfl (by kernel_rfl) (by kernel_rfl) (by kernel_rfl) (fun _ _ _ h => h) (Or.inl ⟨by rfl, ?_⟩) hHeld rfl ?_
    rotate_left
    · intro w hSw; obtain ⟨hS0, hS1, hS2, hS3, hS4⟩ := hSw; go_simp; with_reducible rfl
    (try simp only [Act.put]); (try simp only [List.setIfInBounds_toArray]); (try simp only [List.set_cons_zero, List.set_cons_succ])
    refine takeH (some 33) (i := 6) (v := ?_) rfl (by kernel_rfl) (by kernel_rfl) (by kernel_rfl) (fun _ _ _ h => h) (Or.inl ⟨by rfl, ?_⟩) hHeld rfl ?_
    rotate_left
    · intro w hSw; obtain ⟨hS0, hS1, hS2, hS3, hS4⟩ := hSw; go_simp; with_reducible rfl
    (try simp only [Act.put]); (try simp only [List.setIfInBounds_toArray]); (try simp only [List.set_cons_zero, List.set_cons_succ])
    refine takeH (some 34) (i := 7) (v := ?_) rfl (by kernel_rfl) (by kernel_rfl) (by kernel_rfl) (fun _ _ _ h => h) (Or.inl ⟨by rfl, ?_⟩) hHeld rfl ?_
    rotate_left
    · intro w hSw; obtain ⟨hS0, hS1, hS2, hS3, hS4⟩ := hSw; go_simp; with_reducible rfl
    (try simp only [Act.put]); (try simp only [List.setIfInBounds_toArray]); (try simp only [List.set_cons_zero, List.set_cons_succ])
    refine takeH (some 35) (i := 8) (v := ?_) rfl (by kernel_rfl) (by kernel_rfl) (by kernel_rfl) (fun _ _ _ h => h) (Or.inl ⟨by rfl, ?_⟩) hHeld rfl ?_
    rotate_left
    · intro w hSw; obtain ⟨hS0, hS1, hS2, hS3, hS4⟩ := hSw; go_simp; with_reducible rfl
    (try simp only [Act.put]); (try simp only [List.setIfInBounds_toArray]); (try simp only [List.set_cons_zero, List.set_cons_succ])
    generalize W1.drew = V0 at *
    refine wpAnyH_ready (rs := [0, 4, 9]) (by kernel_rfl) (by simp) ?_
    refine AllReadyH.cons rfl (fun K hK => ?_) (AllReadyH.cons rfl (fun K hK => ?_) (AllReadyH.cons rfl (fun K hK => ?_) AllReadyH.nil))
    · skip
      go_simp
      have D1 := D.alloc D.size (.cells #[] 38)
      have KE1 : Blk (V0.alloc (.cells #[] 38)) V0.heap.size 38 [] := Blk.newAt V0 _ _ _ _ rfl rfl
      have Z1 : W1.heap.size ≤ V0.heap.size := D.size
      refine hK.out _ _ (HKP.out _ D1) (fun hHeld => ?_)
      (try simp only [Act.put]); (try simp only [List.setIfInBounds_toArray]); (try simp only [List.set_cons_zero, List.set_cons_succ])
      clear hK K
      clear D
      obtain ⟨bE, hb1⟩ : ∃ b, b = V0.heap.size := ⟨_, rfl⟩
      rw [← hb1]
      rw [← hb1] at KE1 Z1
      generalize V0.alloc (.cells #[] 38) = Y1 at *
      clear hb1
      have D := D1
      have KE := KE1
      have zE := Z1
      clear D1 KE1 Z1
      refine wpAnyH_ready (rs := [2, 4, 9]) (by kernel_rfl) (by simp) ?_
      refine AllReadyH.cons rfl (fun K hK => ?_) (AllReadyH.cons rfl (fun K hK => ?_) (AllReadyH.cons rfl (fun K hK => ?_) AllReadyH.nil))
      · skip
        refine step_appRt 22 38 Tryd.underlying22 infoRef8 _ (by rfl) _ _ (by rfl) W1.heap.size _ [] (by rfl) (OwnR.emptyAt KE zE) a cap l (by rfl) (HRl.out _ (bel2 HT1.out D)) HB1.out D.size ?_
        intro v1 Y2 hoA hown1 hgrow1
        rw [List.nil_append] at hown1
        have D2 := D.grown hgrow1 D.size (fun j hj => (hoA.blk j hj).1)
        refine hK.out _ _ (HKP.out _ D2) (fun hHeld => ?_)
        (try simp only [Act.put]); (try simp only [List.setIfInBounds_toArray]); (try simp only [List.set_cons_zero, List.set_cons_succ])
        have D := D2
        have OA := hown1
        clear hK K D2 hown1 hgrow1 hoA KE zE
        refine wpAnyH_ready (rs := [4, 9]) (by kernel_rfl) (by simp) ?_
        refine AllReadyH.cons rfl (fun K hK => ?_) (AllReadyH.cons rfl (fun K hK => ?_) AllReadyH.nil)
        · skip
          go_simp
          have D3 := D.alloc D.size (.cells #[.bool mo.deny, .string e1, .string e2, .string e3] 38)
          have KM3 : Blk (Y2.alloc (.cells #[.bool mo.deny, .string e1, .string e2, .string e3] 38)) Y2.heap.size 38 [.bool mo.deny, .string e1, .string e2, .string e3] := Blk.newAt Y2 _ _ _ _ rfl rfl
          have Z3 : W1.heap.size ≤ Y2.heap.size := D.size
          have qOA3 := OA.alloc (.cells #[.bool mo.deny, .string e1, .string e2, .string e3] 38)
          refine hK.out _ _ (HKP.out _ D3) (fun hHeld => ?_)
          (try simp only [Act.put]); (try simp only [List.setIfInBounds_toArray]); (try simp only [List.set_cons_zero, List.set_cons_succ])
          clear hK K
          clear OA
          clear D
          obtain ⟨bM, hb3⟩ : ∃ b, b = Y2.heap.size := ⟨_, rfl⟩
          rw [← hb3]
          rw [← hb3] at KM3 Z3
          generalize Y2.alloc (.cells #[.bool mo.deny, .string e1, .string e2, .string e3] 38) = Y3 at *
          clear hb3
          have D := D3
          have KM := KM3
          have zM := Z3
          have OA := qOA3
          clear D3 KM3 Z3
          clear qOA3
          refine wpAnyH_ready (rs := [5, 9]) (by kernel_rfl) (by simp) ?_
          refine AllReadyH.cons rfl (fun K hK => ?_) (AllReadyH.cons rfl (fun K hK => ?_) AllReadyH.nil)
          · skip
            refine step_appRt 22 38 Tryd.underlying22 infoRef8 _ (by rfl) _ _ (by rfl) W1.heap.size _ l (by rfl) OA _ _ [mo] (by rfl) (isRs_one mo (by rw [HMo.out]; exact KM)) HB2.out D.size ?_
            intro v2 Y4 hoB hown2 hgrow2
            have D4 := D.grown hgrow2 D.size (fun j hj => (hoB.blk j hj).1)
            obtain ⟨a2, c2, ev2, IB⟩ := hown2.isRs
            rw [HLe.out] at ev2 IB
            subst ev2
            refine hK.out _ _ (HKP.out _ D4) (fun hHeld => ?_)
            (try simp only [Act.put]); (try simp only [List.setIfInBounds_toArray]); (try simp only [List.set_cons_zero, List.set_cons_succ])
            have D := D4
            clear hK K D4 hown2 hgrow2 hoB KM zM OA
            refine wpAnyH_ready (rs := [9]) (by kernel_rfl) (by simp) ?_
            refine AllReadyH.cons rfl (fun K hK => ?_) AllReadyH.nil
            go_simp
            have D5 := D.alloc D.size (.cells #[.string sp, .string sq, .string ss] 9)
            have KX5 : Blk (Y4.alloc (.cells #[.string sp, .string sq, .string ss] 9)) Y4.heap.size 9 [.string sp, .string sq, .string ss] := Blk.newAt Y4 _ _ _ _ rfl rfl
            have Z5 : W1.heap.size ≤ Y4.heap.size := D.size
            have qIB5 := IB.alloc1 (.cells #[.string sp, .string sq, .string ss] 9)
            refine hK.out _ _ (HKP.out _ D5) (fun hHeld => ?_)
            (try simp only [Act.put]); (try simp only [List.setIfInBounds_toArray]); (try simp only [List.set_cons_zero, List.set_cons_succ])
            clear hK K
            clear IB
            clear D
            obtain ⟨bX, hb5⟩ : ∃ b, b = Y4.heap.size := ⟨_, rfl⟩
            rw [← hb5]
            rw [← hb5] at KX5 Z5
            generalize Y4.alloc (.cells #[.string sp, .string sq, .string ss] 9) = Y5 at *
            clear hb5
            have D := D5
            have KX := KX5
            have zX := Z5
            have IB := qIB5
            clear D5 KX5 Z5
            clear qIB5
            refine wpAnyH_ready (rs := [10]) (by kernel_rfl) (by simp) ?_
            refine AllReadyH.cons rfl (fun K hK => ?_) AllReadyH.nil
            go_simp
            refine (HLi.out _ _ _ _ IB KX).mono ?_
            rintro e Y6 ⟨rfl, t3⟩
            have D6 := D.trans (t3.mono D.size)
            refine hK.out _ _ (HKP.out _ D6) (fun hHeld => ?_)
            (try simp only [Act.put]); (try simp only [List.setIfInBounds_toArray]); (try simp only [List.set_cons_zero, List.set_cons_succ])
            have D := D6
            clear hK K D6 t3 IB KX
            cases lb with
            | true =>
              refine takeH (some 38) (i := 11) (v := ?_) rfl (by kernel_rfl) (by kernel_rfl) (by kernel_rfl) (fun _ _ _ h => h) (Or.inl ⟨by rfl, ?_⟩) hHeld rfl ?_
              rotate_left
              · intro w hSw; obtain ⟨hS0, hS1, hS2, hS3, hS4⟩ := hSw; go_simp; with_reducible rfl
              (try simp only [Act.put]); (try simp only [List.setIfInBounds_toArray]); (try simp only [List.set_cons_zero, List.set_cons_succ])
              refine takeH (some 39) (i := 12) (v := ?_) rfl (by kernel_rfl) (by kernel_rfl) (by kernel_rfl) (fun _ _ _ h => h) (Or.inl ⟨by rfl, ?_⟩) hHeld rfl ?_
              rotate_left
              · intro w hSw; obtain ⟨hS0, hS1, hS2, hS3, hS4⟩ := hSw; go_simp; with_reducible rfl
              (try simp only [Act.put]); (try simp only [List.setIfInBounds_toArray]); (try simp only [List.set_cons_zero, List.set_cons_succ])
              by_cases hn0 : l.length = 0
              · have hn1 : ((l.length : Int) == 0) = true := by rw [beq_iff_eq]; omega
                have hn2 : (l.length : Int) = 0 := by omega
                have HBV : Hid (bt = true) := by unfold Hid; rw [HBT.out, decide_eq_true hn0]; rfl
                clear hn0
                refine takeH (some 40) (i := 13) (v := ?_) rfl (by kernel_rfl) (by kernel_rfl) (by kernel_rfl) (fun _ _ _ h => h) (Or.inl ⟨by rfl, ?_⟩) hHeld rfl ?_
                rotate_left
                · intro w hSw; obtain ⟨hS0, hS1, hS2, hS3, hS4⟩ := hSw; go_simp; with_reducible rfl
                (try simp only [Act.put]); (try simp only [List.setIfInBounds_toArray]); (try simp only [List.set_cons_zero, List.set_cons_succ])
                refine takeH (some 41) (i := 14) (v := ?_) rfl (by kernel_rfl) (by kernel_rfl) (by kernel_rfl) (fun _ _ _ h => h) (Or.inl ⟨by rfl, ?_⟩) hHeld rfl ?_
                rotate_left
                · intro w hSw; obtain ⟨hS0, hS1, hS2, hS3, hS4⟩ := hSw; go_simp; with_reducible rfl
                (try simp only [Act.put]); (try simp only [List.setIfInBounds_toArray]); (try simp only [List.set_cons_zero, List.set_cons_succ])
                refine takeH (some 42) (i := 15) (v := ?_) rfl (by kernel_rfl) (by kernel_rfl) (by kernel_rfl) (fun _ _ _ h => h) (Or.inl ⟨by rfl, ?_⟩) hHeld rfl ?_
                rotate_left
                · intro w hSw; obtain ⟨hS0, hS1, hS2, hS3, hS4⟩ := hSw; go_simp; with_reducible rfl
                (try simp only [Act.put]); (try simp only [List.setIfInBounds_toArray]); (try simp only [List.set_cons_zero, List.set_cons_succ])
                refine takeH (some 43) (i := 16) (v := ?_) rfl (by kernel_rfl) (by kernel_rfl) (by kernel_rfl) (fun _ _ _ h => h) (Or.inl ⟨by rfl, ?_⟩) hHeld rfl ?_
                rotate_left
                · intro w hSw; obtain ⟨hS0, hS1, hS2, hS3, hS4⟩ := hSw; go_simp; with_reducible rfl
                (try simp only [Act.put]); (try simp only [List.setIfInBounds_toArray]); (try simp only [List.set_cons_zero, List.set_cons_succ])
                refine wpAnyH_done (by kernel_rfl) ?_ _
                refine NoPanic.normal ?_
                go_wp2_with fail
                go_meet
                case rel => exact ⟨by rw [HBV.out], D⟩
              · have hn1 : ((l.length : Int) == 0) = false := by rw [beq_eq_false_iff_ne]; omega
                have hn2 : ¬ (l.length : Int) = 0 := by omega
                have HBV : Hid (bt = false) := by unfold Hid; rw [HBT.out, decide_eq_false hn0]; rfl
                clear hn0
                refine takeH (some 40) (i := 13) (v := ?_) rfl (by kernel_rfl) (by kernel_rfl) (by kernel_rfl) (fun _ _ _ h => h) (Or.inl ⟨by rfl, ?_⟩) hHeld rfl ?_
                rotate_left
                · intro w hSw; obtain ⟨hS0, hS1, hS2, hS3, hS4⟩ := hSw; go_simp; with_reducible rfl
                (try simp only [Act.put]); (try simp only [List.setIfInBounds_toArray]); (try simp only [List.set_cons_zero, List.set_cons_succ])
                refine takeH (some 41) (i := 14) (v := ?_) rfl (by kernel_rfl) (by kernel_rfl) (by kernel_rfl) (fun _ _ _ h => h) (Or.inl ⟨by rfl, ?_⟩) hHeld rfl ?_
                rotate_left
                · intro w hSw; obtain ⟨hS0, hS1, hS2, hS3, hS4⟩ := hSw; go_simp; with_reducible rfl
                (try simp only [Act.put]); (try simp only [List.setIfInBounds_toArray]); (try simp only [List.set_cons_zero, List.set_cons_succ])
                refine takeH (some 42) (i := 15) (v := ?_) rfl (by kernel_rfl) (by kernel_rfl) (by kernel_rfl) (fun _ _ _ h => h) (Or.inl ⟨by rfl, ?_⟩) hHeld rfl ?_
                rotate_left
                · intro w hSw; obtain ⟨hS0, hS1, hS2, hS3, hS4⟩ := hSw; go_simp; with_reducible rfl
                (try simp only [Act.put]); (try simp only [List.setIfInBounds_toArray]); (try simp only [List.set_cons_zero, List.set_cons_succ])
                refine takeH (some 43) (i := 16) (v := ?_) rfl (by kernel_rfl) (by kernel_rfl) (by kernel_rfl) (fun _ _ _ h => h) (Or.inl ⟨by rfl, ?_⟩) hHeld rfl ?_
                rotate_left
                · intro w hSw; obtain ⟨hS0, hS1, hS2, hS3, hS4⟩ := hSw; go_simp; with_reducible rfl
                (try simp only [Act.put]); (try simp only [List.setIfInBounds_toArray]); (try simp only [List.set_cons_zero, List.set_cons_succ])
                refine wpAnyH_done (by kernel_rfl) ?_ _
                refine NoPanic.normal ?_
                go_wp2_with fail
                go_meet
                case rel => exact ⟨by rw [HBV.out], D⟩
            | false =>
              have HBV : Hid (bt = true) := by unfold Hid; rw [HBT.out]; rfl
              refine takeH (some 38) (i := 11) (v := ?_) rfl (by kernel_rfl) (by kernel_rfl) (by kernel_rfl) (fun _ _ _ h => h) (Or.inl ⟨by rfl, ?_⟩) hHeld rfl ?_
              rotate_left
              · intro w hSw; obtain ⟨hS0, hS1, hS2, hS3, hS4⟩ := hSw; go_simp; with_reducible rfl
              (try simp only [Act.put]); (try simp only [List.setIfInBounds_toArray]); (try simp only [List.set_cons_zero, List.set_cons_succ])
              refine takeH (some 39) (i := 12) (v := ?_) rfl (by kernel_rfl) (by kernel_rfl) (by kernel_rfl) (fun _ _ _ h => h) (Or.inl ⟨by rfl, ?_⟩) hHeld rfl ?_
              rotate_left
              · intro w hSw; obtain ⟨hS0, hS1, hS2, hS3, hS4⟩ := hSw; go_simp; with_reducible rfl
              (try simp only [Act.put]); (try simp only [List.setIfInBounds_toArray]); (try simp only [List.set_cons_zero, List.set_cons_succ])
              refine takeH (some 40) (i := 13) (v := undef) rfl (by kernel_rfl) (by kernel_rfl) (by kernel_rfl) (fun _ _ _ h => h) (Or.inr ⟨by rfl, rfl⟩) hHeld rfl ?_
              (try simp only [Act.put]); (try simp only [List.setIfInBounds_toArray]); (try simp only [List.set_cons_zero, List.set_cons_succ])
              refine takeH (some 41) (i := 14) (v := undef) rfl (by kernel_rfl) (by kernel_rfl) (by kernel_rfl) (fun _ _ _ h => h) (Or.inr ⟨by rfl, rfl⟩) hHeld rfl ?_
              (try simp only [Act.put]); (try simp only [List.setIfInBounds_toArray]); (try simp only [List.set_cons_zero, List.set_cons_succ])
              refine takeH (some 42) (i := 15) (v := undef) rfl (by kernel_rfl) (by kernel_rfl) (by kernel_rfl) (fun _ _ _ h => h) (Or.inr ⟨by rfl, rfl⟩) hHeld rfl ?_
              (try simp only [Act.put]); (try simp only [List.setIfInBounds_toArray]); (try simp only [List.set_cons_zero, List.set_cons_succ])
              refine takeH (some 43) (i := 16) (v := ?_) rfl (by kernel_rfl) (by kernel_rfl) (by kernel_rfl) (fun _ _ _ h => h) (Or.inl ⟨by rfl, ?_⟩) hHeld rfl ?_
              rotate_left
              · intro w hSw; obtain ⟨hS0, hS1, hS2, hS3, hS4⟩ := hSw; go_simp; with_reducible rfl
              (try simp only [Act.put]); (try simp only [List.setIfInBounds_toArray]); (try simp only [List.set_cons_zero, List.set_cons_succ])
              refine wpAnyH_done (by kernel_rfl) ?_ _
              refine NoPanic.normal ?_
              go_wp2_with fail
              go_meet
              case rel => exact ⟨by rw [HBV.out], D⟩
          · skip
            go_simp
            have D7 := D.alloc D.size (.cells #[.string sp, .string sq, .string ss] 9)
            have KX7 : Blk (Y3.alloc (.cells #[.string sp, .string sq, .string ss] 9)) Y3.heap.size 9 [.string sp, .string sq, .string ss] := Blk.newAt Y3 _ _ _ _ rfl rfl
            have Z7 : W1.heap.size ≤ Y3.heap.size := D.size
            have qM7 := KM.alloc (.cells #[.string sp, .string sq, .string ss] 9)
            have lM7 : bM < Y3.heap.size := KM.lt
            have qOA7 := OA.alloc (.cells #[.string sp, .string sq, .string ss] 9)
            refine hK.out _ _ (HKP.out _ D7) (fun hHeld => ?_)
            (try simp only [Act.put]); (try simp only [List.setIfInBounds_toArray]); (try simp only [List.set_cons_zero, List.set_cons_succ])
            clear hK K
            clear KM
            clear OA
            clear D
            obtain ⟨bX, hb7⟩ : ∃ b, b = Y3.heap.size := ⟨_, rfl⟩
            rw [← hb7]
            rw [← hb7] at KX7 Z7
            rw [← hb7] at lM7
            generalize Y3.alloc (.cells #[.string sp, .string sq, .string ss] 9) = Y7 at *
            clear hb7
            have D := D7
            have KX := KX7
            have zX := Z7
            have KM := qM7
            have OA := qOA7
            clear D7 KX7 Z7
            clear qM7
            clear qOA7
            refine wpAnyH_ready (rs := [5]) (by kernel_rfl) (by simp) ?_
            refine AllReadyH.cons rfl (fun K hK => ?_) AllReadyH.nil
            refine step_appRt 22 38 Tryd.underlying22 infoRef8 _ (by rfl) _ _ (by rfl) W1.heap.size _ l (by rfl) OA _ _ [mo] (by rfl) (isRs_one mo (by rw [HMo.out]; exact KM)) HB2.out D.size ?_
            intro v2 Y8 hoB hown2 hgrow2
            have D8 := D.grown hgrow2 D.size (fun j hj => (hoB.blk j hj).1)
            obtain ⟨a2, c2, ev2, IB⟩ := hown2.isRs
            rw [HLe.out] at ev2 IB
            subst ev2
            have KX := Blk.keptR hgrow2 hoB (by decide) KX
            refine hK.out _ _ (HKP.out _ D8) (fun hHeld => ?_)
            (try simp only [Act.put]); (try simp only [List.setIfInBounds_toArray]); (try simp only [List.set_cons_zero, List.set_cons_succ])
            have D := D8
            clear hK K D8 hown2 hgrow2 hoB KM zM OA
            refine wpAnyH_ready (rs := [10]) (by kernel_rfl) (by simp) ?_
            refine AllReadyH.cons rfl (fun K hK => ?_) AllReadyH.nil
            go_simp
            refine (HLi.out _ _ _ _ IB KX).mono ?_
            rintro e Y9 ⟨rfl, t3⟩
            have D9 := D.trans (t3.mono D.size)
            refine hK.out _ _ (HKP.out _ D9) (fun hHeld => ?_)
            (try simp only [Act.put]); (try simp only [List.setIfInBounds_toArray]); (try simp only [List.set_cons_zero, List.set_cons_succ])
            have D := D9
            clear hK K D9 t3 IB KX
            cases lb with
            | true =>
              refine takeH (some 38) (i := 11) (v := ?_) rfl (by kernel_rfl) (by kernel_rfl) (by kernel_rfl) (fun _ _ _ h => h) (Or.inl ⟨by rfl, ?_⟩) hHeld rfl ?_
              rotate_left
              · intro w hSw; obtain ⟨hS0, hS1, hS2, hS3, hS4⟩ := hSw; go_simp; with_reducible rfl
              (try simp only [Act.put]); (try simp only [List.setIfInBounds_toArray]); (try simp only [List.set_cons_zero, List.set_cons_succ])
              refine takeH (some 39) (i := 12) (v := ?_) rfl (by kernel_rfl) (by kernel_rfl) (by kernel_rfl) (fun _ _ _ h => h) (Or.inl ⟨by rfl, ?_⟩) hHeld rfl ?_
              rotate_left
              · intro w hSw; obtain ⟨hS0, hS1, hS2, hS3, hS4⟩ := hSw; go_simp; with_reducible rfl
              (try simp only [Act.put]); (try simp only [List.setIfInBounds_toArray]); (try simp only [List.set_cons_zero, List.set_cons_succ])
              by_cases hn0 : l.length = 0
              · have hn1 : ((l.length : Int) == 0) = true := by rw [beq_iff_eq]; omega
                have hn2 : (l.length : Int) = 0 := by omega
                have HBV : Hid (bt = true) := by unfold Hid; rw [HBT.out, decide_eq_true hn0]; rfl
                clear hn0
                refine takeH (some 40) (i := 13) (v := ?_) rfl (by kernel_rfl) (by kernel_rfl) (by kernel_rfl) (fun _ _ _ h => h) (Or.inl ⟨by rfl, ?_⟩) hHeld rfl ?_
                rotate_left
                · intro w hSw; obtain ⟨hS0, hS1, hS2, hS3, hS4⟩ := hSw; go_simp; with_reducible rfl
                (try simp only [Act.put]); (try simp only [List.setIfInBounds_toArray]); (try simp only [List.set_cons_zero, List.set_cons_succ])
                refine takeH (some 41) (i := 14) (v := ?_) rfl (by kernel_rfl) (by kernel_rfl) (by kernel_rfl) (fun _ _ _ h => h) (Or.inl ⟨by rfl, ?_⟩) hHeld rfl ?_
                rotate_left
                · intro w hSw; obtain ⟨hS0, hS1, hS2, hS3, hS4⟩ := hSw; go_simp; with_reducible rfl
                (try simp only [Act.put]); (try simp only [List.setIfInBounds_toArray]); (try simp only [List.set_cons_zero, List.set_cons_succ])
                refine takeH (some 42) (i := 15) (v := ?_) rfl (by kernel_rfl) (by kernel_rfl) (by kernel_rfl) (fun _ _ _ h => h) (Or.inl ⟨by rfl, ?_⟩) hHeld rfl ?_
                rotate_left
                · intro w hSw; obtain ⟨hS0, hS1, hS2, hS3, hS4⟩ := hSw; go_simp; with_reducible rfl
                (try simp only [Act.put]); (try simp only [List.setIfInBounds_toArray]); (try simp only [List.set_cons_zero, List.set_cons_succ])
                refine takeH (some 43) (i := 16) (v := ?_) rfl (by kernel_rfl) (by kernel_rfl) (by kernel_rfl) (fun _ _ _ h => h) (Or.inl ⟨by rfl, ?_⟩) hHeld rfl ?_
                rotate_left
                · intro w hSw; obtain ⟨hS0, hS1, hS2, hS3, hS4⟩ := hSw; go_simp; with_reducible rfl
                (try simp only [Act.put]); (try simp only [List.setIfInBounds_toArray]); (try simp only [List.set_cons_zero, List.set_cons_succ])
                refine wpAnyH_done (by kernel_rfl) ?_ _
                refine NoPanic.normal ?_
                go_wp2_with fail
                go_meet
                case rel => exact ⟨by rw [HBV.out], D⟩
              · have hn1 : ((l.length : Int) == 0) = false := by rw [beq_eq_false_iff_ne]; omega
                have hn2 : ¬ (l.length : Int) = 0 := by omega
                have HBV : Hid (bt = false) := by unfold Hid; rw [HBT.out, decide_eq_false hn0]; rfl
                clear hn0
                refine takeH (some 40) (i := 13) (v := ?_) rfl (by kernel_rfl) (by kernel_rfl) (by kernel_rfl) (fun _ _ _ h => h) (Or.inl ⟨by rfl, ?_⟩) hHeld rfl ?_
                rotate_left
                · intro w hSw; obtain ⟨hS0, hS1, hS2, hS3, hS4⟩ := hSw; go_simp; with_reducible rfl
                (try simp only [Act.put]); (try simp only [List.setIfInBounds_toArray]); (try simp only [List.set_cons_zero, List.set_cons_succ])
                refine takeH (some 41) (i := 14) (v := ?_) rfl (by kernel_rfl) (by kernel_rfl) (by kernel_rfl) (fun _ _ _ h => h) (Or.inl ⟨by rfl, ?_⟩) hHeld rfl ?_
                rotate_left
                · intro w hSw; obtain ⟨hS0, hS1, hS2, hS3, hS4⟩ := hSw; go_simp; with_reducible rfl
                (try simp only [Act.put]); (try simp only [List.setIfInBounds_toArray]); (try simp only [List.set_cons_zero, List.set_cons_succ])
                refine takeH (some 42) (i := 15) (v := ?_) rfl (by kernel_rfl) (by kernel_rfl) (by kernel_rfl) (fun _ _ _ h => h) (Or.inl ⟨by rfl, ?_⟩) hHeld rfl ?_
                rotate_left
                · intro w hSw; obtain ⟨hS0, hS1, hS2, hS3, hS4⟩ := hSw; go_simp; with_reducible rfl
                (try simp only [Act.put]); (try simp only [List.setIfInBounds_toArray]); (try simp only [List.set_cons_zero, List.set_cons_succ])
                refine takeH (some 43) (i := 16) (v := ?_) rfl (by kernel_rfl) (by kernel_rfl) (by kernel_rfl) (fun _ _ _ h => h) (Or.inl ⟨by rfl, ?_⟩) hHeld rfl ?_
                rotate_left
                · intro w hSw; obtain ⟨hS0, hS1, hS2, hS3, hS4⟩ := hSw; go_simp; with_reducible rfl
                (try simp only [Act.put]); (try simp only [List.setIfInBounds_toArray]); (try simp only [List.set_cons_zero, List.set_cons_succ])
                refine wpAnyH_done (by kernel_rfl) ?_ _
                refine NoPanic.normal ?_
                go_wp2_with fail
                go_meet
                case rel => exact ⟨by rw [HBV.out], D⟩
            | false =>
              have HBV : Hid (bt = true) := by unfold Hid; rw [HBT.out]; rfl
              refine takeH (some 38) (i := 11) (v := ?_) rfl (by kernel_rfl) (by kernel_rfl) (by kernel_rfl) (fun _ _ _ h => h) (Or.inl ⟨by rfl, ?_⟩) hHeld rfl ?_
              rotate_left
              · intro w hSw; obtain ⟨hS0, hS1, hS2, hS3, hS4⟩ := hSw; go_simp; with_reducible rfl
              (try simp only [Act.put]); (try simp only [List.setIfInBounds_toArray]); (try simp only [List.set_cons_zero, List.set_cons_succ])
              refine takeH (some 39) (i := 12) (v := ?_) rfl (by kernel_rfl) (by kernel_rfl) (by kernel_rfl) (fun _ _ _ h => h) (Or.inl ⟨by rfl, ?_⟩) hHeld rfl ?_
              rotate_left
              · intro w hSw; obtain ⟨hS0, hS1, hS2, hS3, hS4⟩ := hSw; go_simp; with_reducible rfl
              (try simp only [Act.put]); (try simp only [List.setIfInBounds_toArray]); (try simp only [List.set_cons_zero, List.set_cons_succ])
              refine takeH (some 40) (i := 13) (v := undef) rfl (by kernel_rfl) (by kernel_rfl) (by kernel_rfl) (fun _ _ _ h => h) (Or.inr ⟨by rfl, rfl⟩) hHeld rfl ?_
              (try simp only [Act.put]); (try simp only [List.setIfInBounds_toArray]); (try simp only [List.set_cons_zero, List.set_cons_succ])
              refine takeH (some 41) (i := 14) (v := undef) rfl (by kernel_rfl) (by kernel_rfl) (by kernel_rfl) (fun _ _ _ h => h) (Or.inr ⟨by rfl, rfl⟩) hHeld rfl ?_
              (try simp only [Act.put]); (try simp only [List.setIfInBounds_toArray]); (try simp only [List.set_cons_zero, List.set_cons_succ])
              refine takeH (some 42) (i := 15) (v := undef) rfl (by kernel_rfl) (by kernel_rfl) (by kernel_rfl) (fun _ _ _ h => h) (Or.inr ⟨by rfl, rfl⟩) hHeld rfl ?_
              (try simp only [Act.put]); (try simp only [List.setIfInBounds_toArray]); (try simp only [List.set_cons_zero, List.set_cons_succ])
              refine takeH (some 43) (i := 16) (v := ?_) rfl (by kernel_rfl) (by kernel_rfl) (by kernel_rfl) (fun _ _ _ h => h) (Or.inl ⟨by rfl, ?_⟩) hHeld rfl ?_
              rotate_left
              · intro w hSw; obtain ⟨hS0, hS1, hS2, hS3, hS4⟩ := hSw; go_simp; with_reducible rfl
              (try simp only [Act.put]); (try simp only [List.setIfInBounds_toArray]); (try simp only [List.set_cons_zero, List.set_cons_succ])
              refine wpAnyH_done (by kernel_rfl) ?_ _
              refine NoPanic.normal ?_
              go_wp2_with fail
              go_meet
              case rel => exact ⟨by rw [HBV.out], D⟩
        · skip
          go_simp
          have D10 := D.alloc D.size (.cells #[.string sp, .string sq, .string ss] 9)
          have KX10 : Blk (Y2.alloc (.cells #[.string sp, .string sq, .string ss] 9)) Y2.heap.size 9 [.string sp, .string sq, .string ss] := Blk.newAt Y2 _ _ _ _ rfl rfl
          have Z10 : W1.heap.size ≤ Y2.heap.size := D.size
          have qOA10 := OA.alloc (.cells #[.string sp, .string sq, .string ss] 9)
          refine hK.out _ _ (HKP.out _ D10) (fun hHeld => ?_)
          (try simp only [Act.put]); (try simp only [List.setIfInBounds_toArray]); (try simp only [List.set_cons_zero, List.set_cons_succ])
          clear hK K
          clear OA
          clear D
          obtain ⟨bX, hb10⟩ : ∃ b, b = Y2.heap.size := ⟨_, rfl⟩
          rw [← hb10]
          rw [← hb10] at KX10 Z10
          generalize Y2.alloc (.cells #[.string sp, .string sq, .string ss] 9) = Y10 at *
          clear hb10
          have D := D10
          have KX := KX10
          have zX := Z10
          have OA := qOA10
          clear D10 KX10 Z10
          clear qOA10
          refine wpAnyH_ready (rs := [4]) (by kernel_rfl) (by simp) ?_
          refine AllReadyH.cons rfl (fun K hK => ?_) AllReadyH.nil
          go_simp
          have D11 := D.alloc D.size (.cells #[.bool mo.deny, .string e1, .string e2, .string e3] 38)
          have KM11 : Blk (Y10.alloc (.cells #[.bool mo.deny, .string e1, .string e2, .string e3] 38)) Y10.heap.size 38 [.bool mo.deny, .string e1, .string e2, .string e3] := Blk.newAt Y10 _ _ _ _ rfl rfl
          have Z11 : W1.heap.size ≤ Y10.heap.size := D.size
          have qX11 := KX.alloc (.cells #[.bool mo.deny, .string e1, .string e2, .string e3] 38)
          have lX11 : bX < Y10.heap.size := KX.lt
          have qOA11 := OA.alloc (.cells #[.bool mo.deny, .string e1, .string e2, .string e3] 38)
          refine hK.out _ _ (HKP.out _ D11) (fun hHeld => ?_)
          (try simp only [Act.put]); (try simp only [List.setIfInBounds_toArray]); (try simp only [List.set_cons_zero, List.set_cons_succ])
          clear hK K
          clear KX
          clear OA
          clear D
          obtain ⟨bM, hb11⟩ : ∃ b, b = Y10.heap.size := ⟨_, rfl⟩
          rw [← hb11]
          rw [← hb11] at KM11 Z11
          rw [← hb11] at lX11
          generalize Y10.alloc (.cells #[.bool mo.deny, .string e1, .string e2, .string e3] 38) = Y11 at *
          clear hb11
          have D := D11
          have KM := KM11
          have zM := Z11
          have KX := qX11
          have OA := qOA11
          clear D11 KM11 Z11
          clear qX11
          clear qOA11
          refine wpAnyH_ready (rs := [5]) (by kernel_rfl) (by simp) ?_
          refine AllReadyH.cons rfl (fun K hK => ?_) AllReadyH.nil
          refine step_appRt 22 38 Tryd.underlying22 infoRef8 _ (by rfl) _ _ (by rfl) W1.heap.size _ l (by rfl) OA _ _ [mo] (by rfl) (isRs_one mo (by rw [HMo.out]; exact KM)) HB2.out D.size ?_
          intro v2 Y12 hoB hown2 hgrow2
          have D12 := D.grown hgrow2 D.size (fun j hj => (hoB.blk j hj).1)
          obtain ⟨a2, c2, ev2, IB⟩ := hown2.isRs
          rw [HLe.out] at ev2 IB
          subst ev2
          have KX := Blk.keptR hgrow2 hoB (by decide) KX
          refine hK.out _ _ (HKP.out _ D12) (fun hHeld => ?_)
          (try simp only [Act.put]); (try simp only [List.setIfInBounds_toArray]); (try simp only [List.set_cons_zero, List.set_cons_succ])
          have D := D12
          clear hK K D12 hown2 hgrow2 hoB KM zM OA
          refine wpAnyH_ready (rs := [10]) (by kernel_rfl) (by simp) ?_
          refine AllReadyH.cons rfl (fun K hK => ?_) AllReadyH.nil
          go_simp
          refine (HLi.out _ _ _ _ IB KX).mono ?_
          rintro e Y13 ⟨rfl, t3⟩
          have D13 := D.trans (t3.mono D.size)
          refine hK.out _ _ (HKP.out _ D13) (fun hHeld => ?_)
          (try simp only [Act.put]); (try simp only [List.setIfInBounds_toArray]); (try simp only [List.set_cons_zero, List.set_cons_succ])
          have D := D13
          clear hK K D13 t3 IB KX
          cases lb with
          | true =>
            refine takeH (some 38) (i := 11) (v := ?_) rfl (by kernel_rfl) (by kernel_rfl) (by kernel_rfl) (fun _ _ _ h => h) (Or.inl ⟨by rfl, ?_⟩) hHeld rfl ?_
            rotate_left
            · intro w hSw; obtain ⟨hS0, hS1, hS2, hS3, hS4⟩ := hSw; go_simp; with_reducible rfl
            (try simp only [Act.put]); (try simp only [List.setIfInBounds_toArray]); (try simp only [List.set_cons_zero, List.set_cons_succ])
            refine takeH (some 39) (i := 12) (v := ?_) rfl (by kernel_rfl) (by kernel_rfl) (by kernel_rfl) (fun _ _ _ h => h) (Or.inl ⟨by rfl, ?_⟩) hHeld rfl ?_
            rotate_left
            · intro w hSw; obtain ⟨hS0, hS1, hS2, hS3, hS4⟩ := hSw; go_simp; with_reducible rfl
            (try simp only [Act.put]); (try simp only [List.setIfInBounds_toArray]); (try simp only [List.set_cons_zero, List.set_cons_succ])
            by_cases hn0 : l.length = 0
            · have hn1 : ((l.length : Int) == 0) = true := by rw [beq_iff_eq]; omega
              have hn2 : (l.length : Int) = 0 := by omega
              have HBV : Hid (bt = true) := by unfold Hid; rw [HBT.out, decide_eq_true hn0]; rfl
              clear hn0
              refine takeH (some 40) (i := 13) (v := ?_) rfl (by kernel_rfl) (by kernel_rfl) (by kernel_rfl) (fun _ _ _ h => h) (Or.inl ⟨by rfl, ?_⟩) hHeld rfl ?_
              rotate_left
              · intro w hSw; obtain ⟨hS0, hS1, hS2, hS3, hS4⟩ := hSw; go_simp; with_reducible rfl
              (try simp only [Act.put]); (try simp only [List.setIfInBounds_toArray]); (try simp only [List.set_cons_zero, List.set_cons_succ])
              refine takeH (some 41) (i := 14) (v := ?_) rfl (by kernel_rfl) (by kernel_rfl) (by kernel_rfl) (fun _ _ _ h => h) (Or.inl ⟨by rfl, ?_⟩) hHeld rfl ?_
              rotate_left
              · intro w hSw; obtain ⟨hS0, hS1, hS2, hS3, hS4⟩ := hSw; go_simp; with_reducible rfl
              (try simp only [Act.put]); (try simp only [List.setIfInBounds_toArray]); (try simp only [List.set_cons_zero, List.set_cons_succ])
              refine takeH (some 42) (i := 15) (v := ?_) rfl (by kernel_rfl) (by kernel_rfl) (by kernel_rfl) (fun _ _ _ h => h) (Or.inl ⟨by rfl, ?_⟩) hHeld rfl ?_
              rotate_left
              · intro w hSw; obtain ⟨hS0, hS1, hS2, hS3, hS4⟩ := hSw; go_simp; with_reducible rfl
              (try simp only [Act.put]); (try simp only [List.setIfInBounds_toArray]); (try simp only [List.set_cons_zero, List.set_cons_succ])
              refine takeH (some 43) (i := 16) (v := ?_) rfl (by kernel_rfl) (by kernel_rfl) (by kernel_rfl) (fun _ _ _ h => h) (Or.inl ⟨by rfl, ?_⟩) hHeld rfl ?_
              rotate_left
              · intro w hSw; obtain ⟨hS0, hS1, hS2, hS3, hS4⟩ := hSw; go_simp; with_reducible rfl
              (try simp only [Act.put]); (try simp only [List.setIfInBounds_toArray]); (try simp only [List.set_cons_zero, List.set_cons_succ])
              refine wpAnyH_done (by kernel_rfl) ?_ _
              refine NoPanic.normal ?_
              go_wp2_with fail
              go_meet
              case rel => exact ⟨by rw [HBV.out], D⟩
            · have hn1 : ((l.length : Int) == 0) = false := by rw [beq_eq_false_iff_ne]; omega
              have hn2 : ¬ (l.length : Int) = 0 := by omega
              have HBV : Hid (bt = false) := by unfold Hid; rw [HBT.out, decide_eq_false hn0]; rfl
              clear hn0
              refine takeH (some 40) (i := 13) (v := ?_) rfl (by kernel_rfl) (by kernel_rfl) (by kernel_rfl) (fun _ _ _ h => h) (Or.inl ⟨by rfl, ?_⟩) hHeld rfl ?_
              rotate_left
              · intro w hSw; obtain ⟨hS0, hS1, hS2, hS3, hS4⟩ := hSw; go_simp; with_reducible rfl
              (try simp only [Act.put]); (try simp only [List.setIfInBounds_toArray]); (try simp only [List.set_cons_zero, List.set_cons_succ])
              refine takeH (some 41) (i := 14) (v := ?_) rfl (by kernel_rfl) (by kernel_rfl) (by kernel_rfl) (fun _ _ _ h => h) (Or.inl ⟨by rfl, ?_⟩) hHeld rfl ?_
              rotate_left
              · intro w hSw; obtain ⟨hS0, hS1, hS2, hS3, hS4⟩ := hSw; go_simp; with_reducible rfl
              (try simp only [Act.put]); (try simp only [List.setIfInBounds_toArray]); (try simp only [List.set_cons_zero, List.set_cons_succ])
              refine takeH (some 42) (i := 15) (v := ?_) rfl (by kernel_rfl) (by kernel_rfl) (by kernel_rfl) (fun _ _ _ h => h) (Or.inl ⟨by rfl, ?_⟩) hHeld rfl ?_
              rotate_left
              · intro w hSw; obtain ⟨hS0, hS1, hS2, hS3, hS4⟩ := hSw; go_simp; with_reducible rfl
              (try simp only [Act.put]); (try simp only [List.setIfInBounds_toArray]); (try simp only [List.set_cons_zero, List.set_cons_succ])
              refine takeH (some 43) (i := 16) (v := ?_) rfl (by kernel_rfl) (by kernel_rfl) (by kernel_rfl) (fun _ _ _ h => h) (Or.inl ⟨by rfl, ?_⟩) hHeld rfl ?_
              rotate_left
              · intro w hSw; obtain ⟨hS0, hS1, hS2, hS3, hS4⟩ := hSw; go_simp; with_reducible rfl
              (try simp only [Act.put]); (try simp only [List.setIfInBounds_toArray]); (try simp only [List.set_cons_zero, List.set_cons_succ])
              refine wpAnyH_done (by kernel_rfl) ?_ _
              refine NoPanic.normal ?_
              go_wp2_with fail
              go_meet
              case rel => exact ⟨by rw [HBV.out], D⟩
          | false =>
            have HBV : Hid (bt = true) := by unfold Hid; rw [HBT.out]; rfl
            refine takeH (some 38) (i := 11) (v := ?_) rfl (by kernel_rfl) (by kernel_rfl) (by kernel_rfl) (fun _ _ _ h => h) (Or.inl ⟨by rfl, ?_⟩) hHeld rfl ?_
            rotate_left
            · intro w hSw; obtain ⟨hS0, hS1, hS2, hS3, hS4⟩ := hSw; go_simp; with_reducible rfl
            (try simp only [Act.put]); (try simp only [List.setIfInBounds_toArray]); (try simp only [List.set_cons_zero, List.set_cons_succ])
            refine takeH (some 39) (i := 12) (v := ?_) rfl (by kernel_rfl) (by kernel_rfl) (by kernel_rfl) (fun _ _ _ h => h) (Or.inl ⟨by rfl, ?_⟩) hHeld rfl ?_
            rotate_left
            · intro w hSw; obtain ⟨hS0, hS1, hS2, hS3, hS4⟩ := hSw; go_simp; with_reducible rfl
            (try simp only [Act.put]); (try simp only [List.setIfInBounds_toArray]); (try simp only [List.set_cons_zero, List.set_cons_succ])
            refine takeH (some 40) (i := 13) (v := undef) rfl (by kernel_rfl) (by kernel_rfl) (by kernel_rfl) (fun _ _ _ h => h) (Or.inr ⟨by rfl, rfl⟩) hHeld rfl ?_
            (try simp only [Act.put]); (try simp only [List.setIfInBounds_toArray]); (try simp only [List.set_cons_zero, List.set_cons_succ])
            refine takeH (some 41) (i := 14) (v := undef) rfl (by kernel_rfl) (by kernel_rfl) (by kernel_rfl) (fun _ _ _ h => h) (Or.inr ⟨by rfl, rfl⟩) hHeld rfl ?_
            (try simp only [Act.put]); (try simp only [List.setIfInBounds_toArray]); (try simp only [List.set_cons_zero, List.set_cons_succ])
            refine takeH (some 42) (i := 15) (v := undef) rfl (by kernel_rfl) (by kernel_rfl) (by kernel_rfl) (fun _ _ _ h => h) (Or.inr ⟨by rfl, rfl⟩) hHeld rfl ?_
            (try simp only [Act.put]); (try simp only [List.setIfInBounds_toArray]); (try simp only [List.set_cons_zero, List.set_cons_succ])
            refine takeH (some 43) (i := 16) (v := ?_) rfl (by kernel_rfl) (by kernel_rfl) (by kernel_rfl) (fun _ _ _ h => h) (Or.inl ⟨by rfl, ?_⟩) hHeld rfl ?_
            rotate_left
            · intro w hSw; obtain ⟨hS0, hS1, hS2, hS3, hS4⟩ := hSw; go_simp; with_reducible rfl
            (try simp only [Act.put]); (try simp only [List.setIfInBounds_toArray]); (try simp only [List.set_cons_zero, List.set_cons_succ])
            refine wpAnyH_done (by kernel_rfl) ?_ _
            refine NoPanic.normal ?_
            go_wp2_with fail
            go_meet
            case rel => exact ⟨by rw [HBV.out], D⟩
      · skip
        go_simp
        have D14 := D.alloc D.size (.cells #[.bool mo.deny, .string e1, .string e2, .string e3] 38)
        have KM14 : Blk (Y1.alloc (.cells #[.bool mo.deny, .string e1, .string e2, .string e3] 38)) Y1.heap.size 38 [.bool mo.deny, .string e1, .string e2, .string e3] := Blk.newAt Y1 _ _ _ _ rfl rfl
        have Z14 : W1.heap.size ≤ Y1.heap.size := D.size
        have qE14 := KE.alloc (.cells #[.bool mo.deny, .string e1, .string e2, .string e3] 38)
        have lE14 : bE < Y1.heap.size := KE.lt
        refine hK.out _ _ (HKP.out _ D14) (fun hHeld => ?_)
        (try simp only [Act.put]); (try simp only [List.setIfInBounds_toArray]); (try simp only [List.set_cons_zero, List.set_cons_succ])
        clear hK K
        clear KE
        clear D
        obtain ⟨bM, hb14⟩ : ∃ b, b = Y1.heap.size := ⟨_, rfl⟩
        rw [← hb14]
        rw [← hb14] at KM14 Z14
        rw [← hb14] at lE14
        generalize Y1.alloc (.cells #[.bool mo.deny, .string e1, .string e2, .string e3] 38) = Y14 at *
        clear hb14
        have D := D14
        have KM := KM14
        have zM := Z14
        have KE := qE14
        have nEM : bM ≠ bE := Nat.ne_of_gt lE14
        clear D14 KM14 Z14
        clear qE14
        refine wpAnyH_ready (rs := [2, 9]) (by kernel_rfl) (by simp) ?_
        refine AllReadyH.cons rfl (fun K hK => ?_) (AllReadyH.cons rfl (fun K hK => ?_) AllReadyH.nil)
        · skip
          refine step_appRt 22 38 Tryd.underlying22 infoRef8 _ (by rfl) _ _ (by rfl) W1.heap.size _ [] (by rfl) (OwnR.emptyAt KE zE) a cap l (by rfl) (HRl.out _ (bel2 HT1.out D)) HB1.out D.size ?_
          intro v1 Y15 hoA hown1 hgrow1
          rw [List.nil_append] at hown1
          have D15 := D.grown hgrow1 D.size (fun j hj => (hoA.blk j hj).1)
          have KM := Blk.keptI hgrow1 nEM KM
          refine hK.out _ _ (HKP.out _ D15) (fun hHeld => ?_)
          (try simp only [Act.put]); (try simp only [List.setIfInBounds_toArray]); (try simp only [List.set_cons_zero, List.set_cons_succ])
          have D := D15
          have OA := hown1
          clear hK K D15 hown1 hgrow1 hoA KE zE
          refine wpAnyH_ready (rs := [5, 9]) (by kernel_rfl) (by simp) ?_
          refine AllReadyH.cons rfl (fun K hK => ?_) (AllReadyH.cons rfl (fun K hK => ?_) AllReadyH.nil)
          · skip
            refine step_appRt 22 38 Tryd.underlying22 infoRef8 _ (by rfl) _ _ (by rfl) W1.heap.size _ l (by rfl) OA _ _ [mo] (by rfl) (isRs_one mo (by rw [HMo.out]; exact KM)) HB2.out D.size ?_
            intro v2 Y16 hoB hown2 hgrow2
            have D16 := D.grown hgrow2 D.size (fun j hj => (hoB.blk j hj).1)
            obtain ⟨a2, c2, ev2, IB⟩ := hown2.isRs
            rw [HLe.out] at ev2 IB
            subst ev2
            refine hK.out _ _ (HKP.out _ D16) (fun hHeld => ?_)
            (try simp only [Act.put]); (try simp only [List.setIfInBounds_toArray]); (try simp only [List.set_cons_zero, List.set_cons_succ])
            have D := D16
            clear hK K D16 hown2 hgrow2 hoB KM zM OA
            refine wpAnyH_ready (rs := [9]) (by kernel_rfl) (by simp) ?_
            refine AllReadyH.cons rfl (fun K hK => ?_) AllReadyH.nil
            go_simp
            have D17 := D.alloc D.size (.cells #[.string sp, .string sq, .string ss] 9)
            have KX17 : Blk (Y16.alloc (.cells #[.string sp, .string sq, .string ss] 9)) Y16.heap.size 9 [.string sp, .string sq, .string ss] := Blk.newAt Y16 _ _ _ _ rfl rfl
            have Z17 : W1.heap.size ≤ Y16.heap.size := D.size
            have qIB17 := IB.alloc1 (.cells #[.string sp, .string sq, .string ss] 9)
            refine hK.out _ _ (HKP.out _ D17) (fun hHeld => ?_)
            (try simp only [Act.put]); (try simp only [List.setIfInBounds_toArray]); (try simp only [List.set_cons_zero, List.set_cons_succ])
            clear hK K
            clear IB
            clear D
            obtain ⟨bX, hb17⟩ : ∃ b, b = Y16.heap.size := ⟨_, rfl⟩
            rw [← hb17]
            rw [← hb17] at KX17 Z17
            generalize Y16.alloc (.cells #[.string sp, .string sq, .string ss] 9) = Y17 at *
            clear hb17
            have D := D17
            have KX := KX17
            have zX := Z17
            have IB := qIB17
            clear D17 KX17 Z17
            clear qIB17
            refine wpAnyH_ready (rs := [10]) (by kernel_rfl) (by simp) ?_
            refine AllReadyH.cons rfl (fun K hK => ?_) AllReadyH.nil
            go_simp
            refine (HLi.out _ _ _ _ IB KX).mono ?_
            rintro e Y18 ⟨rfl, t3⟩
            have D18 := D.trans (t3.mono D.size)
            refine hK.out _ _ (HKP.out _ D18) (fun hHeld => ?_)
            (try simp only [Act.put]); (try simp only [List.setIfInBounds_toArray]); (try simp only [List.set_cons_zero, List.set_cons_succ])
            have D := D18
            clear hK K D18 t3 IB KX
            cases lb with
            | true =>
              refine takeH (some 38) (i := 11) (v := ?_) rfl (by kernel_rfl) (by kernel_rfl) (by kernel_rfl) (fun _ _ _ h => h) (Or.inl ⟨by rfl, ?_⟩) hHeld rfl ?_
              rotate_left
              · intro w hSw; obtain ⟨hS0, hS1, hS2, hS3, hS4⟩ := hSw; go_simp; with_reducible rfl
              (try simp only [Act.put]); (try simp only [List.setIfInBounds_toArray]); (try simp only [List.set_cons_zero, List.set_cons_succ])
              refine takeH (some 39) (i := 12) (v := ?_) rfl (by kernel_rfl) (by kernel_rfl) (by kernel_rfl) (fun _ _ _ h => h) (Or.inl ⟨by rfl, ?_⟩) hHeld rfl ?_
              rotate_left
              · intro w hSw; obtain ⟨hS0, hS1, hS2, hS3, hS4⟩ := hSw; go_simp; with_reducible rfl
              (try simp only [Act.put]); (try simp only [List.setIfInBounds_toArray]); (try simp only [List.set_cons_zero, List.set_cons_succ])
              by_cases hn0 : l.length = 0
              · have hn1 : ((l.length : Int) == 0) = true := by rw [beq_iff_eq]; omega
                have hn2 : (l.length : Int) = 0 := by omega
                have HBV : Hid (bt = true) := by unfold Hid; rw [HBT.out, decide_eq_true hn0]; rfl
                clear hn0
                refine takeH (some 40) (i := 13) (v := ?_) rfl (by kernel_rfl) (by kernel_rfl) (by kernel_rfl) (fun _ _ _ h => h) (Or.inl ⟨by rfl, ?_⟩) hHeld rfl ?_
                rotate_left
                · intro w hSw; obtain ⟨hS0, hS1, hS2, hS3, hS4⟩ := hSw; go_simp; with_reducible rfl
                (try simp only [Act.put]); (try simp only [List.setIfInBounds_toArray]); (try simp only [List.set_cons_zero, List.set_cons_succ])
                refine takeH (some 41) (i := 14) (v := ?_) rfl (by kernel_rfl) (by kernel_rfl) (by kernel_rfl) (fun _ _ _ h => h) (Or.inl ⟨by rfl, ?_⟩) hHeld rfl ?_
                rotate_left
                · intro w hSw; obtain ⟨hS0, hS1, hS2, hS3, hS4⟩ := hSw; go_simp; with_reducible rfl
                (try simp only [Act.put]); (try simp only [List.setIfInBounds_toArray]); (try simp only [List.set_cons_zero, List.set_cons_succ])
                refine takeH (some 42) (i := 15) (v := ?_) rfl (by kernel_rfl) (by kernel_rfl) (by kernel_rfl) (fun _ _ _ h => h) (Or.inl ⟨by rfl, ?_⟩) hHeld rfl ?_
                rotate_left
                · intro w hSw; obtain ⟨hS0, hS1, hS2, hS3, hS4⟩ := hSw; go_simp; with_reducible rfl
                (try simp only [Act.put]); (try simp only [List.setIfInBounds_toArray]); (try simp only [List.set_cons_zero, List.set_cons_succ])
                refine takeH (some 43) (i := 16) (v := ?_) rfl (by kernel_rfl) (by kernel_rfl) (by kernel_rfl) (fun _ _ _ h => h) (Or.inl ⟨by rfl, ?_⟩) hHeld rfl ?_
                rotate_left
                · intro w hSw; obtain ⟨hS0, hS1, hS2, hS3, hS4⟩ := hSw; go_simp; with_reducible rfl
                (try simp only [Act.put]); (try simp only [List.setIfInBounds_toArray]); (try simp only [List.set_cons_zero, List.set_cons_succ])
                refine wpAnyH_done (by kernel_rfl) ?_ _
                refine NoPanic.normal ?_
                go_wp2_with fail
                go_meet
                case rel => exact ⟨by rw [HBV.out], D⟩
              · have hn1 : ((l.length : Int) == 0) = false := by rw [beq_eq_false_iff_ne]; omega
                have hn2 : ¬ (l.length : Int) = 0 := by omega
                have HBV : Hid (bt = false) := by unfold Hid; rw [HBT.out, decide_eq_false hn0]; rfl
                clear hn0
                refine takeH (some 40) (i := 13) (v := ?_) rfl (by kernel_rfl) (by kernel_rfl) (by kernel_rfl) (fun _ _ _ h => h) (Or.inl ⟨by rfl, ?_⟩) hHeld rfl ?_
                rotate_left
                · intro w hSw; obtain ⟨hS0, hS1, hS2, hS3, hS4⟩ := hSw; go_simp; with_reducible rfl
                (try simp only [Act.put]); (try simp only [List.setIfInBounds_toArray]); (try simp only [List.set_cons_zero, List.set_cons_succ])
                refine takeH (some 41) (i := 14) (v := ?_) rfl (by kernel_rfl) (by kernel_rfl) (by kernel_rfl) (fun _ _ _ h => h) (Or.inl ⟨by rfl, ?_⟩) hHeld rfl ?_
                rotate_left
                · intro w hSw; obtain ⟨hS0, hS1, hS2, hS3, hS4⟩ := hSw; go_simp; with_reducible rfl
                (try simp only [Act.put]); (try simp only [List.setIfInBounds_toArray]); (try simp only [List.set_cons_zero, List.set_cons_succ])
                refine takeH (some 42) (i := 15) (v := ?_) rfl (by kernel_rfl) (by kernel_rfl) (by kernel_rfl) (fun _ _ _ h => h) (Or.inl ⟨by rfl, ?_⟩) hHeld rfl ?_
                rotate_left
                · intro w hSw; obtain ⟨hS0, hS1, hS2, hS3, hS4⟩ := hSw; go_simp; with_reducible rfl
                (try simp only [Act.put]); (try simp only [List.setIfInBounds_toArray]); (try simp only [List.set_cons_zero, List.set_cons_succ])
                refine takeH (some 43) (i := 16) (v := ?_) rfl (by kernel_rfl) (by kernel_rfl) (by kernel_rfl) (fun _ _ _ h => h) (Or.inl ⟨by rfl, ?_⟩) hHeld rfl ?_
                rotate_left
                · intro w hSw; obtain ⟨hS0, hS1, hS2, hS3, hS4⟩ := hSw; go_simp; with_reducible rfl
                (try simp only [Act.put]); (try simp only [List.setIfInBounds_toArray]); (try simp only [List.set_cons_zero, List.set_cons_succ])
                refine wpAnyH_done (by kernel_rfl) ?_ _
                refine NoPanic.normal ?_
                go_wp2_with fail
                go_meet
                case rel => exact ⟨by rw [HBV.out], D⟩
            | false =>
              have HBV : Hid (bt = true) := by unfold Hid; rw [HBT.out]; rfl
              refine takeH (some 38) (i := 11) (v := ?_) rfl (by kernel_rfl) (by kernel_rfl) (by kernel_rfl) (fun _ _ _ h => h) (Or.inl ⟨by rfl, ?_⟩) hHeld rfl ?_
              rotate_left
              · intro w hSw; obtain ⟨hS0, hS1, hS2, hS3, hS4⟩ := hSw; go_simp; with_reducible rfl
              (try simp only [Act.put]); (try simp only [List.setIfInBounds_toArray]); (try simp only [List.set_cons_zero, List.set_cons_succ])
              refine takeH (some 39) (i := 12) (v := ?_) rfl (by kernel_rfl) (by kernel_rfl) (by kernel_rfl) (fun _ _ _ h => h) (Or.inl ⟨by rfl, ?_⟩) hHeld rfl ?_
              rotate_left
              · intro w hSw; obtain ⟨hS0, hS1, hS2, hS3, hS4⟩ := hSw; go_simp; with_reducible rfl
              (try simp only [Act.put]); (try simp only [List.setIfInBounds_toArray]); (try simp only [List.set_cons_zero, List.set_cons_succ])
              refine takeH (some 40) (i := 13) (v := undef) rfl (by kernel_rfl) (by kernel_rfl) (by kernel_rfl) (fun _ _ _ h => h) (Or.inr ⟨by rfl, rfl⟩) hHeld rfl ?_
              (try simp only [Act.put]); (try simp only [List.setIfInBounds_toArray]); (try simp only [List.set_cons_zero, List.set_cons_succ])
              refine takeH (some 41) (i := 14) (v := undef) rfl (by kernel_rfl) (by kernel_rfl) (by kernel_rfl) (fun _ _ _ h => h) (Or.inr ⟨by rfl, rfl⟩) hHeld rfl ?_
              (try simp only [Act.put]); (try simp only [List.setIfInBounds_toArray]); (try simp only [List.set_cons_zero, List.set_cons_succ])
              refine takeH (some 42) (i := 15) (v := undef) rfl (by kernel_rfl) (by kernel_rfl) (by kernel_rfl) (fun _ _ _ h => h) (Or.inr ⟨by rfl, rfl⟩) hHeld rfl ?_
              (try simp only [Act.put]); (try simp only [List.setIfInBounds_toArray]); (try simp only [List.set_cons_zero, List.set_cons_succ])
              refine takeH (some 43) (i := 16) (v := ?_) rfl (by kernel_rfl) (by kernel_rfl) (by kernel_rfl) (fun _ _ _ h => h) (Or.inl ⟨by rfl, ?_⟩) hHeld rfl ?_
              rotate_left
              · intro w hSw; obtain ⟨hS0, hS1, hS2, hS3, hS4⟩ := hSw; go_simp; with_reducible rfl
              (try simp only [Act.put]); (try simp only [List.setIfInBounds_toArray]); (try simp only [List.set_cons_zero, List.set_cons_succ])
              refine wpAnyH_done (by kernel_rfl) ?_ _
              refine NoPanic.normal ?_
              go_wp2_with fail
              go_meet
              case rel => exact ⟨by rw [HBV.out], D⟩
          · skip
            go_simp
            have D19 := D.alloc D.size (.cells #[.string sp, .string sq, .string ss] 9)
            have KX19 : Blk (Y15.alloc (.cells #[.string sp, .string sq, .string ss] 9)) Y15.heap.size 9 [.string sp, .string sq, .string ss] := Blk.newAt Y15 _ _ _ _ rfl rfl
            have Z19 : W1.heap.size ≤ Y15.heap.size := D.size
            have qM19 := KM.alloc (.cells #[.string sp, .string sq, .string ss] 9)
            have lM19 : bM < Y15.heap.size := KM.lt
            have qOA19 := OA.alloc (.cells #[.string sp, .string sq, .string ss] 9)
            refine hK.out _ _ (HKP.out _ D19) (fun hHeld => ?_)
            (try simp only [Act.put]); (try simp only [List.setIfInBounds_toArray]); (try simp only [List.set_cons_zero, List.set_cons_succ])
            clear hK K
            clear KM
            clear OA
            clear D
            obtain ⟨bX, hb19⟩ : ∃ b, b = Y15.heap.size := ⟨_, rfl⟩
            rw [← hb19]
            rw [← hb19] at KX19 Z19
            rw [← hb19] at lM19
            generalize Y15.alloc (.cells #[.string sp, .string sq, .string ss] 9) = Y19 at *
            clear hb19
            have D := D19
            have KX := KX19
            have zX := Z19
            have KM := qM19
            have OA := qOA19
            clear D19 KX19 Z19
            clear qM19
            clear qOA19
            refine wpAnyH_ready (rs := [5]) (by kernel_rfl) (by simp) ?_
            refine AllReadyH.cons rfl (fun K hK => ?_) AllReadyH.nil
            refine step_appRt 22 38 Tryd.underlying22 infoRef8 _ (by rfl) _ _ (by rfl) W1.heap.size _ l (by rfl) OA _ _ [mo] (by rfl) (isRs_one mo (by rw [HMo.out]; exact KM)) HB2.out D.size ?_
            intro v2 Y20 hoB hown2 hgrow2
            have D20 := D.grown hgrow2 D.size (fun j hj => (hoB.blk j hj).1)
            obtain ⟨a2, c2, ev2, IB⟩ := hown2.isRs
            rw [HLe.out] at ev2 IB
            subst ev2
            have KX := Blk.keptR hgrow2 hoB (by decide) KX
            refine hK.out _ _ (HKP.out _ D20) (fun hHeld => ?_)
            (try simp only [Act.put]); (try simp only [List.setIfInBounds_toArray]); (try simp only [List.set_cons_zero, List.set_cons_succ])
            have D := D20
            clear hK K D20 hown2 hgrow2 hoB KM zM OA
            refine wpAnyH_ready (rs := [10]) (by kernel_rfl) (by simp) ?_
            refine AllReadyH.cons rfl (fun K hK => ?_) AllReadyH.nil
            go_simp
            refine (HLi.out _ _ _ _ IB KX).mono ?_
            rintro e Y21 ⟨rfl, t3⟩
            have D21 := D.trans (t3.mono D.size)
            refine hK.out _ _ (HKP.out _ D21) (fun hHeld => ?_)
            (try simp only [Act.put]); (try simp only [List.setIfInBounds_toArray]); (try simp only [List.set_cons_zero, List.set_cons_succ])
            have D := D21
            clear hK K D21 t3 IB KX
            cases lb with
            | true =>
              refine takeH (some 38) (i := 11) (v := ?_) rfl (by kernel_rfl) (by kernel_rfl) (by kernel_rfl) (fun _ _ _ h => h) (Or.inl ⟨by rfl, ?_⟩) hHeld rfl ?_
              rotate_left
              · intro w hSw; obtain ⟨hS0, hS1, hS2, hS3, hS4⟩ := hSw; go_simp; with_reducible rfl
              (try simp only [Act.put]); (try simp only [List.setIfInBounds_toArray]); (try simp only [List.set_cons_zero, List.set_cons_succ])
              refine takeH (some 39) (i := 12) (v := ?_) rfl (by kernel_rfl) (by kernel_rfl) (by kernel_rfl) (fun _ _ _ h => h) (Or.inl ⟨by rfl, ?_⟩) hHeld rfl ?_
              rotate_left
              · intro w hSw; obtain ⟨hS0, hS1, hS2, hS3, hS4⟩ := hSw; go_simp; with_reducible rfl
              (try simp only [Act.put]); (try simp only [List.setIfInBounds_toArray]); (try simp only [List.set_cons_zero, List.set_cons_succ])
              by_cases hn0 : l.length = 0
              · have hn1 : ((l.length : Int) == 0) = true := by rw [beq_iff_eq]; omega
                have hn2 : (l.length : Int) = 0 := by omega
                have HBV : Hid (bt = true) := by unfold Hid; rw [HBT.out, decide_eq_true hn0]; rfl
                clear hn0
                refine takeH (some 40) (i := 13) (v := ?_) rfl (by kernel_rfl) (by kernel_rfl) (by kernel_rfl) (fun _ _ _ h => h) (Or.inl ⟨by rfl, ?_⟩) hHeld rfl ?_
                rotate_left
                · intro w hSw; obtain ⟨hS0, hS1, hS2, hS3, hS4⟩ := hSw; go_simp; with_reducible rfl
                (try simp only [Act.put]); (try simp only [List.setIfInBounds_toArray]); (try simp only [List.set_cons_zero, List.set_cons_succ])
                refine takeH (some 41) (i := 14) (v := ?_) rfl (by kernel_rfl) (by kernel_rfl) (by kernel_rfl) (fun _ _ _ h => h) (Or.inl ⟨by rfl, ?_⟩) hHeld rfl ?_
                rotate_left
                · intro w hSw; obtain ⟨hS0, hS1, hS2, hS3, hS4⟩ := hSw; go_simp; with_reducible rfl
                (try simp only [Act.put]); (try simp only [List.setIfInBounds_toArray]); (try simp only [List.set_cons_zero, List.set_cons_succ])
                refine takeH (some 42) (i := 15) (v := ?_) rfl (by kernel_rfl) (by kernel_rfl) (by kernel_rfl) (fun _ _ _ h => h) (Or.inl ⟨by rfl, ?_⟩) hHeld rfl ?_
                rotate_left
                · intro w hSw; obtain ⟨hS0, hS1, hS2, hS3, hS4⟩ := hSw; go_simp; with_reducible rfl
                (try simp only [Act.put]); (try simp only [List.setIfInBounds_toArray]); (try simp only [List.set_cons_zero, List.set_cons_succ])
                refine takeH (some 43) (i := 16) (v := ?_) rfl (by kernel_rfl) (by kernel_rfl) (by kernel_rfl) (fun _ _ _ h => h) (Or.inl ⟨by rfl, ?_⟩) hHeld rfl ?_
                rotate_left
                · intro w hSw; obtain ⟨hS0, hS1, hS2, hS3, hS4⟩ := hSw; go_simp; with_reducible rfl
                (try simp only [Act.put]); (try simp only [List.setIfInBounds_toArray]); (try simp only [List.set_cons_zero, List.set_cons_succ])
                refine wpAnyH_done (by kernel_rfl) ?_ _
                refine NoPanic.normal ?_
                go_wp2_with fail
                go_meet
                case rel => exact ⟨by rw [HBV.out], D⟩
              · have hn1 : ((l.length : Int) == 0) = false := by rw [beq_eq_false_iff_ne]; omega
                have hn2 : ¬ (l.length : Int) = 0 := by omega
                have HBV : Hid (bt = false) := by unfold Hid; rw [HBT.out, decide_eq_false hn0]; rfl
                clear hn0
                refine takeH (some 40) (i := 13) (v := ?_) rfl (by kernel_rfl) (by kernel_rfl) (by kernel_rfl) (fun _ _ _ h => h) (Or.inl ⟨by rfl, ?_⟩) hHeld rfl ?_
                rotate_left
                · intro w hSw; obtain ⟨hS0, hS1, hS2, hS3, hS4⟩ := hSw; go_simp; with_reducible rfl
                (try simp only [Act.put]); (try simp only [List.setIfInBounds_toArray]); (try simp only [List.set_cons_zero, List.set_cons_succ])
                refine takeH (some 41) (i := 14) (v := ?_) rfl (by kernel_rfl) (by kernel_rfl) (by kernel_rfl) (fun _ _ _ h => h) (Or.inl ⟨by rfl, ?_⟩) hHeld rfl ?_
                rotate_left
                · intro w hSw; obtain ⟨hS0, hS1, hS2, hS3, hS4⟩ := hSw; go_simp; with_reducible rfl
                (try simp only [Act.put]); (try simp only [List.setIfInBounds_toArray]); (try simp only [List.set_cons_zero, List.set_cons_succ])
                refine takeH (some 42) (i := 15) (v := ?_) rfl (by kernel_rfl) (by kernel_rfl) (by kernel_rfl) (fun _ _ _ h => h) (Or.inl ⟨by rfl, ?_⟩) hHeld rfl ?_
                rotate_left
                · intro w hSw; obtain ⟨hS0, hS1, hS2, hS3, hS4⟩ := hSw; go_simp; with_reducible rfl
                (try simp only [Act.put]); (try simp only [List.setIfInBounds_toArray]); (try simp only [List.set_cons_zero, List.set_cons_succ])
                refine takeH (some 43) (i := 16) (v := ?_) rfl (by kernel_rfl) (by kernel_rfl) (by kernel_rfl) (fun _ _ _ h => h) (Or.inl ⟨by rfl, ?_⟩) hHeld rfl ?_
                rotate_left
                · intro w hSw; obtain ⟨hS0, hS1, hS2, hS3, hS4⟩ := hSw; go_simp; with_reducible rfl
                (try simp only [Act.put]); (try simp only [List.setIfInBounds_toArray]); (try simp only [List.set_cons_zero, List.set_cons_succ])
                refine wpAnyH_done (by kernel_rfl) ?_ _
                refine NoPanic.normal ?_
                go_wp2_with fail
                go_meet
                case rel => exact ⟨by rw [HBV.out], D⟩
            | false =>
              have HBV : Hid (bt = true) := by unfold Hid; rw [HBT.out]; rfl
              refine takeH (some 38) (i := 11) (v := ?_) rfl (by kernel_rfl) (by kernel_rfl) (by kernel_rfl) (fun _ _ _ h => h) (Or.inl ⟨by rfl, ?_⟩) hHeld rfl ?_
              rotate_left
              · intro w hSw; obtain ⟨hS0, hS1, hS2, hS3, hS4⟩ := hSw; go_simp; with_reducible rfl
              (try simp only [Act.put]); (try simp only [List.setIfInBounds_toArray]); (try simp only [List.set_cons_zero, List.set_cons_succ])
              refine takeH (some 39) (i := 12) (v := ?_) rfl (by kernel_rfl) (by kernel_rfl) (by kernel_rfl) (fun _ _ _ h => h) (Or.inl ⟨by rfl, ?_⟩) hHeld rfl ?_
              rotate_left
              · intro w hSw; obtain ⟨hS0, hS1, hS2, hS3, hS4⟩ := hSw; go_simp; with_reducible rfl
              (try simp only [Act.put]); (try simp only [List.setIfInBounds_toArray]); (try simp only [List.set_cons_zero, List.set_cons_succ])
              refine takeH (some 40) (i := 13) (v := undef) rfl (by kernel_rfl) (by kernel_rfl) (by kernel_rfl) (fun _ _ _ h => h) (Or.inr ⟨by rfl, rfl⟩) hHeld rfl ?_
              (try simp only [Act.put]); (try simp only [List.setIfInBounds_toArray]); (try simp only [List.set_cons_zero, List.set_cons_succ])
              refine takeH (some 41) (i := 14) (v := undef) rfl (by kernel_rfl) (by kernel_rfl) (by kernel_rfl) (fun _ _ _ h => h) (Or.inr ⟨by rfl, rfl⟩) hHeld rfl ?_
              (try simp only [Act.put]); (try simp only [List.setIfInBounds_toArray]); (try simp only [List.set_cons_zero, List.set_cons_succ])
              refine takeH (some 42) (i := 15) (v := undef) rfl (by kernel_rfl) (by kernel_rfl) (by kernel_rfl) (fun _ _ _ h => h) (Or.inr ⟨by rfl, rfl⟩) hHeld rfl ?_
              (try simp only [Act.put]); (try simp only [List.setIfInBounds_toArray]); (try simp only [List.set_cons_zero, List.set_cons_succ])
              refine takeH (some 43) (i := 16) (v := ?_) rfl (by kernel_rfl) (by kernel_rfl) (by kernel_rfl) (fun _ _ _ h => h) (Or.inl ⟨by rfl, ?_⟩) hHeld rfl ?_
              rotate_left
              · intro w hSw; obtain ⟨hS0, hS1, hS2, hS3, hS4⟩ := hSw; go_simp; with_reducible rfl
              (try simp only [Act.put]); (try simp only [List.setIfInBounds_toArray]); (try simp only [List.set_cons_zero, List.set_cons_succ])
              refine wpAnyH_done (by kernel_rfl) ?_ _
              refine NoPanic.normal ?_
              go_wp2_with fail
              go_meet
              case rel => exact ⟨by rw [HBV.out], D⟩
        · skip
          go_simp
          have D22 := D.alloc D.size (.cells #[.string sp, .string sq, .string ss] 9)
          have KX22 : Blk (Y14.alloc (.cells #[.string sp, .string sq, .string ss] 9)) Y14.heap.size 9 [.string sp, .string sq, .string ss] := Blk.newAt Y14 _ _ _ _ rfl rfl
          have Z22 : W1.heap.size ≤ Y14.heap.size := D.size
          have qE22 := KE.alloc (.cells #[.string sp, .string sq, .string ss] 9)
          have lE22 : bE < Y14.heap.size := KE.lt
          have qM22 := KM.alloc (.cells #[.string sp, .string sq, .string ss] 9)
          have lM22 : bM < Y14.heap.size := KM.lt
          refine hK.out _ _ (HKP.out _ D22) (fun hHeld => ?_)
          (try simp only [Act.put]); (try simp only [List.setIfInBounds_toArray]); (try simp only [List.set_cons_zero, List.set_cons_succ])
          clear hK K
          clear KE
          clear KM
          clear D
          obtain ⟨bX, hb22⟩ : ∃ b, b = Y14.heap.size := ⟨_, rfl⟩
          rw [← hb22]
          rw [← hb22] at KX22 Z22
          rw [← hb22] at lE22
          rw [← hb22] at lM22
          generalize Y14.alloc (.cells #[.string sp, .string sq, .string ss] 9) = Y22 at *
          clear hb22
          have D := D22
          have KX := KX22
          have zX := Z22
          have KE := qE22
          have KM := qM22
          clear D22 KX22 Z22
          clear qE22
          clear qM22
          refine wpAnyH_ready (rs := [2]) (by kernel_rfl) (by simp) ?_
          refine AllReadyH.cons rfl (fun K hK => ?_) AllReadyH.nil
          refine step_appRt 22 38 Tryd.underlying22 infoRef8 _ (by rfl) _ _ (by rfl) W1.heap.size _ [] (by rfl) (OwnR.emptyAt KE zE) a cap l (by rfl) (HRl.out _ (bel2 HT1.out D)) HB1.out D.size ?_
          intro v1 Y23 hoA hown1 hgrow1
          rw [List.nil_append] at hown1
          have D23 := D.grown hgrow1 D.size (fun j hj => (hoA.blk j hj).1)
          have KM := Blk.keptI hgrow1 nEM KM
          have KX := Blk.keptR hgrow1 hoA (by decide) KX
          refine hK.out _ _ (HKP.out _ D23) (fun hHeld => ?_)
          (try simp only [Act.put]); (try simp only [List.setIfInBounds_toArray]); (try simp only [List.set_cons_zero, List.set_cons_succ])
          have D := D23
          have OA := hown1
          clear hK K D23 hown1 hgrow1 hoA KE zE
          refine wpAnyH_ready (rs := [5]) (by kernel_rfl) (by simp) ?_
          refine AllReadyH.cons rfl (fun K hK => ?_) AllReadyH.nil
          refine step_appRt 22 38 Tryd.underlying22 infoRef8 _ (by rfl) _ _ (by rfl) W1.heap.size _ l (by rfl) OA _ _ [mo] (by rfl) (isRs_one mo (by rw [HMo.out]; exact KM)) HB2.out D.size ?_
          intro v2 Y24 hoB hown2 hgrow2
          have D24 := D.grown hgrow2 D.size (fun j hj => (hoB.blk j hj).1)
          obtain ⟨a2, c2, ev2, IB⟩ := hown2.isRs
          rw [HLe.out] at ev2 IB
          subst ev2
          have KX := Blk.keptR hgrow2 hoB (by decide) KX
          refine hK.out _ _ (HKP.out _ D24) (fun hHeld => ?_)
          (try simp only [Act.put]); (try simp only [List.setIfInBounds_toArray]); (try simp only [List.set_cons_zero, List.set_cons_succ])
          have D := D24
          clear hK K D24 hown2 hgrow2 hoB KM zM OA
          refine wpAnyH_ready (rs := [10]) (by kernel_rfl) (by simp) ?_
          refine AllReadyH.cons rfl (fun K hK => ?_) AllReadyH.nil
          go_simp
          refine (HLi.out _ _ _ _ IB KX).mono ?_
          rintro e Y25 ⟨rfl, t3⟩
          have D25 := D.trans (t3.mono D.size)
          refine hK.out _ _ (HKP.out _ D25) (fun hHeld => ?_)
          (try simp only [Act.put]); (try simp only [List.setIfInBounds_toArray]); (try simp only [List.set_cons_zero, List.set_cons_succ])
          have D := D25
          clear hK K D25 t3 IB KX
          cases lb with
          | true =>
            refine takeH (some 38) (i := 11) (v := ?_) rfl (by kernel_rfl) (by kernel_rfl) (by kernel_rfl) (fun _ _ _ h => h) (Or.inl ⟨by rfl, ?_⟩) hHeld rfl ?_
            rotate_left
            · intro w hSw; obtain ⟨hS0, hS1, hS2, hS3, hS4⟩ := hSw; go_simp; with_reducible rfl
            (try simp only [Act.put]); (try simp only [List.setIfInBounds_toArray]); (try simp only [List.set_cons_zero, List.set_cons_succ])
            refine takeH (some 39) (i := 12) (v := ?_) rfl (by kernel_rfl) (by kernel_rfl) (by kernel_rfl) (fun _ _ _ h => h) (Or.inl ⟨by rfl, ?_⟩) hHeld rfl ?_
            rotate_left
            · intro w hSw; obtain ⟨hS0, hS1, hS2, hS3, hS4⟩ := hSw; go_simp; with_reducible rfl
            (try simp only [Act.put]); (try simp only [List.setIfInBounds_toArray]); (try simp only [List.set_cons_zero, List.set_cons_succ])
            by_cases hn0 : l.length = 0
            · have hn1 : ((l.length : Int) == 0) = true := by rw [beq_iff_eq]; omega
              have hn2 : (l.length : Int) = 0 := by omega
              have HBV : Hid (bt = true) := by unfold Hid; rw [HBT.out, decide_eq_true hn0]; rfl
              clear hn0
              refine takeH (some 40) (i := 13) (v := ?_) rfl (by kernel_rfl) (by kernel_rfl) (by kernel_rfl) (fun _ _ _ h => h) (Or.inl ⟨by rfl, ?_⟩) hHeld rfl ?_
              rotate_left
              · intro w hSw; obtain ⟨hS0, hS1, hS2, hS3, hS4⟩ := hSw; go_simp; with_reducible rfl
              (try simp only [Act.put]); (try simp only [List.setIfInBounds_toArray]); (try simp only [List.set_cons_zero, List.set_cons_succ])
              refine takeH (some 41) (i := 14) (v := ?_) rfl (by kernel_rfl) (by kernel_rfl) (by kernel_rfl) (fun _ _ _ h => h) (Or.inl ⟨by rfl, ?_⟩) hHeld rfl ?_
              rotate_left
              · intro w hSw; obtain ⟨hS0, hS1, hS2, hS3, hS4⟩ := hSw; go_simp; with_reducible rfl
              (try simp only [Act.put]); (try simp only [List.setIfInBounds_toArray]); (try simp only [List.set_cons_zero, List.set_cons_succ])
              refine takeH (some 42) (i := 15) (v := ?_) rfl (by kernel_rfl) (by kernel_rfl) (by kernel_rfl) (fun _ _ _ h => h) (Or.inl ⟨by rfl, ?_⟩) hHeld rfl ?_
              rotate_left
              · intro w hSw; obtain ⟨hS0, hS1, hS2, hS3, hS4⟩ := hSw; go_simp; with_reducible rfl
              (try simp only [Act.put]); (try simp only [List.setIfInBounds_toArray]); (try simp only [List.set_cons_zero, List.set_cons_succ])
              refine takeH (some 43) (i := 16) (v := ?_) rfl (by kernel_rfl) (by kernel_rfl) (by kernel_rfl) (fun _ _ _ h => h) (Or.inl ⟨by rfl, ?_⟩) hHeld rfl ?_
              rotate_left
              · intro w hSw; obtain ⟨hS0, hS1, hS2, hS3, hS4⟩ := hSw; go_simp; with_reducible rfl
              (try simp only [Act.put]); (try simp only [List.setIfInBounds_toArray]); (try simp only [List.set_cons_zero, List.set_cons_succ])
              refine wpAnyH_done (by kernel_rfl) ?_ _
              refine NoPanic.normal ?_
              go_wp2_with fail
              go_meet
              case rel => exact ⟨by rw [HBV.out], D⟩
            · have hn1 : ((l.length : Int) == 0) = false := by rw [beq_eq_false_iff_ne]; omega
              have hn2 : ¬ (l.length : Int) = 0 := by omega
              have HBV : Hid (bt = false) := by unfold Hid; rw [HBT.out, decide_eq_false hn0]; rfl
              clear hn0
              refine takeH (some 40) (i := 13) (v := ?_) rfl (by kernel_rfl) (by kernel_rfl) (by kernel_rfl) (fun _ _ _ h => h) (Or.inl ⟨by rfl, ?_⟩) hHeld rfl ?_
              rotate_left
              · intro w hSw; obtain ⟨hS0, hS1, hS2, hS3, hS4⟩ := hSw; go_simp; with_reducible rfl
              (try simp only [Act.put]); (try simp only [List.setIfInBounds_toArray]); (try simp only [List.set_cons_zero, List.set_cons_succ])
              refine takeH (some 41) (i := 14) (v := ?_) rfl (by kernel_rfl) (by kernel_rfl) (by kernel_rfl) (fun _ _ _ h => h) (Or.inl ⟨by rfl, ?_⟩) hHeld rfl ?_
              rotate_left
              · intro w hSw; obtain ⟨hS0, hS1, hS2, hS3, hS4⟩ := hSw; go_simp; with_reducible rfl
              (try simp only [Act.put]); (try simp only [List.setIfInBounds_toArray]); (try simp only [List.set_cons_zero, List.set_cons_succ])
              refine takeH (some 42) (i := 15) (v := ?_) rfl (by kernel_rfl) (by kernel_rfl) (by kernel_rfl) (fun _ _ _ h => h) (Or.inl ⟨by rfl, ?_⟩) hHeld rfl ?_
              rotate_left
              · intro w hSw; obtain ⟨hS0, hS1, hS2, hS3, hS4⟩ := hSw; go_simp; with_reducible rfl
              (try simp only [Act.put]); (try simp only [List.setIfInBounds_toArray]); (try simp only [List.set_cons_zero, List.set_cons_succ])
              refine takeH (some 43) (i := 16) (v := ?_) rfl (by kernel_rfl) (by kernel_rfl) (by kernel_rfl) (fun _ _ _ h => h) (Or.inl ⟨by rfl, ?_⟩) hHeld rfl ?_
              rotate_left
              · intro w hSw; obtain ⟨hS0, hS1, hS2, hS3, hS4⟩ := hSw; go_simp; with_reducible rfl
              (try simp only [Act.put]); (try simp only [List.setIfInBounds_toArray]); (try simp only [List.set_cons_zero, List.set_cons_succ])
              refine wpAnyH_done (by kernel_rfl) ?_ _
              refine NoPanic.normal ?_
              go_wp2_with fail
              go_meet
              case rel => exact ⟨by rw [HBV.out], D⟩
          | false =>
            have HBV : Hid (bt = true) := by unfold Hid; rw [HBT.out]; rfl
            refine takeH (some 38) (i := 11) (v := ?_) rfl (by kernel_rfl) (by kernel_rfl) (by kernel_rfl) (fun _ _ _ h => h) (Or.inl ⟨by rfl, ?_⟩) hHeld rfl ?_
            rotate_left
            · intro w hSw; obtain ⟨hS0, hS1, hS2, hS3, hS4⟩ := hSw; go_simp; with_reducible rfl
            (try simp only [Act.put]); (try simp only [List.setIfInBounds_toArray]); (try simp only [List.set_cons_zero, List.set_cons_succ])
            refine takeH (some 39) (i := 12) (v := ?_) rfl (by kernel_rfl) (by kernel_rfl) (by kernel_rfl) (fun _ _ _ h => h) (Or.inl ⟨by rfl, ?_⟩) hHeld rfl ?_
            rotate_left
            · intro w hSw; obtain ⟨hS0, hS1, hS2, hS3, hS4⟩ := hSw; go_simp; with_reducible rfl
            (try simp only [Act.put]); (try simp only [List.setIfInBounds_toArray]); (try simp only [List.set_cons_zero, List.set_cons_succ])
            refine takeH (some 40) (i := 13) (v := undef) rfl (by kernel_rfl) (by kernel_rfl) (by kernel_rfl) (fun _ _ _ h => h) (Or.inr ⟨by rfl, rfl⟩) hHeld rfl ?_
            (try simp only [Act.put]); (try simp only [List.setIfInBounds_toArray]); (try simp only [List.set_cons_zero, List.set_cons_succ])
            refine takeH (some 41) (i := 14) (v := undef) rfl (by kernel_rfl) (by kernel_rfl) (by kernel_rfl) (fun _ _ _ h => h) (Or.inr ⟨by rfl, rfl⟩) hHeld rfl ?_
            (try simp only [Act.put]); (try simp only [List.setIfInBounds_toArray]); (try simp only [List.set_cons_zero, List.set_cons_succ])
            refine takeH (some 42) (i := 15) (v := undef) rfl (by kernel_rfl) (by kernel_rfl) (by kernel_rfl) (fun _ _ _ h => h) (Or.inr ⟨by rfl, rfl⟩) hHeld rfl ?_
            (try simp only [Act.put]); (try simp only [List.setIfInBounds_toArray]); (try simp only [List.set_cons_zero, List.set_cons_succ])
            refine takeH (some 43) (i := 16) (v := ?_) rfl (by kernel_rfl) (by kernel_rfl) (by kernel_rfl) (fun _ _ _ h => h) (Or.inl ⟨by rfl, ?_⟩) hHeld rfl ?_
            rotate_left
            · intro w hSw; obtain ⟨hS0, hS1, hS2, hS3, hS4⟩ := hSw; go_simp; with_reducible rfl
            (try simp only [Act.put]); (try simp only [List.setIfInBounds_toArray]); (try simp only [List.set_cons_zero, List.set_cons_succ])
            refine wpAnyH_done (by kernel_rfl) ?_ _
            refine NoPanic.normal ?_
            go_wp2_with fail
            go_meet
            case rel => exact ⟨by rw [HBV.out], D⟩
      · skip
        go_simp
        have D26 := D.alloc D.size (.cells #[.string sp, .string sq, .string ss] 9)
        have KX26 : Blk (Y1.alloc (.cells #[.string sp, .string sq, .string ss] 9)) Y1.heap.size 9 [.string sp, .string sq, .string ss] := Blk.newAt Y1 _ _ _ _ rfl rfl
        have Z26 : W1.heap.size ≤ Y1.heap.size := D.size
        have qE26 := KE.alloc (.cells #[.string sp, .string sq, .string ss] 9)
        have lE26 : bE < Y1.heap.size := KE.lt
        refine hK.out _ _ (HKP.out _ D26) (fun hHeld => ?_)
        (try simp only [Act.put]); (try simp only [List.setIfInBounds_toArray]); (try simp only [List.set_cons_zero, List.set_cons_succ])
        clear hK K
        clear KE
        clear D
        obtain ⟨bX, hb26⟩ : ∃ b, b = Y1.heap.size := ⟨_, rfl⟩
        rw [← hb26]
        rw [← hb26] at KX26 Z26
        rw [← hb26] at lE26
        generalize Y1.alloc (.cells #[.string sp, .string sq, .string ss] 9) = Y26 at *
        clear hb26
        have D := D26
        have KX := KX26
        have zX := Z26
        have KE := qE26
        clear D26 KX26 Z26
        clear qE26
        refine wpAnyH_ready (rs := [2, 4]) (by kernel_rfl) (by simp) ?_
        refine AllReadyH.cons rfl (fun K hK => ?_) (AllReadyH.cons rfl (fun K hK => ?_) AllReadyH.nil)
        · skip
          refine step_appRt 22 38 Tryd.underlying22 infoRef8 _ (by rfl) _ _ (by rfl) W1.heap.size _ [] (by rfl) (OwnR.emptyAt KE zE) a cap l (by rfl) (HRl.out _ (bel2 HT1.out D)) HB1.out D.size ?_
          intro v1 Y27 hoA hown1 hgrow1
          rw [List.nil_append] at hown1
          have D27 := D.grown hgrow1 D.size (fun j hj => (hoA.blk j hj).1)
          have KX := Blk.keptR hgrow1 hoA (by decide) KX
          refine hK.out _ _ (HKP.out _ D27) (fun hHeld => ?_)
          (try simp only [Act.put]); (try simp only [List.setIfInBounds_toArray]); (try simp only [List.set_cons_zero, List.set_cons_succ])
          have D := D27
          have OA := hown1
          clear hK K D27 hown1 hgrow1 hoA KE zE
          refine wpAnyH_ready (rs := [4]) (by kernel_rfl) (by simp) ?_
          refine AllReadyH.cons rfl (fun K hK => ?_) AllReadyH.nil
          go_simp
          have D28 := D.alloc D.size (.cells #[.bool mo.deny, .string e1, .string e2, .string e3] 38)
          have KM28 : Blk (Y27.alloc (.cells #[.bool mo.deny, .string e1, .string e2, .string e3] 38)) Y27.heap.size 38 [.bool mo.deny, .string e1, .string e2, .string e3] := Blk.newAt Y27 _ _ _ _ rfl rfl
          have Z28 : W1.heap.size ≤ Y27.heap.size := D.size
          have qX28 := KX.alloc (.cells #[.bool mo.deny, .string e1, .string e2, .string e3] 38)
          have lX28 : bX < Y27.heap.size := KX.lt
          have qOA28 := OA.alloc (.cells #[.bool mo.deny, .string e1, .string e2, .string e3] 38)
          refine hK.out _ _ (HKP.out _ D28) (fun hHeld => ?_)
          (try simp only [Act.put]); (try simp only [List.setIfInBounds_toArray]); (try simp only [List.set_cons_zero, List.set_cons_succ])
          clear hK K
          clear KX
          clear OA
          clear D
          obtain ⟨bM, hb28⟩ : ∃ b, b = Y27.heap.size := ⟨_, rfl⟩
          rw [← hb28]
          rw [← hb28] at KM28 Z28
          rw [← hb28] at lX28
          generalize Y27.alloc (.cells #[.bool mo.deny, .string e1, .string e2, .string e3] 38) = Y28 at *
          clear hb28
          have D := D28
          have KM := KM28
          have zM := Z28
          have KX := qX28
          have OA := qOA28
          clear D28 KM28 Z28
          clear qX28
          clear qOA28
          refine wpAnyH_ready (rs := [5]) (by kernel_rfl) (by simp) ?_
          refine AllReadyH.cons rfl (fun K hK => ?_) AllReadyH.nil
          refine step_appRt 22 38 Tryd.underlying22 infoRef8 _ (by rfl) _ _ (by rfl) W1.heap.size _ l (by rfl) OA _ _ [mo] (by rfl) (isRs_one mo (by rw [HMo.out]; exact KM)) HB2.out D.size ?_
          intro v2 Y29 hoB hown2 hgrow2
          have D29 := D.grown hgrow2 D.size (fun j hj => (hoB.blk j hj).1)
          obtain ⟨a2, c2, ev2, IB⟩ := hown2.isRs
          rw [HLe.out] at ev2 IB
          subst ev2
          have KX := Blk.keptR hgrow2 hoB (by decide) KX
          refine hK.out _ _ (HKP.out _ D29) (fun hHeld => ?_)
          (try simp only [Act.put]); (try simp only [List.setIfInBounds_toArray]); (try simp only [List.set_cons_zero, List.set_cons_succ])
          have D := D29
          clear hK K D29 hown2 hgrow2 hoB KM zM OA
          refine wpAnyH_ready (rs := [10]) (by kernel_rfl) (by simp) ?_
          refine AllReadyH.cons rfl (fun K hK => ?_) AllReadyH.nil
          go_simp
          refine (HLi.out _ _ _ _ IB KX).mono ?_
          rintro e Y30 ⟨rfl, t3⟩
          have D30 := D.trans (t3.mono D.size)
          refine hK.out _ _ (HKP.out _ D30) (fun hHeld => ?_)
          (try simp only [Act.put]); (try simp only [List.setIfInBounds_toArray]); (try simp only [List.set_cons_zero, List.set_cons_succ])
          have D := D30
          clear hK K D30 t3 IB KX
          cases lb with
          | true =>
            refine takeH (some 38) (i := 11) (v := ?_) rfl (by kernel_rfl) (by kernel_rfl) (by kernel_rfl) (fun _ _ _ h => h) (Or.inl ⟨by rfl, ?_⟩) hHeld rfl ?_
            rotate_left
            · intro w hSw; obtain ⟨hS0, hS1, hS2, hS3, hS4⟩ := hSw; go_simp; with_reducible rfl
            (try simp only [Act.put]); (try simp only [List.setIfInBounds_toArray]); (try simp only [List.set_cons_zero, List.set_cons_succ])
            refine takeH (some 39) (i := 12) (v := ?_) rfl (by kernel_rfl) (by kernel_rfl) (by kernel_rfl) (fun _ _ _ h => h) (Or.inl ⟨by rfl, ?_⟩) hHeld rfl ?_
            rotate_left
            · intro w hSw; obtain ⟨hS0, hS1, hS2, hS3, hS4⟩ := hSw; go_simp; with_reducible rfl
            (try simp only [Act.put]); (try simp only [List.setIfInBounds_toArray]); (try simp only [List.set_cons_zero, List.set_cons_succ])
            by_cases hn0 : l.length = 0
            · have hn1 : ((l.length : Int) == 0) = true := by rw [beq_iff_eq]; omega
              have hn2 : (l.length : Int) = 0 := by omega
              have HBV : Hid (bt = true) := by unfold Hid; rw [HBT.out, decide_eq_true hn0]; rfl
              clear hn0
              refine takeH (some 40) (i := 13) (v := ?_) rfl (by kernel_rfl) (by kernel_rfl) (by kernel_rfl) (fun _ _ _ h => h) (Or.inl ⟨by rfl, ?_⟩) hHeld rfl ?_
              rotate_left
              · intro w hSw; obtain ⟨hS0, hS1, hS2, hS3, hS4⟩ := hSw; go_simp; with_reducible rfl
              (try simp only [Act.put]); (try simp only [List.setIfInBounds_toArray]); (try simp only [List.set_cons_zero, List.set_cons_succ])
              refine takeH (some 41) (i := 14) (v := ?_) rfl (by kernel_rfl) (by kernel_rfl) (by kernel_rfl) (fun _ _ _ h => h) (Or.inl ⟨by rfl, ?_⟩) hHeld rfl ?_
              rotate_left
              · intro w hSw; obtain ⟨hS0, hS1, hS2, hS3, hS4⟩ := hSw; go_simp; with_reducible rfl
              (try simp only [Act.put]); (try simp only [List.setIfInBounds_toArray]); (try simp only [List.set_cons_zero, List.set_cons_succ])
              refine takeH (some 42) (i := 15) (v := ?_) rfl (by kernel_rfl) (by kernel_rfl) (by kernel_rfl) (fun _ _ _ h => h) (Or.inl ⟨by rfl, ?_⟩) hHeld rfl ?_
              rotate_left
              · intro w hSw; obtain ⟨hS0, hS1, hS2, hS3, hS4⟩ := hSw; go_simp; with_reducible rfl
              (try simp only [Act.put]); (try simp only [List.setIfInBounds_toArray]); (try simp only [List.set_cons_zero, List.set_cons_succ])
              refine takeH (some 43) (i := 16) (v := ?_) rfl (by kernel_rfl) (by kernel_rfl) (by kernel_rfl) (fun _ _ _ h => h) (Or.inl ⟨by rfl, ?_⟩) hHeld rfl ?_
              rotate_left
              · intro w hSw; obtain ⟨hS0, hS1, hS2, hS3, hS4⟩ := hSw; go_simp; with_reducible rfl
              (try simp only [Act.put]); (try simp only [List.setIfInBounds_toArray]); (try simp only [List.set_cons_zero, List.set_cons_succ])
              refine wpAnyH_done (by kernel_rfl) ?_ _
              refine NoPanic.normal ?_
              go_wp2_with fail
              go_meet
              case rel => exact ⟨by rw [HBV.out], D⟩
            · have hn1 : ((l.length : Int) == 0) = false := by rw [beq_eq_false_iff_ne]; omega
              have hn2 : ¬ (l.length : Int) = 0 := by omega
              have HBV : Hid (bt = false) := by unfold Hid; rw [HBT.out, decide_eq_false hn0]; rfl
              clear hn0
              refine takeH (some 40) (i := 13) (v := ?_) rfl (by kernel_rfl) (by kernel_rfl) (by kernel_rfl) (fun _ _ _ h => h) (Or.inl ⟨by rfl, ?_⟩) hHeld rfl ?_
              rotate_left
              · intro w hSw; obtain ⟨hS0, hS1, hS2, hS3, hS4⟩ := hSw; go_simp; with_reducible rfl
              (try simp only [Act.put]); (try simp only [List.setIfInBounds_toArray]); (try simp only [List.set_cons_zero, List.set_cons_succ])
              refine takeH (some 41) (i := 14) (v := ?_) rfl (by kernel_rfl) (by kernel_rfl) (by kernel_rfl) (fun _ _ _ h => h) (Or.inl ⟨by rfl, ?_⟩) hHeld rfl ?_
              rotate_left
              · intro w hSw; obtain ⟨hS0, hS1, hS2, hS3, hS4⟩ := hSw; go_simp; with_reducible rfl
              (try simp only [Act.put]); (try simp only [List.setIfInBounds_toArray]); (try simp only [List.set_cons_zero, List.set_cons_succ])
              refine takeH (some 42) (i := 15) (v := ?_) rfl (by kernel_rfl) (by kernel_rfl) (by kernel_rfl) (fun _ _ _ h => h) (Or.inl ⟨by rfl, ?_⟩) hHeld rfl ?_
              rotate_left
              · intro w hSw; obtain ⟨hS0, hS1, hS2, hS3, hS4⟩ := hSw; go_simp; with_reducible rfl
              (try simp only [Act.put]); (try simp only [List.setIfInBounds_toArray]); (try simp only [List.set_cons_zero, List.set_cons_succ])
              refine takeH (some 43) (i := 16) (v := ?_) rfl (by kernel_rfl) (by kernel_rfl) (by kernel_rfl) (fun _ _ _ h => h) (Or.inl ⟨by rfl, ?_⟩) hHeld rfl ?_
              rotate_left
              · intro w hSw; obtain ⟨hS0, hS1, hS2, hS3, hS4⟩ := hSw; go_simp; with_reducible rfl
              (try simp only [Act.put]); (try simp only [List.setIfInBounds_toArray]); (try simp only [List.set_cons_zero, List.set_cons_succ])
              refine wpAnyH_done (by kernel_rfl) ?_ _
              refine NoPanic.normal ?_
              go_wp2_with fail
              go_meet
              case rel => exact ⟨by rw [HBV.out], D⟩
          | false =>
            have HBV : Hid (bt = true) := by unfold Hid; rw [HBT.out]; rfl
            refine takeH (some 38) (i := 11) (v := ?_) rfl (by kernel_rfl) (by kernel_rfl) (by kernel_rfl) (fun _ _ _ h => h) (Or.inl ⟨by rfl, ?_⟩) hHeld rfl ?_
            rotate_left
            · intro w hSw; obtain ⟨hS0, hS1, hS2, hS3, hS4⟩ := hSw; go_simp; with_reducible rfl
            (try simp only [Act.put]); (try simp only [List.setIfInBounds_toArray]); (try simp only [List.set_cons_zero, List.set_cons_succ])
            refine takeH (some 39) (i := 12) (v := ?_) rfl (by kernel_rfl) (by kernel_rfl) (by kernel_rfl) (fun _ _ _ h => h) (Or.inl ⟨by rfl, ?_⟩) hHeld rfl ?_
            rotate_left
            · intro w hSw; obtain ⟨hS0, hS1, hS2, hS3, hS4⟩ := hSw; go_simp; with_reducible rfl
            (try simp only [Act.put]); (try simp only [List.setIfInBounds_toArray]); (try simp only [List.set_cons_zero, List.set_cons_succ])
            refine takeH (some 40) (i := 13) (v := undef) rfl (by kernel_rfl) (by kernel_rfl) (by kernel_rfl) (fun _ _ _ h => h) (Or.inr ⟨by rfl, rfl⟩) hHeld rfl ?_
            (try simp only [Act.put]); (try simp only [List.setIfInBounds_toArray]); (try simp only [List.set_cons_zero, List.set_cons_succ])
            refine takeH (some 41) (i := 14) (v := undef) rfl (by kernel_rfl) (by kernel_rfl) (by kernel_rfl) (fun _ _ _ h => h) (Or.inr ⟨by rfl, rfl⟩) hHeld rfl ?_
            (try simp only [Act.put]); (try simp only [List.setIfInBounds_toArray]); (try simp only [List.set_cons_zero, List.set_cons_succ])
            refine takeH (some 42) (i := 15) (v := undef) rfl (by kernel_rfl) (by kernel_rfl) (by kernel_rfl) (fun _ _ _ h => h) (Or.inr ⟨by rfl, rfl⟩) hHeld rfl ?_
            (try simp only [Act.put]); (try simp only [List.setIfInBounds_toArray]); (try simp only [List.set_cons_zero, List.set_cons_succ])
            refine takeH (some 43) (i := 16) (v := ?_) rfl (by kernel_rfl) (by kernel_rfl) (by kernel_rfl) (fun _ _ _ h => h) (Or.inl ⟨by rfl, ?_⟩) hHeld rfl ?_
            rotate_left
            · intro w hSw; obtain ⟨hS0, hS1, hS2, hS3, hS4⟩ := hSw; go_simp; with_reducible rfl
            (try simp only [Act.put]); (try simp only [List.setIfInBounds_toArray]); (try simp only [List.set_cons_zero, List.set_cons_succ])
            refine wpAnyH_done (by kernel_rfl) ?_ _
            refine NoPanic.normal ?_
            go_wp2_with fail
            go_meet
            case rel => exact ⟨by rw [HBV.out], D⟩
        · skip
          go_simp
          have D31 := D.alloc D.size (.cells #[.bool mo.deny, .string e1, .string e2, .string e3] 38)
          have KM31 : Blk (Y26.alloc (.cells #[.bool mo.deny, .string e1, .string e2, .string e3] 38)) Y26.heap.size 38 [.bool mo.deny, .string e1, .string e2, .string e3] := Blk.newAt Y26 _ _ _ _ rfl rfl
          have Z31 : W1.heap.size ≤ Y26.heap.size := D.size
          have qE31 := KE.alloc (.cells #[.bool mo.deny, .string e1, .string e2, .string e3] 38)
          have lE31 : bE < Y26.heap.size := KE.lt
          have qX31 := KX.alloc (.cells #[.bool mo.deny, .string e1, .string e2, .string e3] 38)
          have lX31 : bX < Y26.heap.size := KX.lt
          refine hK.out _ _ (HKP.out _ D31) (fun hHeld => ?_)
          (try simp only [Act.put]); (try simp only [List.setIfInBounds_toArray]); (try simp only [List.set_cons_zero, List.set_cons_succ])
          clear hK K
          clear KE
          clear KX
          clear D
          obtain ⟨bM, hb31⟩ : ∃ b, b = Y26.heap.size := ⟨_, rfl⟩
          rw [← hb31]
          rw [← hb31] at KM31 Z31
          rw [← hb31] at lE31
          rw [← hb31] at lX31
          generalize Y26.alloc (.cells #[.bool mo.deny, .string e1, .string e2, .string e3] 38) = Y31 at *
          clear hb31
          have D := D31
          have KM := KM31
          have zM := Z31
          have KE := qE31
          have KX := qX31
          have nEM : bM ≠ bE := Nat.ne_of_gt lE31
          clear D31 KM31 Z31
          clear qE31
          clear qX31
          refine wpAnyH_ready (rs := [2]) (by kernel_rfl) (by simp) ?_
          refine AllReadyH.cons rfl (fun K hK => ?_) AllReadyH.nil
          refine step_appRt 22 38 Tryd.underlying22 infoRef8 _ (by rfl) _ _ (by rfl) W1.heap.size _ [] (by rfl) (OwnR.emptyAt KE zE) a cap l (by rfl) (HRl.out _ (bel2 HT1.out D)) HB1.out D.size ?_
          intro v1 Y32 hoA hown1 hgrow1
          rw [List.nil_append] at hown1
          have D32 := D.grown hgrow1 D.size (fun j hj => (hoA.blk j hj).1)
          have KM := Blk.keptI hgrow1 nEM KM
          have KX := Blk.keptR hgrow1 hoA (by decide) KX
          refine hK.out _ _ (HKP.out _ D32) (fun hHeld => ?_)
          (try simp only [Act.put]); (try simp only [List.setIfInBounds_toArray]); (try simp only [List.set_cons_zero, List.set_cons_succ])
          have D := D32
          have OA := hown1
          clear hK K D32 hown1 hgrow1 hoA KE zE
          refine wpAnyH_ready (rs := [5]) (by kernel_rfl) (by simp) ?_
          refine AllReadyH.cons rfl (fun K hK => ?_) AllReadyH.nil
          refine step_appRt 22 38 Tryd.underlying22 infoRef8 _ (by rfl) _ _ (by rfl) W1.heap.size _ l (by rfl) OA _ _ [mo] (by rfl) (isRs_one mo (by rw [HMo.out]; exact KM)) HB2.out D.size ?_
          intro v2 Y33 hoB hown2 hgrow2
          have D33 := D.grown hgrow2 D.size (fun j hj => (hoB.blk j hj).1)
          obtain ⟨a2, c2, ev2, IB⟩ := hown2.isRs
          rw [HLe.out] at ev2 IB
          subst ev2
          have KX := Blk.keptR hgrow2 hoB (by decide) KX
          refine hK.out _ _ (HKP.out _ D33) (fun hHeld => ?_)
          (try simp only [Act.put]); (try simp only [List.setIfInBounds_toArray]); (try simp only [List.set_cons_zero, List.set_cons_succ])
          have D := D33
          clear hK K D33 hown2 hgrow2 hoB KM zM OA
          refine wpAnyH_ready (rs := [10]) (by kernel_rfl) (by simp) ?_
          refine AllReadyH.cons rfl (fun K hK => ?_) AllReadyH.nil
          go_simp
          refine (HLi.out _ _ _ _ IB KX).mono ?_
          rintro e Y34 ⟨rfl, t3⟩
          have D34 := D.trans (t3.mono D.size)
          refine hK.out _ _ (HKP.out _ D34) (fun hHeld => ?_)
          (try simp only [Act.put]); (try simp only [List.setIfInBounds_toArray]); (try simp only [List.set_cons_zero, List.set_cons_succ])
          have D := D34
          clear hK K D34 t3 IB KX
          cases lb with
          | true =>
            refine takeH (some 38) (i := 11) (v := ?_) rfl (by kernel_rfl) (by kernel_rfl) (by kernel_rfl) (fun _ _ _ h => h) (Or.inl ⟨by rfl, ?_⟩) hHeld rfl ?_
            rotate_left
            · intro w hSw; obtain ⟨hS0, hS1, hS2, hS3, hS4⟩ := hSw; go_simp; with_reducible rfl
            (try simp only [Act.put]); (try simp only [List.setIfInBounds_toArray]); (try simp only [List.set_cons_zero, List.set_cons_succ])
            refine takeH (some 39) (i := 12) (v := ?_) rfl (by kernel_rfl) (by kernel_rfl) (by kernel_rfl) (fun _ _ _ h => h) (Or.inl ⟨by rfl, ?_⟩) hHeld rfl ?_
            rotate_left
            · intro w hSw; obtain ⟨hS0, hS1, hS2, hS3, hS4⟩ := hSw; go_simp; with_reducible rfl
            (try simp only [Act.put]); (try simp only [List.setIfInBounds_toArray]); (try simp only [List.set_cons_zero, List.set_cons_succ])
            by_cases hn0 : l.length = 0
            · have hn1 : ((l.length : Int) == 0) = true := by rw [beq_iff_eq]; omega
              have hn2 : (l.length : Int) = 0 := by omega
              have HBV : Hid (bt = true) := by unfold Hid; rw [HBT.out, decide_eq_true hn0]; rfl
              clear hn0
              refine takeH (some 40) (i := 13) (v := ?_) rfl (by kernel_rfl) (by kernel_rfl) (by kernel_rfl) (fun _ _ _ h => h) (Or.inl ⟨by rfl, ?_⟩) hHeld rfl ?_
              rotate_left
              · intro w hSw; obtain ⟨hS0, hS1, hS2, hS3, hS4⟩ := hSw; go_simp; with_reducible rfl
              (try simp only [Act.put]); (try simp only [List.setIfInBounds_toArray]); (try simp only [List.set_cons_zero, List.set_cons_succ])
              refine takeH (some 41) (i := 14) (v := ?_) rfl (by kernel_rfl) (by kernel_rfl) (by kernel_rfl) (fun _ _ _ h => h) (Or.inl ⟨by rfl, ?_⟩) hHeld rfl ?_
              rotate_left
              · intro w hSw; obtain ⟨hS0, hS1, hS2, hS3, hS4⟩ := hSw; go_simp; with_reducible rfl
              (try simp only [Act.put]); (try simp only [List.setIfInBounds_toArray]); (try simp only [List.set_cons_zero, List.set_cons_succ])
              refine takeH (some 42) (i := 15) (v := ?_) rfl (by kernel_rfl) (by kernel_rfl) (by kernel_rfl) (fun _ _ _ h => h) (Or.inl ⟨by rfl, ?_⟩) hHeld rfl ?_
              rotate_left
              · intro w hSw; obtain ⟨hS0, hS1, hS2, hS3, hS4⟩ := hSw; go_simp; with_reducible rfl
              (try simp only [Act.put]); (try simp only [List.setIfInBounds_toArray]); (try simp only [List.set_cons_zero, List.set_cons_succ])
              refine takeH (some 43) (i := 16) (v := ?_) rfl (by kernel_rfl) (by kernel_rfl) (by kernel_rfl) (fun _ _ _ h => h) (Or.inl ⟨by rfl, ?_⟩) hHeld rfl ?_
              rotate_left
              · intro w hSw; obtain ⟨hS0, hS1, hS2, hS3, hS4⟩ := hSw; go_simp; with_reducible rfl
              (try simp only [Act.put]); (try simp only [List.setIfInBounds_toArray]); (try simp only [List.set_cons_zero, List.set_cons_succ])
              refine wpAnyH_done (by kernel_rfl) ?_ _
              refine NoPanic.normal ?_
              go_wp2_with fail
              go_meet
              case rel => exact ⟨by rw [HBV.out], D⟩
            · have hn1 : ((l.length : Int) == 0) = false := by rw [beq_eq_false_iff_ne]; omega
              have hn2 : ¬ (l.length : Int) = 0 := by omega
              have HBV : Hid (bt = false) := by unfold Hid; rw [HBT.out, decide_eq_false hn0]; rfl
              clear hn0
              refine takeH (some 40) (i := 13) (v := ?_) rfl (by kernel_rfl) (by kernel_rfl) (by kernel_rfl) (fun _ _ _ h => h) (Or.inl ⟨by rfl, ?_⟩) hHeld rfl ?_
              rotate_left
              · intro w hSw; obtain ⟨hS0, hS1, hS2, hS3, hS4⟩ := hSw; go_simp; with_reducible rfl
              (try simp only [Act.put]); (try simp only [List.setIfInBounds_toArray]); (try simp only [List.set_cons_zero, List.set_cons_succ])
              refine takeH (some 41) (i := 14) (v := ?_) rfl (by kernel_rfl) (by kernel_rfl) (by kernel_rfl) (fun _ _ _ h => h) (Or.inl ⟨by rfl, ?_⟩) hHeld rfl ?_
              rotate_left
              · intro w hSw; obtain ⟨hS0, hS1, hS2, hS3, hS4⟩ := hSw; go_simp; with_reducible rfl
              (try simp only [Act.put]); (try simp only [List.setIfInBounds_toArray]); (try simp only [List.set_cons_zero, List.set_cons_succ])
              refine takeH (some 42) (i := 15) (v := ?_) rfl (by kernel_rfl) (by kernel_rfl) (by kernel_rfl) (fun _ _ _ h => h) (Or.inl ⟨by rfl, ?_⟩) hHeld rfl ?_
              rotate_left
              · intro w hSw; obtain ⟨hS0, hS1, hS2, hS3, hS4⟩ := hSw; go_simp; with_reducible rfl
              (try simp only [Act.put]); (try simp only [List.setIfInBounds_toArray]); (try simp only [List.set_cons_zero, List.set_cons_succ])
              refine takeH (some 43) (i := 16) (v := ?_) rfl (by kernel_rfl) (by kernel_rfl) (by kernel_rfl) (fun _ _ _ h => h) (Or.inl ⟨by rfl, ?_⟩) hHeld rfl ?_
              rotate_left
              · intro w hSw; obtain ⟨hS0, hS1, hS2, hS3, hS4⟩ := hSw; go_simp; with_reducible rfl
              (try simp only [Act.put]); (try simp only [List.setIfInBounds_toArray]); (try simp only [List.set_cons_zero, List.set_cons_succ])
              refine wpAnyH_done (by kernel_rfl) ?_ _
              refine NoPanic.normal ?_
              go_wp2_with fail
              go_meet
              case rel => exact ⟨by rw [HBV.out], D⟩
          | false =>
            have HBV : Hid (bt = true) := by unfold Hid; rw [HBT.out]; rfl
            refine takeH (some 38) (i := 11) (v := ?_) rfl (by kernel_rfl) (by kernel_rfl) (by kernel_rfl) (fun _ _ _ h => h) (Or.inl ⟨by rfl, ?_⟩) hHeld rfl ?_
            rotate_left
            · intro w hSw; obtain ⟨hS0, hS1, hS2, hS3, hS4⟩ := hSw; go_simp; with_reducible rfl
            (try simp only [Act.put]); (try simp only [List.setIfInBounds_toArray]); (try simp only [List.set_cons_zero, List.set_cons_succ])
            refine takeH (some 39) (i := 12) (v := ?_) rfl (by kernel_rfl) (by kernel_rfl) (by kernel_rfl) (fun _ _ _ h => h) (Or.inl ⟨by rfl, ?_⟩) hHeld rfl ?_
            rotate_left
            · intro w hSw; obtain ⟨hS0, hS1, hS2, hS3, hS4⟩ := hSw; go_simp; with_reducible rfl
            (try simp only [Act.put]); (try simp only [List.setIfInBounds_toArray]); (try simp only [List.set_cons_zero, List.set_cons_succ])
            refine takeH (some 40) (i := 13) (v := undef) rfl (by kernel_rfl) (by kernel_rfl) (by kernel_rfl) (fun _ _ _ h => h) (Or.inr ⟨by rfl, rfl⟩) hHeld rfl ?_
            (try simp only [Act.put]); (try simp only [List.setIfInBounds_toArray]); (try simp only [List.set_cons_zero, List.set_cons_succ])
            refine takeH (some 41) (i := 14) (v := undef) rfl (by kernel_rfl) (by kernel_rfl) (by kernel_rfl) (fun _ _ _ h => h) (Or.inr ⟨by rfl, rfl⟩) hHeld rfl ?_
            (try simp only [Act.put]); (try simp only [List.setIfInBounds_toArray]); (try simp only [List.set_cons_zero, List.set_cons_succ])
            refine takeH (some 42) (i := 15) (v := undef) rfl (by kernel_rfl) (by kernel_rfl) (by kernel_rfl) (fun _ _ _ h => h) (Or.inr ⟨by rfl, rfl⟩) hHeld rfl ?_
            (try simp only [Act.put]); (try simp only [List.setIfInBounds_toArray]); (try simp only [List.set_cons_zero, List.set_cons_succ])
            refine takeH (some 43) (i := 16) (v := ?_) rfl (by kernel_rfl) (by kernel_rfl) (by kernel_rfl) (fun _ _ _ h => h) (Or.inl ⟨by rfl, ?_⟩) hHeld rfl ?_
            rotate_left
            · intro w hSw; obtain ⟨hS0, hS1, hS2, hS3, hS4⟩ := hSw; go_simp; with_reducible rfl
            (try simp only [Act.put]); (try simp only [List.setIfInBounds_toArray]); (try simp only [List.set_cons_zero, List.set_cons_succ])
            refine wpAnyH_done (by kernel_rfl) ?_ _
            refine NoPanic.normal ?_
            go_wp2_with fail
            go_meet
            case rel => exact ⟨by rw [HBV.out], D⟩
    · skip
      go_simp
      have D35 := D.alloc D.size (.cells #[.bool mo.deny, .string e1, .string e2, .string e3] 38)
      have KM35 : Blk (V0.alloc (.cells #[.bool mo.deny, .string e1, .string e2, .string e3] 38)) V0.heap.size 38 [.bool mo.deny, .string e1, .string e2, .string e3] := Blk.newAt V0 _ _ _ _ rfl rfl
      have Z35 : W1.heap.size ≤ V0.heap.size := D.size
      refine hK.out _ _ (HKP.out _ D35) (fun hHeld => ?_)
      (try simp only [Act.put]); (try simp only [List.setIfInBounds_toArray]); (try simp only [List.set_cons_zero, List.set_cons_succ])
      clear hK K
      clear D
      obtain ⟨bM, hb35⟩ : ∃ b, b = V0.heap.size := ⟨_, rfl⟩
      rw [← hb35]
      rw [← hb35] at KM35 Z35
      generalize V0.alloc (.cells #[.bool mo.deny, .string e1, .string e2, .string e3] 38) = Y35 at *
      clear hb35
      have D := D35
      have KM := KM35
      have zM := Z35
      clear D35 KM35 Z35
      refine wpAnyH_ready (rs := [0, 9]) (by kernel_rfl) (by simp) ?_
      refine AllReadyH.cons rfl (fun K hK => ?_) (AllReadyH.cons rfl (fun K hK => ?_) AllReadyH.nil)
      · skip
        go_simp
        have D36 := D.alloc D.size (.cells #[] 38)
        have KE36 : Blk (Y35.alloc (.cells #[] 38)) Y35.heap.size 38 [] := Blk.newAt Y35 _ _ _ _ rfl rfl
        have Z36 : W1.heap.size ≤ Y35.heap.size := D.size
        have qM36 := KM.alloc (.cells #[] 38)
        have lM36 : bM < Y35.heap.size := KM.lt
        refine hK.out _ _ (HKP.out _ D36) (fun hHeld => ?_)
        (try simp only [Act.put]); (try simp only [List.setIfInBounds_toArray]); (try simp only [List.set_cons_zero, List.set_cons_succ])
        clear hK K
        clear KM
        clear D
        obtain ⟨bE, hb36⟩ : ∃ b, b = Y35.heap.size := ⟨_, rfl⟩
        rw [← hb36]
        rw [← hb36] at KE36 Z36
        rw [← hb36] at lM36
        generalize Y35.alloc (.cells #[] 38) = Y36 at *
        clear hb36
        have D := D36
        have KE := KE36
        have zE := Z36
        have KM := qM36
        have nEM : bM ≠ bE := Nat.ne_of_lt lM36
        clear D36 KE36 Z36
        clear qM36
        refine wpAnyH_ready (rs := [2, 9]) (by kernel_rfl) (by simp) ?_
        refine AllReadyH.cons rfl (fun K hK => ?_) (AllReadyH.cons rfl (fun K hK => ?_) AllReadyH.nil)
        · skip
          refine step_appRt 22 38 Tryd.underlying22 infoRef8 _ (by rfl) _ _ (by rfl) W1.heap.size _ [] (by rfl) (OwnR.emptyAt KE zE) a cap l (by rfl) (HRl.out _ (bel2 HT1.out D)) HB1.out D.size ?_
          intro v1 Y37 hoA hown1 hgrow1
          rw [List.nil_append] at hown1
          have D37 := D.grown hgrow1 D.size (fun j hj => (hoA.blk j hj).1)
          have KM := Blk.keptI hgrow1 nEM KM
          refine hK.out _ _ (HKP.out _ D37) (fun hHeld => ?_)
          (try simp only [Act.put]); (try simp only [List.setIfInBounds_toArray]); (try simp only [List.set_cons_zero, List.set_cons_succ])
          have D := D37
          have OA := hown1
          clear hK K D37 hown1 hgrow1 hoA KE zE
          refine wpAnyH_ready (rs := [5, 9]) (by kernel_rfl) (by simp) ?_
          refine AllReadyH.cons rfl (fun K hK => ?_) (AllReadyH.cons rfl (fun K hK => ?_) AllReadyH.nil)
          · skip
            refine step_appRt 22 38 Tryd.underlying22 infoRef8 _ (by rfl) _ _ (by rfl) W1.heap.size _ l (by rfl) OA _ _ [mo] (by rfl) (isRs_one mo (by rw [HMo.out]; exact KM)) HB2.out D.size ?_
            intro v2 Y38 hoB hown2 hgrow2
            have D38 := D.grown hgrow2 D.size (fun j hj => (hoB.blk j hj).1)
            obtain ⟨a2, c2, ev2, IB⟩ := hown2.isRs
            rw [HLe.out] at ev2 IB
            subst ev2
            refine hK.out _ _ (HKP.out _ D38) (fun hHeld => ?_)
            (try simp only [Act.put]); (try simp only [List.setIfInBounds_toArray]); (try simp only [List.set_cons_zero, List.set_cons_succ])
            have D := D38
            clear hK K D38 hown2 hgrow2 hoB KM zM OA
            refine wpAnyH_ready (rs := [9]) (by kernel_rfl) (by simp) ?_
            refine AllReadyH.cons rfl (fun K hK => ?_) AllReadyH.nil
            go_simp
            have D39 := D.alloc D.size (.cells #[.string sp, .string sq, .string ss] 9)
            have KX39 : Blk (Y38.alloc (.cells #[.string sp, .string sq, .string ss] 9)) Y38.heap.size 9 [.string sp, .string sq, .string ss] := Blk.newAt Y38 _ _ _ _ rfl rfl
            have Z39 : W1.heap.size ≤ Y38.heap.size := D.size
            have qIB39 := IB.alloc1 (.cells #[.string sp, .string sq, .string ss] 9)
            refine hK.out _ _ (HKP.out _ D39) (fun hHeld => ?_)
            (try simp only [Act.put]); (try simp only [List.setIfInBounds_toArray]); (try simp only [List.set_cons_zero, List.set_cons_succ])
            clear hK K
            clear IB
            clear D
            obtain ⟨bX, hb39⟩ : ∃ b, b = Y38.heap.size := ⟨_, rfl⟩
            rw [← hb39]
            rw [← hb39] at KX39 Z39
            generalize Y38.alloc (.cells #[.string sp, .string sq, .string ss] 9) = Y39 at *
            clear hb39
            have D := D39
            have KX := KX39
            have zX := Z39
            have IB := qIB39
            clear D39 KX39 Z39
            clear qIB39
            refine wpAnyH_ready (rs := [10]) (by kernel_rfl) (by simp) ?_
            refine AllReadyH.cons rfl (fun K hK => ?_) AllReadyH.nil
            go_simp
            refine (HLi.out _ _ _ _ IB KX).mono ?_
            rintro e Y40 ⟨rfl, t3⟩
            have D40 := D.trans (t3.mono D.size)
            refine hK.out _ _ (HKP.out _ D40) (fun hHeld => ?_)
            (try simp only [Act.put]); (try simp only [List.setIfInBounds_toArray]); (try simp only [List.set_cons_zero, List.set_cons_succ])
            have D := D40
            clear hK K D40 t3 IB KX
            cases lb with
            | true =>
              refine takeH (some 38) (i := 11) (v := ?_) rfl (by kernel_rfl) (by kernel_rfl) (by kernel_rfl) (fun _ _ _ h => h) (Or.inl ⟨by rfl, ?_⟩) hHeld rfl ?_
              rotate_left
              · intro w hSw; obtain ⟨hS0, hS1, hS2, hS3, hS4⟩ := hSw; go_simp; with_reducible rfl
              (try simp only [Act.put]); (try simp only [List.setIfInBounds_toArray]); (try simp only [List.set_cons_zero, List.set_cons_succ])
              refine takeH (some 39) (i := 12) (v := ?_) rfl (by kernel_rfl) (by kernel_rfl) (by kernel_rfl) (fun _ _ _ h => h) (Or.inl ⟨by rfl, ?_⟩) hHeld rfl ?_
              rotate_left
              · intro w hSw; obtain ⟨hS0, hS1, hS2, hS3, hS4⟩ := hSw; go_simp; with_reducible rfl
              (try simp only [Act.put]); (try simp only [List.setIfInBounds_toArray]); (try simp only [List.set_cons_zero, List.set_cons_succ])
              by_cases hn0 : l.length = 0
              · have hn1 : ((l.length : Int) == 0) = true := by rw [beq_iff_eq]; omega
                have hn2 : (l.length : Int) = 0 := by omega
                have HBV : Hid (bt = true) := by unfold Hid; rw [HBT.out, decide_eq_true hn0]; rfl
                clear hn0
                refine takeH (some 40) (i := 13) (v := ?_) rfl (by kernel_rfl) (by kernel_rfl) (by kernel_rfl) (fun _ _ _ h => h) (Or.inl ⟨by rfl, ?_⟩) hHeld rfl ?_
                rotate_left
                · intro w hSw; obtain ⟨hS0, hS1, hS2, hS3, hS4⟩ := hSw; go_simp; with_reducible rfl
                (try simp only [Act.put]); (try simp only [List.setIfInBounds_toArray]); (try simp only [List.set_cons_zero, List.set_cons_succ])
                refine takeH (some 41) (i := 14) (v := ?_) rfl (by kernel_rfl) (by kernel_rfl) (by kernel_rfl) (fun _ _ _ h => h) (Or.inl ⟨by rfl, ?_⟩) hHeld rfl ?_
                rotate_left
                · intro w hSw; obtain ⟨hS0, hS1, hS2, hS3, hS4⟩ := hSw; go_simp; with_reducible rfl
                (try simp only [Act.put]); (try simp only [List.setIfInBounds_toArray]); (try simp only [List.set_cons_zero, List.set_cons_succ])
                refine takeH (some 42) (i := 15) (v := ?_) rfl (by kernel_rfl) (by kernel_rfl) (by kernel_rfl) (fun _ _ _ h => h) (Or.inl ⟨by rfl, ?_⟩) hHeld rfl ?_
                rotate_left
                · intro w hSw; obtain ⟨hS0, hS1, hS2, hS3, hS4⟩ := hSw; go_simp; with_reducible rfl
                (try simp only [Act.put]); (try simp only [List.setIfInBounds_toArray]); (try simp only [List.set_cons_zero, List.set_cons_succ])
                refine takeH (some 43) (i := 16) (v := ?_) rfl (by kernel_rfl) (by kernel_rfl) (by kernel_rfl) (fun _ _ _ h => h) (Or.inl ⟨by rfl, ?_⟩) hHeld rfl ?_
                rotate_left
                · intro w hSw; obtain ⟨hS0, hS1, hS2, hS3, hS4⟩ := hSw; go_simp; with_reducible rfl
                (try simp only [Act.put]); (try simp only [List.setIfInBounds_toArray]); (try simp only [List.set_cons_zero, List.set_cons_succ])
                refine wpAnyH_done (by kernel_rfl) ?_ _
                refine NoPanic.normal ?_
                go_wp2_with fail
                go_meet
                case rel => exact ⟨by rw [HBV.out], D⟩
              · have hn1 : ((l.length : Int) == 0) = false := by rw [beq_eq_false_iff_ne]; omega
                have hn2 : ¬ (l.length : Int) = 0 := by omega
                have HBV : Hid (bt = false) := by unfold Hid; rw [HBT.out, decide_eq_false hn0]; rfl
                clear hn0
                refine takeH (some 40) (i := 13) (v := ?_) rfl (by kernel_rfl) (by kernel_rfl) (by kernel_rfl) (fun _ _ _ h => h) (Or.inl ⟨by rfl, ?_⟩) hHeld rfl ?_
                rotate_left
                · intro w hSw; obtain ⟨hS0, hS1, hS2, hS3, hS4⟩ := hSw; go_simp; with_reducible rfl
                (try simp only [Act.put]); (try simp only [List.setIfInBounds_toArray]); (try simp only [List.set_cons_zero, List.set_cons_succ])
                refine takeH (some 41) (i := 14) (v := ?_) rfl (by kernel_rfl) (by kernel_rfl) (by kernel_rfl) (fun _ _ _ h => h) (Or.inl ⟨by rfl, ?_⟩) hHeld rfl ?_
                rotate_left
                · intro w hSw; obtain ⟨hS0, hS1, hS2, hS3, hS4⟩ := hSw; go_simp; with_reducible rfl
                (try simp only [Act.put]); (try simp only [List.setIfInBounds_toArray]); (try simp only [List.set_cons_zero, List.set_cons_succ])
                refine takeH (some 42) (i := 15) (v := ?_) rfl (by kernel_rfl) (by kernel_rfl) (by kernel_rfl) (fun _ _ _ h => h) (Or.inl ⟨by rfl, ?_⟩) hHeld rfl ?_
                rotate_left
                · intro w hSw; obtain ⟨hS0, hS1, hS2, hS3, hS4⟩ := hSw; go_simp; with_reducible rfl
                (try simp only [Act.put]); (try simp only [List.setIfInBounds_toArray]); (try simp only [List.set_cons_zero, List.set_cons_succ])
                refine takeH (some 43) (i := 16) (v := ?_) rfl (by kernel_rfl) (by kernel_rfl) (by kernel_rfl) (fun _ _ _ h => h) (Or.inl ⟨by rfl, ?_⟩) hHeld rfl ?_
                rotate_left
                · intro w hSw; obtain ⟨hS0, hS1, hS2, hS3, hS4⟩ := hSw; go_simp; with_reducible rfl
                (try simp only [Act.put]); (try simp only [List.setIfInBounds_toArray]); (try simp only [List.set_cons_zero, List.set_cons_succ])
                refine wpAnyH_done (by kernel_rfl) ?_ _
                refine NoPanic.normal ?_
                go_wp2_with fail
                go_meet
                case rel => exact ⟨by rw [HBV.out], D⟩
            | false =>
              have HBV : Hid (bt = true) := by unfold Hid; rw [HBT.out]; rfl
              refine takeH (some 38) (i := 11) (v := ?_) rfl (by kernel_rfl) (by kernel_rfl) (by kernel_rfl) (fun _ _ _ h => h) (Or.inl ⟨by rfl, ?_⟩) hHeld rfl ?_
              rotate_left
              · intro w hSw; obtain ⟨hS0, hS1, hS2, hS3, hS4⟩ := hSw; go_simp; with_reducible rfl
              (try simp only [Act.put]); (try simp only [List.setIfInBounds_toArray]); (try simp only [List.set_cons_zero, List.set_cons_succ])
              refine takeH (some 39) (i := 12) (v := ?_) rfl (by kernel_rfl) (by kernel_rfl) (by kernel_rfl) (fun _ _ _ h => h) (Or.inl ⟨by rfl, ?_⟩) hHeld rfl ?_
              rotate_left
              · intro w hSw; obtain ⟨hS0, hS1, hS2, hS3, hS4⟩ := hSw; go_simp; with_reducible rfl
              (try simp only [Act.put]); (try simp only [List.setIfInBounds_toArray]); (try simp only [List.set_cons_zero, List.set_cons_succ])
              refine takeH (some 40) (i := 13) (v := undef) rfl (by kernel_rfl) (by kernel_rfl) (by kernel_rfl) (fun _ _ _ h => h) (Or.inr ⟨by rfl, rfl⟩) hHeld rfl ?_
              (try simp only [Act.put]); (try simp only [List.setIfInBounds_toArray]); (try simp only [List.set_cons_zero, List.set_cons_succ])
              refine takeH (some 41) (i := 14) (v := undef) rfl (by kernel_rfl) (by kernel_rfl) (by kernel_rfl) (fun _ _ _ h => h) (Or.inr ⟨by rfl, rfl⟩) hHeld rfl ?_
              (try simp only [Act.put]); (try simp only [List.setIfInBounds_toArray]); (try simp only [List.set_cons_zero, List.set_cons_succ])
              refine takeH (some 42) (i := 15) (v := undef) rfl (by kernel_rfl) (by kernel_rfl) (by kernel_rfl) (fun _ _ _ h => h) (Or.inr ⟨by rfl, rfl⟩) hHeld rfl ?_
              (try simp only [Act.put]); (try simp only [List.setIfInBounds_toArray]); (try simp only [List.set_cons_zero, List.set_cons_succ])
              refine takeH (some 43) (i := 16) (v := ?_) rfl (by kernel_rfl) (by kernel_rfl) (by kernel_rfl) (fun _ _ _ h => h) (Or.inl ⟨by rfl, ?_⟩) hHeld rfl ?_
              rotate_left
              · intro w hSw; obtain ⟨hS0, hS1, hS2, hS3, hS4⟩ := hSw; go_simp; with_reducible rfl
              (try simp only [Act.put]); (try simp only [List.setIfInBounds_toArray]); (try simp only [List.set_cons_zero, List.set_cons_succ])
              refine wpAnyH_done (by kernel_rfl) ?_ _
              refine NoPanic.normal ?_
              go_wp2_with fail
              go_meet
              case rel => exact ⟨by rw [HBV.out], D⟩
          · skip
            go_simp
            have D41 := D.alloc D.size (.cells #[.string sp, .string sq, .string ss] 9)
            have KX41 : Blk (Y37.alloc (.cells #[.string sp, .string sq, .string ss] 9)) Y37.heap.size 9 [.string sp, .string sq, .string ss] := Blk.newAt Y37 _ _ _ _ rfl rfl
            have Z41 : W1.heap.size ≤ Y37.heap.size := D.size
            have qM41 := KM.alloc (.cells #[.string sp, .string sq, .string ss] 9)
            have lM41 : bM < Y37.heap.size := KM.lt
            have qOA41 := OA.alloc (.cells #[.string sp, .string sq, .string ss] 9)
            refine hK.out _ _ (HKP.out _ D41) (fun hHeld => ?_)
            (try simp only [Act.put]); (try simp only [List.setIfInBounds_toArray]); (try simp only [List.set_cons_zero, List.set_cons_succ])
            clear hK K
            clear KM
            clear OA
            clear D
            obtain ⟨bX, hb41⟩ : ∃ b, b = Y37.heap.size := ⟨_, rfl⟩
            rw [← hb41]
            rw [← hb41] at KX41 Z41
            rw [← hb41] at lM41
            generalize Y37.alloc (.cells #[.string sp, .string sq, .string ss] 9) = Y41 at *
            clear hb41
            have D := D41
            have KX := KX41
            have zX := Z41
            have KM := qM41
            have OA := qOA41
            clear D41 KX41 Z41
            clear qM41
            clear qOA41
            refine wpAnyH_ready (rs := [5]) (by kernel_rfl) (by simp) ?_
            refine AllReadyH.cons rfl (fun K hK => ?_) AllReadyH.nil
            refine step_appRt 22 38 Tryd.underlying22 infoRef8 _ (by rfl) _ _ (by rfl) W1.heap.size _ l (by rfl) OA _ _ [mo] (by rfl) (isRs_one mo (by rw [HMo.out]; exact KM)) HB2.out D.size ?_
            intro v2 Y42 hoB hown2 hgrow2
            have D42 := D.grown hgrow2 D.size (fun j hj => (hoB.blk j hj).1)
            obtain ⟨a2, c2, ev2, IB⟩ := hown2.isRs
            rw [HLe.out] at ev2 IB
            subst ev2
            have KX := Blk.keptR hgrow2 hoB (by decide) KX
            refine hK.out _ _ (HKP.out _ D42) (fun hHeld => ?_)
            (try simp only [Act.put]); (try simp only [List.setIfInBounds_toArray]); (try simp only [List.set_cons_zero, List.set_cons_succ])
            have D := D42
            clear hK K D42 hown2 hgrow2 hoB KM zM OA
            refine wpAnyH_ready (rs := [10]) (by kernel_rfl) (by simp) ?_
            refine AllReadyH.cons rfl (fun K hK => ?_) AllReadyH.nil
            go_simp
            refine (HLi.out _ _ _ _ IB KX).mono ?_
            rintro e Y43 ⟨rfl, t3⟩
            have D43 := D.trans (t3.mono D.size)
            refine hK.out _ _ (HKP.out _ D43) (fun hHeld => ?_)
            (try simp only [Act.put]); (try simp only [List.setIfInBounds_toArray]); (try simp only [List.set_cons_zero, List.set_cons_succ])
            have D := D43
            clear hK K D43 t3 IB KX
            cases lb with
            | true =>
              refine takeH (some 38) (i := 11) (v := ?_) rfl (by kernel_rfl) (by kernel_rfl) (by kernel_rfl) (fun _ _ _ h => h) (Or.inl ⟨by rfl, ?_⟩) hHeld rfl ?_
              rotate_left
              · intro w hSw; obtain ⟨hS0, hS1, hS2, hS3, hS4⟩ := hSw; go_simp; with_reducible rfl
              (try simp only [Act.put]); (try simp only [List.setIfInBounds_toArray]); (try simp only [List.set_cons_zero, List.set_cons_succ])
              refine takeH (some 39) (i := 12) (v := ?_) rfl (by kernel_rfl) (by kernel_rfl) (by kernel_rfl) (fun _ _ _ h => h) (Or.inl ⟨by rfl, ?_⟩) hHeld rfl ?_
              rotate_left
              · intro w hSw; obtain ⟨hS0, hS1, hS2, hS3, hS4⟩ := hSw; go_simp; with_reducible rfl
              (try simp only [Act.put]); (try simp only [List.setIfInBounds_toArray]); (try simp only [List.set_cons_zero, List.set_cons_succ])
              by_cases hn0 : l.length = 0
              · have hn1 : ((l.length : Int) == 0) = true := by rw [beq_iff_eq]; omega
                have hn2 : (l.length : Int) = 0 := by omega
                have HBV : Hid (bt = true) := by unfold Hid; rw [HBT.out, decide_eq_true hn0]; rfl
                clear hn0
                refine takeH (some 40) (i := 13) (v := ?_) rfl (by kernel_rfl) (by kernel_rfl) (by kernel_rfl) (fun _ _ _ h => h) (Or.inl ⟨by rfl, ?_⟩) hHeld rfl ?_
                rotate_left
                · intro w hSw; obtain ⟨hS0, hS1, hS2, hS3, hS4⟩ := hSw; go_simp; with_reducible rfl
                (try simp only [Act.put]); (try simp only [List.setIfInBounds_toArray]); (try simp only [List.set_cons_zero, List.set_cons_succ])
                refine takeH (some 41) (i := 14) (v := ?_) rfl (by kernel_rfl) (by kernel_rfl) (by kernel_rfl) (fun _ _ _ h => h) (Or.inl ⟨by rfl, ?_⟩) hHeld rfl ?_
                rotate_left
                · intro w hSw; obtain ⟨hS0, hS1, hS2, hS3, hS4⟩ := hSw; go_simp; with_reducible rfl
                (try simp only [Act.put]); (try simp only [List.setIfInBounds_toArray]); (try simp only [List.set_cons_zero, List.set_cons_succ])
                refine takeH (some 42) (i := 15) (v := ?_) rfl (by kernel_rfl) (by kernel_rfl) (by kernel_rfl) (fun _ _ _ h => h) (Or.inl ⟨by rfl, ?_⟩) hHeld rfl ?_
                rotate_left
                · intro w hSw; obtain ⟨hS0, hS1, hS2, hS3, hS4⟩ := hSw; go_simp; with_reducible rfl
                (try simp only [Act.put]); (try simp only [List.setIfInBounds_toArray]); (try simp only [List.set_cons_zero, List.set_cons_succ])
                refine takeH (some 43) (i := 16) (v := ?_) rfl (by kernel_rfl) (by kernel_rfl) (by kernel_rfl) (fun _ _ _ h => h) (Or.inl ⟨by rfl, ?_⟩) hHeld rfl ?_
                rotate_left
                · intro w hSw; obtain ⟨hS0, hS1, hS2, hS3, hS4⟩ := hSw; go_simp; with_reducible rfl
                (try simp only [Act.put]); (try simp only [List.setIfInBounds_toArray]); (try simp only [List.set_cons_zero, List.set_cons_succ])
                refine wpAnyH_done (by kernel_rfl) ?_ _
                refine NoPanic.normal ?_
                go_wp2_with fail
                go_meet
                case rel => exact ⟨by rw [HBV.out], D⟩
              · have hn1 : ((l.length : Int) == 0) = false := by rw [beq_eq_false_iff_ne]; omega
                have hn2 : ¬ (l.length : Int) = 0 := by omega
                have HBV : Hid (bt = false) := by unfold Hid; rw [HBT.out, decide_eq_false hn0]; rfl
                clear hn0
                refine takeH (some 40) (i := 13) (v := ?_) rfl (by kernel_rfl) (by kernel_rfl) (by kernel_rfl) (fun _ _ _ h => h) (Or.inl ⟨by rfl, ?_⟩) hHeld rfl ?_
                rotate_left
                · intro w hSw; obtain ⟨hS0, hS1, hS2, hS3, hS4⟩ := hSw; go_simp; with_reducible rfl
                (try simp only [Act.put]); (try simp only [List.setIfInBounds_toArray]); (try simp only [List.set_cons_zero, List.set_cons_succ])
                refine takeH (some 41) (i := 14) (v := ?_) rfl (by kernel_rfl) (by kernel_rfl) (by kernel_rfl) (fun _ _ _ h => h) (Or.inl ⟨by rfl, ?_⟩) hHeld rfl ?_
                rotate_left
                · intro w hSw; obtain ⟨hS0, hS1, hS2, hS3, hS4⟩ := hSw; go_simp; with_reducible rfl
                (try simp only [Act.put]); (try simp only [List.setIfInBounds_toArray]); (try simp only [List.set_cons_zero, List.set_cons_succ])
                refine takeH (some 42) (i := 15) (v := ?_) rfl (by kernel_rfl) (by kernel_rfl) (by kernel_rfl) (fun _ _ _ h => h) (Or.inl ⟨by rfl, ?_⟩) hHeld rfl ?_
                rotate_left
                · intro w hSw; obtain ⟨hS0, hS1, hS2, hS3, hS4⟩ := hSw; go_simp; with_reducible rfl
                (try simp only [Act.put]); (try simp only [List.setIfInBounds_toArray]); (try simp only [List.set_cons_zero, List.set_cons_succ])
                refine takeH (some 43) (i := 16) (v := ?_) rfl (by kernel_rfl) (by kernel_rfl) (by kernel_rfl) (fun _ _ _ h => h) (Or.inl ⟨by rfl, ?_⟩) hHeld rfl ?_
                rotate_left
                · intro w hSw; obtain ⟨hS0, hS1, hS2, hS3, hS4⟩ := hSw; go_simp; with_reducible rfl
                (try simp only [Act.put]); (try simp only [List.setIfInBounds_toArray]); (try simp only [List.set_cons_zero, List.set_cons_succ])
                refine wpAnyH_done (by kernel_rfl) ?_ _
                refine NoPanic.normal ?_
                go_wp2_with fail
                go_meet
                case rel => exact ⟨by rw [HBV.out], D⟩
            | false =>
              have HBV : Hid (bt = true) := by unfold Hid; rw [HBT.out]; rfl
              refine takeH (some 38) (i := 11) (v := ?_) rfl (by kernel_rfl) (by kernel_rfl) (by kernel_rfl) (fun _ _ _ h => h) (Or.inl ⟨by rfl, ?_⟩) hHeld rfl ?_
              rotate_left
              · intro w hSw; obtain ⟨hS0, hS1, hS2, hS3, hS4⟩ := hSw; go_simp; with_reducible rfl
              (try simp only [Act.put]); (try simp only [List.setIfInBounds_toArray]); (try simp only [List.set_cons_zero, List.set_cons_succ])
              refine takeH (some 39) (i := 12) (v := ?_) rfl (by kernel_rfl) (by kernel_rfl) (by kernel_rfl) (fun _ _ _ h => h) (Or.inl ⟨by rfl, ?_⟩) hHeld rfl ?_
              rotate_left
              · intro w hSw; obtain ⟨hS0, hS1, hS2, hS3, hS4⟩ := hSw; go_simp; with_reducible rfl
              (try simp only [Act.put]); (try simp only [List.setIfInBounds_toArray]); (try simp only [List.set_cons_zero, List.set_cons_succ])
              refine takeH (some 40) (i := 13) (v := undef) rfl (by kernel_rfl) (by kernel_rfl) (by kernel_rfl) (fun _ _ _ h => h) (Or.inr ⟨by rfl, rfl⟩) hHeld rfl ?_
              (try simp only [Act.put]); (try simp only [List.setIfInBounds_toArray]); (try simp only [List.set_cons_zero, List.set_cons_succ])
              refine takeH (some 41) (i := 14) (v := undef) rfl (by kernel_rfl) (by kernel_rfl) (by kernel_rfl) (fun _ _ _ h => h) (Or.inr ⟨by rfl, rfl⟩) hHeld rfl ?_
              (try simp only [Act.put]); (try simp only [List.setIfInBounds_toArray]); (try simp only [List.set_cons_zero, List.set_cons_succ])
              refine takeH (some 42) (i := 15) (v := undef) rfl (by kernel_rfl) (by kernel_rfl) (by kernel_rfl) (fun _ _ _ h => h) (Or.inr ⟨by rfl, rfl⟩) hHeld rfl ?_
              (try simp only [Act.put]); (try simp only [List.setIfInBounds_toArray]); (try simp only [List.set_cons_zero, List.set_cons_succ])
              refine takeH (some 43) (i := 16) (v := ?_) rfl (by kernel_rfl) (by kernel_rfl) (by kernel_rfl) (fun _ _ _ h => h) (Or.inl ⟨by rfl, ?_⟩) hHeld rfl ?_
              rotate_left
              · intro w hSw; obtain ⟨hS0, hS1, hS2, hS3, hS4⟩ := hSw; go_simp; with_reducible rfl
              (try simp only [Act.put]); (try simp only [List.setIfInBounds_toArray]); (try simp only [List.set_cons_zero, List.set_cons_succ])
              refine wpAnyH_done (by kernel_rfl) ?_ _
              refine NoPanic.normal ?_
              go_wp2_with fail
              go_meet
              case rel => exact ⟨by rw [HBV.out], D⟩
        · skip
          go_simp
          have D44 := D.alloc D.size (.cells #[.string sp, .string sq, .string ss] 9)
          have KX44 : Blk (Y36.alloc (.cells #[.string sp, .string sq, .string ss] 9)) Y36.heap.size 9 [.string sp, .string sq, .string ss] := Blk.newAt Y36 _ _ _ _ rfl rfl
          have Z44 : W1.heap.size ≤ Y36.heap.size := D.size
          have qE44 := KE.alloc (.cells #[.string sp, .string sq, .string ss] 9)
          have lE44 : bE < Y36.heap.size := KE.lt
          have qM44 := KM.alloc (.cells #[.string sp, .string sq, .string ss] 9)
          have lM44 : bM < Y36.heap.size := KM.lt
          refine hK.out _ _ (HKP.out _ D44) (fun hHeld => ?_)
          (try simp only [Act.put]); (try simp only [List.setIfInBounds_toArray]); (try simp only [List.set_cons_zero, List.set_cons_succ])
          clear hK K
          clear KE
          clear KM
          clear D
          obtain ⟨bX, hb44⟩ : ∃ b, b = Y36.heap.size := ⟨_, rfl⟩
          rw [← hb44]
          rw [← hb44] at KX44 Z44
          rw [← hb44] at lE44
          rw [← hb44] at lM44
          generalize Y36.alloc (.cells #[.string sp, .string sq, .string ss] 9) = Y44 at *
          clear hb44
          have D := D44
          have KX := KX44
          have zX := Z44
          have KE := qE44
          have KM := qM44
          clear D44 KX44 Z44
          clear qE44
          clear qM44
          refine wpAnyH_ready (rs := [2]) (by kernel_rfl) (by simp) ?_
          refine AllReadyH.cons rfl (fun K hK => ?_) AllReadyH.nil
          refine step_appRt 22 38 Tryd.underlying22 infoRef8 _ (by rfl) _ _ (by rfl) W1.heap.size _ [] (by rfl) (OwnR.emptyAt KE zE) a cap l (by rfl) (HRl.out _ (bel2 HT1.out D)) HB1.out D.size ?_
          intro v1 Y45 hoA hown1 hgrow1
          rw [List.nil_append] at hown1
          have D45 := D.grown hgrow1 D.size (fun j hj => (hoA.blk j hj).1)
          have KM := Blk.keptI hgrow1 nEM KM
          have KX := Blk.keptR hgrow1 hoA (by decide) KX
          refine hK.out _ _ (HKP.out _ D45) (fun hHeld => ?_)
          (try simp only [Act.put]); (try simp only [List.setIfInBounds_toArray]); (try simp only [List.set_cons_zero, List.set_cons_succ])
          have D := D45
          have OA := hown1
          clear hK K D45 hown1 hgrow1 hoA KE zE
          refine wpAnyH_ready (rs := [5]) (by kernel_rfl) (by simp) ?_
          refine AllReadyH.cons rfl (fun K hK => ?_) AllReadyH.nil
          refine step_appRt 22 38 Tryd.underlying22 infoRef8 _ (by rfl) _ _ (by rfl) W1.heap.size _ l (by rfl) OA _ _ [mo] (by rfl) (isRs_one mo (by rw [HMo.out]; exact KM)) HB2.out D.size ?_
          intro v2 Y46 hoB hown2 hgrow2
          have D46 := D.grown hgrow2 D.size (fun j hj => (hoB.blk j hj).1)
          obtain ⟨a2, c2, ev2, IB⟩ := hown2.isRs
          rw [HLe.out] at ev2 IB
          subst ev2
          have KX := Blk.keptR hgrow2 hoB (by decide) KX
          refine hK.out _ _ (HKP.out _ D46) (fun hHeld => ?_)
          (try simp only [Act.put]); (try simp only [List.setIfInBounds_toArray]); (try simp only [List.set_cons_zero, List.set_cons_succ])
          have D := D46
          clear hK K D46 hown2 hgrow2 hoB KM zM OA
          refine wpAnyH_ready (rs := [10]) (by kernel_rfl) (by simp) ?_
          refine AllReadyH.cons rfl (fun K hK => ?_) AllReadyH.nil
          go_simp
          refine (HLi.out _ _ _ _ IB KX).mono ?_
          rintro e Y47 ⟨rfl, t3⟩
          have D47 := D.trans (t3.mono D.size)
          refine hK.out _ _ (HKP.out _ D47) (fun hHeld => ?_)
          (try simp only [Act.put]); (try simp only [List.setIfInBounds_toArray]); (try simp only [List.set_cons_zero, List.set_cons_succ])
          have D := D47
          clear hK K D47 t3 IB KX
          cases lb with
          | true =>
            refine takeH (some 38) (i := 11) (v := ?_) rfl (by kernel_rfl) (by kernel_rfl) (by kernel_rfl) (fun _ _ _ h => h) (Or.inl ⟨by rfl, ?_⟩) hHeld rfl ?_
            rotate_left
            · intro w hSw; obtain ⟨hS0, hS1, hS2, hS3, hS4⟩ := hSw; go_simp; with_reducible rfl
            (try simp only [Act.put]); (try simp only [List.setIfInBounds_toArray]); (try simp only [List.set_cons_zero, List.set_cons_succ])
            refine takeH (some 39) (i := 12) (v := ?_) rfl (by kernel_rfl) (by kernel_rfl) (by kernel_rfl) (fun _ _ _ h => h) (Or.inl ⟨by rfl, ?_⟩) hHeld rfl ?_
            rotate_left
            · intro w hSw; obtain ⟨hS0, hS1, hS2, hS3, hS4⟩ := hSw; go_simp; with_reducible rfl
            (try simp only [Act.put]); (try simp only [List.setIfInBounds_toArray]); (try simp only [List.set_cons_zero, List.set_cons_succ])
            by_cases hn0 : l.length = 0
            · have hn1 : ((l.length : Int) == 0) = true := by rw [beq_iff_eq]; omega
              have hn2 : (l.length : Int) = 0 := by omega
              have HBV : Hid (bt = true) := by unfold Hid; rw [HBT.out, decide_eq_true hn0]; rfl
              clear hn0
              refine takeH (some 40) (i := 13) (v := ?_) rfl (by kernel_rfl) (by kernel_rfl) (by kernel_rfl) (fun _ _ _ h => h) (Or.inl ⟨by rfl, ?_⟩) hHeld rfl ?_
              rotate_left
              · intro w hSw; obtain ⟨hS0, hS1, hS2, hS3, hS4⟩ := hSw; go_simp; with_reducible rfl
              (try simp only [Act.put]); (try simp only [List.setIfInBounds_toArray]); (try simp only [List.set_cons_zero, List.set_cons_succ])
              refine takeH (some 41) (i := 14) (v := ?_) rfl (by kernel_rfl) (by kernel_rfl) (by kernel_rfl) (fun _ _ _ h => h) (Or.inl ⟨by rfl, ?_⟩) hHeld rfl ?_
              rotate_left
              · intro w hSw; obtain ⟨hS0, hS1, hS2, hS3, hS4⟩ := hSw; go_simp; with_reducible rfl
              (try simp only [Act.put]); (try simp only [List.setIfInBounds_toArray]); (try simp only [List.set_cons_zero, List.set_cons_succ])
              refine takeH (some 42) (i := 15) (v := ?_) rfl (by kernel_rfl) (by kernel_rfl) (by kernel_rfl) (fun _ _ _ h => h) (Or.inl ⟨by rfl, ?_⟩) hHeld rfl ?_
              rotate_left
              · intro w hSw; obtain ⟨hS0, hS1, hS2, hS3, hS4⟩ := hSw; go_simp; with_reducible rfl
              (try simp only [Act.put]); (try simp only [List.setIfInBounds_toArray]); (try simp only [List.set_cons_zero, List.set_cons_succ])
              refine takeH (some 43) (i := 16) (v := ?_) rfl (by kernel_rfl) (by kernel_rfl) (by kernel_rfl) (fun _ _ _ h => h) (Or.inl ⟨by rfl, ?_⟩) hHeld rfl ?_
              rotate_left
              · intro w hSw; obtain ⟨hS0, hS1, hS2, hS3, hS4⟩ := hSw; go_simp; with_reducible rfl
              (try simp only [Act.put]); (try simp only [List.setIfInBounds_toArray]); (try simp only [List.set_cons_zero, List.set_cons_succ])
              refine wpAnyH_done (by kernel_rfl) ?_ _
              refine NoPanic.normal ?_
              go_wp2_with fail
              go_meet
              case rel => exact ⟨by rw [HBV.out], D⟩
            · have hn1 : ((l.length : Int) == 0) = false := by rw [beq_eq_false_iff_ne]; omega
              have hn2 : ¬ (l.length : Int) = 0 := by omega
              have HBV : Hid (bt = false) := by unfold Hid; rw [HBT.out, decide_eq_false hn0]; rfl
              clear hn0
              refine takeH (some 40) (i := 13) (v := ?_) rfl (by kernel_rfl) (by kernel_rfl) (by kernel_rfl) (fun _ _ _ h => h) (Or.inl ⟨by rfl, ?_⟩) hHeld rfl ?_
              rotate_left
              · intro w hSw; obtain ⟨hS0, hS1, hS2, hS3, hS4⟩ := hSw; go_simp; with_reducible rfl
              (try simp only [Act.put]); (try simp only [List.setIfInBounds_toArray]); (try simp only [List.set_cons_zero, List.set_cons_succ])
              refine takeH (some 41) (i := 14) (v := ?_) rfl (by kernel_rfl) (by kernel_rfl) (by kernel_rfl) (fun _ _ _ h => h) (Or.inl ⟨by rfl, ?_⟩) hHeld rfl ?_
              rotate_left
              · intro w hSw; obtain ⟨hS0, hS1, hS2, hS3, hS4⟩ := hSw; go_simp; with_reducible rfl
              (try simp only [Act.put]); (try simp only [List.setIfInBounds_toArray]); (try simp only [List.set_cons_zero, List.set_cons_succ])
              refine takeH (some 42) (i := 15) (v := ?_) rfl (by kernel_rfl) (by kernel_rfl) (by kernel_rfl) (fun _ _ _ h => h) (Or.inl ⟨by rfl, ?_⟩) hHeld rfl ?_
              rotate_left
              · intro w hSw; obtain ⟨hS0, hS1, hS2, hS3, hS4⟩ := hSw; go_simp; with_reducible rfl
              (try simp only [Act.put]); (try simp only [List.setIfInBounds_toArray]); (try simp only [List.set_cons_zero, List.set_cons_succ])
              refine takeH (some 43) (i := 16) (v := ?_) rfl (by kernel_rfl) (by kernel_rfl) (by kernel_rfl) (fun _ _ _ h => h) (Or.inl ⟨by rfl, ?_⟩) hHeld rfl ?_
              rotate_left
              · intro w hSw; obtain ⟨hS0, hS1, hS2, hS3, hS4⟩ := hSw; go_simp; with_reducible rfl
              (try simp only [Act.put]); (try simp only [List.setIfInBounds_toArray]); (try simp only [List.set_cons_zero, List.set_cons_succ])
              refine wpAnyH_done (by kernel_rfl) ?_ _
              refine NoPanic.normal ?_
              go_wp2_with fail
              go_meet
              case rel => exact ⟨by rw [HBV.out], D⟩
          | false =>
            have HBV : Hid (bt = true) := by unfold Hid; rw [HBT.out]; rfl
            refine takeH (some 38) (i := 11) (v := ?_) rfl (by kernel_rfl) (by kernel_rfl) (by kernel_rfl) (fun _ _ _ h => h) (Or.inl ⟨by rfl, ?_⟩) hHeld rfl ?_
            rotate_left
            · intro w hSw; obtain ⟨hS0, hS1, hS2, hS3, hS4⟩ := hSw; go_simp; with_reducible rfl
            (try simp only [Act.put]); (try simp only [List.setIfInBounds_toArray]); (try simp only [List.set_cons_zero, List.set_cons_succ])
            refine takeH (some 39) (i := 12) (v := ?_) rfl (by kernel_rfl) (by kernel_rfl) (by kernel_rfl) (fun _ _ _ h => h) (Or.inl ⟨by rfl, ?_⟩) hHeld rfl ?_
            rotate_left
            · intro w hSw; obtain ⟨hS0, hS1, hS2, hS3, hS4⟩ := hSw; go_simp; with_reducible rfl
            (try simp only [Act.put]); (try simp only [List.setIfInBounds_toArray]); (try simp only [List.set_cons_zero, List.set_cons_succ])
            refine takeH (some 40) (i := 13) (v := undef) rfl (by kernel_rfl) (by kernel_rfl) (by kernel_rfl) (fun _ _ _ h => h) (Or.inr ⟨by rfl, rfl⟩) hHeld rfl ?_
            (try simp only [Act.put]); (try simp only [List.setIfInBounds_toArray]); (try simp only [List.set_cons_zero, List.set_cons_succ])
            refine takeH (some 41) (i := 14) (v := undef) rfl (by kernel_rfl) (by kernel_rfl) (by kernel_rfl) (fun _ _ _ h => h) (Or.inr ⟨by rfl, rfl⟩) hHeld rfl ?_
            (try simp only [Act.put]); (try simp only [List.setIfInBounds_toArray]); (try simp only [List.set_cons_zero, List.set_cons_succ])
            refine takeH (some 42) (i := 15) (v := undef) rfl (by kernel_rfl) (by kernel_rfl) (by kernel_rfl) (fun _ _ _ h => h) (Or.inr ⟨by rfl, rfl⟩) hHeld rfl ?_
            (try simp only [Act.put]); (try simp only [List.setIfInBounds_toArray]); (try simp only [List.set_cons_zero, List.set_cons_succ])
            refine takeH (some 43) (i := 16) (v := ?_) rfl (by kernel_rfl) (by kernel_rfl) (by kernel_rfl) (fun _ _ _ h => h) (Or.inl ⟨by rfl, ?_⟩) hHeld rfl ?_
            rotate_left
            · intro w hSw; obtain ⟨hS0, hS1, hS2, hS3, hS4⟩ := hSw; go_simp; with_reducible rfl
            (try simp only [Act.put]); (try simp only [List.setIfInBounds_toArray]); (try simp only [List.set_cons_zero, List.set_cons_succ])
            refine wpAnyH_done (by kernel_rfl) ?_ _
            refine NoPanic.normal ?_
            go_wp2_with fail
            go_meet
            case rel => exact ⟨by rw [HBV.out], D⟩
      · skip
        go_simp
        have D48 := D.alloc D.size (.cells #[.string sp, .string sq, .string ss] 9)
        have KX48 : Blk (Y35.alloc (.cells #[.string sp, .string sq, .string ss] 9)) Y35.heap.size 9 [.string sp, .string sq, .string ss] := Blk.newAt Y35 _ _ _ _ rfl rfl
        have Z48 : W1.heap.size ≤ Y35.heap.size := D.size
        have qM48 := KM.alloc (.cells #[.string sp, .string sq, .string ss] 9)
        have lM48 : bM < Y35.heap.size := KM.lt
        refine hK.out _ _ (HKP.out _ D48) (fun hHeld => ?_)
        (try simp only [Act.put]); (try simp only [List.setIfInBounds_toArray]); (try simp only [List.set_cons_zero, List.set_cons_succ])
        clear hK K
        clear KM
        clear D
        obtain ⟨bX, hb48⟩ : ∃ b, b = Y35.heap.size := ⟨_, rfl⟩
        rw [← hb48]
        rw [← hb48] at KX48 Z48
        rw [← hb48] at lM48
        generalize Y35.alloc (.cells #[.string sp, .string sq, .string ss] 9) = Y48 at *
        clear hb48
        have D := D48
        have KX := KX48
        have zX := Z48
        have KM := qM48
        clear D48 KX48 Z48
        clear qM48
        refine wpAnyH_ready (rs := [0]) (by kernel_rfl) (by simp) ?_
        refine AllReadyH.cons rfl (fun K hK => ?_) AllReadyH.nil
        go_simp
        have D49 := D.alloc D.size (.cells #[] 38)
        have KE49 : Blk (Y48.alloc (.cells #[] 38)) Y48.heap.size 38 [] := Blk.newAt Y48 _ _ _ _ rfl rfl
        have Z49 : W1.heap.size ≤ Y48.heap.size := D.size
        have qM49 := KM.alloc (.cells #[] 38)
        have lM49 : bM < Y48.heap.size := KM.lt
        have qX49 := KX.alloc (.cells #[] 38)
        have lX49 : bX < Y48.heap.size := KX.lt
        refine hK.out _ _ (HKP.out _ D49) (fun hHeld => ?_)
        (try simp only [Act.put]); (try simp only [List.setIfInBounds_toArray]); (try simp only [List.set_cons_zero, List.set_cons_succ])
        clear hK K
        clear KM
        clear KX
        clear D
        obtain ⟨bE, hb49⟩ : ∃ b, b = Y48.heap.size := ⟨_, rfl⟩
        rw [← hb49]
        rw [← hb49] at KE49 Z49
        rw [← hb49] at lM49
        rw [← hb49] at lX49
        generalize Y48.alloc (.cells #[] 38) = Y49 at *
        clear hb49
        have D := D49
        have KE := KE49
        have zE := Z49
        have KM := qM49
        have KX := qX49
        have nEM : bM ≠ bE := Nat.ne_of_lt lM49
        clear D49 KE49 Z49
        clear qM49
        clear qX49
        refine wpAnyH_ready (rs := [2]) (by kernel_rfl) (by simp) ?_
        refine AllReadyH.cons rfl (fun K hK => ?_) AllReadyH.nil
        refine step_appRt 22 38 Tryd.underlying22 infoRef8 _ (by rfl) _ _ (by rfl) W1.heap.size _ [] (by rfl) (OwnR.emptyAt KE zE) a cap l (by rfl) (HRl.out _ (bel2 HT1.out D)) HB1.out D.size ?_
        intro v1 Y50 hoA hown1 hgrow1
        rw [List.nil_append] at hown1
        have D50 := D.grown hgrow1 D.size (fun j hj => (hoA.blk j hj).1)
        have KM := Blk.keptI hgrow1 nEM KM
        have KX := Blk.keptR hgrow1 hoA (by decide) KX
        refine hK.out _ _ (HKP.out _ D50) (fun hHeld => ?_)
        (try simp only [Act.put]); (try simp only [List.setIfInBounds_toArray]); (try simp only [List.set_cons_zero, List.set_cons_succ])
        have D := D50
        have OA := hown1
        clear hK K D50 hown1 hgrow1 hoA KE zE
        refine wpAnyH_ready (rs := [5]) (by kernel_rfl) (by simp) ?_
        refine AllReadyH.cons rfl (fun K hK => ?_) AllReadyH.nil
        refine step_appRt 22 38 Tryd.underlying22 infoRef8 _ (by rfl) _ _ (by rfl) W1.heap.size _ l (by rfl) OA _ _ [mo] (by rfl) (isRs_one mo (by rw [HMo.out]; exact KM)) HB2.out D.size ?_
        intro v2 Y51 hoB hown2 hgrow2
        have D51 := D.grown hgrow2 D.size (fun j hj => (hoB.blk j hj).1)
        obtain ⟨a2, c2, ev2, IB⟩ := hown2.isRs
        rw [HLe.out] at ev2 IB
        subst ev2
        have KX := Blk.keptR hgrow2 hoB (by decide) KX
        refine hK.out _ _ (HKP.out _ D51) (fun hHeld => ?_)
        (try simp only [Act.put]); (try simp only [List.setIfInBounds_toArray]); (try simp only [List.set_cons_zero, List.set_cons_succ])
        have D := D51
        clear hK K D51 hown2 hgrow2 hoB KM zM OA
        refine wpAnyH_ready (rs := [10]) (by kernel_rfl) (by simp) ?_
        refine AllReadyH.cons rfl (fun K hK => ?_) AllReadyH.nil
        go_simp
        refine (HLi.out _ _ _ _ IB KX).mono ?_
        rintro e Y52 ⟨rfl, t3⟩
        have D52 := D.trans (t3.mono D.size)
        refine hK.out _ _ (HKP.out _ D52) (fun hHeld => ?_)
        (try simp only [Act.put]); (try simp only [List.setIfInBounds_toArray]); (try simp only [List.set_cons_zero, List.set_cons_succ])
        have D := D52
        clear hK K D52 t3 IB KX
        cases lb with
        | true =>
          refine takeH (some 38) (i := 11) (v := ?_) rfl (by kernel_rfl) (by kernel_rfl) (by kernel_rfl) (fun _ _ _ h => h) (Or.inl ⟨by rfl, ?_⟩) hHeld rfl ?_
          rotate_left
          · intro w hSw; obtain ⟨hS0, hS1, hS2, hS3, hS4⟩ := hSw; go_simp; with_reducible rfl
          (try simp only [Act.put]); (try simp only [List.setIfInBounds_toArray]); (try simp only [List.set_cons_zero, List.set_cons_succ])
          refine takeH (some 39) (i := 12) (v := ?_) rfl (by kernel_rfl) (by kernel_rfl) (by kernel_rfl) (fun _ _ _ h => h) (Or.inl ⟨by rfl, ?_⟩) hHeld rfl ?_
          rotate_left
          · intro w hSw; obtain ⟨hS0, hS1, hS2, hS3, hS4⟩ := hSw; go_simp; with_reducible rfl
          (try simp only [Act.put]); (try simp only [List.setIfInBounds_toArray]); (try simp only [List.set_cons_zero, List.set_cons_succ])
          by_cases hn0 : l.length = 0
          · have hn1 : ((l.length : Int) == 0) = true := by rw [beq_iff_eq]; omega
            have hn2 : (l.length : Int) = 0 := by omega
            have HBV : Hid (bt = true) := by unfold Hid; rw [HBT.out, decide_eq_true hn0]; rfl
            clear hn0
            refine takeH (some 40) (i := 13) (v := ?_) rfl (by kernel_rfl) (by kernel_rfl) (by kernel_rfl) (fun _ _ _ h => h) (Or.inl ⟨by rfl, ?_⟩) hHeld rfl ?_
            rotate_left
            · intro w hSw; obtain ⟨hS0, hS1, hS2, hS3, hS4⟩ := hSw; go_simp; with_reducible rfl
            (try simp only [Act.put]); (try simp only [List.setIfInBounds_toArray]); (try simp only [List.set_cons_zero, List.set_cons_succ])
            refine takeH (some 41) (i := 14) (v := ?_) rfl (by kernel_rfl) (by kernel_rfl) (by kernel_rfl) (fun _ _ _ h => h) (Or.inl ⟨by rfl, ?_⟩) hHeld rfl ?_
            rotate_left
            · intro w hSw; obtain ⟨hS0, hS1, hS2, hS3, hS4⟩ := hSw; go_simp; with_reducible rfl
            (try simp only [Act.put]); (try simp only [List.setIfInBounds_toArray]); (try simp only [List.set_cons_zero, List.set_cons_succ])
            refine takeH (some 42) (i := 15) (v := ?_) rfl (by kernel_rfl) (by kernel_rfl) (by kernel_rfl) (fun _ _ _ h => h) (Or.inl ⟨by rfl, ?_⟩) hHeld rfl ?_
            rotate_left
            · intro w hSw; obtain ⟨hS0, hS1, hS2, hS3, hS4⟩ := hSw; go_simp; with_reducible rfl
            (try simp only [Act.put]); (try simp only [List.setIfInBounds_toArray]); (try simp only [List.set_cons_zero, List.set_cons_succ])
            refine takeH (some 43) (i := 16) (v := ?_) rfl (by kernel_rfl) (by kernel_rfl) (by kernel_rfl) (fun _ _ _ h => h) (Or.inl ⟨by rfl, ?_⟩) hHeld rfl ?_
            rotate_left
            · intro w hSw; obtain ⟨hS0, hS1, hS2, hS3, hS4⟩ := hSw; go_simp; with_reducible rfl
            (try simp only [Act.put]); (try simp only [List.setIfInBounds_toArray]); (try simp only [List.set_cons_zero, List.set_cons_succ])
            refine wpAnyH_done (by kernel_rfl) ?_ _
            refine NoPanic.normal ?_
            go_wp2_with fail
            go_meet
            case rel => exact ⟨by rw [HBV.out], D⟩
          · have hn1 : ((l.length : Int) == 0) = false := by rw [beq_eq_false_iff_ne]; omega
            have hn2 : ¬ (l.length : Int) = 0 := by omega
            have HBV : Hid (bt = false) := by unfold Hid; rw [HBT.out, decide_eq_false hn0]; rfl
            clear hn0
            refine takeH (some 40) (i := 13) (v := ?_) rfl (by kernel_rfl) (by kernel_rfl) (by kernel_rfl) (fun _ _ _ h => h) (Or.inl ⟨by rfl, ?_⟩) hHeld rfl ?_
            rotate_left
            · intro w hSw; obtain ⟨hS0, hS1, hS2, hS3, hS4⟩ := hSw; go_simp; with_reducible rfl
            (try simp only [Act.put]); (try simp only [List.setIfInBounds_toArray]); (try simp only [List.set_cons_zero, List.set_cons_succ])
            refine takeH (some 41) (i := 14) (v := ?_) rfl (by kernel_rfl) (by kernel_rfl) (by kernel_rfl) (fun _ _ _ h => h) (Or.inl ⟨by rfl, ?_⟩) hHeld rfl ?_
            rotate_left
            · intro w hSw; obtain ⟨hS0, hS1, hS2, hS3, hS4⟩ := hSw; go_simp; with_reducible rfl
            (try simp only [Act.put]); (try simp only [List.setIfInBounds_toArray]); (try simp only [List.set_cons_zero, List.set_cons_succ])
            refine takeH (some 42) (i := 15) (v := ?_) rfl (by kernel_rfl) (by kernel_rfl) (by kernel_rfl) (fun _ _ _ h => h) (Or.inl ⟨by rfl, ?_⟩) hHeld rfl ?_
            rotate_left
            · intro w hSw; obtain ⟨hS0, hS1, hS2, hS3, hS4⟩ := hSw; go_simp; with_reducible rfl
            (try simp only [Act.put]); (try simp only [List.setIfInBounds_toArray]); (try simp only [List.set_cons_zero, List.set_cons_succ])
            refine takeH (some 43) (i := 16) (v := ?_) rfl (by kernel_rfl) (by kernel_rfl) (by kernel_rfl) (fun _ _ _ h => h) (Or.inl ⟨by rfl, ?_⟩) hHeld rfl ?_
            rotate_left
            · intro w hSw; obtain ⟨hS0, hS1, hS2, hS3, hS4⟩ := hSw; go_simp; with_reducible rfl
            (try simp only [Act.put]); (try simp only [List.setIfInBounds_toArray]); (try simp only [List.set_cons_zero, List.set_cons_succ])
            refine wpAnyH_done (by kernel_rfl) ?_ _
            refine NoPanic.normal ?_
            go_wp2_with fail
            go_meet
            case rel => exact ⟨by rw [HBV.out], D⟩
        | false =>
          have HBV : Hid (bt = true) := by unfold Hid; rw [HBT.out]; rfl
          refine takeH (some 38) (i := 11) (v := ?_) rfl (by kernel_rfl) (by kernel_rfl) (by kernel_rfl) (fun _ _ _ h => h) (Or.inl ⟨by rfl, ?_⟩) hHeld rfl ?_
          rotate_left
          · intro w hSw; obtain ⟨hS0, hS1, hS2, hS3, hS4⟩ := hSw; go_simp; with_reducible rfl
          (try simp only [Act.put]); (try simp only [List.setIfInBounds_toArray]); (try simp only [List.set_cons_zero, List.set_cons_succ])
          refine takeH (some 39) (i := 12) (v := ?_) rfl (by kernel_rfl) (by kernel_rfl) (by kernel_rfl) (fun _ _ _ h => h) (Or.inl ⟨by rfl, ?_⟩) hHeld rfl ?_
          rotate_left
          · intro w hSw; obtain ⟨hS0, hS1, hS2, hS3, hS4⟩ := hSw; go_simp; with_reducible rfl
          (try simp only [Act.put]); (try simp only [List.setIfInBounds_toArray]); (try simp only [List.set_cons_zero, List.set_cons_succ])
          refine takeH (some 40) (i := 13) (v := undef) rfl (by kernel_rfl) (by kernel_rfl) (by kernel_rfl) (fun _ _ _ h => h) (Or.inr ⟨by rfl, rfl⟩) hHeld rfl ?_
          (try simp only [Act.put]); (try simp only [List.setIfInBounds_toArray]); (try simp only [List.set_cons_zero, List.set_cons_succ])
          refine takeH (some 41) (i := 14) (v := undef) rfl (by kernel_rfl) (by kernel_rfl) (by kernel_rfl) (fun _ _ _ h => h) (Or.inr ⟨by rfl, rfl⟩) hHeld rfl ?_
          (try simp only [Act.put]); (try simp only [List.setIfInBounds_toArray]); (try simp only [List.set_cons_zero, List.set_cons_succ])
          refine takeH (some 42) (i := 15) (v := undef) rfl (by kernel_rfl) (by kernel_rfl) (by kernel_rfl) (fun _ _ _ h => h) (Or.inr ⟨by rfl, rfl⟩) hHeld rfl ?_
          (try simp only [Act.put]); (try simp only [List.setIfInBounds_toArray]); (try simp only [List.set_cons_zero, List.set_cons_succ])
          refine takeH (some 43) (i := 16) (v := ?_) rfl (by kernel_rfl) (by kernel_rfl) (by kernel_rfl) (fun _ _ _ h => h) (Or.inl ⟨by rfl, ?_⟩) hHeld rfl ?_
          rotate_left
          · intro w hSw; obtain ⟨hS0, hS1, hS2, hS3, hS4⟩ := hSw; go_simp; with_reducible rfl
          (try simp only [Act.put]); (try simp only [List.setIfInBounds_toArray]); (try simp only [List.set_cons_zero, List.set_cons_succ])
          refine wpAnyH_done (by kernel_rfl) ?_ _
          refine NoPanic.normal ?_
          go_wp2_with fail
          go_meet
          case rel => exact ⟨by rw [HBV.out], D⟩
    · skip
      go_simp
      have D53 := D.alloc D.size (.cells #[.string sp, .string sq, .string ss] 9)
      have KX53 : Blk (V0.alloc (.cells #[.string sp, .string sq, .string ss] 9)) V0.heap.size 9 [.string sp, .string sq, .string ss] := Blk.newAt V0 _ _ _ _ rfl rfl
      have Z53 : W1.heap.size ≤ V0.heap.size := D.size
      refine hK.out _ _ (HKP.out _ D53) (fun hHeld => ?_)
      (try simp only [Act.put]); (try simp only [List.setIfInBounds_toArray]); (try simp only [List.set_cons_zero, List.set_cons_succ])
      clear hK K
      clear D
      obtain ⟨bX, hb53⟩ : ∃ b, b = V0.heap.size := ⟨_, rfl⟩
      rw [← hb53]
      rw [← hb53] at KX53 Z53
      generalize V0.alloc (.cells #[.string sp, .string sq, .string ss] 9) = Y53 at *
      clear hb53
      have D := D53
      have KX := KX53
      have zX := Z53
      clear D53 KX53 Z53
      refine wpAnyH_ready (rs := [0, 4]) (by kernel_rfl) (by simp) ?_
      refine AllReadyH.cons rfl (fun K hK => ?_) (AllReadyH.cons rfl (fun K hK => ?_) AllReadyH.nil)
      · skip
        go_simp
        have D54 := D.alloc D.size (.cells #[] 38)
        have KE54 : Blk (Y53.alloc (.cells #[] 38)) Y53.heap.size 38 [] := Blk.newAt Y53 _ _ _ _ rfl rfl
        have Z54 : W1.heap.size ≤ Y53.heap.size := D.size
        have qX54 := KX.alloc (.cells #[] 38)
        have lX54 : bX < Y53.heap.size := KX.lt
        refine hK.out _ _ (HKP.out _ D54) (fun hHeld => ?_)
        (try simp only [Act.put]); (try simp only [List.setIfInBounds_toArray]); (try simp only [List.set_cons_zero, List.set_cons_succ])
        clear hK K
        clear KX
        clear D
        obtain ⟨bE, hb54⟩ : ∃ b, b = Y53.heap.size := ⟨_, rfl⟩
        rw [← hb54]
        rw [← hb54] at KE54 Z54
        rw [← hb54] at lX54
        generalize Y53.alloc (.cells #[] 38) = Y54 at *
        clear hb54
        have D := D54
        have KE := KE54
        have zE := Z54
        have KX := qX54
        clear D54 KE54 Z54
        clear qX54
        refine wpAnyH_ready (rs := [2, 4]) (by kernel_rfl) (by simp) ?_
        refine AllReadyH.cons rfl (fun K hK => ?_) (AllReadyH.cons rfl (fun K hK => ?_) AllReadyH.nil)
        · skip
          refine step_appRt 22 38 Tryd.underlying22 infoRef8 _ (by rfl) _ _ (by rfl) W1.heap.size _ [] (by rfl) (OwnR.emptyAt KE zE) a cap l (by rfl) (HRl.out _ (bel2 HT1.out D)) HB1.out D.size ?_
          intro v1 Y55 hoA hown1 hgrow1
          rw [List.nil_append] at hown1
          have D55 := D.grown hgrow1 D.size (fun j hj => (hoA.blk j hj).1)
          have KX := Blk.keptR hgrow1 hoA (by decide) KX
          refine hK.out _ _ (HKP.out _ D55) (fun hHeld => ?_)
          (try simp only [Act.put]); (try simp only [List.setIfInBounds_toArray]); (try simp only [List.set_cons_zero, List.set_cons_succ])
          have D := D55
          have OA := hown1
          clear hK K D55 hown1 hgrow1 hoA KE zE
          refine wpAnyH_ready (rs := [4]) (by kernel_rfl) (by simp) ?_
          refine AllReadyH.cons rfl (fun K hK => ?_) AllReadyH.nil
          go_simp
          have D56 := D.alloc D.size (.cells #[.bool mo.deny, .string e1, .string e2, .string e3] 38)
          have KM56 : Blk (Y55.alloc (.cells #[.bool mo.deny, .string e1, .string e2, .string e3] 38)) Y55.heap.size 38 [.bool mo.deny, .string e1, .string e2, .string e3] := Blk.newAt Y55 _ _ _ _ rfl rfl
          have Z56 : W1.heap.size ≤ Y55.heap.size := D.size
          have qX56 := KX.alloc (.cells #[.bool mo.deny, .string e1, .string e2, .string e3] 38)
          have lX56 : bX < Y55.heap.size := KX.lt
          have qOA56 := OA.alloc (.cells #[.bool mo.deny, .string e1, .string e2, .string e3] 38)
          refine hK.out _ _ (HKP.out _ D56) (fun hHeld => ?_)
          (try simp only [Act.put]); (try simp only [List.setIfInBounds_toArray]); (try simp only [List.set_cons_zero, List.set_cons_succ])
          clear hK K
          clear KX
          clear OA
          clear D
          obtain ⟨bM, hb56⟩ : ∃ b, b = Y55.heap.size := ⟨_, rfl⟩
          rw [← hb56]
          rw [← hb56] at KM56 Z56
          rw [← hb56] at lX56
          generalize Y55.alloc (.cells #[.bool mo.deny, .string e1, .string e2, .string e3] 38) = Y56 at *
          clear hb56
          have D := D56
          have KM := KM56
          have zM := Z56
          have KX := qX56
          have OA := qOA56
          clear D56 KM56 Z56
          clear qX56
          clear qOA56
          refine wpAnyH_ready (rs := [5]) (by kernel_rfl) (by simp) ?_
          refine AllReadyH.cons rfl (fun K hK => ?_) AllReadyH.nil
          refine step_appRt 22 38 Tryd.underlying22 infoRef8 _ (by rfl) _ _ (by rfl) W1.heap.size _ l (by rfl) OA _ _ [mo] (by rfl) (isRs_one mo (by rw [HMo.out]; exact KM)) HB2.out D.size ?_
          intro v2 Y57 hoB hown2 hgrow2
          have D57 := D.grown hgrow2 D.size (fun j hj => (hoB.blk j hj).1)
          obtain ⟨a2, c2, ev2, IB⟩ := hown2.isRs
          rw [HLe.out] at ev2 IB
          subst ev2
          have KX := Blk.keptR hgrow2 hoB (by decide) KX
          refine hK.out _ _ (HKP.out _ D57) (fun hHeld => ?_)
          (try simp only [Act.put]); (try simp only [List.setIfInBounds_toArray]); (try simp only [List.set_cons_zero, List.set_cons_succ])
          have D := D57
          clear hK K D57 hown2 hgrow2 hoB KM zM OA
          refine wpAnyH_ready (rs := [10]) (by kernel_rfl) (by simp) ?_
          refine AllReadyH.cons rfl (fun K hK => ?_) AllReadyH.nil
          go_simp
          refine (HLi.out _ _ _ _ IB KX).mono ?_
          rintro e Y58 ⟨rfl, t3⟩
          have D58 := D.trans (t3.mono D.size)
          refine hK.out _ _ (HKP.out _ D58) (fun hHeld => ?_)
          (try simp only [Act.put]); (try simp only [List.setIfInBounds_toArray]); (try simp only [List.set_cons_zero, List.set_cons_succ])
          have D := D58
          clear hK K D58 t3 IB KX
          cases lb with
          | true =>
            refine takeH (some 38) (i := 11) (v := ?_) rfl (by kernel_rfl) (by kernel_rfl) (by kernel_rfl) (fun _ _ _ h => h) (Or.inl ⟨by rfl, ?_⟩) hHeld rfl ?_
            rotate_left
            · intro w hSw; obtain ⟨hS0, hS1, hS2, hS3, hS4⟩ := hSw; go_simp; with_reducible rfl
            (try simp only [Act.put]); (try simp only [List.setIfInBounds_toArray]); (try simp only [List.set_cons_zero, List.set_cons_succ])
            refine takeH (some 39) (i := 12) (v := ?_) rfl (by kernel_rfl) (by kernel_rfl) (by kernel_rfl) (fun _ _ _ h => h) (Or.inl ⟨by rfl, ?_⟩) hHeld rfl ?_
            rotate_left
            · intro w hSw; obtain ⟨hS0, hS1, hS2, hS3, hS4⟩ := hSw; go_simp; with_reducible rfl
            (try simp only [Act.put]); (try simp only [List.setIfInBounds_toArray]); (try simp only [List.set_cons_zero, List.set_cons_succ])
            by_cases hn0 : l.length = 0
            · have hn1 : ((l.length : Int) == 0) = true := by rw [beq_iff_eq]; omega
              have hn2 : (l.length : Int) = 0 := by omega
              have HBV : Hid (bt = true) := by unfold Hid; rw [HBT.out, decide_eq_true hn0]; rfl
              clear hn0
              refine takeH (some 40) (i := 13) (v := ?_) rfl (by kernel_rfl) (by kernel_rfl) (by kernel_rfl) (fun _ _ _ h => h) (Or.inl ⟨by rfl, ?_⟩) hHeld rfl ?_
              rotate_left
              · intro w hSw; obtain ⟨hS0, hS1, hS2, hS3, hS4⟩ := hSw; go_simp; with_reducible rfl
              (try simp only [Act.put]); (try simp only [List.setIfInBounds_toArray]); (try simp only [List.set_cons_zero, List.set_cons_succ])
              refine takeH (some 41) (i := 14) (v := ?_) rfl (by kernel_rfl) (by kernel_rfl) (by kernel_rfl) (fun _ _ _ h => h) (Or.inl ⟨by rfl, ?_⟩) hHeld rfl ?_
              rotate_left
              · intro w hSw; obtain ⟨hS0, hS1, hS2, hS3, hS4⟩ := hSw; go_simp; with_reducible rfl
              (try simp only [Act.put]); (try simp only [List.setIfInBounds_toArray]); (try simp only [List.set_cons_zero, List.set_cons_succ])
              refine takeH (some 42) (i := 15) (v := ?_) rfl (by kernel_rfl) (by kernel_rfl) (by kernel_rfl) (fun _ _ _ h => h) (Or.inl ⟨by rfl, ?_⟩) hHeld rfl ?_
              rotate_left
              · intro w hSw; obtain ⟨hS0, hS1, hS2, hS3, hS4⟩ := hSw; go_simp; with_reducible rfl
              (try simp only [Act.put]); (try simp only [List.setIfInBounds_toArray]); (try simp only [List.set_cons_zero, List.set_cons_succ])
              refine takeH (some 43) (i := 16) (v := ?_) rfl (by kernel_rfl) (by kernel_rfl) (by kernel_rfl) (fun _ _ _ h => h) (Or.inl ⟨by rfl, ?_⟩) hHeld rfl ?_
              rotate_left
              · intro w hSw; obtain ⟨hS0, hS1, hS2, hS3, hS4⟩ := hSw; go_simp; with_reducible rfl
              (try simp only [Act.put]); (try simp only [List.setIfInBounds_toArray]); (try simp only [List.set_cons_zero, List.set_cons_succ])
              refine wpAnyH_done (by kernel_rfl) ?_ _
              refine NoPanic.normal ?_
              go_wp2_with fail
              go_meet
              case rel => exact ⟨by rw [HBV.out], D⟩
            · have hn1 : ((l.length : Int) == 0) = false := by rw [beq_eq_false_iff_ne]; omega
              have hn2 : ¬ (l.length : Int) = 0 := by omega
              have HBV : Hid (bt = false) := by unfold Hid; rw [HBT.out, decide_eq_false hn0]; rfl
              clear hn0
              refine takeH (some 40) (i := 13) (v := ?_) rfl (by kernel_rfl) (by kernel_rfl) (by kernel_rfl) (fun _ _ _ h => h) (Or.inl ⟨by rfl, ?_⟩) hHeld rfl ?_
              rotate_left
              · intro w hSw; obtain ⟨hS0, hS1, hS2, hS3, hS4⟩ := hSw; go_simp; with_reducible rfl
              (try simp only [Act.put]); (try simp only [List.setIfInBounds_toArray]); (try simp only [List.set_cons_zero, List.set_cons_succ])
              refine takeH (some 41) (i := 14) (v := ?_) rfl (by kernel_rfl) (by kernel_rfl) (by kernel_rfl) (fun _ _ _ h => h) (Or.inl ⟨by rfl, ?_⟩) hHeld rfl ?_
              rotate_left
              · intro w hSw; obtain ⟨hS0, hS1, hS2, hS3, hS4⟩ := hSw; go_simp; with_reducible rfl
              (try simp only [Act.put]); (try simp only [List.setIfInBounds_toArray]); (try simp only [List.set_cons_zero, List.set_cons_succ])
              refine takeH (some 42) (i := 15) (v := ?_) rfl (by kernel_rfl) (by kernel_rfl) (by kernel_rfl) (fun _ _ _ h => h) (Or.inl ⟨by rfl, ?_⟩) hHeld rfl ?_
              rotate_left
              · intro w hSw; obtain ⟨hS0, hS1, hS2, hS3, hS4⟩ := hSw; go_simp; with_reducible rfl
              (try simp only [Act.put]); (try simp only [List.setIfInBounds_toArray]); (try simp only [List.set_cons_zero, List.set_cons_succ])
              refine takeH (some 43) (i := 16) (v := ?_) rfl (by kernel_rfl) (by kernel_rfl) (by kernel_rfl) (fun _ _ _ h => h) (Or.inl ⟨by rfl, ?_⟩) hHeld rfl ?_
              rotate_left
              · intro w hSw; obtain ⟨hS0, hS1, hS2, hS3, hS4⟩ := hSw; go_simp; with_reducible rfl
              (try simp only [Act.put]); (try simp only [List.setIfInBounds_toArray]); (try simp only [List.set_cons_zero, List.set_cons_succ])
              refine wpAnyH_done (by kernel_rfl) ?_ _
              refine NoPanic.normal ?_
              go_wp2_with fail
              go_meet
              case rel => exact ⟨by rw [HBV.out], D⟩
          | false =>
            have HBV : Hid (bt = true) := by unfold Hid; rw [HBT.out]; rfl
            refine takeH (some 38) (i := 11) (v := ?_) rfl (by kernel_rfl) (by kernel_rfl) (by kernel_rfl) (fun _ _ _ h => h) (Or.inl ⟨by rfl, ?_⟩) hHeld rfl ?_
            rotate_left
            · intro w hSw; obtain ⟨hS0, hS1, hS2, hS3, hS4⟩ := hSw; go_simp; with_reducible rfl
            (try simp only [Act.put]); (try simp only [List.setIfInBounds_toArray]); (try simp only [List.set_cons_zero, List.set_cons_succ])
            refine takeH (some 39) (i := 12) (v := ?_) rfl (by kernel_rfl) (by kernel_rfl) (by kernel_rfl) (fun _ _ _ h => h) (Or.inl ⟨by rfl, ?_⟩) hHeld rfl ?_
            rotate_left
            · intro w hSw; obtain ⟨hS0, hS1, hS2, hS3, hS4⟩ := hSw; go_simp; with_reducible rfl
            (try simp only [Act.put]); (try simp only [List.setIfInBounds_toArray]); (try simp only [List.set_cons_zero, List.set_cons_succ])
            refine takeH (some 40) (i := 13) (v := undef) rfl (by kernel_rfl) (by kernel_rfl) (by kernel_rfl) (fun _ _ _ h => h) (Or.inr ⟨by rfl, rfl⟩) hHeld rfl ?_
            (try simp only [Act.put]); (try simp only [List.setIfInBounds_toArray]); (try simp only [List.set_cons_zero, List.set_cons_succ])
            refine takeH (some 41) (i := 14) (v := undef) rfl (by kernel_rfl) (by kernel_rfl) (by kernel_rfl) (fun _ _ _ h => h) (Or.inr ⟨by rfl, rfl⟩) hHeld rfl ?_
            (try simp only [Act.put]); (try simp only [List.setIfInBounds_toArray]); (try simp only [List.set_cons_zero, List.set_cons_succ])
            refine takeH (some 42) (i := 15) (v := undef) rfl (by kernel_rfl) (by kernel_rfl) (by kernel_rfl) (fun _ _ _ h => h) (Or.inr ⟨by rfl, rfl⟩) hHeld rfl ?_
            (try simp only [Act.put]); (try simp only [List.setIfInBounds_toArray]); (try simp only [List.set_cons_zero, List.set_cons_succ])
            refine takeH (some 43) (i := 16) (v := ?_) rfl (by kernel_rfl) (by kernel_rfl) (by kernel_rfl) (fun _ _ _ h => h) (Or.inl ⟨by rfl, ?_⟩) hHeld rfl ?_
            rotate_left
            · intro w hSw; obtain ⟨hS0, hS1, hS2, hS3, hS4⟩ := hSw; go_simp; with_reducible rfl
            (try simp only [Act.put]); (try simp only [List.setIfInBounds_toArray]); (try simp only [List.set_cons_zero, List.set_cons_succ])
            refine wpAnyH_done (by kernel_rfl) ?_ _
            refine NoPanic.normal ?_
            go_wp2_with fail
            go_meet
            case rel => exact ⟨by rw [HBV.out], D⟩
        · skip
          go_simp
          have D59 := D.alloc D.size (.cells #[.bool mo.deny, .string e1, .string e2, .string e3] 38)
          have KM59 : Blk (Y54.alloc (.cells #[.bool mo.deny, .string e1, .string e2, .string e3] 38)) Y54.heap.size 38 [.bool mo.deny, .string e1, .string e2, .string e3] := Blk.newAt Y54 _ _ _ _ rfl rfl
          have Z59 : W1.heap.size ≤ Y54.heap.size := D.size
          have qE59 := KE.alloc (.cells #[.bool mo.deny, .string e1, .string e2, .string e3] 38)
          have lE59 : bE < Y54.heap.size := KE.lt
          have qX59 := KX.alloc (.cells #[.bool mo.deny, .string e1, .string e2, .string e3] 38)
          have lX59 : bX < Y54.heap.size := KX.lt
          refine hK.out _ _ (HKP.out _ D59) (fun hHeld => ?_)
          (try simp only [Act.put]); (try simp only [List.setIfInBounds_toArray]); (try simp only [List.set_cons_zero, List.set_cons_succ])
          clear hK K
          clear KE
          clear KX
          clear D
          obtain ⟨bM, hb59⟩ : ∃ b, b = Y54.heap.size := ⟨_, rfl⟩
          rw [← hb59]
          rw [← hb59] at KM59 Z59
          rw [← hb59] at lE59
          rw [← hb59] at lX59
          generalize Y54.alloc (.cells #[.bool mo.deny, .string e1, .string e2, .string e3] 38) = Y59 at *
          clear hb59
          have D := D59
          have KM := KM59
          have zM := Z59
          have KE := qE59
          have KX := qX59
          have nEM : bM ≠ bE := Nat.ne_of_gt lE59
          clear D59 KM59 Z59
          clear qE59
          clear qX59
          refine wpAnyH_ready (rs := [2]) (by kernel_rfl) (by simp) ?_
          refine AllReadyH.cons rfl (fun K hK => ?_) AllReadyH.nil
          refine step_appRt 22 38 Tryd.underlying22 infoRef8 _ (by rfl) _ _ (by rfl) W1.heap.size _ [] (by rfl) (OwnR.emptyAt KE zE) a cap l (by rfl) (HRl.out _ (bel2 HT1.out D)) HB1.out D.size ?_
          intro v1 Y60 hoA hown1 hgrow1
          rw [List.nil_append] at hown1
          have D60 := D.grown hgrow1 D.size (fun j hj => (hoA.blk j hj).1)
          have KM := Blk.keptI hgrow1 nEM KM
          have KX := Blk.keptR hgrow1 hoA (by decide) KX
          refine hK.out _ _ (HKP.out _ D60) (fun hHeld => ?_)
          (try simp only [Act.put]); (try simp only [List.setIfInBounds_toArray]); (try simp only [List.set_cons_zero, List.set_cons_succ])
          have D := D60
          have OA := hown1
          clear hK K D60 hown1 hgrow1 hoA KE zE
          refine wpAnyH_ready (rs := [5]) (by kernel_rfl) (by simp) ?_
          refine AllReadyH.cons rfl (fun K hK => ?_) AllReadyH.nil
          refine step_appRt 22 38 Tryd.underlying22 infoRef8 _ (by rfl) _ _ (by rfl) W1.heap.size _ l (by rfl) OA _ _ [mo] (by rfl) (isRs_one mo (by rw [HMo.out]; exact KM)) HB2.out D.size ?_
          intro v2 Y61 hoB hown2 hgrow2
          have D61 := D.grown hgrow2 D.size (fun j hj => (hoB.blk j hj).1)
          obtain ⟨a2, c2, ev2, IB⟩ := hown2.isRs
          rw [HLe.out] at ev2 IB
          subst ev2
          have KX := Blk.keptR hgrow2 hoB (by decide) KX
          refine hK.out _ _ (HKP.out _ D61) (fun hHeld => ?_)
          (try simp only [Act.put]); (try simp only [List.setIfInBounds_toArray]); (try simp only [List.set_cons_zero, List.set_cons_succ])
          have D := D61
          clear hK K D61 hown2 hgrow2 hoB KM zM OA
          refine wpAnyH_ready (rs := [10]) (by kernel_rfl) (by simp) ?_
          refine AllReadyH.cons rfl (fun K hK => ?_) AllReadyH.nil
          go_simp
          refine (HLi.out _ _ _ _ IB KX).mono ?_
          rintro e Y62 ⟨rfl, t3⟩
          have D62 := D.trans (t3.mono D.size)
          refine hK.out _ _ (HKP.out _ D62) (fun hHeld => ?_)
          (try simp only [Act.put]); (try simp only [List.setIfInBounds_toArray]); (try simp only [List.set_cons_zero, List.set_cons_succ])
          have D := D62
          clear hK K D62 t3 IB KX
          cases lb with
          | true =>
            refine takeH (some 38) (i := 11) (v := ?_) rfl (by kernel_rfl) (by kernel_rfl) (by kernel_rfl) (fun _ _ _ h => h) (Or.inl ⟨by rfl, ?_⟩) hHeld rfl ?_
            rotate_left
            · intro w hSw; obtain ⟨hS0, hS1, hS2, hS3, hS4⟩ := hSw; go_simp; with_reducible rfl
            (try simp only [Act.put]); (try simp only [List.setIfInBounds_toArray]); (try simp only [List.set_cons_zero, List.set_cons_succ])
            refine takeH (some 39) (i := 12) (v := ?_) rfl (by kernel_rfl) (by kernel_rfl) (by kernel_rfl) (fun _ _ _ h => h) (Or.inl ⟨by rfl, ?_⟩) hHeld rfl ?_
            rotate_left
            · intro w hSw; obtain ⟨hS0, hS1, hS2, hS3, hS4⟩ := hSw; go_simp; with_reducible rfl
            (try simp only [Act.put]); (try simp only [List.setIfInBounds_toArray]); (try simp only [List.set_cons_zero, List.set_cons_succ])
            by_cases hn0 : l.length = 0
            · have hn1 : ((l.length : Int) == 0) = true := by rw [beq_iff_eq]; omega
              have hn2 : (l.length : Int) = 0 := by omega
              have HBV : Hid (bt = true) := by unfold Hid; rw [HBT.out, decide_eq_true hn0]; rfl
              clear hn0
              refine takeH (some 40) (i := 13) (v := ?_) rfl (by kernel_rfl) (by kernel_rfl) (by kernel_rfl) (fun _ _ _ h => h) (Or.inl ⟨by rfl, ?_⟩) hHeld rfl ?_
              rotate_left
              · intro w hSw; obtain ⟨hS0, hS1, hS2, hS3, hS4⟩ := hSw; go_simp; with_reducible rfl
              (try simp only [Act.put]); (try simp only [List.setIfInBounds_toArray]); (try simp only [List.set_cons_zero, List.set_cons_succ])
              refine takeH (some 41) (i := 14) (v := ?_) rfl (by kernel_rfl) (by kernel_rfl) (by kernel_rfl) (fun _ _ _ h => h) (Or.inl ⟨by rfl, ?_⟩) hHeld rfl ?_
              rotate_left
              · intro w hSw; obtain ⟨hS0, hS1, hS2, hS3, hS4⟩ := hSw; go_simp; with_reducible rfl
              (try simp only [Act.put]); (try simp only [List.setIfInBounds_toArray]); (try simp only [List.set_cons_zero, List.set_cons_succ])
              refine takeH (some 42) (i := 15) (v := ?_) rfl (by kernel_rfl) (by kernel_rfl) (by kernel_rfl) (fun _ _ _ h => h) (Or.inl ⟨by rfl, ?_⟩) hHeld rfl ?_
              rotate_left
              · intro w hSw; obtain ⟨hS0, hS1, hS2, hS3, hS4⟩ := hSw; go_simp; with_reducible rfl
              (try simp only [Act.put]); (try simp only [List.setIfInBounds_toArray]); (try simp only [List.set_cons_zero, List.set_cons_succ])
              refine takeH (some 43) (i := 16) (v := ?_) rfl (by kernel_rfl) (by kernel_rfl) (by kernel_rfl) (fun _ _ _ h => h) (Or.inl ⟨by rfl, ?_⟩) hHeld rfl ?_
              rotate_left
              · intro w hSw; obtain ⟨hS0, hS1, hS2, hS3, hS4⟩ := hSw; go_simp; with_reducible rfl
              (try simp only [Act.put]); (try simp only [List.setIfInBounds_toArray]); (try simp only [List.set_cons_zero, List.set_cons_succ])
              refine wpAnyH_done (by kernel_rfl) ?_ _
              refine NoPanic.normal ?_
              go_wp2_with fail
              go_meet
              case rel => exact ⟨by rw [HBV.out], D⟩
            · have hn1 : ((l.length : Int) == 0) = false := by rw [beq_eq_false_iff_ne]; omega
              have hn2 : ¬ (l.length : Int) = 0 := by omega
              have HBV : Hid (bt = false) := by unfold Hid; rw [HBT.out, decide_eq_false hn0]; rfl
              clear hn0
              refine takeH (some 40) (i := 13) (v := ?_) rfl (by kernel_rfl) (by kernel_rfl) (by kernel_rfl) (fun _ _ _ h => h) (Or.inl ⟨by rfl, ?_⟩) hHeld rfl ?_
              rotate_left
              · intro w hSw; obtain ⟨hS0, hS1, hS2, hS3, hS4⟩ := hSw; go_simp; with_reducible rfl
              (try simp only [Act.put]); (try simp only [List.setIfInBounds_toArray]); (try simp only [List.set_cons_zero, List.set_cons_succ])
              refine takeH (some 41) (i := 14) (v := ?_) rfl (by kernel_rfl) (by kernel_rfl) (by kernel_rfl) (fun _ _ _ h => h) (Or.inl ⟨by rfl, ?_⟩) hHeld rfl ?_
              rotate_left
              · intro w hSw; obtain ⟨hS0, hS1, hS2, hS3, hS4⟩ := hSw; go_simp; with_reducible rfl
              (try simp only [Act.put]); (try simp only [List.setIfInBounds_toArray]); (try simp only [List.set_cons_zero, List.set_cons_succ])
              refine takeH (some 42) (i := 15) (v := ?_) rfl (by kernel_rfl) (by kernel_rfl) (by kernel_rfl) (fun _ _ _ h => h) (Or.inl ⟨by rfl, ?_⟩) hHeld rfl ?_
              rotate_left
              · intro w hSw; obtain ⟨hS0, hS1, hS2, hS3, hS4⟩ := hSw; go_simp; with_reducible rfl
              (try simp only [Act.put]); (try simp only [List.setIfInBounds_toArray]); (try simp only [List.set_cons_zero, List.set_cons_succ])
              refine takeH (some 43) (i := 16) (v := ?_) rfl (by kernel_rfl) (by kernel_rfl) (by kernel_rfl) (fun _ _ _ h => h) (Or.inl ⟨by rfl, ?_⟩) hHeld rfl ?_
              rotate_left
              · intro w hSw; obtain ⟨hS0, hS1, hS2, hS3, hS4⟩ := hSw; go_simp; with_reducible rfl
              (try simp only [Act.put]); (try simp only [List.setIfInBounds_toArray]); (try simp only [List.set_cons_zero, List.set_cons_succ])
              refine wpAnyH_done (by kernel_rfl) ?_ _
              refine NoPanic.normal ?_
              go_wp2_with fail
              go_meet
              case rel => exact ⟨by rw [HBV.out], D⟩
          | false =>
            have HBV : Hid (bt = true) := by unfold Hid; rw [HBT.out]; rfl
            refine takeH (some 38) (i := 11) (v := ?_) rfl (by kernel_rfl) (by kernel_rfl) (by kernel_rfl) (fun _ _ _ h => h) (Or.inl ⟨by rfl, ?_⟩) hHeld rfl ?_
            rotate_left
            · intro w hSw; obtain ⟨hS0, hS1, hS2, hS3, hS4⟩ := hSw; go_simp; with_reducible rfl
            (try simp only [Act.put]); (try simp only [List.setIfInBounds_toArray]); (try simp only [List.set_cons_zero, List.set_cons_succ])
            refine takeH (some 39) (i := 12) (v := ?_) rfl (by kernel_rfl) (by kernel_rfl) (by kernel_rfl) (fun _ _ _ h => h) (Or.inl ⟨by rfl, ?_⟩) hHeld rfl ?_
            rotate_left
            · intro w hSw; obtain ⟨hS0, hS1, hS2, hS3, hS4⟩ := hSw; go_simp; with_reducible rfl
            (try simp only [Act.put]); (try simp only [List.setIfInBounds_toArray]); (try simp only [List.set_cons_zero, List.set_cons_succ])
            refine takeH (some 40) (i := 13) (v := undef) rfl (by kernel_rfl) (by kernel_rfl) (by kernel_rfl) (fun _ _ _ h => h) (Or.inr ⟨by rfl, rfl⟩) hHeld rfl ?_
            (try simp only [Act.put]); (try simp only [List.setIfInBounds_toArray]); (try simp only [List.set_cons_zero, List.set_cons_succ])
            refine takeH (some 41) (i := 14) (v := undef) rfl (by kernel_rfl) (by kernel_rfl) (by kernel_rfl) (fun _ _ _ h => h) (Or.inr ⟨by rfl, rfl⟩) hHeld rfl ?_
            (try simp only [Act.put]); (try simp only [List.setIfInBounds_toArray]); (try simp only [List.set_cons_zero, List.set_cons_succ])
            refine takeH (some 42) (i := 15) (v := undef) rfl (by kernel_rfl) (by kernel_rfl) (by kernel_rfl) (fun _ _ _ h => h) (Or.inr ⟨by rfl, rfl⟩) hHeld rfl ?_
            (try simp only [Act.put]); (try simp only [List.setIfInBounds_toArray]); (try simp only [List.set_cons_zero, List.set_cons_succ])
            refine takeH (some 43) (i := 16) (v := ?_) rfl (by kernel_rfl) (by kernel_rfl) (by kernel_rfl) (fun _ _ _ h => h) (Or.inl ⟨by rfl, ?_⟩) hHeld rfl ?_
            rotate_left
            · intro w hSw; obtain ⟨hS0, hS1, hS2, hS3, hS4⟩ := hSw; go_simp; with_reducible rfl
            (try simp only [Act.put]); (try simp only [List.setIfInBounds_toArray]); (try simp only [List.set_cons_zero, List.set_cons_succ])
            refine wpAnyH_done (by kernel_rfl) ?_ _
            refine NoPanic.normal ?_
            go_wp2_with fail
            go_meet
            case rel => exact ⟨by rw [HBV.out], D⟩
      · skip
        go_simp
        have D63 := D.alloc D.size (.cells #[.bool mo.deny, .string e1, .string e2, .string e3] 38)
        have KM63 : Blk (Y53.alloc (.cells #[.bool mo.deny, .string e1, .string e2, .string e3] 38)) Y53.heap.size 38 [.bool mo.deny, .string e1, .string e2, .string e3] := Blk.newAt Y53 _ _ _ _ rfl rfl
        have Z63 : W1.heap.size ≤ Y53.heap.size := D.size
        have qX63 := KX.alloc (.cells #[.bool mo.deny, .string e1, .string e2, .string e3] 38)
        have lX63 : bX < Y53.heap.size := KX.lt
        refine hK.out _ _ (HKP.out _ D63) (fun hHeld => ?_)
        (try simp only [Act.put]); (try simp only [List.setIfInBounds_toArray]); (try simp only [List.set_cons_zero, List.set_cons_succ])
        clear hK K
        clear KX
        clear D
        obtain ⟨bM, hb63⟩ : ∃ b, b = Y53.heap.size := ⟨_, rfl⟩
        rw [← hb63]
        rw [← hb63] at KM63 Z63
        rw [← hb63] at lX63
        generalize Y53.alloc (.cells #[.bool mo.deny, .string e1, .string e2, .string e3] 38) = Y63 at *
        clear hb63
        have D := D63
        have KM := KM63
        have zM := Z63
        have KX := qX63
        clear D63 KM63 Z63
        clear qX63
        refine wpAnyH_ready (rs := [0]) (by kernel_rfl) (by simp) ?_
        refine AllReadyH.cons rfl (fun K hK => ?_) AllReadyH.nil
        go_simp
        have D64 := D.alloc D.size (.cells #[] 38)
        have KE64 : Blk (Y63.alloc (.cells #[] 38)) Y63.heap.size 38 [] := Blk.newAt Y63 _ _ _ _ rfl rfl
        have Z64 : W1.heap.size ≤ Y63.heap.size := D.size
        have qM64 := KM.alloc (.cells #[] 38)
        have lM64 : bM < Y63.heap.size := KM.lt
        have qX64 := KX.alloc (.cells #[] 38)
        have lX64 : bX < Y63.heap.size := KX.lt
        refine hK.out _ _ (HKP.out _ D64) (fun hHeld => ?_)
        (try simp only [Act.put]); (try simp only [List.setIfInBounds_toArray]); (try simp only [List.set_cons_zero, List.set_cons_succ])
        clear hK K
        clear KM
        clear KX
        clear D
        obtain ⟨bE, hb64⟩ : ∃ b, b = Y63.heap.size := ⟨_, rfl⟩
        rw [← hb64]
        rw [← hb64] at KE64 Z64
        rw [← hb64] at lM64
        rw [← hb64] at lX64
        generalize Y63.alloc (.cells #[] 38) = Y64 at *
        clear hb64
        have D := D64
        have KE := KE64
        have zE := Z64
        have KM := qM64
        have KX := qX64
        have nEM : bM ≠ bE := Nat.ne_of_lt lM64
        clear D64 KE64 Z64
        clear qM64
        clear qX64
        refine wpAnyH_ready (rs := [2]) (by kernel_rfl) (by simp) ?_
        refine AllReadyH.cons rfl (fun K hK => ?_) AllReadyH.nil
        refine step_appRt 22 38 Tryd.underlying22 infoRef8 _ (by rfl) _ _ (by rfl) W1.heap.size _ [] (by rfl) (OwnR.emptyAt KE zE) a cap l (by rfl) (HRl.out _ (bel2 HT1.out D)) HB1.out D.size ?_
        intro v1 Y65 hoA hown1 hgrow1
        rw [List.nil_append] at hown1
        have D65 := D.grown hgrow1 D.size (fun j hj => (hoA.blk j hj).1)
        have KM := Blk.keptI hgrow1 nEM KM
        have KX := Blk.keptR hgrow1 hoA (by decide) KX
        refine hK.out _ _ (HKP.out _ D65) (fun hHeld => ?_)
        (try simp only [Act.put]); (try simp only [List.setIfInBounds_toArray]); (try simp only [List.set_cons_zero, List.set_cons_succ])
        have D := D65
        have OA := hown1
        clear hK K D65 hown1 hgrow1 hoA KE zE
        refine wpAnyH_ready (rs := [5]) (by kernel_rfl) (by simp) ?_
        refine AllReadyH.cons rfl (fun K hK => ?_) AllReadyH.nil
        refine step_appRt 22 38 Tryd.underlying22 infoRef8 _ (by rfl) _ _ (by rfl) W1.heap.size _ l (by rfl) OA _ _ [mo] (by rfl) (isRs_one mo (by rw [HMo.out]; exact KM)) HB2.out D.size ?_
        intro v2 Y66 hoB hown2 hgrow2
        have D66 := D.grown hgrow2 D.size (fun j hj => (hoB.blk j hj).1)
        obtain ⟨a2, c2, ev2, IB⟩ := hown2.isRs
        rw [HLe.out] at ev2 IB
        subst ev2
        have KX := Blk.keptR hgrow2 hoB (by decide) KX
        refine hK.out _ _ (HKP.out _ D66) (fun hHeld => ?_)
        (try simp only [Act.put]); (try simp only [List.setIfInBounds_toArray]); (try simp only [List.set_cons_zero, List.set_cons_succ])
        have D := D66
        clear hK K D66 hown2 hgrow2 hoB KM zM OA
        refine wpAnyH_ready (rs := [10]) (by kernel_rfl) (by simp) ?_
        refine AllReadyH.cons rfl (fun K hK => ?_) AllReadyH.nil
        go_simp
        refine (HLi.out _ _ _ _ IB KX).mono ?_
        rintro e Y67 ⟨rfl, t3⟩
        have D67 := D.trans (t3.mono D.size)
        refine hK.out _ _ (HKP.out _ D67) (fun hHeld => ?_)
        (try simp only [Act.put]); (try simp only [List.setIfInBounds_toArray]); (try simp only [List.set_cons_zero, List.set_cons_succ])
        have D := D67
        clear hK K D67 t3 IB KX
        cases lb with
        | true =>
          refine takeH (some 38) (i := 11) (v := ?_) rfl (by kernel_rfl) (by kernel_rfl) (by kernel_rfl) (fun _ _ _ h => h) (Or.inl ⟨by rfl, ?_⟩) hHeld rfl ?_
          rotate_left
          · intro w hSw; obtain ⟨hS0, hS1, hS2, hS3, hS4⟩ := hSw; go_simp; with_reducible rfl
          (try simp only [Act.put]); (try simp only [List.setIfInBounds_toArray]); (try simp only [List.set_cons_zero, List.set_cons_succ])
          refine takeH (some 39) (i := 12) (v := ?_) rfl (by kernel_rfl) (by kernel_rfl) (by kernel_rfl) (fun _ _ _ h => h) (Or.inl ⟨by rfl, ?_⟩) hHeld rfl ?_
          rotate_left
          · intro w hSw; obtain ⟨hS0, hS1, hS2, hS3, hS4⟩ := hSw; go_simp; with_reducible rfl
          (try simp only [Act.put]); (try simp only [List.setIfInBounds_toArray]); (try simp only [List.set_cons_zero, List.set_cons_succ])
          by_cases hn0 : l.length = 0
          · have hn1 : ((l.length : Int) == 0) = true := by rw [beq_iff_eq]; omega
            have hn2 : (l.length : Int) = 0 := by omega
            have HBV : Hid (bt = true) := by unfold Hid; rw [HBT.out, decide_eq_true hn0]; rfl
            clear hn0
            refine takeH (some 40) (i := 13) (v := ?_) rfl (by kernel_rfl) (by kernel_rfl) (by kernel_rfl) (fun _ _ _ h => h) (Or.inl ⟨by rfl, ?_⟩) hHeld rfl ?_
            rotate_left
            · intro w hSw; obtain ⟨hS0, hS1, hS2, hS3, hS4⟩ := hSw; go_simp; with_reducible rfl
            (try simp only [Act.put]); (try simp only [List.setIfInBounds_toArray]); (try simp only [List.set_cons_zero, List.set_cons_succ])
            refine takeH (some 41) (i := 14) (v := ?_) rfl (by kernel_rfl) (by kernel_rfl) (by kernel_rfl) (fun _ _ _ h => h) (Or.inl ⟨by rfl, ?_⟩) hHeld rfl ?_
            rotate_left
            · intro w hSw; obtain ⟨hS0, hS1, hS2, hS3, hS4⟩ := hSw; go_simp; with_reducible rfl
            (try simp only [Act.put]); (try simp only [List.setIfInBounds_toArray]); (try simp only [List.set_cons_zero, List.set_cons_succ])
            refine takeH (some 42) (i := 15) (v := ?_) rfl (by kernel_rfl) (by kernel_rfl) (by kernel_rfl) (fun _ _ _ h => h) (Or.inl ⟨by rfl, ?_⟩) hHeld rfl ?_
            rotate_left
            · intro w hSw; obtain ⟨hS0, hS1, hS2, hS3, hS4⟩ := hSw; go_simp; with_reducible rfl
            (try simp only [Act.put]); (try simp only [List.setIfInBounds_toArray]); (try simp only [List.set_cons_zero, List.set_cons_succ])
            refine takeH (some 43) (i := 16) (v := ?_) rfl (by kernel_rfl) (by kernel_rfl) (by kernel_rfl) (fun _ _ _ h => h) (Or.inl ⟨by rfl, ?_⟩) hHeld rfl ?_
            rotate_left
            · intro w hSw; obtain ⟨hS0, hS1, hS2, hS3, hS4⟩ := hSw; go_simp; with_reducible rfl
            (try simp only [Act.put]); (try simp only [List.setIfInBounds_toArray]); (try simp only [List.set_cons_zero, List.set_cons_succ])
            refine wpAnyH_done (by kernel_rfl) ?_ _
            refine NoPanic.normal ?_
            go_wp2_with fail
            go_meet
            case rel => exact ⟨by rw [HBV.out], D⟩
          · have hn1 : ((l.length : Int) == 0) = false := by rw [beq_eq_false_iff_ne]; omega
            have hn2 : ¬ (l.length : Int) = 0 := by omega
            have HBV : Hid (bt = false) := by unfold Hid; rw [HBT.out, decide_eq_false hn0]; rfl
            clear hn0
            refine takeH (some 40) (i := 13) (v := ?_) rfl (by kernel_rfl) (by kernel_rfl) (by kernel_rfl) (fun _ _ _ h => h) (Or.inl ⟨by rfl, ?_⟩) hHeld rfl ?_
            rotate_left
            · intro w hSw; obtain ⟨hS0, hS1, hS2, hS3, hS4⟩ := hSw; go_simp; with_reducible rfl
            (try simp only [Act.put]); (try simp only [List.setIfInBounds_toArray]); (try simp only [List.set_cons_zero, List.set_cons_succ])
            refine takeH (some 41) (i := 14) (v := ?_) rfl (by kernel_rfl) (by kernel_rfl) (by kernel_rfl) (fun _ _ _ h => h) (Or.inl ⟨by rfl, ?_⟩) hHeld rfl ?_
            rotate_left
            · intro w hSw; obtain ⟨hS0, hS1, hS2, hS3, hS4⟩ := hSw; go_simp; with_reducible rfl
            (try simp only [Act.put]); (try simp only [List.setIfInBounds_toArray]); (try simp only [List.set_cons_zero, List.set_cons_succ])
            refine takeH (some 42) (i := 15) (v := ?_) rfl (by kernel_rfl) (by kernel_rfl) (by kernel_rfl) (fun _ _ _ h => h) (Or.inl ⟨by rfl, ?_⟩) hHeld rfl ?_
            rotate_left
            · intro w hSw; obtain ⟨hS0, hS1, hS2, hS3, hS4⟩ := hSw; go_simp; with_reducible rfl
            (try simp only [Act.put]); (try simp only [List.setIfInBounds_toArray]); (try simp only [List.set_cons_zero, List.set_cons_succ])
            refine takeH (some 43) (i := 16) (v := ?_) rfl (by kernel_rfl) (by kernel_rfl) (by kernel_rfl) (fun _ _ _ h => h) (Or.inl ⟨by rfl, ?_⟩) hHeld rfl ?_
            rotate_left
            · intro w hSw; obtain ⟨hS0, hS1, hS2, hS3, hS4⟩ := hSw; go_simp; with_reducible rfl
            (try simp only [Act.put]); (try simp only [List.setIfInBounds_toArray]); (try simp only [List.set_cons_zero, List.set_cons_succ])
            refine wpAnyH_done (by kernel_rfl) ?_ _
            refine NoPanic.normal ?_
            go_wp2_with fail
            go_meet
            case rel => exact ⟨by rw [HBV.out], D⟩
        | false =>
          have HBV : Hid (bt = true) := by unfold Hid; rw [HBT.out]; rfl
          refine takeH (some 38) (i := 11) (v := ?_) rfl (by kernel_rfl) (by kernel_rfl) (by kernel_rfl) (fun _ _ _ h => h) (Or.inl ⟨by rfl, ?_⟩) hHeld rfl ?_
          rotate_left
          · intro w hSw; obtain ⟨hS0, hS1, hS2, hS3, hS4⟩ := hSw; go_simp; with_reducible rfl
          (try simp only [Act.put]); (try simp only [List.setIfInBounds_toArray]); (try simp only [List.set_cons_zero, List.set_cons_succ])
          refine takeH (some 39) (i := 12) (v := ?_) rfl (by kernel_rfl) (by kernel_rfl) (by kernel_rfl) (fun _ _ _ h => h) (Or.inl ⟨by rfl, ?_⟩) hHeld rfl ?_
          rotate_left
          · intro w hSw; obtain ⟨hS0, hS1, hS2, hS3, hS4⟩ := hSw; go_simp; with_reducible rfl
          (try simp only [Act.put]); (try simp only [List.setIfInBounds_toArray]); (try simp only [List.set_cons_zero, List.set_cons_succ])
          refine takeH (some 40) (i := 13) (v := undef) rfl (by kernel_rfl) (by kernel_rfl) (by kernel_rfl) (fun _ _ _ h => h) (Or.inr ⟨by rfl, rfl⟩) hHeld rfl ?_
          (try simp only [Act.put]); (try simp only [List.setIfInBounds_toArray]); (try simp only [List.set_cons_zero, List.set_cons_succ])
          refine takeH (some 41) (i := 14) (v := undef) rfl (by kernel_rfl) (by kernel_rfl) (by kernel_rfl) (fun _ _ _ h => h) (Or.inr ⟨by rfl, rfl⟩) hHeld rfl ?_
          (try simp only [Act.put]); (try simp only [List.setIfInBounds_toArray]); (try simp only [List.set_cons_zero, List.set_cons_succ])
          refine takeH (some 42) (i := 15) (v := undef) rfl (by kernel_rfl) (by kernel_rfl) (by kernel_rfl) (fun _ _ _ h => h) (Or.inr ⟨by rfl, rfl⟩) hHeld rfl ?_
          (try simp only [Act.put]); (try simp only [List.setIfInBounds_toArray]); (try simp only [List.set_cons_zero, List.set_cons_succ])
          refine takeH (some 43) (i := 16) (v := ?_) rfl (by kernel_rfl) (by kernel_rfl) (by kernel_rfl) (fun _ _ _ h => h) (Or.inl ⟨by rfl, ?_⟩) hHeld rfl ?_
          rotate_left
          · intro w hSw; obtain ⟨hS0, hS1, hS2, hS3, hS4⟩ := hSw; go_simp; with_reducible rfl
          (try simp only [Act.put]); (try simp only [List.setIfInBounds_toArray]); (try simp only [List.set_cons_zero, List.set_cons_succ])
          refine wpAnyH_done (by kernel_rfl) ?_ _
          refine NoPanic.normal ?_
          go_wp2_with fail
          go_meet
          case rel => exact ⟨by rw [HBV.out], D⟩
  case rest =>
    obtain ⟨rfl, D⟩ := hcut
    have TC := bel2 HT1.out D
    have KC : Blk wc M0 38 [.bool mo.deny, .string e1, .string e2, .string e3] := by rw [hM0]; exact HKM.out.on D
    have ZC : M0 + 2 ≤ wc.heap.size := by have := D.size; omega
    have HTC : Hid (Below w.heap.size w wc) := TC
    have HKC : Hid (Blk wc M0 38 [.bool mo.deny, .string e1, .string e2, .string e3]) := KC
    have HM0 : Hid (M0 = w.heap.size) := hM0
    clear D HKM HKP HT1 HLi TC KC hM0 Z1
    cases bt with
    | true =>
      go_wp2_with fail
      refine (HA _ (HM.out _ HTC.out)).mono ?_
      rintro e y ⟨rfl, t⟩
      have T2 := bel2 HTC.out t
      go_wp2_with fail
      go_ret
      exact ⟨rfl, T2⟩
    | false =>
      have hlb : lb = true ∧ 0 < l.length := by
        have := HBT.out
        cases lb with
        | false => simp at this
        | true =>
          refine ⟨rfl, ?_⟩
          by_cases h0 : l.length = 0
          · rw [decide_eq_true h0] at this; simp at this
          · omega
      have HL1 : Hid (lightL (l ++ [mo]) [p, q, s] = true) := by unfold Hid; rw [← HLB.out]; exact hlb.1
      have hn0 := hlb.2
      have hn50 : l.length ≤ 49 := by have := light_len HL1.out; have := HLe.out; omega
      clear hlb HBT HLB
      have hnz : ¬ (l.length : Int) = 0 := by omega
      have hnz2 : ((l.length : Int) == 0) = false := by rw [beq_eq_false_iff_ne]; exact hnz
      go_wp2_with fail
      go_quiet (fail)
      have TQ : Below w.heap.size w (wc.drewN nq) := bel_drewN HTC.out nq
      have KQ : Blk (wc.drewN nq) M0 38 [.bool mo.deny, .string e1, .string e2, .string e3] := HKC.out.drewN nq
      have ZQ : M0 + 2 ≤ (wc.drewN nq).heap.size := ZC
      generalize wc.drewN nq = X at *
      have HTX : Hid (Below w.heap.size w X) := TQ
      have HKX : Hid (Blk X M0 38 [.bool mo.deny, .string e1, .string e2, .string e3]) := KQ
      have b1 : -(l.length : Int) < x1.tmod (l.length : Int) := Int.lt_tmod_of_pos x1 (by omega)
      have b2 : x1.tmod (l.length : Int) < (l.length : Int) := Int.tmod_lt_of_pos x1 (by omega)
      have b3 : -(l.length : Int) < x2.tmod (l.length : Int) := Int.lt_tmod_of_pos x2 (by omega)
      have b4 : x2.tmod (l.length : Int) < (l.length : Int) := Int.tmod_lt_of_pos x2 (by omega)
      generalize x1.tmod (l.length : Int) = r1 at *
      generalize x2.tmod (l.length : Int) = r2 at *
      clear TQ KQ HTC HKC hnz hnz2
      go_upto_if 54 with fail
      go_cut [16] from 54 (fun v wx => ∃ i : Nat, i < l.length ∧ v = .int .i64 (i : Int) ∧ wx = X)
      case first =>
        by_cases h0 : r1 < 0
        · have h0' : decide (r1 < 0) = true := decide_eq_true h0
          go_wp2_with fail
          go_meet
          case rel => exact ⟨(r1 + l.length).toNat, by omega, by go_num, rfl⟩
        · have h0' : decide (r1 < 0) = false := decide_eq_false h0
          go_wp2_with fail
          go_meet
          case rel => exact ⟨r1.toNat, by omega, by go_num, rfl⟩
      case rest =>
        obtain ⟨i, hi, rfl, rfl⟩ := hcut
        clear b1 b2
        go_upto_if 60 with fail
        go_cut [17] from 60 (fun v wx => ∃ k : Nat, k < l.length ∧ v = .int .i64 (k : Int) ∧ wx = wc)
        case first =>
          by_cases h0 : r2 < 0
          · have h0' : decide (r2 < 0) = true := decide_eq_true h0
            go_wp2_with fail
            go_meet
            case rel => exact ⟨(r2 + l.length).toNat, by omega, by go_num, rfl⟩
          · have h0' : decide (r2 < 0) = false := decide_eq_false h0
            go_wp2_with fail
            go_meet
            case rel => exact ⟨r2.toNat, by omega, by go_num, rfl⟩
        case rest =>
          obtain ⟨k, hk, rfl, hwc⟩ := hcut
          subst hwc
          clear b3 b4
          go_wp2_with (at_builtin; (refine list_appRs 22 38 Tryd.underlying22 infoRef8 _ rfl (.tmp 65) (.tmp 66) rfl wc.heap.size (.slice (some ⟨wc.heap.size, 0, none⟩) 0 0) [] rfl (OwnR.empty _ wc _ (Nat.le_refl _)) a cap l rfl (HRl.out _ (HTX.out.alloc HTX.out.size _)) HB1.out (by simp) ?_; intro v1 y1 ho1 hg1 hk1; rw [List.nil_append] at ho1; obtain ⟨g, cap1, rfl, zg, zg2⟩ := ho1.form hn0; have D1 : Below wc.heap.size wc y1 := ((Below.refl _ wc).alloc (Nat.le_refl _) _).grown hg1 (by simp) (fun j hj => by have : j = wc.heap.size := (by simpa [Value.ownBlock] using hj.symm); omega)))
          have TY := bel2 HTX.out D1
          have KY : Blk y1 M0 38 [.bool mo.deny, .string e1, .string e2, .string e3] := HKX.out.on D1
          have HTY : Hid (Below w.heap.size w y1) := TY
          have HKY : Hid (Blk y1 M0 38 [.bool mo.deny, .string e1, .string e2, .string e3]) := KY
          have HOY : Hid (OwnR 38 y1 wc.heap.size (.slice (some ⟨g, 0, none⟩) l.length cap1) l) := ho1
          clear ho1 hg1 hk1 D1 TY KY
          have hM2 : M0 + 2 ≤ wc.heap.size := ZQ
          generalize wc.heap.size = BS at *
          clear HTX HKX
          go_cut [18] from 68 (fun v wx => v = .slice (some ⟨g, 0, none⟩) l.length cap1 ∧ Hid (OwnR 38 wx BS (.slice (some ⟨g, 0, none⟩) l.length cap1) (swapR l i k)) ∧ Hid (Below w.heap.size w wx) ∧ Hid (Blk wx M0 38 [.bool mo.deny, .string e1, .string e2, .string e3]))
          case first =>
            have hi1 : (i : Int) < (l.length : Int) := by omega
            have hk1 : (k : Int) < (l.length : Int) := by omega
            have hi2 : (0 : Int) ≤ (i : Int) := by omega
            have hk2 : (0 : Int) ≤ (k : Int) := by omega
            refine wp_region_noPanic ?_
            refine wp_region_held_drew (S := fun _ => True) (by kernel_rfl) trivial (fun hHeld => ?_)
            have HTZ : Hid (Below w.heap.size w y1.drew) := HTY.out.drew
            have HKZ : Hid (Blk y1.drew M0 38 [.bool mo.deny, .string e1, .string e2, .string e3]) := HKY.out.drew0
            have HOZ : Hid (OwnR 38 y1.drew BS (.slice (some ⟨g, 0, none⟩) l.length cap1) l) := HOY.out.drew0
            clear HTY HKY HOY
            refine takeH (some 68) (i := 0) (v := ?_) rfl (by kernel_rfl) (by kernel_rfl) (by kernel_rfl) (fun _ _ _ h => h) (Or.inl ⟨by rfl, ?_⟩) hHeld rfl ?_
            rotate_left
            · intro w hSw; go_simp; with_reducible rfl
            (try simp only [Act.put]); (try simp only [List.setIfInBounds_toArray]); (try simp only [List.set_cons_zero, List.set_cons_succ])
            refine takeH (some 69) (i := 1) (v := ?_) rfl (by kernel_rfl) (by kernel_rfl) (by kernel_rfl) (fun _ _ _ h => h) (Or.inl ⟨by rfl, ?_⟩) hHeld rfl ?_
            rotate_left
            · intro w hSw; go_simp; with_reducible rfl
            (try simp only [Act.put]); (try simp only [List.setIfInBounds_toArray]); (try simp only [List.set_cons_zero, List.set_cons_succ])
            refine takeH (some 70) (i := 2) (v := ?_) rfl (by kernel_rfl) (by kernel_rfl) (by kernel_rfl) (fun _ _ _ h => h) (Or.inl ⟨by rfl, ?_⟩) hHeld rfl ?_
            rotate_left
            · intro w hSw; go_simp; with_reducible rfl
            (try simp only [Act.put]); (try simp only [List.setIfInBounds_toArray]); (try simp only [List.set_cons_zero, List.set_cons_succ])
            refine takeH (some 71) (i := 3) (v := ?_) rfl (by kernel_rfl) (by kernel_rfl) (by kernel_rfl) (fun _ _ _ h => h) (Or.inl ⟨by rfl, ?_⟩) hHeld rfl ?_
            rotate_left
            · intro w hSw; go_simp; with_reducible rfl
            (try simp only [Act.put]); (try simp only [List.setIfInBounds_toArray]); (try simp only [List.set_cons_zero, List.set_cons_succ])
            refine takeH (some 72) (i := 4) (v := ?_) rfl (by kernel_rfl) (by kernel_rfl) (by kernel_rfl) (fun _ _ _ h => h) (Or.inl ⟨by rfl, ?_⟩) hHeld rfl ?_
            rotate_left
            · intro w hSw; go_simp; with_reducible rfl
            (try simp only [Act.put]); (try simp only [List.setIfInBounds_toArray]); (try simp only [List.set_cons_zero, List.set_cons_succ])
            refine takeH (some 73) (i := 5) (v := ?_) rfl (by kernel_rfl) (by kernel_rfl) (by kernel_rfl) (fun _ _ _ h => h) (Or.inl ⟨by rfl, ?_⟩) hHeld rfl ?_
            rotate_left
            · intro w hSw; go_simp; with_reducible rfl
            (try simp only [Act.put]); (try simp only [List.setIfInBounds_toArray]); (try simp only [List.set_cons_zero, List.set_cons_succ])
            refine takeH (some 74) (i := 6) (v := ?_) rfl (by kernel_rfl) (by kernel_rfl) (by kernel_rfl) (fun _ _ _ h => h) (Or.inl ⟨by rfl, ?_⟩) hHeld rfl ?_
            rotate_left
            · intro w hSw; go_simp; with_reducible rfl
            (try simp only [Act.put]); (try simp only [List.setIfInBounds_toArray]); (try simp only [List.set_cons_zero, List.set_cons_succ])
            refine takeH (some 76) (i := 8) (v := ?_) rfl (by kernel_rfl) (by kernel_rfl) (by kernel_rfl) (fun _ _ _ h => h) (Or.inl ⟨by rfl, ?_⟩) hHeld rfl ?_
            rotate_left
            · intro w hSw; go_simp; with_reducible rfl
            (try simp only [Act.put]); (try simp only [List.setIfInBounds_toArray]); (try simp only [List.set_cons_zero, List.set_cons_succ])
            refine takeH (some 77) (i := 9) (v := ?_) rfl (by kernel_rfl) (by kernel_rfl) (by kernel_rfl) (fun _ _ _ h => h) (Or.inl ⟨by rfl, ?_⟩) hHeld rfl ?_
            rotate_left
            · intro w hSw; go_simp; with_reducible rfl
            (try simp only [Act.put]); (try simp only [List.setIfInBounds_toArray]); (try simp only [List.set_cons_zero, List.set_cons_succ])
            refine takeH (some 78) (i := 10) (v := ?_) rfl (by kernel_rfl) (by kernel_rfl) (by kernel_rfl) (fun _ _ _ h => h) (Or.inl ⟨by rfl, ?_⟩) hHeld rfl ?_
            rotate_left
            · intro w hSw; go_simp; with_reducible rfl
            (try simp only [Act.put]); (try simp only [List.setIfInBounds_toArray]); (try simp only [List.set_cons_zero, List.set_cons_succ])
            generalize y1.drew = V0 at *
            have RK : V0.rangeAt g (k * 4) (ruc (nthR l k)) := (HOZ.out.at k hk).range
            have RI : V0.rangeAt g (i * 4) (ruc (nthR l i)) := (HOZ.out.at i hi).range
            have HW1 : Hid (OwnR 38 (V0.setCells g (i * 4) (ruc (nthR l k)).toArray.toList) BS (.slice (some ⟨g, 0, none⟩) (l.set i (nthR l k)).length cap1) (l.set i (nthR l k))) := HOZ.out.store i (nthR l k)
            have TH1 : V0.there g (i * 4) (ruc (nthR l k)).toArray.size := HOZ.out.there i hi
            have TH2 : (V0.setCells g (i * 4) (ruc (nthR l k)).toArray.toList).there g (k * 4) (ruc (nthR l i)).toArray.size := HW1.out.there k (by rw [List.length_set]; exact hk)
            have HW2 : Hid (OwnR 38 ((V0.setCells g (i * 4) (ruc (nthR l k)).toArray.toList).setCells g (k * 4) (ruc (nthR l i)).toArray.toList) BS (.slice (some ⟨g, 0, none⟩) l.length cap1) (swapR l i k)) := by
              have h2 := HW1.out.store k (nthR l i)
              rw [List.length_set, List.length_set] at h2
              exact h2
            have hgM : M0 < g := by omega
            have HT2 : Hid (Below w.heap.size w ((V0.setCells g (i * 4) (ruc (nthR l k)).toArray.toList).setCells g (k * 4) (ruc (nthR l i)).toArray.toList)) := cells_bel (cells_bel HTZ.out (by rw [← HM0.out]; omega)) (by rw [← HM0.out]; omega)
            have HK2 : Hid (Blk ((V0.setCells g (i * 4) (ruc (nthR l k)).toArray.toList).setCells g (k * 4) (ruc (nthR l i)).toArray.toList) M0 38 [.bool mo.deny, .string e1, .string e2, .string e3]) := (cells_bel (cells_bel (Below.refl (M0 + 1) V0) hgM) hgM).block M0 (Nat.lt_succ_self _) |>.trans HKZ.out
            refine wpAnyH_ready (rs := [7, 11]) (by kernel_rfl) (by simp) ?_
            refine AllReadyH.cons rfl (fun K hK => ?_) (AllReadyH.cons rfl (fun K hK => ?_) AllReadyH.nil)
            · skip
              rw [if_pos (by rfl)]
              refine wp_load_ru (.tmp 74) rfl 75 rfl g (k * 4) (nthR l k) rfl RK ?_
              refine hK.out _ _ trivial (fun hHeld => ?_)
              (try simp only [Act.put]); (try simp only [List.setIfInBounds_toArray]); (try simp only [List.set_cons_zero, List.set_cons_succ])
              clear hK K
              refine wpAnyH_ready (rs := [11]) (by kernel_rfl) (by simp) (AllReadyH.cons rfl (fun K hK => ?_) AllReadyH.nil)
              rw [if_pos (by rfl)]
              refine wp_load_ru (.tmp 78) rfl 79 rfl g (i * 4) (nthR l i) rfl RI ?_
              refine hK.out _ _ trivial (fun hHeld => ?_)
              (try simp only [Act.put]); (try simp only [List.setIfInBounds_toArray]); (try simp only [List.set_cons_zero, List.set_cons_succ])
              clear hK K
              refine takeH (some 80) (i := 12) (v := ?_) rfl (by kernel_rfl) (by kernel_rfl) (by kernel_rfl) (fun _ _ _ h => h) (Or.inl ⟨by rfl, ?_⟩) hHeld rfl ?_
              rotate_left
              · intro w hSw; go_simp; with_reducible rfl
              (try simp only [Act.put]); (try simp only [List.setIfInBounds_toArray]); (try simp only [List.set_cons_zero, List.set_cons_succ])
              refine wpAnyH_ready (rs := [13]) (by kernel_rfl) (by simp) (AllReadyH.cons rfl (fun K hK => ?_) AllReadyH.nil)
              rw [if_pos (by rfl)]
              refine wp_store_ru (.tmp 80) (.tmp 75) rfl rfl g (i * 4) (nthR l k) rfl rfl TH1 ?_
              refine hK.out _ _ trivial (fun hHeld => ?_)
              clear hK K
              refine takeH (some 81) (i := 14) (v := ?_) rfl (by kernel_rfl) (by kernel_rfl) (by kernel_rfl) (fun _ _ _ h => h) (Or.inl ⟨by rfl, ?_⟩) hHeld rfl ?_
              rotate_left
              · intro w hSw; go_simp; with_reducible rfl
              (try simp only [Act.put]); (try simp only [List.setIfInBounds_toArray]); (try simp only [List.set_cons_zero, List.set_cons_succ])
              refine wpAnyH_ready (rs := [15]) (by kernel_rfl) (by simp) (AllReadyH.cons rfl (fun K hK => ?_) AllReadyH.nil)
              rw [if_pos (by rfl)]
              refine wp_store_ru (.tmp 81) (.tmp 79) rfl rfl g (k * 4) (nthR l i) rfl rfl TH2 ?_
              refine hK.out _ _ trivial (fun hHeld => ?_)
              clear hK K
              refine wpAnyH_done (by kernel_rfl) ?_ _
              refine NoPanic.normal ?_
              go_wp2_with fail
              go_meet
              case rel => exact ⟨rfl, HW2, HT2, HK2⟩
            · skip
              rw [if_pos (by rfl)]
              refine wp_load_ru (.tmp 78) rfl 79 rfl g (i * 4) (nthR l i) rfl RI ?_
              refine hK.out _ _ trivial (fun hHeld => ?_)
              (try simp only [Act.put]); (try simp only [List.setIfInBounds_toArray]); (try simp only [List.set_cons_zero, List.set_cons_succ])
              clear hK K
              refine wpAnyH_ready (rs := [7]) (by kernel_rfl) (by simp) (AllReadyH.cons rfl (fun K hK => ?_) AllReadyH.nil)
              rw [if_pos (by rfl)]
              refine wp_load_ru (.tmp 74) rfl 75 rfl g (k * 4) (nthR l k) rfl RK ?_
              refine hK.out _ _ trivial (fun hHeld => ?_)
              (try simp only [Act.put]); (try simp only [List.setIfInBounds_toArray]); (try simp only [List.set_cons_zero, List.set_cons_succ])
              clear hK K
              refine takeH (some 80) (i := 12) (v := ?_) rfl (by kernel_rfl) (by kernel_rfl) (by kernel_rfl) (fun _ _ _ h => h) (Or.inl ⟨by rfl, ?_⟩) hHeld rfl ?_
              rotate_left
              · intro w hSw; go_simp; with_reducible rfl
              (try simp only [Act.put]); (try simp only [List.setIfInBounds_toArray]); (try simp only [List.set_cons_zero, List.set_cons_succ])
              refine wpAnyH_ready (rs := [13]) (by kernel_rfl) (by simp) (AllReadyH.cons rfl (fun K hK => ?_) AllReadyH.nil)
              rw [if_pos (by rfl)]
              refine wp_store_ru (.tmp 80) (.tmp 75) rfl rfl g (i * 4) (nthR l k) rfl rfl TH1 ?_
              refine hK.out _ _ trivial (fun hHeld => ?_)
              clear hK K
              refine takeH (some 81) (i := 14) (v := ?_) rfl (by kernel_rfl) (by kernel_rfl) (by kernel_rfl) (fun _ _ _ h => h) (Or.inl ⟨by rfl, ?_⟩) hHeld rfl ?_
              rotate_left
              · intro w hSw; go_simp; with_reducible rfl
              (try simp only [Act.put]); (try simp only [List.setIfInBounds_toArray]); (try simp only [List.set_cons_zero, List.set_cons_succ])
              refine wpAnyH_ready (rs := [15]) (by kernel_rfl) (by simp) (AllReadyH.cons rfl (fun K hK => ?_) AllReadyH.nil)
              rw [if_pos (by rfl)]
              refine wp_store_ru (.tmp 81) (.tmp 79) rfl rfl g (k * 4) (nthR l i) rfl rfl TH2 ?_
              refine hK.out _ _ trivial (fun hHeld => ?_)
              clear hK K
              refine wpAnyH_done (by kernel_rfl) ?_ _
              refine NoPanic.normal ?_
              go_wp2_with fail
              go_meet
              case rel => exact ⟨rfl, HW2, HT2, HK2⟩
          case rest =>
            obtain ⟨rfl, HO, HT, HK⟩ := hcut
            have hl2 : (swapR l i k).length = l.length := swapR_length l i k
            have hmem := swapR_mem l i k hi hk
            obtain ⟨L2, hL2⟩ : ∃ L2, L2 = swapR l i k := ⟨_, rfl⟩
            rw [← hL2] at HO hl2 hmem
            clear hL2
            obtain ⟨mt, hmt⟩ : ∃ mt : Ru, mt = ⟨true, mo.who, mo.act, mo.res⟩ := ⟨_, rfl⟩
            have HRt : Hid (ruc mt = [.bool true, .string e1, .string e2, .string e3]) := by
              obtain ⟨h1, h2, h3⟩ := HMe.out
              unfold Hid; rw [hmt, ← h1, ← h2, ← h3]; rfl
            have hsm : SmallR (L2 ++ [mt]) := fun j hj => by
              have hin : nthR (L2 ++ [mt]) j ∈ L2 ++ [mt] := by rw [nthR_eq _ j hj]; exact List.getElem_mem hj
              rcases List.mem_append.1 hin with h | h
              · have := light_rule HL1.out (r := nthR (L2 ++ [mt]) j) (List.mem_append_left _ ((hmem _).1 h))
                omega
              · rw [List.mem_singleton.1 h, hmt]
                have := light_rule HL1.out (r := mo) (by simp)
                exact ⟨by show mo.who.length ≤ _; omega, by show mo.act.length ≤ _; omega, by show mo.res.length ≤ _; omega⟩
            have hs2 : SmallR L2 := fun j hj => by
              have := light_rule HL1.out (r := nthR L2 j) (List.mem_append_left _ ((hmem _).1 (by rw [nthR_eq _ j hj]; exact List.getElem_mem hj)))
              omega
            have hs1 : SmallR l := fun j hj => by
              have := light_rule HL1.out (r := nthR l j) (List.mem_append_left _ (by rw [nthR_eq _ j hj]; exact List.getElem_mem hj))
              omega
            have y1p := light_text HL1.out (t := p) (by simp)
            have y1q := light_text HL1.out (t := q) (by simp)
            have y1s := light_text HL1.out (t := s) (by simp)
            have hlm : (L2 ++ [mt]).length = l.length + 1 := by rw [List.length_append, hl2]; rfl
            obtain ⟨g1, g2, g3⟩ := HSS.out
            have O3 : Hid (∀ W a2 c2, IsRs W a2 (l.length + 1) c2 (L2 ++ [mt]) → Calls Tryd.prog 14 #[.slice a2 (l.length + 1) c2] W fun e w' => ∃ v, e = .returned v ∧ OwnR 37 w' W.heap.size v (L2 ++ [mt]) ∧ Below W.heap.size W w') := fun W a2 c2 h => lawOwn8 a2 (l.length + 1) c2 (L2 ++ [mt]) W h (by omega)
            have M3 : Hid (∀ W a2 c2, IsRs W a2 (l.length + 1) c2 (L2 ++ [mt]) → Calls Tryd.prog 22 #[.slice a2 (l.length + 1) c2, .bool root, .string sp, .string sq, .string ss] W fun e w' => e = .returned (.bool (mayR (L2 ++ [mt]) root p q s)) ∧ Below W.heap.size W w') := fun W a2 c2 h => by
              rw [← g1, ← g2, ← g3]
              exact codMay8 a2 (l.length + 1) c2 (L2 ++ [mt]) root p q s W h hsm (by omega) (by omega) (by omega) (by omega)
            have O1 : Hid (∀ W, Below w.heap.size w W → Calls Tryd.prog 14 #[.slice a l.length cap] W fun e w' => ∃ v, e = .returned v ∧ OwnR 37 w' W.heap.size v l ∧ Below W.heap.size W w') := fun W hW => lawOwn8 a l.length cap l W (HRl.out W hW) (by omega)
            have M1 : Hid (∀ W a2 c2, IsRs W a2 l.length c2 l → Calls Tryd.prog 22 #[.slice a2 l.length c2, .bool root, .string sp, .string sq, .string ss] W fun e w' => e = .returned (.bool (mayR l root p q s)) ∧ Below W.heap.size W w') := fun W a2 c2 h => by
              rw [← g1, ← g2, ← g3]
              exact codMay8 a2 l.length c2 l root p q s W h hs1 (by omega) (by omega) (by omega) (by omega)
            have O2 : Hid (∀ W, IsRs W (some ⟨g, 0, none⟩) l.length cap1 L2 → Calls Tryd.prog 14 #[.slice (some ⟨g, 0, none⟩) l.length cap1] W fun e w' => ∃ v, e = .returned v ∧ OwnR 37 w' W.heap.size v L2 ∧ Below W.heap.size W w') := fun W h => lawOwn8 _ l.length cap1 L2 W h (by omega)
            have E2 : Hid (∀ W a2 c2, IsRs W a2 l.length c2 L2 → Calls Tryd.prog 20 #[.slice a2 l.length c2, .string sp, .string sq, .string ss] W fun e w' => e = .returned (.int .i64 (decR l p q s : Int)) ∧ Below W.heap.size W w') := fun W a2 c2 h => by
              rw [← g1, ← g2, ← g3, ← dec_mem hmem p q s]
              exact codDecide8 a2 l.length c2 L2 p q s W h hs2 (by omega) (by omega) (by omega) (by omega)
            have E1 : Hid (∀ W a2 c2, IsRs W a2 l.length c2 l → Calls Tryd.prog 20 #[.slice a2 l.length c2, .string sp, .string sq, .string ss] W fun e w' => e = .returned (.int .i64 (decR l p q s : Int)) ∧ Below W.heap.size W w') := fun W a2 c2 h => by
              rw [← g1, ← g2, ← g3]
              exact codDecide8 a2 l.length c2 l p q s W h hs1 (by omega) (by omega) (by omega) (by omega)
            have HMM : Hid (mayR (L2 ++ [mt]) root p q s = true → mayR l root p q s = true) := fun h => by
              have := may_more L2 mt (by rw [hmt]) root p q s h
              rw [may_mem hmem] at this; exact this
            have HLM : Hid ((L2 ++ [mt]).length = l.length + 1) := hlm
            have HL2 : Hid (L2.length = l.length) := hl2
            have HBy : Hid ((L2.length + [mt].length) * 56 ≤ 140737488355328) := by unfold Hid; rw [hl2, List.length_singleton]; omega
            have hdz : ((decR l p q s : Int) == (decR l p q s : Int)) = true := beq_self_eq_true _
            generalize mayR (L2 ++ [mt]) root p q s = mw at *
            generalize mayR l root p q s = m0 at *
            generalize decR l p q s = dd at *
            have c0 : wc.cell? ⟨M0, 0, none⟩ = some (.bool mo.deny) := HK.out.cell 0
            have f0 := HK.out.frozen 0
            have HO2 : Hid (OwnR 38 (wc.setCell ⟨M0, 0, none⟩ (.bool true)) BS (.slice (some ⟨g, 0, none⟩) l.length cap1) L2) := HO.out.far M0 _ (by omega)
            have HT2 : Hid (Below w.heap.size w (wc.setCell ⟨M0, 0, none⟩ (.bool true))) := HT.out.setCell (p := ⟨M0, 0, none⟩) (by show w.heap.size ≤ M0; rw [← HM0.out]; exact Nat.le_refl _) _
            have HK2 : Blk (wc.setCell ⟨M0, 0, none⟩ (.bool true)) M0 38 [.bool true, .string e1, .string e2, .string e3] := HK.out.set 0 _
            have ZS : BS ≤ (wc.setCell ⟨M0, 0, none⟩ (.bool true)).heap.size := by have := HO2.out.blk g rfl; omega
            clear hmem hsm hs2 hs1 y1p y1q y1s hlm g1 g2 g3 HRl HL1 HMe HMo hmt hl2 HO HT HK HB1 HB2 HSS HLe
            go_upto_region 12 with fail
            generalize wc.setCell ⟨M0, 0, none⟩ (.bool true) = Y at *
            have k0 : Y.cell? ⟨M0, 0, none⟩ = some (.bool true) := HK2.cell 0
            have k1 : Y.cell? ⟨M0, 1, none⟩ = some (.string e1) := HK2.cell 1
            have k2 : Y.cell? ⟨M0, 2, none⟩ = some (.string e2) := HK2.cell 2
            have k3 : Y.cell? ⟨M0, 3, none⟩ = some (.string e3) := HK2.cell 3
            have HBk : Hid (∀ o : Obj, o = .cells #[.bool true, .string e1, .string e2, .string e3] 38 → (Y.alloc o).heap[Y.heap.size]? = some (.cells (ruc mt).toArray 38 (0, 0))) := fun o ho => by
              rw [ho, HRt.out]; exact heap_alloc_new Y _
            clear HK2 c0 f0
            go_wp2_with (at_builtin; (refine list_appRs 22 38 Tryd.underlying22 infoRef8 _ rfl (.tmp 83) (.tmp 85) rfl BS (.slice (some ⟨g, 0, none⟩) l.length cap1) L2 rfl (HO2.out.alloc _) (some ⟨Y.heap.size, 0, none⟩) 1 [mt] rfl (isRs_one mt (HBk.out _ rfl)) HBy.out (by rw [World.size_alloc]; exact Nat.le_succ_of_le ZS) ?_; intro v2 y2 ho2 hg2 hk2))
            obtain ⟨a2, c2, ev2, i2⟩ := ho2.isRs
            rw [HLM.out] at ev2 i2
            subst ev2
            have T2 : Below w.heap.size w y2 := (HT2.out.alloc HT2.out.size _).grown hg2 (by rw [World.size_alloc]; exact Nat.le_succ_of_le HT2.out.size) (fun j hj => by
              have : g = j := by simpa [Value.ownBlock] using hj
              have := HM0.out
              omega)
            have IM : IsRs y2 (some ⟨g, 0, none⟩) l.length cap1 L2 := by
              obtain ⟨a9, c9, e9, i9⟩ := (HO2.out.alloc (.cells #[.bool true, .string e1, .string e2, .string e3] 38)).isRs
              simp only [Value.slice.injEq] at e9
              obtain ⟨rfl, _, rfl⟩ := e9
              rw [HL2.out] at i9
              exact KeptR.isRs hk2 i9
            clear ho2 hg2 hk2 HO2 HT2 k0 k1 k2 k3 HBk HBy HRt ZS
            refine (O3.out _ _ _ i2).mono ?_
            rintro e y3 ⟨v3, rfl, o3, t3⟩
            have T3 := bel2 T2 t3
            have IM := IM.below t3 rfl
            obtain ⟨a3, c3, ev3, i3⟩ := o3.isRs
            rw [HLM.out] at ev3 i3
            subst ev3
            clear o3 O3 i2
            go_wp2_with fail
            refine (M3.out _ _ _ i3).mono ?_
            rintro e y4 ⟨rfl, t4⟩
            have T4 := bel2 T3 t4
            have IM := IM.below t4 rfl
            clear i3 M3
            go_wp2_with fail
            refine (O1.out _ T4).mono ?_
            rintro e y5 ⟨v5, rfl, o5, t5⟩
            have T5 := bel2 T4 t5
            have IM := IM.below t5 rfl
            obtain ⟨a5, c5, ev5, i5⟩ := o5.isRs
            subst ev5
            clear o5
            go_wp2_with fail
            refine (M1.out _ _ _ i5).mono ?_
            rintro e y6 ⟨rfl, t6⟩
            have T6 := bel2 T5 t6
            have IM := IM.below t6 rfl
            clear i5 M1
            go_wp2_with fail
            refine (O2.out _ IM).mono ?_
            rintro e y7 ⟨v7, rfl, o7, t7⟩
            have T7 := bel2 T6 t7
            obtain ⟨a7, c7, ev7, i7⟩ := o7.isRs
            rw [HL2.out] at ev7 i7
            subst ev7
            clear o7 O2 IM
            go_wp2_with fail
            refine (E2.out _ _ _ i7).mono ?_
            rintro e y8 ⟨rfl, t8⟩
            have T8 := bel2 T7 t8
            clear i7 E2
            go_wp2_with fail
            refine (O1.out _ T8).mono ?_
            rintro e y9 ⟨v9, rfl, o9, t9⟩
            have T9 := bel2 T8 t9
            obtain ⟨a9, c9, ev9, i9⟩ := o9.isRs
            subst ev9
            clear o9 O1
            go_wp2_with fail
            refine (E1.out _ _ _ i9).mono ?_
            rintro e z1 ⟨rfl, t10⟩
            have T10 := bel2 T9 t10
            clear i9 E1 t3 t4 t5 t6 t7 t8 t9 t10 T2 T3 T4 T5 T6 T7 T8 T9
            cases m0 with
            | true =>
              go_wp2_with fail
              refine (HA _ (HM.out _ T10)).mono ?_
              rintro e z2 ⟨rfl, t11⟩
              have T11 := bel2 T10 t11
              go_wp2_with fail
              go_ret
              exact ⟨rfl, T11⟩
            | false =>
              cases mw with
              | true => exact absurd (HMM.out (by first | rfl | trivial)) (by simp)
              | false =>
                go_wp2_with fail
                refine (HA _ (HM.out _ T10)).mono ?_
                rintro e z2 ⟨rfl, t11⟩
                have T11 := bel2 T10 t11
                go_wp2_with fail
                go_ret
                exact ⟨rfl, T11⟩
end Go.Proofs.YtihfpoclflppnaaDoor
