/- BlobRefs. -/
import Derived.Test.YthjdmfbengpepaaGreatB45
import Derived.Test.YthjdmfbengpepaaGreatBlE
import Derived.Test.YthjdmfbengpepaaGreatBl2
import Derived.Test.YthjdmfbengpepaaGreatB15
import Derived.Deep.RegionHeld3
namespace Go.Proofs.YthjdmfbengpepaaGreat
open Go.RowKit

theorem readE_two (b : List UInt8) : readE b = 0 ∨ readE b = 4 := by unfold readE; split <;> simp
theorem readR_len (b : List UInt8) : (readR b).secs.length ≤ 12 := by
  unfold readR
  cases h : readO b with
  | none => exact Nat.zero_le _
  | some r =>
    show r.secs.length ≤ 12
    unfold readO at h
    have : rightL r = true := by
      generalize secsRd (rdM b).1 (rdM b).2.1 (rdM b).2.2 [] = x at h
      cases x with
      | none => cases h
      | some y =>
        obtain ⟨l, rest, br⟩ := y
        unfold readEnd at h
        simp only at h
        by_cases h1 : 6144 < (rdN b).1 ∨ br = true ∨ rest ≠ []
        · rw [if_pos h1] at h; cases h
        · rw [if_neg h1] at h
          by_cases h2 : rightL ⟨((rdN b).1 : Int), (rdS b).1, l⟩ = true
          · rw [if_pos h2] at h
            have := Option.some.inj h
            rw [← this]; exact h2
          · rw [if_neg h2] at h; cases h
    exact right_len this
set_option maxRecDepth 20000 in
set_option maxHeartbeats 4000000 in
theorem refs12 {JA : World → Nat → Nat → Nat → Jl → Prop} {TA SA : World → Nat → Nat → Nat → Nat → Tl → Jl → Prop} (ok : JrnOK JA TA) (so : SpcOK JA SA) (bo : BlbOK SA) (br : BlrOK) (r : Rf) (q : RfA) (ba : Option Addr) (bl bc : Nat) (b : List UInt8) (n : Int) (w : World) (h : IsRf w r q) (hrg : ∀ s ∈ r.secs, -9223372036854775808 ≤ s ∧ s ≤ 9223372036854775807) (hb : IsB w ba bl bc b) (hn1 : n ≤ 9223372036854775807) :
    Calls Tryz.prog 4 #[.agg (rfc r q).toArray, .slice ba bl bc, .int .i64 n] w fun e w' => e = .returned (.bool true) ∧ Below w.heap.size w w' := by
  have hY : Below w.heap.size w (w.alloc (.cells (rfc r q).toArray 46)) := (Below.refl _ w).alloc (Nat.le_refl _) _
  have kb := Blk.new w 46 (rfc r q)
  have HBY := mkHid hY
  have HRr : Hid (∀ W, Below w.heap.size w W → IsRf W r q) := fun W hW => h.below hW
  have HBb : Hid (∀ W, Below w.heap.size w W → IsB W ba bl bc b) := fun W hW => hb.below hW rfl
  have HAl : ∀ W, Calls Tryz.prog 7 #[] W fun e w' => e = .returned (.bool true) ∧ Below W.heap.size W w' := fun W => lawAlive12 ok so bo W
  have HKb := mkHid kb
  clear h hY hb
  by_cases hlg : r.sum.length ≤ 10000 ∧ r.secs.length ≤ 1000 ∧ bl ≤ 10000
  · obtain ⟨hl1, hl2, hl3⟩ := hlg
    have HOw : ∀ W, Calls Tryz.prog 13 #[.agg (rfc r q).toArray] W fun e w' => e = .returned (.agg (rfc r q).toArray) ∧ Below W.heap.size W w' := fun W => lawOwn12 r q W
    obtain ⟨SR, hSR⟩ : ∃ SR, SR = showR r := ⟨_, rfl⟩
    obtain ⟨sn, hsn⟩ : ∃ sn, sn = SR.length := ⟨_, rfl⟩
    have HSp : ∀ W, Below w.heap.size w W → Calls Tryz.prog 27 #[.agg (rfc r q).toArray] W fun e w' => (∃ va vc, e = .returned (.slice va sn vc) ∧ IsB w' va sn vc SR) ∧ Below W.heap.size W w' := fun W hW => (br.show_ r q W (HRr.out W hW) (by omega) (by omega) hrg).mono (by
      rintro e w' ⟨v, rfl, ho, hb⟩
      rw [← hSR] at ho
      obtain ⟨va, vc, rfl, hi⟩ := ho.isB
      rw [← hsn] at hi ⊢
      exact ⟨⟨va, vc, rfl, hi⟩, hb⟩)
    have HSr : ∀ W, Below w.heap.size w W → Calls Tryz.prog 28 #[.agg (rfc r q).toArray] W fun e w' => (∃ va vc, e = .returned (.slice va sn vc) ∧ IsB w' va sn vc SR) ∧ Below W.heap.size W w' := fun W hW => (refShow12 r q W (HRr.out W hW) (by omega) (by omega) hrg).mono (by
      rintro e w' ⟨v, rfl, ho, hb⟩
      rw [← hSR] at ho
      obtain ⟨va, vc, rfl, hi⟩ := ho.isB
      rw [← hsn] at hi ⊢
      exact ⟨⟨va, vc, rfl, hi⟩, hb⟩)
    have HSm : ∀ W a c a1 c1, IsB W a sn c SR → IsB W a1 sn c1 SR → Calls Tryz.prog 24 #[.slice a sn c, .slice a1 sn c1] W fun e w' => e = .returned (.bool true) ∧ Below W.heap.size W w' := fun W a c a1 c1 h1 h2 => (refSame a sn c SR a1 sn c1 SR W h1 h2).mono (by
      rintro e w' ⟨rfl, m, rfl⟩
      exact ⟨by rw [eqB_self], bel_drewN (Below.refl _ W) m⟩)
    have HRp := fun W hW => br.read ba bl bc b W (HBb.out W hW) (by omega)
    have HRd := fun W hW => refRead12 ba bl bc b W (HBb.out W hW) (by omega)
    have hXl := readR_len b
    have HBk : ∀ W q, Calls Tryz.prog 21 #[.agg (rfc (readR b) q).toArray] W fun e w' => e = .returned (.agg (rfc (readR b) q).toArray) ∧ Below W.heap.size W w' := fun W q => lawBack12 (readR b) q W
    have HSf : ∀ W q1 q2, IsRf W (readR b) q1 → IsRf W (readR b) q2 → Calls Tryz.prog 20 #[.agg (rfc (readR b) q1).toArray, .agg (rfc (readR b) q2).toArray] W fun e w' => e = .returned (.bool true) ∧ Below W.heap.size W w' := fun W q1 q2 h1 h2 => refSame12 (readR b) q1 q2 W h1 h2 (by omega)
    obtain ⟨z, hz⟩ : ∃ z, z = needL n := ⟨_, rfl⟩
    have HN1 : ∀ W, Calls Tryz.prog 29 #[.int .i64 n] W fun e w' => e = .returned (.int .i64 z) ∧ Below W.heap.size W w' := fun W => by rw [hz]; exact bo.need n W hn1
    have HN2 : ∀ W, Calls Tryz.prog 30 #[.int .i64 n] W fun e w' => e = .returned (.int .i64 z) ∧ Below W.heap.size W w' := fun W => by
      rw [hz]
      refine (refNeed12 n W hn1).mono ?_
      rintro e w' ⟨rfl, rfl⟩
      exact ⟨rfl, Below.refl _ _⟩
    unfold RdPost at HRp HRd
    have hE := readE_two b
    generalize readE b = E at *
    generalize readR b = X at *
    have hzz : (z == z) = true := beq_self_eq_true z
    clear hSR hsn hz hXl
    obtain ⟨rl, rs, rz⟩ := r
    obtain ⟨qa, qc, qb, qd⟩ := q
    change rs.length ≤ 10000 at hl1
    change rz.length ≤ 1000 at hl2
    have hl1' : ¬ (10000 : Int) < (rs.length : Int) := by omega
    have hl2' : ¬ (1000 : Int) < (rz.length : Int) := by omega
    have hl3' : ¬ (10000 : Int) < (bl : Int) := by omega
    have hl1d : decide ((10000 : Int) < (rs.length : Int)) = false := decide_eq_false hl1'
    have hl2d : decide ((1000 : Int) < (rz.length : Int)) = false := decide_eq_false hl2'
    simp only [rfc] at *
    have c0 := kb.cell 0
    have c1 := kb.cell 1
    have c2 := kb.cell 2
    simp only [List.getElem?_cons_zero, List.getElem?_cons_succ] at c0 c1 c2
    clear kb
    obtain ⟨xl, xs, xz⟩ := X
    simp only at *
    go_enter Tryz.func4, Tryz.ntmps4
    go_wp2_with fail
    generalize w.alloc (.cells #[.int .i64 rl, .slice qa rs.length qc, .slice qb rz.length qd] 46) = Y at *
    refine (HRp Y HBY.out).mono ?_
    rintro e y1 ⟨⟨⟨pa, pc, pb, pd⟩, rfl, hp⟩, hb1⟩
    simp only
    have HB1 := mkHid (HBY.out.trans (hb1.mono HBY.out.size))
    have HK1 := mkHid (HKb.out.on hb1)
    have HP1 := mkHid hp
    clear hb1 hp c0 c1 c2 HKb HRp
    go_wp2_with fail
    have hA1 : Below y1.heap.size y1 (y1.alloc (.cells #[.int .i64 xl, .slice pa xs.length pc, .slice pb xz.length pd] 44)) := (Below.refl _ y1).alloc (Nat.le_refl _) _
    have HPk := mkHid (Blk.new y1 44 [.int .i64 xl, .slice pa xs.length pc, .slice pb xz.length pd])
    have HBA := mkHid (HB1.out.trans (hA1.mono HB1.out.size))
    have HKA := mkHid (HK1.out.on hA1)
    have HPA := mkHid (HP1.out.below hA1)
    clear hA1 HK1 HP1 HB1
    generalize y1.alloc (.cells #[.int .i64 xl, .slice pa xs.length pc, .slice pb xz.length pd] 44) = Y1 at *
    generalize y1.heap.size = B1 at *
    refine (HRd Y1 HBA.out).mono ?_
    rintro e y2 ⟨⟨⟨ua, uc, ub, ud⟩, rfl, hu⟩, hb2⟩
    simp only
    have HB2 := mkHid (HBA.out.trans (hb2.mono HBA.out.size))
    have HK2 := mkHid (HKA.out.on hb2)
    have HP2 := mkHid (HPA.out.below hb2)
    have HPk2 := mkHid (HPk.out.on hb2)
    have HU2 := mkHid hu
    clear hb2 hu HRd HBA HKA HPA HPk
    go_wp2_with fail
    have hA2 : Below y2.heap.size y2 (y2.alloc (.cells #[.int .i64 xl, .slice ua xs.length uc, .slice ub xz.length ud] 46)) := (Below.refl _ y2).alloc (Nat.le_refl _) _
    have HUk := mkHid (Blk.new y2 46 [.int .i64 xl, .slice ua xs.length uc, .slice ub xz.length ud])
    have HB3 := mkHid (HB2.out.trans (hA2.mono HB2.out.size))
    have HK3 := mkHid (HK2.out.on hA2)
    have HP3 := mkHid (HP2.out.below hA2)
    have HPk3 := mkHid (HPk2.out.on hA2)
    have HU3 := mkHid (HU2.out.below hA2)
    clear hA2 HB2 HK2 HP2 HPk2 HU2
    generalize y2.alloc (.cells #[.int .i64 xl, .slice ua xs.length uc, .slice ub xz.length ud] 46) = Y2 at *
    generalize y2.heap.size = B2 at *
    have HKP : ∀ w', Below Y2.heap.size Y2 w' → Below Y2.heap.size Y2 w' ∧ w'.cell? ⟨w.heap.size, 0, none⟩ = some (.int .i64 rl) ∧ w'.cell? ⟨w.heap.size, 1, none⟩ = some (.slice qa rs.length qc) ∧ w'.cell? ⟨w.heap.size, 2, none⟩ = some (.slice qb rz.length qd) ∧ w'.cell? ⟨B1, 0, none⟩ = some (.int .i64 xl) ∧ w'.cell? ⟨B1, 1, none⟩ = some (.slice pa xs.length pc) ∧ w'.cell? ⟨B1, 2, none⟩ = some (.slice pb xz.length pd) ∧ w'.cell? ⟨B2, 0, none⟩ = some (.int .i64 xl) ∧ w'.cell? ⟨B2, 1, none⟩ = some (.slice ua xs.length uc) ∧ w'.cell? ⟨B2, 2, none⟩ = some (.slice ub xz.length ud) := fun w' hW => ⟨hW, (HK3.out.on hW).cell 0, (HK3.out.on hW).cell 1, (HK3.out.on hW).cell 2, (HPk3.out.on hW).cell 0, (HPk3.out.on hW).cell 1, (HPk3.out.on hW).cell 2, (HUk.out.on hW).cell 0, (HUk.out.on hW).cell 1, (HUk.out.on hW).cell 2⟩
    have HBw : Hid (∀ w', Below Y2.heap.size Y2 w' → Below w.heap.size w w') := fun w' hW => HB3.out.trans (hW.mono HB3.out.size)
    have HSp2 : ∀ W, Below Y2.heap.size Y2 W → Calls Tryz.prog 27 #[.agg #[.int .i64 rl, .slice qa rs.length qc, .slice qb rz.length qd]] W fun e w' => (∃ va vc, e = .returned (.slice va sn vc) ∧ IsB w' va sn vc SR) ∧ Below W.heap.size W w' := fun W hW => HSp W (HBw.out W hW)
    have HSr2 : ∀ W, Below Y2.heap.size Y2 W → Calls Tryz.prog 28 #[.agg #[.int .i64 rl, .slice qa rs.length qc, .slice qb rz.length qd]] W fun e w' => (∃ va vc, e = .returned (.slice va sn vc) ∧ IsB w' va sn vc SR) ∧ Below W.heap.size W w' := fun W hW => HSr W (HBw.out W hW)
    have HBk2 : ∀ W, Calls Tryz.prog 21 #[.agg #[.int .i64 xl, .slice pa xs.length pc, .slice pb xz.length pd]] W fun e w' => e = .returned (.agg #[.int .i64 xl, .slice pa xs.length pc, .slice pb xz.length pd]) ∧ Below W.heap.size W w' := fun W => HBk W ⟨pa, pc, pb, pd⟩
    have HSf2 : ∀ W, Below Y2.heap.size Y2 W → Calls Tryz.prog 20 #[.agg #[.int .i64 xl, .slice pa xs.length pc, .slice pb xz.length pd], .agg #[.int .i64 xl, .slice ua xs.length uc, .slice ub xz.length ud]] W fun e w' => e = .returned (.bool true) ∧ Below W.heap.size W w' := fun W hW => HSf W ⟨pa, pc, pb, pd⟩ ⟨ua, uc, ub, ud⟩ (HP3.out.below hW) (HU3.out.below hW)
    clear HSp HSr HBk HSf HRr HBb HK3 HPk3 HUk HP3 HU3 hl1 hl2 hl3 hl1' hl2' hl3' hl1d hl2d hrg hn1
    rcases hE with rfl | rfl
    all_goals
      go_region_held3 (fun w' => Below Y2.heap.size Y2 w' ∧ w'.cell? ⟨w.heap.size, 0, none⟩ = some (.int .i64 rl) ∧ w'.cell? ⟨w.heap.size, 1, none⟩ = some (.slice qa rs.length qc) ∧ w'.cell? ⟨w.heap.size, 2, none⟩ = some (.slice qb rz.length qd) ∧ w'.cell? ⟨B1, 0, none⟩ = some (.int .i64 xl) ∧ w'.cell? ⟨B1, 1, none⟩ = some (.slice pa xs.length pc) ∧ w'.cell? ⟨B1, 2, none⟩ = some (.slice pb xz.length pd) ∧ w'.cell? ⟨B2, 0, none⟩ = some (.int .i64 xl) ∧ w'.cell? ⟨B2, 1, none⟩ = some (.slice ua xs.length uc) ∧ w'.cell? ⟨B2, 2, none⟩ = some (.slice ub xz.length ud))
        (first | exact HKP _ ((Below.refl _ Y2).drew) | assumption | (have hq0 := ‹Below _ _ _ ∧ _›; first | exact HKP _ (hq0.1.trans (hbO.mono hq0.1.size)) | exact HKP _ (hq0.1.trans (hbP.mono hq0.1.size)) | exact HKP _ (hq0.1.trans (hbR.mono hq0.1.size)) | exact HKP _ (hq0.1.trans (hbS.mono hq0.1.size)) | exact HKP _ (hq0.1.trans (hbK.mono hq0.1.size)) | exact HKP _ (hq0.1.trans (hbF.mono hq0.1.size)) | exact HKP _ (hq0.1.trans (hbN.mono hq0.1.size)) | exact HKP _ (hq0.1.trans (hbM.mono hq0.1.size)) | exact HKP _ (hq0.1.trans (hbA.mono hq0.1.size))))
        (first
          | (go_at_call 13; refine (HOw _).mono ?_; rintro e w4 ⟨rfl, hbO⟩)
          | (go_at_call 27; have hq0 := ‹Below _ _ _ ∧ _›; refine (HSp2 _ hq0.1).mono ?_; rintro e w5 ⟨⟨va5, vc5, rfl, hi5⟩, hbP⟩; clear hq0)
          | (go_at_call 28; have hq0 := ‹Below _ _ _ ∧ _›; refine (HSr2 _ hq0.1).mono ?_; rintro e w6 ⟨⟨va6, vc6, rfl, hi6⟩, hbR⟩; clear hq0)
          | (go_at_call 24; refine (HSm _ _ _ _ _ (by first | exact hi5 | exact hi5.below hbR rfl | exact (hi5.below hbR rfl).below hbO rfl) (by first | exact hi6 | exact hi6.below hbP rfl | exact (hi6.below hbO rfl).below hbP rfl)).mono ?_; rintro e w7 ⟨rfl, hbS⟩)
          | (go_at_call 21; refine (HBk2 _).mono ?_; rintro e w8 ⟨rfl, hbK⟩)
          | (go_at_call 20; have hq0 := ‹Below _ _ _ ∧ _›; refine (HSf2 _ hq0.1).mono ?_; rintro e w9 ⟨rfl, hbF⟩; clear hq0)
          | (go_at_call 29; refine (HN1 _).mono ?_; rintro e w10 ⟨rfl, hbN⟩)
          | (go_at_call 30; refine (HN2 _).mono ?_; rintro e w11 ⟨rfl, hbM⟩)
          | (go_at_call 7; refine (HAl _).mono ?_; rintro e w12 ⟨rfl, hbA⟩))
      all_goals
        have hq9 := ‹Below _ _ _ ∧ _›
        have HB9 := mkHid (HBw.out _ hq9.1)
        go_wp2
        go_ret
        exact ⟨rfl, HB9.out⟩
  · obtain ⟨rl, rs, rz⟩ := r
    obtain ⟨qa, qc, qb, qd⟩ := q
    change ¬ (rs.length ≤ 10000 ∧ rz.length ≤ 1000 ∧ bl ≤ 10000) at hlg
    simp only [rfc] at *
    have c0 := kb.cell 0
    have c1 := kb.cell 1
    have c2 := kb.cell 2
    simp only [List.getElem?_cons_zero, List.getElem?_cons_succ] at c0 c1 c2
    clear kb HRr HBb
    by_cases h1 : (10000 : Int) < (rs.length : Int)
    · clear hlg
      go_enter Tryz.func4, Tryz.ntmps4
      go_wp2_with fail
      refine (HAl _).mono ?_
      rintro e y2 ⟨rfl, hb2⟩
      have HB2 := mkHid (HBY.out.trans (hb2.mono HBY.out.size))
      go_wp2_with fail
      go_ret
      exact ⟨rfl, HB2.out⟩
    have d1 : decide ((10000 : Int) < (rs.length : Int)) = false := decide_eq_false h1
    by_cases h2 : (1000 : Int) < (rz.length : Int)
    · clear hlg
      go_enter Tryz.func4, Tryz.ntmps4
      go_wp2_with fail
      refine (HAl _).mono ?_
      rintro e y2 ⟨rfl, hb2⟩
      have HB2 := mkHid (HBY.out.trans (hb2.mono HBY.out.size))
      go_wp2_with fail
      go_ret
      exact ⟨rfl, HB2.out⟩
    have d2 : decide ((1000 : Int) < (rz.length : Int)) = false := decide_eq_false h2
    have h3 : (10000 : Int) < (bl : Int) := by omega
    clear hlg
    go_enter Tryz.func4, Tryz.ntmps4
    go_wp2_with fail
    refine (HAl _).mono ?_
    rintro e y2 ⟨rfl, hb2⟩
    have HB2 := mkHid (HBY.out.trans (hb2.mono HBY.out.size))
    go_wp2_with fail
    go_ret
    exact ⟨rfl, HB2.out⟩
end Go.Proofs.YthjdmfbengpepaaGreat
