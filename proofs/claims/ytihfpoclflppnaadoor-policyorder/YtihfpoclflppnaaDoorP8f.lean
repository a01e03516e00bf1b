/- What policy.parseRule answers. -/
import Derived.Test.YtihfpoclflppnaaDoorB8
import Derived.Test.YtihfpoclflppnaaDoorP8b
import Derived.Test.YtihfpoclflppnaaDoorB16
import Derived.Test.YtihfpoclflppnaaDoorR8d
import Derived.Test.YtihfpoclflppnaaDoorShelf1
namespace Go.Proofs.YtihfpoclflppnaaDoor
open Go.RowKit

theorem codSplit8 (l : List UInt8) (w : World) (hm : MxS w) (hl : l.length ≤ 100000) :
    Calls Tryd.prog 36 #[.string (str l), .string ⟨#[32]⟩] w fun e w' => e = .returned (.slice (some ⟨w.heap.size, 0, none⟩) (cutL 32 l).length (cutL 32 l).length) ∧ w' = w.alloc (.cells ((cutL 32 l).map fun t => Value.string (str t)).toArray 9) := by
  obtain ⟨m, hm⟩ := hm
  have h := Tryd.strings_Split (str l) ⟨#[32]⟩ m w (by rw [str_size]; omega) hm (by decide)
  have hc : Lib.countB (str l) ⟨#[32]⟩ = l.count 32 := by
    show Lib.count (str l).data.toList [32] = _
    rw [str_list, Lib.count_one]
  have hd : (Lib.splitB ⟨#[32]⟩ 0 (l.count 32) (str l)).map (·.data.toList) = cutL 32 l := by
    rw [Lib.splitB_data, str_list]; exact cut_split 32 l
  have e2 : (Lib.splitB ⟨#[32]⟩ 0 (l.count 32) (str l)).map Value.string = (cutL 32 l).map fun t => Value.string (str t) := by
    rw [← hd, List.map_map]
    refine List.map_congr_left fun x _ => ?_
    show Value.string x = Value.string (str x.data.toList)
    rw [str_of]
  rw [hc, e2, ← cut_count] at h
  exact h

/-- the parts of a text as cells -/
def ps0 (l : List UInt8) : List Value := (cutL 32 l).map fun t => Value.string (str t)
theorem four_list (ps : List (List UInt8)) (h : ps.length = 4) : (ps.map fun t => Value.string (str t)) = [.string (str (nthT ps 0)), .string (str (nthT ps 1)), .string (str (nthT ps 2)), .string (str (nthT ps 3))] := by
  match ps, h with
  | [a, b, c, d], _ => rfl

set_option maxRecDepth 20000 in
set_option maxHeartbeats 4000000 in
theorem codParseRule (l : List UInt8) (w : World) (hm : MxS w) (hl : l.length ≤ 100000) :
    Calls Tryd.prog 25 #[.string (str l)] w fun e w' => ∃ r : Ru, e = .returned (.tuple #[.agg #[.bool r.deny, .string (str r.who), .string (str r.act), .string (str r.res)], .bool (ruleOk (cutL 32 l))]) ∧ (ruleOk (cutL 32 l) = true → r = ruleOf (cutL 32 l)) ∧ Below w.heap.size w w' := by
  obtain ⟨W0, hW0⟩ : ∃ W0, W0 = w.alloc (.cells #[.bool false, .string ⟨#[]⟩, .string ⟨#[]⟩, .string ⟨#[]⟩] 37) := ⟨_, rfl⟩
  have T0 : Below w.heap.size w W0 := by rw [hW0]; exact (Below.refl _ w).alloc (Nat.le_refl _) _
  have K0 : Blk W0 w.heap.size 37 [.bool false, .string ⟨#[]⟩, .string ⟨#[]⟩, .string ⟨#[]⟩] := by rw [hW0]; exact Blk.newAt w _ _ _ _ rfl rfl
  have S0 : W0.heap.size = w.heap.size + 1 := by rw [hW0]; simp
  have HS := codSplit8 l W0 (hm.below T0 hm.lt) hl
  have hp : ∀ j, j < (cutL 32 l).length → (nthT (cutL 32 l) j).length ≤ 100000 := fun j hj => Nat.le_trans (cutL_part 32 l _ (by rw [nthT_eq _ j hj]; exact List.getElem_mem hj)) hl
  have hlen : (cutL 32 l).length ≤ 100001 := by have := cutL_len 32 l; omega
  rw [S0] at HS
  have HK : Hid (∀ W, W = W0.alloc (.cells (ps0 l).toArray 9) → Blk W w.heap.size 37 [.bool false, .string ⟨#[]⟩, .string ⟨#[]⟩, .string ⟨#[]⟩] ∧ Blk W (w.heap.size + 1) 9 (ps0 l) ∧ Below w.heap.size w W ∧ W.heap.size = w.heap.size + 2) := fun W hW => by
    subst hW
    exact ⟨K0.alloc _, Blk.newAt W0 _ _ _ _ S0 rfl, T0.alloc T0.size _, by rw [World.size_alloc, S0]⟩
  have H4 : (cutL 32 l).length = 4 → ps0 l = [.string (str (nthT (cutL 32 l) 0)), .string (str (nthT (cutL 32 l) 1)), .string (str (nthT (cutL 32 l) 2)), .string (str (nthT (cutL 32 l) 3))] := four_list _
  change Calls Tryd.prog _ _ _ (fun e w' => e = _ ∧ w' = W0.alloc (.cells (ps0 l).toArray 9)) at HS
  generalize str l = sl at *
  generalize ps0 l = cs0 at *
  generalize cutL 32 l = ps at *
  rw [hW0] at HS HK
  clear hm hl T0 K0 S0 hW0 W0
  have HRu : Hid (∃ rk, rk = ruleOk ps) := ⟨_, rfl⟩
  by_cases h4 : ps.length = 4
  · have e4 := H4 h4
    subst e4
    have z1 := hp 1 (by omega)
    have z2 := hp 2 (by omega)
    have z3 := hp 3 (by omega)
    have HW := fun d W => codHas d (nthT ps 1) (nthT ps 2) (nthT ps 3) W (by omega) (by omega) (by omega)
    rw [h4] at HS
    by_cases h0 : nthT ps 0 = sAllow ∨ nthT ps 0 = sDeny
    · have hok : ruleOk ps = (wordL (nthT ps 1) && wordL (nthT ps 2) && wordL (nthT ps 3)) := by
        unfold ruleOk
        rw [decide_eq_true h4]
        rcases h0 with e | e <;> rw [e] <;> rfl
      rw [← hok] at HW
      obtain ⟨dn, hdn⟩ : ∃ dn, dn = (nthT ps 0 == sDeny) := ⟨_, rfl⟩
      have E1 : ((str (nthT ps 0)).toList == [100, 101, 110, 121]) = dn := by rw [str_toList, hdn]; rfl
      have E0 : ((str (nthT ps 0)).toList == [97, 108, 108, 111, 119]) = !dn := by
        rw [str_toList, hdn]
        rcases h0 with e | e <;> rw [e] <;> rfl
      have HR : Hid (ruleOk ps = true → (⟨dn, nthT ps 1, nthT ps 2, nthT ps 3⟩ : Ru) = ruleOf ps) := fun _ => by rw [hdn]; rfl
      have HW := HW dn
      clear hok hdn hp H4 h0 hlen HRu
      obtain ⟨q1, hq1⟩ : ∃ q1, q1 = nthT ps 1 := ⟨_, rfl⟩
      obtain ⟨q2, hq2⟩ : ∃ q2, q2 = nthT ps 2 := ⟨_, rfl⟩
      obtain ⟨q3, hq3⟩ : ∃ q3, q3 = nthT ps 3 := ⟨_, rfl⟩
      rw [← hq1, ← hq2, ← hq3] at HR HW
      rw [← hq1, ← hq2, ← hq3] at HS HK
      clear hq1 hq2 hq3 z1 z2 z3
      generalize ruleOk ps = ok at *
      generalize str (nthT ps 0) = sq0 at *
      generalize hs1 : str q1 = sq1 at *
      generalize hs2 : str q2 = sq2 at *
      generalize hs3 : str q3 = sq3 at *
      have HQ : Hid (str q1 = sq1 ∧ str q2 = sq2 ∧ str q3 = sq3) := ⟨hs1, hs2, hs3⟩
      clear hs1 hs2 hs3
      go_enter Tryd.func25, Tryd.ntmps25
      go_wp2_with fail
      refine HS.mono ?_
      rintro e W1 ⟨rfl, hW1⟩
      obtain ⟨K1, KS, T1, Z1⟩ := HK.out W1 hW1
      clear hW1 HS HK
      have c0 : W1.cell? ⟨w.heap.size + 1, 0, none⟩ = some (.string sq0) := KS.cell 0
      have c1 : W1.cell? ⟨w.heap.size + 1, 1, none⟩ = some (.string sq1) := KS.cell 1
      have c2 : W1.cell? ⟨w.heap.size + 1, 2, none⟩ = some (.string sq2) := KS.cell 2
      have c3 : W1.cell? ⟨w.heap.size + 1, 3, none⟩ = some (.string sq3) := KS.cell 3
      cases dn with
      | true =>
        go_wp2_with fail
        go_region
        have K2 : Blk ((W1.alloc (.cells #[.bool true, .string sq1, .string sq2, .string sq3] 37)).drew) w.heap.size 37 [.bool false, .string ⟨#[]⟩, .string ⟨#[]⟩, .string ⟨#[]⟩] := K1.alloc _
        have KB : Blk ((W1.alloc (.cells #[.bool true, .string sq1, .string sq2, .string sq3] 37)).drew) (w.heap.size + 2) 37 [.bool true, .string sq1, .string sq2, .string sq3] := Blk.newAt W1 _ _ _ _ Z1 rfl
        have T2 : Below w.heap.size w ((W1.alloc (.cells #[.bool true, .string sq1, .string sq2, .string sq3] 37)).drew) := (T1.alloc T1.size _).drew
        generalize ((W1.alloc (.cells #[.bool true, .string sq1, .string sq2, .string sq3] 37)).drew) = X at *
        have f0 : X.cell? ⟨w.heap.size + 2, 0, none⟩ = some (.bool true) := KB.cell 0
        have f1 : X.cell? ⟨w.heap.size + 2, 1, none⟩ = some (.string sq1) := KB.cell 1
        have f2 : X.cell? ⟨w.heap.size + 2, 2, none⟩ = some (.string sq2) := KB.cell 2
        have f3 : X.cell? ⟨w.heap.size + 2, 3, none⟩ = some (.string sq3) := KB.cell 3
        clear c0 c1 c2 c3 K1 KS T1 Z1 W1 E0 E1
        go_wp2_with fail
        go_region_with (go_at_call 29; refine (HW _).mono ?_; rintro e y1 ⟨rfl, t1⟩; have kb : Blk y1 (w.heap.size + 2) 37 [.bool true, .string sq1, .string sq2, .string sq3] := Blk.on (by exact KB) t1; have kr : Blk y1 w.heap.size 37 [.bool false, .string ⟨#[]⟩, .string ⟨#[]⟩, .string ⟨#[]⟩] := Blk.on (by exact K2) t1; have g0 := kb.cell 0; have g1 := kb.cell 1; have g2 := kb.cell 2; have g3 := kb.cell 3; have T3 : Below w.heap.size w y1 := T2.drew.trans (t1.mono T2.size); have r0 := kr.cell 0; have r1 := kr.cell 1; have r2 := kr.cell 2; have r3 := kr.cell 3; have hf0 := kr.frozen 0; have hf1 := kr.frozen 1; have hf2 := kr.frozen 2; have hf3 := kr.frozen 3; simp only [List.getElem?_cons_zero, List.getElem?_cons_succ] at g0 g1 g2 g3 r0 r1 r2 r3)
        all_goals
          have HY : Hid (∀ W, W = (((y1.setCell ⟨w.heap.size, 0, none⟩ (.bool true)).setCell ⟨w.heap.size, 1, none⟩ (.string sq1)).setCell ⟨w.heap.size, 2, none⟩ (.string sq2)).setCell ⟨w.heap.size, 3, none⟩ (.string sq3) → Blk W w.heap.size 37 [.bool true, .string sq1, .string sq2, .string sq3] ∧ Below w.heap.size w W) := fun W hW => by
            subst hW
            exact ⟨(((kr.set 0 _).set 1 _).set 2 _).set 3 _, (((T3.setCell (p := ⟨w.heap.size, 0, none⟩) (Nat.le_refl _) _).setCell (p := ⟨w.heap.size, 1, none⟩) (Nat.le_refl _) _).setCell (p := ⟨w.heap.size, 2, none⟩) (Nat.le_refl _) _).setCell (p := ⟨w.heap.size, 3, none⟩) (Nat.le_refl _) _⟩
          obtain ⟨kz, Tz⟩ := HY.out _ rfl
          generalize (((y1.setCell ⟨w.heap.size, 0, none⟩ (.bool true)).setCell ⟨w.heap.size, 1, none⟩ (.string sq1)).setCell ⟨w.heap.size, 2, none⟩ (.string sq2)).setCell ⟨w.heap.size, 3, none⟩ (.string sq3) = Z at *
          go_wp2_with fail
          (try simp only [Exit.inBlock, Exit.then])
          refine bodyPost_ret (results_cellrow_tmp (P := Tryd.prog) rfl _ _ w.heap.size 37 #[.bool true, .string sq1, .string sq2, .string sq3] (0, 0) _ rfl kz Tryd.underlying37 rfl (by kernel_rfl)) rfl ⟨⟨true, q1, q2, q3⟩, ?_, HR.out, Tz⟩
          obtain ⟨v1, v2, v3⟩ := HQ.out
          rw [v1, v2, v3]
          rfl
      | false =>
        go_wp2_with fail
        go_region
        have K2 : Blk ((W1.alloc (.cells #[.bool false, .string sq1, .string sq2, .string sq3] 37)).drew) w.heap.size 37 [.bool false, .string ⟨#[]⟩, .string ⟨#[]⟩, .string ⟨#[]⟩] := K1.alloc _
        have KB : Blk ((W1.alloc (.cells #[.bool false, .string sq1, .string sq2, .string sq3] 37)).drew) (w.heap.size + 2) 37 [.bool false, .string sq1, .string sq2, .string sq3] := Blk.newAt W1 _ _ _ _ Z1 rfl
        have T2 : Below w.heap.size w ((W1.alloc (.cells #[.bool false, .string sq1, .string sq2, .string sq3] 37)).drew) := (T1.alloc T1.size _).drew
        generalize ((W1.alloc (.cells #[.bool false, .string sq1, .string sq2, .string sq3] 37)).drew) = X at *
        have f0 : X.cell? ⟨w.heap.size + 2, 0, none⟩ = some (.bool false) := KB.cell 0
        have f1 : X.cell? ⟨w.heap.size + 2, 1, none⟩ = some (.string sq1) := KB.cell 1
        have f2 : X.cell? ⟨w.heap.size + 2, 2, none⟩ = some (.string sq2) := KB.cell 2
        have f3 : X.cell? ⟨w.heap.size + 2, 3, none⟩ = some (.string sq3) := KB.cell 3
        clear c0 c1 c2 c3 K1 KS T1 Z1 W1 E0 E1
        go_wp2_with fail
        go_region_with (go_at_call 29; refine (HW _).mono ?_; rintro e y1 ⟨rfl, t1⟩; have kb : Blk y1 (w.heap.size + 2) 37 [.bool false, .string sq1, .string sq2, .string sq3] := Blk.on (by exact KB) t1; have kr : Blk y1 w.heap.size 37 [.bool false, .string ⟨#[]⟩, .string ⟨#[]⟩, .string ⟨#[]⟩] := Blk.on (by exact K2) t1; have g0 := kb.cell 0; have g1 := kb.cell 1; have g2 := kb.cell 2; have g3 := kb.cell 3; have T3 : Below w.heap.size w y1 := T2.drew.trans (t1.mono T2.size); have r0 := kr.cell 0; have r1 := kr.cell 1; have r2 := kr.cell 2; have r3 := kr.cell 3; have hf0 := kr.frozen 0; have hf1 := kr.frozen 1; have hf2 := kr.frozen 2; have hf3 := kr.frozen 3; simp only [List.getElem?_cons_zero, List.getElem?_cons_succ] at g0 g1 g2 g3 r0 r1 r2 r3)
        all_goals
          have HY : Hid (∀ W, W = (((y1.setCell ⟨w.heap.size, 0, none⟩ (.bool false)).setCell ⟨w.heap.size, 1, none⟩ (.string sq1)).setCell ⟨w.heap.size, 2, none⟩ (.string sq2)).setCell ⟨w.heap.size, 3, none⟩ (.string sq3) → Blk W w.heap.size 37 [.bool false, .string sq1, .string sq2, .string sq3] ∧ Below w.heap.size w W) := fun W hW => by
            subst hW
            exact ⟨(((kr.set 0 _).set 1 _).set 2 _).set 3 _, (((T3.setCell (p := ⟨w.heap.size, 0, none⟩) (Nat.le_refl _) _).setCell (p := ⟨w.heap.size, 1, none⟩) (Nat.le_refl _) _).setCell (p := ⟨w.heap.size, 2, none⟩) (Nat.le_refl _) _).setCell (p := ⟨w.heap.size, 3, none⟩) (Nat.le_refl _) _⟩
          obtain ⟨kz, Tz⟩ := HY.out _ rfl
          generalize (((y1.setCell ⟨w.heap.size, 0, none⟩ (.bool false)).setCell ⟨w.heap.size, 1, none⟩ (.string sq1)).setCell ⟨w.heap.size, 2, none⟩ (.string sq2)).setCell ⟨w.heap.size, 3, none⟩ (.string sq3) = Z at *
          go_wp2_with fail
          (try simp only [Exit.inBlock, Exit.then])
          refine bodyPost_ret (results_cellrow_tmp (P := Tryd.prog) rfl _ _ w.heap.size 37 #[.bool false, .string sq1, .string sq2, .string sq3] (0, 0) _ rfl kz Tryd.underlying37 rfl (by kernel_rfl)) rfl ⟨⟨false, q1, q2, q3⟩, ?_, HR.out, Tz⟩
          obtain ⟨v1, v2, v3⟩ := HQ.out
          rw [v1, v2, v3]
          rfl
    · have hok : ruleOk ps = false := rule_no0 (fun h => h0 (.inl h)) (fun h => h0 (.inr h))
      rw [hok]
      have E1 : ((str (nthT ps 0)).toList == [100, 101, 110, 121]) = false := by rw [str_toList, beq_eq_false_iff_ne]; exact fun h => h0 (.inr h)
      have E0 : ((str (nthT ps 0)).toList == [97, 108, 108, 111, 119]) = false := by rw [str_toList, beq_eq_false_iff_ne]; exact fun h => h0 (.inl h)
      clear hok hp H4 h0 hlen HRu HW z1 z2 z3
      generalize str (nthT ps 0) = sq0 at *
      generalize str (nthT ps 1) = sq1 at *
      generalize str (nthT ps 2) = sq2 at *
      generalize str (nthT ps 3) = sq3 at *
      go_enter Tryd.func25, Tryd.ntmps25
      go_wp2_with fail
      refine HS.mono ?_
      rintro e W1 ⟨rfl, hW1⟩
      obtain ⟨K1, KS, T1, Z1⟩ := HK.out W1 hW1
      clear hW1 HS HK
      have c0 : W1.cell? ⟨w.heap.size + 1, 0, none⟩ = some (.string sq0) := KS.cell 0
      have r0 : W1.cell? ⟨w.heap.size, 0, none⟩ = some (.bool false) := K1.cell 0
      have r1 : W1.cell? ⟨w.heap.size, 1, none⟩ = some (.string ⟨#[]⟩) := K1.cell 1
      have r2 : W1.cell? ⟨w.heap.size, 2, none⟩ = some (.string ⟨#[]⟩) := K1.cell 2
      have r3 : W1.cell? ⟨w.heap.size, 3, none⟩ = some (.string ⟨#[]⟩) := K1.cell 3
      have hf0 := K1.frozen 0
      have hf1 := K1.frozen 1
      have hf2 := K1.frozen 2
      have hf3 := K1.frozen 3
      go_wp2_with fail
      (try simp only [Exit.inBlock, Exit.then])
      refine bodyPost_ret (results_cellrow_tmp (P := Tryd.prog) rfl _ _ w.heap.size 37 #[.bool false, .string ⟨#[]⟩, .string ⟨#[]⟩, .string ⟨#[]⟩] (0, 0) _ rfl ((((K1.set 0 _).set 1 _).set 2 _).set 3 _) Tryd.underlying37 rfl (by kernel_rfl)) rfl ⟨⟨false, [], [], []⟩, rfl, fun h => (by cases h), (((T1.setCell (p := ⟨w.heap.size, 0, none⟩) (Nat.le_refl _) _).setCell (p := ⟨w.heap.size, 1, none⟩) (Nat.le_refl _) _).setCell (p := ⟨w.heap.size, 2, none⟩) (Nat.le_refl _) _).setCell (p := ⟨w.heap.size, 3, none⟩) (Nat.le_refl _) _⟩
  · have hok : ruleOk ps = false := rule_no4 h4
    rw [hok]
    have n4 : ((ps.length : Int) == 4) = false := by rw [beq_eq_false_iff_ne]; omega
    have n4' : ¬ (ps.length : Int) = 4 := by omega
    obtain ⟨m, hm⟩ : ∃ m, m = ps.length := ⟨_, rfl⟩
    rw [← hm] at HS n4 n4' hlen
    clear hok hp H4 HRu hm h4
    go_enter Tryd.func25, Tryd.ntmps25
    go_wp2_with fail
    refine HS.mono ?_
    rintro e W1 ⟨rfl, hW1⟩
    obtain ⟨K1, KS, T1, Z1⟩ := HK.out W1 hW1
    clear hW1 HS HK
    have r0 : W1.cell? ⟨w.heap.size, 0, none⟩ = some (.bool false) := K1.cell 0
    have r1 : W1.cell? ⟨w.heap.size, 1, none⟩ = some (.string ⟨#[]⟩) := K1.cell 1
    have r2 : W1.cell? ⟨w.heap.size, 2, none⟩ = some (.string ⟨#[]⟩) := K1.cell 2
    have r3 : W1.cell? ⟨w.heap.size, 3, none⟩ = some (.string ⟨#[]⟩) := K1.cell 3
    have hf0 := K1.frozen 0
    have hf1 := K1.frozen 1
    have hf2 := K1.frozen 2
    have hf3 := K1.frozen 3
    go_wp2_with fail
    (try simp only [Exit.inBlock, Exit.then])
    refine bodyPost_ret (results_cellrow_tmp (P := Tryd.prog) rfl _ _ w.heap.size 37 #[.bool false, .string ⟨#[]⟩, .string ⟨#[]⟩, .string ⟨#[]⟩] (0, 0) _ rfl ((((K1.set 0 _).set 1 _).set 2 _).set 3 _) Tryd.underlying37 rfl (by kernel_rfl)) rfl ⟨⟨false, [], [], []⟩, rfl, fun h => (by cases h), (((T1.setCell (p := ⟨w.heap.size, 0, none⟩) (Nat.le_refl _) _).setCell (p := ⟨w.heap.size, 1, none⟩) (Nat.le_refl _) _).setCell (p := ⟨w.heap.size, 2, none⟩) (Nat.le_refl _) _).setCell (p := ⟨w.heap.size, 3, none⟩) (Nat.le_refl _) _⟩
end Go.Proofs.YtihfpoclflppnaaDoor
