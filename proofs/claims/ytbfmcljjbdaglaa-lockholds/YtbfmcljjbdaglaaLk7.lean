/- The walk of LockHolds. -/
import Derived.Test.YtbfmcljjbdaglaaLk6
import Derived.Sort.AtCall
namespace Go.Proofs.Ytbfmcljjbdaglaa
open Go.RowKit

theorem OneV.set {w y : World} {T : Nat} {cs : List Value} (h : OneV w y T cs) (j : Nat) (x : Value) : OneV w (y.setCell ⟨w.heap.size, j, none⟩ x) T (cs.set j x) := ⟨h.k.set j x, h.bel.setCell (p := ⟨w.heap.size, j, none⟩) (Nat.le_refl _) _⟩
theorem act_mode {m : Int} {u t : Nat} (h : activeK m u t = true) : m = 1 ∨ m = 2 := by
  unfold activeK kpM at h
  simp only [Bool.and_eq_true, Bool.or_eq_true, beq_iff_eq] at h
  exact h.1
theorem del_off {m : Int} {u t : Nat} {b : Bool} (h : activeK m u t = false) : mayDelK false m u t b = 0 := by unfold mayDelK standsK; rw [h]; simp
theorem del_on (m : Int) {u t : Nat} (h : activeK m u t = true) : mayDelK false m u t false = 37 := by unfold mayDelK standsK; rw [h]; simp
theorem del_1 {u t : Nat} (h : activeK 1 u t = true) : mayDelK false 1 u t true = 0 := by unfold mayDelK standsK; rw [h]; simp
theorem del_2 {u t : Nat} (h : activeK 2 u t = true) : mayDelK false 2 u t true = 37 := by unfold mayDelK standsK; rw [h]; simp
attribute [local go_sem] undef
set_option maxHeartbeats 4000000 in
theorem holds15 (v : Vs) (q : VsA) (t : Nat) (b : Bool) (w : World) :
    Calls Try.prog 8 #[.agg (vsc v q).toArray, .int .u64 (t : Int), .bool b] w fun e w' => e = .returned (.bool true) ∧ Below w.heap.size w w' := by
  have hT := mkHid (OneV.new w 35 (vsc v q))
  obtain ⟨bkt, key, id, ord, mark, data, rm, ru, hold, time⟩ := v
  obtain ⟨qa, qc⟩ := q
  have C0 := codMayDelete ⟨bkt, key, id, ord, mark, data, rm, ru, true, time⟩ ⟨qa, qc⟩ t b
  have C1 := codMayDelete ⟨bkt, key, id, ord, mark, data, rm, ru, false, time⟩ ⟨qa, qc⟩ t b
  have C2 := codMayDelete ⟨bkt, key, id, ord, mark, data, rm, ru, false, time⟩ ⟨qa, qc⟩ t true
  have C3 := codMayDelete ⟨bkt, key, id, ord, mark, data, rm, ru, false, time⟩ ⟨qa, qc⟩ t false
  have CA := codActive rm ru t
  rw [show mayDelK (Vs.hold ⟨bkt, key, id, ord, mark, data, rm, ru, true, time⟩) rm ru t b = 38 from rfl] at C0
  simp only [vsc] at *
  cases hA : activeK rm ru t with
  | false =>
    rw [show mayDelK (Vs.hold ⟨bkt, key, id, ord, mark, data, rm, ru, false, time⟩) rm ru t b = 0 from del_off hA] at C1
    rw [hA] at CA
    clear C2 C3 hA
    go_enter Try.func8, Try.ntmps8
    go_upto_region 1 with fail
    generalize World.alloc _ _ = y at *
    have c8 := hT.out.k.cell 8
    have f8 := hT.out.k.frozen 8
    have h1 := mkHid (hT.out.set 8 (.bool true))
    simp only [List.getElem?_cons_zero, List.getElem?_cons_succ, List.set_cons_zero, List.set_cons_succ] at c8 h1
    clear hT
    go_upto_region 2 with fail
    generalize World.setCell _ _ _ = y1 at *
    clear c8 f8
    have d0 := h1.out.k.cell 0
    have d1 := h1.out.k.cell 1
    have d2 := h1.out.k.cell 2
    have d3 := h1.out.k.cell 3
    have d4 := h1.out.k.cell 4
    have d5 := h1.out.k.cell 5
    have d6 := h1.out.k.cell 6
    have d7 := h1.out.k.cell 7
    have d8 := h1.out.k.cell 8
    have d9 := h1.out.k.cell 9
    simp only [List.getElem?_cons_zero, List.getElem?_cons_succ] at d0 d1 d2 d3 d4 d5 d6 d7 d8 d9
    go_wp2_with fail
    refine (C0 _).mono ?_
    rintro e y2 ⟨rfl, hb⟩
    have h2 := mkHid (h1.out.on hb)
    clear hb h1 C0
    clear d0 d1 d2 d3 d4 d5 d6 d7 d8 d9
    have c8 := h2.out.k.cell 8
    have f8 := h2.out.k.frozen 8
    have h3 := mkHid (h2.out.set 8 (.bool false))
    simp only [List.getElem?_cons_zero, List.getElem?_cons_succ, List.set_cons_zero, List.set_cons_succ] at c8 h3
    clear h2
    go_upto_region 5 with fail
    generalize World.setCell _ _ _ = y3 at *
    clear c8 f8
    have d0 := h3.out.k.cell 0
    have d1 := h3.out.k.cell 1
    have d2 := h3.out.k.cell 2
    have d3 := h3.out.k.cell 3
    have d4 := h3.out.k.cell 4
    have d5 := h3.out.k.cell 5
    have d6 := h3.out.k.cell 6
    have d7 := h3.out.k.cell 7
    have d8 := h3.out.k.cell 8
    have d9 := h3.out.k.cell 9
    simp only [List.getElem?_cons_zero, List.getElem?_cons_succ] at d0 d1 d2 d3 d4 d5 d6 d7 d8 d9
    go_wp2_with fail
    refine (CA _).mono ?_
    rintro e y4 ⟨rfl, hb⟩
    have h4 := mkHid (h3.out.on hb)
    clear hb h3 CA
    clear d0 d1 d2 d3 d4 d5 d6 d7 d8 d9
    have d0 := h4.out.k.cell 0
    have d1 := h4.out.k.cell 1
    have d2 := h4.out.k.cell 2
    have d3 := h4.out.k.cell 3
    have d4 := h4.out.k.cell 4
    have d5 := h4.out.k.cell 5
    have d6 := h4.out.k.cell 6
    have d7 := h4.out.k.cell 7
    have d8 := h4.out.k.cell 8
    have d9 := h4.out.k.cell 9
    simp only [List.getElem?_cons_zero, List.getElem?_cons_succ] at d0 d1 d2 d3 d4 d5 d6 d7 d8 d9
    go_wp2_with fail
    refine (C1 _).mono ?_
    rintro e y5 ⟨rfl, hb⟩
    have h5 := mkHid (h4.out.on hb)
    clear hb h4
    clear d0 d1 d2 d3 d4 d5 d6 d7 d8 d9
    go_wp2_with fail
    refine (lawAlive15 _).mono ?_
    rintro e y6 ⟨rfl, hb⟩
    have h6 := mkHid (h5.out.on hb)
    clear hb h5
    go_wp2_with fail
    go_ret
    exact ⟨rfl, h6.out.bel⟩
  | true =>
    rcases act_mode hA with rfl | rfl
    · rw [show mayDelK (Vs.hold ⟨bkt, key, id, ord, mark, data, 1, ru, false, time⟩) 1 ru t true = 0 from del_1 hA] at C2
      rw [show mayDelK (Vs.hold ⟨bkt, key, id, ord, mark, data, 1, ru, false, time⟩) 1 ru t false = 37 from del_on 1 hA] at C3
      rw [hA] at CA
      clear C1 hA
      go_enter Try.func8, Try.ntmps8
      go_upto_region 1 with fail
      generalize World.alloc _ _ = y at *
      have c8 := hT.out.k.cell 8
      have f8 := hT.out.k.frozen 8
      have h1 := mkHid (hT.out.set 8 (.bool true))
      simp only [List.getElem?_cons_zero, List.getElem?_cons_succ, List.set_cons_zero, List.set_cons_succ] at c8 h1
      clear hT
      go_upto_region 2 with fail
      generalize World.setCell _ _ _ = y1 at *
      clear c8 f8
      have d0 := h1.out.k.cell 0
      have d1 := h1.out.k.cell 1
      have d2 := h1.out.k.cell 2
      have d3 := h1.out.k.cell 3
      have d4 := h1.out.k.cell 4
      have d5 := h1.out.k.cell 5
      have d6 := h1.out.k.cell 6
      have d7 := h1.out.k.cell 7
      have d8 := h1.out.k.cell 8
      have d9 := h1.out.k.cell 9
      simp only [List.getElem?_cons_zero, List.getElem?_cons_succ] at d0 d1 d2 d3 d4 d5 d6 d7 d8 d9
      go_wp2_with fail
      refine (C0 _).mono ?_
      rintro e y2 ⟨rfl, hb⟩
      have h2 := mkHid (h1.out.on hb)
      clear hb h1 C0
      clear d0 d1 d2 d3 d4 d5 d6 d7 d8 d9
      have c8 := h2.out.k.cell 8
      have f8 := h2.out.k.frozen 8
      have h3 := mkHid (h2.out.set 8 (.bool false))
      simp only [List.getElem?_cons_zero, List.getElem?_cons_succ, List.set_cons_zero, List.set_cons_succ] at c8 h3
      clear h2
      go_upto_region 5 with fail
      generalize World.setCell _ _ _ = y3 at *
      clear c8 f8
      have d0 := h3.out.k.cell 0
      have d1 := h3.out.k.cell 1
      have d2 := h3.out.k.cell 2
      have d3 := h3.out.k.cell 3
      have d4 := h3.out.k.cell 4
      have d5 := h3.out.k.cell 5
      have d6 := h3.out.k.cell 6
      have d7 := h3.out.k.cell 7
      have d8 := h3.out.k.cell 8
      have d9 := h3.out.k.cell 9
      simp only [List.getElem?_cons_zero, List.getElem?_cons_succ] at d0 d1 d2 d3 d4 d5 d6 d7 d8 d9
      go_wp2_with fail
      refine (CA _).mono ?_
      rintro e y4 ⟨rfl, hb⟩
      have h4 := mkHid (h3.out.on hb)
      clear hb h3 CA
      clear d0 d1 d2 d3 d4 d5 d6 d7 d8 d9
      go_upto_region 7 with fail
      have HKP : ∀ w', Below y4.heap.size y4 w' → Below y4.heap.size y4 w' ∧ w'.cell? ⟨w.heap.size, 0, none⟩ = some (.string bkt) ∧ w'.cell? ⟨w.heap.size, 1, none⟩ = some (.string key) ∧ w'.cell? ⟨w.heap.size, 2, none⟩ = some (.int .u64 (id : Int)) ∧ w'.cell? ⟨w.heap.size, 3, none⟩ = some (.int .u64 (ord : Int)) ∧ w'.cell? ⟨w.heap.size, 4, none⟩ = some (.bool mark) ∧ w'.cell? ⟨w.heap.size, 5, none⟩ = some (.slice qa data.length qc) ∧ w'.cell? ⟨w.heap.size, 6, none⟩ = some (.int .i64 1) ∧ w'.cell? ⟨w.heap.size, 7, none⟩ = some (.int .u64 (ru : Int)) ∧ w'.cell? ⟨w.heap.size, 8, none⟩ = some (.bool false) ∧ w'.cell? ⟨w.heap.size, 9, none⟩ = some (.int .u64 (time : Int)) := fun w' hW => ⟨hW, by have h := h4.out.on hW; exact ⟨h.k.cell 0, h.k.cell 1, h.k.cell 2, h.k.cell 3, h.k.cell 4, h.k.cell 5, h.k.cell 6, h.k.cell 7, h.k.cell 8, h.k.cell 9⟩⟩
      have HB := mkHid h4.out.bel
      clear h4
      go_region_held3 (fun w' => Below y4.heap.size y4 w' ∧ w'.cell? ⟨w.heap.size, 0, none⟩ = some (.string bkt) ∧ w'.cell? ⟨w.heap.size, 1, none⟩ = some (.string key) ∧ w'.cell? ⟨w.heap.size, 2, none⟩ = some (.int .u64 (id : Int)) ∧ w'.cell? ⟨w.heap.size, 3, none⟩ = some (.int .u64 (ord : Int)) ∧ w'.cell? ⟨w.heap.size, 4, none⟩ = some (.bool mark) ∧ w'.cell? ⟨w.heap.size, 5, none⟩ = some (.slice qa data.length qc) ∧ w'.cell? ⟨w.heap.size, 6, none⟩ = some (.int .i64 1) ∧ w'.cell? ⟨w.heap.size, 7, none⟩ = some (.int .u64 (ru : Int)) ∧ w'.cell? ⟨w.heap.size, 8, none⟩ = some (.bool false) ∧ w'.cell? ⟨w.heap.size, 9, none⟩ = some (.int .u64 (time : Int)))
        (first | exact HKP _ ((Below.refl _ y4).drew) | assumption | (have hq0 := ‹Below _ _ _ ∧ _›; first | exact HKP _ (hq0.1.trans (hb1.mono hq0.1.size)) | exact HKP _ (hq0.1.trans (hb2.mono hq0.1.size)) | exact HKP _ (hq0.1.trans (hb3.mono hq0.1.size))))
        (first
          | (go_at_call_has 18 (Value.bool true); refine (C2 _).mono ?_; rintro e w4 ⟨rfl, hb1⟩)
          | (go_at_call_has 18 (Value.bool false); refine (C3 _).mono ?_; rintro e w4 ⟨rfl, hb2⟩)
          | (go_at_call 15; refine (lawAlive15 _).mono ?_; rintro e w4 ⟨rfl, hb3⟩))
      all_goals
        have hq9 := ‹Below _ _ _ ∧ _›
        have HB9 := mkHid (HB.out.trans (hq9.1.mono HB.out.size))
        clear hq9
        go_wp2_with fail
        go_ret
        exact ⟨rfl, HB9.out⟩
    · rw [show mayDelK (Vs.hold ⟨bkt, key, id, ord, mark, data, 2, ru, false, time⟩) 2 ru t true = 37 from del_2 hA] at C2
      rw [show mayDelK (Vs.hold ⟨bkt, key, id, ord, mark, data, 2, ru, false, time⟩) 2 ru t false = 37 from del_on 2 hA] at C3
      rw [hA] at CA
      clear C1 hA
      go_enter Try.func8, Try.ntmps8
      go_upto_region 1 with fail
      generalize World.alloc _ _ = y at *
      have c8 := hT.out.k.cell 8
      have f8 := hT.out.k.frozen 8
      have h1 := mkHid (hT.out.set 8 (.bool true))
      simp only [List.getElem?_cons_zero, List.getElem?_cons_succ, List.set_cons_zero, List.set_cons_succ] at c8 h1
      clear hT
      go_upto_region 2 with fail
      generalize World.setCell _ _ _ = y1 at *
      clear c8 f8
      have d0 := h1.out.k.cell 0
      have d1 := h1.out.k.cell 1
      have d2 := h1.out.k.cell 2
      have d3 := h1.out.k.cell 3
      have d4 := h1.out.k.cell 4
      have d5 := h1.out.k.cell 5
      have d6 := h1.out.k.cell 6
      have d7 := h1.out.k.cell 7
      have d8 := h1.out.k.cell 8
      have d9 := h1.out.k.cell 9
      simp only [List.getElem?_cons_zero, List.getElem?_cons_succ] at d0 d1 d2 d3 d4 d5 d6 d7 d8 d9
      go_wp2_with fail
      refine (C0 _).mono ?_
      rintro e y2 ⟨rfl, hb⟩
      have h2 := mkHid (h1.out.on hb)
      clear hb h1 C0
      clear d0 d1 d2 d3 d4 d5 d6 d7 d8 d9
      have c8 := h2.out.k.cell 8
      have f8 := h2.out.k.frozen 8
      have h3 := mkHid (h2.out.set 8 (.bool false))
      simp only [List.getElem?_cons_zero, List.getElem?_cons_succ, List.set_cons_zero, List.set_cons_succ] at c8 h3
      clear h2
      go_upto_region 5 with fail
      generalize World.setCell _ _ _ = y3 at *
      clear c8 f8
      have d0 := h3.out.k.cell 0
      have d1 := h3.out.k.cell 1
      have d2 := h3.out.k.cell 2
      have d3 := h3.out.k.cell 3
      have d4 := h3.out.k.cell 4
      have d5 := h3.out.k.cell 5
      have d6 := h3.out.k.cell 6
      have d7 := h3.out.k.cell 7
      have d8 := h3.out.k.cell 8
      have d9 := h3.out.k.cell 9
      simp only [List.getElem?_cons_zero, List.getElem?_cons_succ] at d0 d1 d2 d3 d4 d5 d6 d7 d8 d9
      go_wp2_with fail
      refine (CA _).mono ?_
      rintro e y4 ⟨rfl, hb⟩
      have h4 := mkHid (h3.out.on hb)
      clear hb h3 CA
      clear d0 d1 d2 d3 d4 d5 d6 d7 d8 d9
      go_upto_region 7 with fail
      have HKP : ∀ w', Below y4.heap.size y4 w' → Below y4.heap.size y4 w' ∧ w'.cell? ⟨w.heap.size, 0, none⟩ = some (.string bkt) ∧ w'.cell? ⟨w.heap.size, 1, none⟩ = some (.string key) ∧ w'.cell? ⟨w.heap.size, 2, none⟩ = some (.int .u64 (id : Int)) ∧ w'.cell? ⟨w.heap.size, 3, none⟩ = some (.int .u64 (ord : Int)) ∧ w'.cell? ⟨w.heap.size, 4, none⟩ = some (.bool mark) ∧ w'.cell? ⟨w.heap.size, 5, none⟩ = some (.slice qa data.length qc) ∧ w'.cell? ⟨w.heap.size, 6, none⟩ = some (.int .i64 2) ∧ w'.cell? ⟨w.heap.size, 7, none⟩ = some (.int .u64 (ru : Int)) ∧ w'.cell? ⟨w.heap.size, 8, none⟩ = some (.bool false) ∧ w'.cell? ⟨w.heap.size, 9, none⟩ = some (.int .u64 (time : Int)) := fun w' hW => ⟨hW, by have h := h4.out.on hW; exact ⟨h.k.cell 0, h.k.cell 1, h.k.cell 2, h.k.cell 3, h.k.cell 4, h.k.cell 5, h.k.cell 6, h.k.cell 7, h.k.cell 8, h.k.cell 9⟩⟩
      have HB := mkHid h4.out.bel
      clear h4
      go_region_held3 (fun w' => Below y4.heap.size y4 w' ∧ w'.cell? ⟨w.heap.size, 0, none⟩ = some (.string bkt) ∧ w'.cell? ⟨w.heap.size, 1, none⟩ = some (.string key) ∧ w'.cell? ⟨w.heap.size, 2, none⟩ = some (.int .u64 (id : Int)) ∧ w'.cell? ⟨w.heap.size, 3, none⟩ = some (.int .u64 (ord : Int)) ∧ w'.cell? ⟨w.heap.size, 4, none⟩ = some (.bool mark) ∧ w'.cell? ⟨w.heap.size, 5, none⟩ = some (.slice qa data.length qc) ∧ w'.cell? ⟨w.heap.size, 6, none⟩ = some (.int .i64 2) ∧ w'.cell? ⟨w.heap.size, 7, none⟩ = some (.int .u64 (ru : Int)) ∧ w'.cell? ⟨w.heap.size, 8, none⟩ = some (.bool false) ∧ w'.cell? ⟨w.heap.size, 9, none⟩ = some (.int .u64 (time : Int)))
        (first | exact HKP _ ((Below.refl _ y4).drew) | assumption | (have hq0 := ‹Below _ _ _ ∧ _›; first | exact HKP _ (hq0.1.trans (hb1.mono hq0.1.size)) | exact HKP _ (hq0.1.trans (hb2.mono hq0.1.size)) | exact HKP _ (hq0.1.trans (hb3.mono hq0.1.size))))
        (first
          | (go_at_call_has 18 (Value.bool true); refine (C2 _).mono ?_; rintro e w4 ⟨rfl, hb1⟩)
          | (go_at_call_has 18 (Value.bool false); refine (C3 _).mono ?_; rintro e w4 ⟨rfl, hb2⟩)
          | (go_at_call 15; refine (lawAlive15 _).mono ?_; rintro e w4 ⟨rfl, hb3⟩))
      all_goals
        have hq9 := ‹Below _ _ _ ∧ _›
        have HB9 := mkHid (HB.out.trans (hq9.1.mono HB.out.size))
        clear hq9
        go_wp2_with fail
        go_ret
        exact ⟨rfl, HB9.out⟩
end Go.Proofs.Ytbfmcljjbdaglaa
