/- The walks of UploadJoins and UploadPuts, over any upload that keeps the document. -/
import Derived.Test.YtgcmojldegplaaaUp6
import Derived.Test.YtgcmojldegplaaaRefSame
import Derived.Deep.RegionHeld3
namespace Go.Proofs.Ytgcmojldegplaaa
open Go.RowKit

attribute [local go_sem] undef
def jnE (l : List Pa) (ns : List Int) : Int := if joinPs l ns = none then 42 else 0
def jnO (l : List Pa) (ns : List Int) : List UInt8 := (joinPs l ns).getD []
theorem JnPost.form {l : List Pa} {ns : List Int} {B : Nat} {w : World} {e : Ending} (h : JnPost l ns B w e) :
    ∃ a m cap, e = .returned (.tuple #[.slice a m cap, .int .i64 (jnE l ns)]) ∧ IsB w a m cap (jnO l ns) := by
  unfold jnE jnO
  cases hj : joinPs l ns with
  | none => exact ⟨none, 0, 0, h.no hj, isB_none _⟩
  | some o =>
    obtain ⟨v, rfl, ho⟩ := h.yes o hj
    obtain ⟨a, cap, rfl, hi⟩ := ho.isB
    exact ⟨a, _, cap, rfl, hi⟩
def cellsU (w W : World) (bkt key : ByteArray) (id time : Nat) (v : Value) : Prop :=
  W.cell? ⟨w.heap.size, 0, none⟩ = some (.string bkt) ∧ W.cell? ⟨w.heap.size, 1, none⟩ = some (.string key) ∧ W.cell? ⟨w.heap.size, 2, none⟩ = some (.int .u64 (id : Int)) ∧ W.cell? ⟨w.heap.size, 3, none⟩ = some (.int .u64 (time : Int)) ∧ W.cell? ⟨w.heap.size, 4, none⟩ = some v
theorem OneB.cellsU {w W : World} {bkt key : ByteArray} {id time : Nat} {v : Value} (h : OneB w W 25 [.string bkt, .string key, .int .u64 (id : Int), .int .u64 (time : Int), v]) : cellsU w W bkt key id time v :=
  ⟨h.k.cell 0, h.k.cell 1, h.k.cell 2, h.k.cell 3, h.k.cell 4⟩
set_option maxRecDepth 20000 in
set_option maxHeartbeats 8000000 in
theorem joins16 (S : UpOK) (u : UpH) (a : Option Addr) (n cap : Nat) (l : List Pq) (za : Option Addr) (zn zc : Nat) (zs : List Int) (w : World) (h : IsPs16 w a n cap l) (hz : IsN16 w za zn zc zs)
    (hl : ∀ p ∈ l, p.1.d.length ≤ 140737488351232) (hn : n ≤ 140737488351232) :
    Calls Try.prog 4 #[.agg (upc u (.slice a n cap)).toArray, .slice za zn zc] w fun e w' => e = .returned (.bool true) ∧ Below w.heap.size w w' := by
  have HO := mkHid (OneB.new w 25 (upc u (.slice a n cap)))
  have HX := mkHid h
  have HZ := mkHid hz
  have HLl := mkHid hl
  have CL := fun W hW => lawLight16 u a n cap l W (h.below hW) hl hn
  clear h hz hl hn
  obtain ⟨bkt, key, id, time⟩ := u
  simp only [upc] at *
  go_enter Try.func4, Try.ntmps4
  go_upto_region 1 with fail
  generalize World.alloc _ _ = y at *
  obtain ⟨x0, x1, x2, x3, x4⟩ := HO.out.cellsU
  have C0 := CL y HO.out.bel
  clear CL
  by_cases hlt : (decide (n ≤ 100) && decide (totalPs (l.map Prod.fst) ≤ 100000)) = true
  rotate_left
  · rw [Bool.eq_false_iff.2 hlt] at C0
    clear hlt
    go_wp2_with fail
    refine (C0).mono ?_
    rintro e y1 ⟨rfl, hb⟩
    have HO1 := mkHid (HO.out.on hb)
    clear hb x0 x1 x2 x3 x4
    obtain ⟨x0, x1, x2, x3, x4⟩ := HO1.out.cellsU
    clear C0 HO
    go_wp2_with fail
    refine (lawAlive16 S _).mono ?_
    rintro e yA ⟨rfl, hb⟩
    have H9 := mkHid (HO1.out.on hb)
    clear hb
    go_wp2_with fail
    go_ret
    exact ⟨rfl, H9.out.bel⟩
  rw [hlt] at C0
  have hn100 : n ≤ 100 := by simp at hlt; exact hlt.1
  have htot : totalPs (l.map Prod.fst) ≤ 100000 := by simp at hlt; exact hlt.2
  have Hn := mkHid hn100
  clear hlt hn100 htot
  by_cases hzn : 100 < zn
  · have hznd : decide ((100 : Int) < (zn : Int)) = true := decide_eq_true (by omega)
    go_wp2_with fail
    refine (C0).mono ?_
    rintro e y1 ⟨rfl, hb⟩
    have HO1 := mkHid (HO.out.on hb)
    clear hb x0 x1 x2 x3 x4
    obtain ⟨x0, x1, x2, x3, x4⟩ := HO1.out.cellsU
    clear C0 HO
    go_wp2_with fail
    refine (lawAlive16 S _).mono ?_
    rintro e yA ⟨rfl, hb⟩
    have H9 := mkHid (HO1.out.on hb)
    clear hb
    go_wp2_with fail
    go_ret
    exact ⟨rfl, H9.out.bel⟩
  have hznd : decide ((100 : Int) < (zn : Int)) = false := decide_eq_false (by omega)
  have Hzn := mkHid hzn
  clear hzn
  go_wp2_with fail
  refine (C0).mono ?_
  rintro e y1 ⟨rfl, hb⟩
  have HO1 := mkHid (HO.out.on hb)
  clear hb x0 x1 x2 x3 x4
  obtain ⟨x0, x1, x2, x3, x4⟩ := HO1.out.cellsU
  clear C0 HO
  have C1 := refRight16 ⟨bkt, key, id, time⟩ a n cap l y1 (HX.out.below HO1.out.bel) (by have := Hn.out; omega)
  simp only [upc] at C1
  by_cases hr : rightPs (l.map Prod.fst) = true
  rotate_left
  · rw [Bool.eq_false_iff.2 hr] at C1
    clear hr
    go_wp2_with fail
    refine (C1).mono ?_
    rintro e y2 ⟨rfl, hb⟩
    have HO2 := mkHid (HO1.out.on hb)
    clear hb x0 x1 x2 x3 x4
    obtain ⟨x0, x1, x2, x3, x4⟩ := HO2.out.cellsU
    clear C1 HO1
    go_wp2_with fail
    refine (lawAlive16 S _).mono ?_
    rintro e yA ⟨rfl, hb⟩
    have H9 := mkHid (HO2.out.on hb)
    clear hb
    go_wp2_with fail
    go_ret
    exact ⟨rfl, H9.out.bel⟩
  rw [hr] at C1
  have Hr := mkHid hr
  clear hr
  go_wp2_with fail
  refine (C1).mono ?_
  rintro e y2 ⟨rfl, hb⟩
  have HO2 := mkHid (HO1.out.on hb)
  clear hb x0 x1 x2 x3 x4
  obtain ⟨x0, x1, x2, x3, x4⟩ := HO2.out.cellsU
  clear C1 HO1
  have C2 := S.join ⟨bkt, key, id, time⟩ a n cap l za zn zc zs y2 (HX.out.below HO2.out.bel) Hr.out (HZ.out.below HO2.out.bel) (by have := Hzn.out; omega)
  simp only [upc] at C2
  go_wp2_with fail
  refine C2.mono ?_
  rintro e y3 ⟨hj3, hb⟩
  obtain ⟨ja, jm, jc, rfl, hi3⟩ := hj3.form
  have HO3 := mkHid (HO2.out.on hb)
  clear hb x0 x1 x2 x3 x4 C2
  obtain ⟨x0, x1, x2, x3, x4⟩ := HO3.out.cellsU
  have C3 := refJoin16 ⟨bkt, key, id, time⟩ a n cap l za zn zc zs y3 (HX.out.below HO3.out.bel) (HZ.out.below HO3.out.bel) (by have := Hn.out; omega) (by have := Hzn.out; omega) (fun p hp => by have := HX.out.small Hr.out p hp; omega)
  simp only [upc] at C3
  have HJ := mkHid hi3
  clear hj3 hi3 HO2
  go_wp2_with fail
  refine C3.mono ?_
  rintro e y4 ⟨hj4, hb⟩
  obtain ⟨ka, km, kc, rfl, hi4⟩ := hj4.form
  have HJ4 := mkHid (HJ.out.below hb rfl)
  have HK := mkHid hi4
  have HO4 := mkHid (HO3.out.on hb)
  clear hb x0 x1 x2 x3 x4 C3 hj4 hi4 HJ HO3
  obtain ⟨x0, x1, x2, x3, x4⟩ := HO4.out.cellsU
  have CS : ∀ W, Below y4.heap.size y4 W → Calls Try.prog 15 #[.slice ja jm jc, .slice ka km kc] W fun e w' => e = .returned (.bool true) ∧ Below W.heap.size W w' := fun W hW => by
    refine (refSame _ _ _ _ _ _ _ _ W (HJ4.out.below hW rfl) (HK.out.below hW rfl)).mono ?_
    rintro e w' ⟨rfl, k, rfl⟩
    exact ⟨by rw [eqB_self], bel_drewN (Below.refl _ _) _⟩
  have CT : ∀ W, Below y4.heap.size y4 W → _ := fun W hW => S.total ⟨bkt, key, id, time⟩ a n cap l W ((HX.out.below HO4.out.bel).below hW) Hr.out
  have CU : ∀ W, Below y4.heap.size y4 W → _ := fun W hW => refTotal16 ⟨bkt, key, id, time⟩ a n cap l W ((HX.out.below HO4.out.bel).below hW) (by have := Hn.out; omega) HLl.out
  simp only [upc] at CT CU
  generalize jnE (l.map Prod.fst) zs = jf at *
  generalize totalPs (l.map Prod.fst) = tt at *
  have HKP : ∀ w', Below y4.heap.size y4 w' →  Below y4.heap.size y4 w' ∧ w'.cell? ⟨w.heap.size, 0, none⟩ = some (.string bkt) ∧ w'.cell? ⟨w.heap.size, 1, none⟩ = some (.string key) ∧ w'.cell? ⟨w.heap.size, 2, none⟩ = some (.int .u64 (id : Int)) ∧ w'.cell? ⟨w.heap.size, 3, none⟩ = some (.int .u64 (time : Int)) ∧ w'.cell? ⟨w.heap.size, 4, none⟩ = some (.slice a n cap) := fun w' hW => ⟨hW, (HO4.out.on hW).cellsU⟩
  have HB := mkHid HO4.out.bel
  clear HO4 HJ4 HK HX HZ HLl Hr Hn Hzn
  go_wp2_with fail
  go_region_held3 (fun w' => Below y4.heap.size y4 w' ∧ w'.cell? ⟨w.heap.size, 0, none⟩ = some (.string bkt) ∧ w'.cell? ⟨w.heap.size, 1, none⟩ = some (.string key) ∧ w'.cell? ⟨w.heap.size, 2, none⟩ = some (.int .u64 (id : Int)) ∧ w'.cell? ⟨w.heap.size, 3, none⟩ = some (.int .u64 (time : Int)) ∧ w'.cell? ⟨w.heap.size, 4, none⟩ = some (.slice a n cap))
    (first | exact HKP _ ((Below.refl _ y4).drew) | assumption | (have hq0 := ‹Below _ _ _ ∧ _›; first | exact HKP _ (hq0.1.trans (hb0.mono hq0.1.size)) | exact HKP _ (hq0.1.trans (hb1.mono hq0.1.size)) | exact HKP _ (hq0.1.trans (hb2.mono hq0.1.size)) | exact HKP _ (hq0.1.trans (hb3.mono hq0.1.size))))
    (first
      | (go_at_call 15; refine (CS _ (‹Below _ _ _ ∧ _›).1).mono ?_; rintro e w4 ⟨rfl, hb0⟩)
      | (go_at_call 16; refine (CT _ (‹Below _ _ _ ∧ _›).1).mono ?_; rintro e w4 ⟨rfl, hb1⟩)
      | (go_at_call 17; refine (CU _ (‹Below _ _ _ ∧ _›).1).mono ?_; rintro e w4 ⟨rfl, hb2⟩)
      | (go_at_call 7; refine (lawAlive16 S _).mono ?_; rintro e w4 ⟨rfl, hb3⟩))
  all_goals
    have hq9 := ‹Below _ _ _ ∧ _›
    have HB9 := mkHid (HB.out.trans (hq9.1.mono HB.out.size))
    clear hq9
    go_wp2_with fail
    go_ret
    exact ⟨rfl, HB9.out⟩
end Go.Proofs.Ytgcmojldegplaaa
