/- The walks of LockWords, LockDefaults, LockDeletes and LockSets. -/
import Derived.Test.YtbfmcljjbdaglaaLk4
import Derived.Test.YtbfmcljjbdaglaaLk5
import Derived.Deep.RegionHeld3
namespace Go.Proofs.Ytbfmcljjbdaglaa
open Go.RowKit

set_option maxHeartbeats 2000000 in
theorem words15 (m : Int) (u : Nat) (n : Int) (v t : Nat) (w : World) :
    Calls Try.prog 3 #[.agg #[.int .i64 m, .int .u64 (u : Int)], .agg #[.int .i64 n, .int .u64 (v : Int)], .int .u64 (t : Int)] w fun e w' => e = .returned (.bool true) ∧ Below w.heap.size w w' := by
  have hT := mkHid (TwoR.new w m u n v)
  have C1 := codRight m u t
  have C2 := refRight m u t
  have C3 := codActive m u t
  have C4 := refActive m u t
  have C5 := codCovers m u n v
  have C6 := refCovers m u n v
  generalize rightK m u t = R at *
  generalize activeK m u t = A at *
  generalize coversK m u n v = C at *
  go_enter Try.func3, Try.ntmps3
  go_upto_region 1 with fail
  generalize World.alloc _ _ = y at *
  have HKP : ∀ w', Below y.heap.size y w' → Below y.heap.size y w' ∧ w'.cell? ⟨w.heap.size, 0, none⟩ = some (.int .i64 m) ∧ w'.cell? ⟨w.heap.size, 1, none⟩ = some (.int .u64 (u : Int)) ∧ w'.cell? ⟨w.heap.size + 1, 0, none⟩ = some (.int .i64 n) ∧ w'.cell? ⟨w.heap.size + 1, 1, none⟩ = some (.int .u64 (v : Int)) := fun w' hW => ⟨hW, by have h := hT.out.on hW; exact ⟨h.a.cell 0, h.a.cell 1, h.b.cell 0, h.b.cell 1⟩⟩
  have HB := mkHid hT.out.bel
  clear hT
  go_region_held3 (fun w' => Below y.heap.size y w' ∧ w'.cell? ⟨w.heap.size, 0, none⟩ = some (.int .i64 m) ∧ w'.cell? ⟨w.heap.size, 1, none⟩ = some (.int .u64 (u : Int)) ∧ w'.cell? ⟨w.heap.size + 1, 0, none⟩ = some (.int .i64 n) ∧ w'.cell? ⟨w.heap.size + 1, 1, none⟩ = some (.int .u64 (v : Int)))
    (first | exact HKP _ ((Below.refl _ y).drew) | assumption | (have hq0 := ‹Below _ _ _ ∧ _›; first | exact HKP _ (hq0.1.trans (hb0.mono hq0.1.size)) | exact HKP _ (hq0.1.trans (hb1.mono hq0.1.size)) | exact HKP _ (hq0.1.trans (hb2.mono hq0.1.size)) | exact HKP _ (hq0.1.trans (hb3.mono hq0.1.size)) | exact HKP _ (hq0.1.trans (hb4.mono hq0.1.size)) | exact HKP _ (hq0.1.trans (hb5.mono hq0.1.size)) | exact HKP _ (hq0.1.trans (hb6.mono hq0.1.size))))
    (first
      | (go_at_call 9; refine (C1 _).mono ?_; rintro e w4 ⟨rfl, hb0⟩)
      | (go_at_call 10; refine (C2 _).mono ?_; rintro e w4 ⟨rfl, hb1⟩)
      | (go_at_call 11; refine (C3 _).mono ?_; rintro e w4 ⟨rfl, hb2⟩)
      | (go_at_call 12; refine (C4 _).mono ?_; rintro e w4 ⟨rfl, hb3⟩)
      | (go_at_call 13; refine (C5 _).mono ?_; rintro e w4 ⟨rfl, hb4⟩)
      | (go_at_call 14; refine (C6 _).mono ?_; rintro e w4 ⟨rfl, hb5⟩)
      | (go_at_call 15; refine (lawAlive15 _).mono ?_; rintro e w4 ⟨rfl, hb6⟩))
  all_goals
    have hq9 := ‹Below _ _ _ ∧ _›
    have HB9 := mkHid (HB.out.trans (hq9.1.mono HB.out.size))
    clear hq9
    go_wp2_with fail
    go_ret
    exact ⟨rfl, HB9.out⟩
set_option maxHeartbeats 2000000 in
theorem sets15 (m : Int) (u : Nat) (n : Int) (v t : Nat) (b : Bool) (w : World) :
    Calls Try.prog 6 #[.agg #[.int .i64 m, .int .u64 (u : Int)], .agg #[.int .i64 n, .int .u64 (v : Int)], .int .u64 (t : Int), .bool b] w fun e w' => e = .returned (.bool true) ∧ Below w.heap.size w w' := by
  have hT := mkHid (TwoR.new w m u n v)
  have C1 := codMaySet m u n v t b
  have C2 := refMaySet m u n v t b
  generalize maySetK m u n v t b = R at *
  go_enter Try.func6, Try.ntmps6
  go_upto_region 1 with fail
  generalize World.alloc _ _ = y at *
  have HKP : ∀ w', Below y.heap.size y w' → Below y.heap.size y w' ∧ w'.cell? ⟨w.heap.size, 0, none⟩ = some (.int .i64 m) ∧ w'.cell? ⟨w.heap.size, 1, none⟩ = some (.int .u64 (u : Int)) ∧ w'.cell? ⟨w.heap.size + 1, 0, none⟩ = some (.int .i64 n) ∧ w'.cell? ⟨w.heap.size + 1, 1, none⟩ = some (.int .u64 (v : Int)) := fun w' hW => ⟨hW, by have h := hT.out.on hW; exact ⟨h.a.cell 0, h.a.cell 1, h.b.cell 0, h.b.cell 1⟩⟩
  have HB := mkHid hT.out.bel
  clear hT
  go_region_held3 (fun w' => Below y.heap.size y w' ∧ w'.cell? ⟨w.heap.size, 0, none⟩ = some (.int .i64 m) ∧ w'.cell? ⟨w.heap.size, 1, none⟩ = some (.int .u64 (u : Int)) ∧ w'.cell? ⟨w.heap.size + 1, 0, none⟩ = some (.int .i64 n) ∧ w'.cell? ⟨w.heap.size + 1, 1, none⟩ = some (.int .u64 (v : Int)))
    (first | exact HKP _ ((Below.refl _ y).drew) | assumption | (have hq0 := ‹Below _ _ _ ∧ _›; first | exact HKP _ (hq0.1.trans (hb0.mono hq0.1.size)) | exact HKP _ (hq0.1.trans (hb1.mono hq0.1.size)) | exact HKP _ (hq0.1.trans (hb2.mono hq0.1.size))))
    (first
      | (go_at_call 20; refine (C1 _).mono ?_; rintro e w4 ⟨rfl, hb0⟩)
      | (go_at_call 21; refine (C2 _).mono ?_; rintro e w4 ⟨rfl, hb1⟩)
      | (go_at_call 15; refine (lawAlive15 _).mono ?_; rintro e w4 ⟨rfl, hb2⟩))
  all_goals
    have hq9 := ‹Below _ _ _ ∧ _›
    have HB9 := mkHid (HB.out.trans (hq9.1.mono HB.out.size))
    clear hq9
    go_wp2_with fail
    go_ret
    exact ⟨rfl, HB9.out⟩
/-- a version's block in a world -/
structure OneV (w y : World) (T : Nat) (cs : List Value) : Prop where
  k : Blk y w.heap.size T cs
  bel : Below w.heap.size w y
theorem OneV.on {w y y' : World} {T : Nat} {cs : List Value} (h : OneV w y T cs) (hb : Below y.heap.size y y') : OneV w y' T cs := ⟨h.k.on hb, h.bel.trans (hb.mono h.bel.size)⟩
theorem OneV.new (w : World) (T : Nat) (cs : List Value) : OneV w (w.alloc (.cells cs.toArray T)) T cs := ⟨Blk.new w T cs, (Below.refl _ w).alloc (Nat.le_refl _) _⟩
set_option maxHeartbeats 2000000 in
theorem deletes15 (v : Vs) (q : VsA) (t : Nat) (b : Bool) (w : World) :
    Calls Try.prog 5 #[.agg (vsc v q).toArray, .int .u64 (t : Int), .bool b] w fun e w' => e = .returned (.bool true) ∧ Below w.heap.size w w' := by
  have hT := mkHid (OneV.new w 35 (vsc v q))
  have C1 := codMayDelete v q t b
  have C2 := refMayDelete v q t b
  generalize mayDelK v.hold v.rm v.ru t b = R at *
  obtain ⟨bkt, key, id, ord, mark, data, rm, ru, hold, time⟩ := v
  obtain ⟨qa, qc⟩ := q
  simp only [vsc] at *
  go_enter Try.func5, Try.ntmps5
  go_upto_region 1 with fail
  generalize World.alloc _ _ = y at *
  have HKP : ∀ w', Below y.heap.size y w' → Below y.heap.size y w' ∧ w'.cell? ⟨w.heap.size, 0, none⟩ = some (.string bkt) ∧ w'.cell? ⟨w.heap.size, 1, none⟩ = some (.string key) ∧ w'.cell? ⟨w.heap.size, 2, none⟩ = some (.int .u64 (id : Int)) ∧ w'.cell? ⟨w.heap.size, 3, none⟩ = some (.int .u64 (ord : Int)) ∧ w'.cell? ⟨w.heap.size, 4, none⟩ = some (.bool mark) ∧ w'.cell? ⟨w.heap.size, 5, none⟩ = some (.slice qa data.length qc) ∧ w'.cell? ⟨w.heap.size, 6, none⟩ = some (.int .i64 rm) ∧ w'.cell? ⟨w.heap.size, 7, none⟩ = some (.int .u64 (ru : Int)) ∧ w'.cell? ⟨w.heap.size, 8, none⟩ = some (.bool hold) ∧ w'.cell? ⟨w.heap.size, 9, none⟩ = some (.int .u64 (time : Int)) := fun w' hW => ⟨hW, by have h := hT.out.on hW; exact ⟨h.k.cell 0, h.k.cell 1, h.k.cell 2, h.k.cell 3, h.k.cell 4, h.k.cell 5, h.k.cell 6, h.k.cell 7, h.k.cell 8, h.k.cell 9⟩⟩
  have HB := mkHid hT.out.bel
  clear hT
  go_region_held3 (fun w' => Below y.heap.size y w' ∧ w'.cell? ⟨w.heap.size, 0, none⟩ = some (.string bkt) ∧ w'.cell? ⟨w.heap.size, 1, none⟩ = some (.string key) ∧ w'.cell? ⟨w.heap.size, 2, none⟩ = some (.int .u64 (id : Int)) ∧ w'.cell? ⟨w.heap.size, 3, none⟩ = some (.int .u64 (ord : Int)) ∧ w'.cell? ⟨w.heap.size, 4, none⟩ = some (.bool mark) ∧ w'.cell? ⟨w.heap.size, 5, none⟩ = some (.slice qa data.length qc) ∧ w'.cell? ⟨w.heap.size, 6, none⟩ = some (.int .i64 rm) ∧ w'.cell? ⟨w.heap.size, 7, none⟩ = some (.int .u64 (ru : Int)) ∧ w'.cell? ⟨w.heap.size, 8, none⟩ = some (.bool hold) ∧ w'.cell? ⟨w.heap.size, 9, none⟩ = some (.int .u64 (time : Int)))
    (first | exact HKP _ ((Below.refl _ y).drew) | assumption | (have hq0 := ‹Below _ _ _ ∧ _›; first | exact HKP _ (hq0.1.trans (hb0.mono hq0.1.size)) | exact HKP _ (hq0.1.trans (hb1.mono hq0.1.size)) | exact HKP _ (hq0.1.trans (hb2.mono hq0.1.size))))
    (first
      | (go_at_call 18; refine (C1 _).mono ?_; rintro e w4 ⟨rfl, hb0⟩)
      | (go_at_call 19; refine (C2 _).mono ?_; rintro e w4 ⟨rfl, hb1⟩)
      | (go_at_call 15; refine (lawAlive15 _).mono ?_; rintro e w4 ⟨rfl, hb2⟩))
  all_goals
    have hq9 := ‹Below _ _ _ ∧ _›
    have HB9 := mkHid (HB.out.trans (hq9.1.mono HB.out.size))
    clear hq9
    go_wp2_with fail
    go_ret
    exact ⟨rfl, HB9.out⟩
set_option maxHeartbeats 2000000 in
theorem defaults15 (b : Bk) (t : Nat) (w : World) (ht : t < 18446744073709551616) (hn : b.days ≤ 9223372036854775807) :
    Calls Try.prog 4 #[.agg (bkc b).toArray, .int .u64 (t : Int)] w fun e w' => e = .returned (.bool true) ∧ Below w.heap.size w w' := by
  have hT := mkHid (OneV.new w 30 (bkc b))
  have C1 := fun W => codDefault b t W ht hn
  have C2 := fun W => refDefault b t W ht hn
  clear ht hn
  generalize defM b t = dm at *
  generalize defU b t = du at *
  obtain ⟨name, ver, lock, mfa, dflt, days, pol, exp, nonc⟩ := b
  simp only [bkc] at *
  go_enter Try.func4, Try.ntmps4
  go_upto_region 1 with fail
  generalize World.alloc _ _ = y at *
  have HKP : ∀ w', Below y.heap.size y w' → Below y.heap.size y w' ∧ w'.cell? ⟨w.heap.size, 0, none⟩ = some (.string name) ∧ w'.cell? ⟨w.heap.size, 1, none⟩ = some (.int .i64 ver) ∧ w'.cell? ⟨w.heap.size, 2, none⟩ = some (.bool lock) ∧ w'.cell? ⟨w.heap.size, 3, none⟩ = some (.bool mfa) ∧ w'.cell? ⟨w.heap.size, 4, none⟩ = some (.int .i64 dflt) ∧ w'.cell? ⟨w.heap.size, 5, none⟩ = some (.int .i64 days) ∧ w'.cell? ⟨w.heap.size, 6, none⟩ = some (.string pol) ∧ w'.cell? ⟨w.heap.size, 7, none⟩ = some (.int .i64 exp) ∧ w'.cell? ⟨w.heap.size, 8, none⟩ = some (.int .i64 nonc) := fun w' hW => ⟨hW, by have h := hT.out.on hW; exact ⟨h.k.cell 0, h.k.cell 1, h.k.cell 2, h.k.cell 3, h.k.cell 4, h.k.cell 5, h.k.cell 6, h.k.cell 7, h.k.cell 8⟩⟩
  have HB := mkHid hT.out.bel
  clear hT
  go_region_held3 (fun w' => Below y.heap.size y w' ∧ w'.cell? ⟨w.heap.size, 0, none⟩ = some (.string name) ∧ w'.cell? ⟨w.heap.size, 1, none⟩ = some (.int .i64 ver) ∧ w'.cell? ⟨w.heap.size, 2, none⟩ = some (.bool lock) ∧ w'.cell? ⟨w.heap.size, 3, none⟩ = some (.bool mfa) ∧ w'.cell? ⟨w.heap.size, 4, none⟩ = some (.int .i64 dflt) ∧ w'.cell? ⟨w.heap.size, 5, none⟩ = some (.int .i64 days) ∧ w'.cell? ⟨w.heap.size, 6, none⟩ = some (.string pol) ∧ w'.cell? ⟨w.heap.size, 7, none⟩ = some (.int .i64 exp) ∧ w'.cell? ⟨w.heap.size, 8, none⟩ = some (.int .i64 nonc))
    (first | exact HKP _ ((Below.refl _ y).drew) | assumption | (have hq0 := ‹Below _ _ _ ∧ _›; first | exact HKP _ (hq0.1.trans (hb0.mono hq0.1.size)) | exact HKP _ (hq0.1.trans (hb1.mono hq0.1.size)) | exact HKP _ (hq0.1.trans (hb2.mono hq0.1.size))))
    (first
      | (go_at_call 16; refine (C1 _).mono ?_; rintro e w4 ⟨rfl, hb0⟩)
      | (go_at_call 17; refine (C2 _).mono ?_; rintro e w4 ⟨rfl, hb1⟩)
      | (go_at_call 15; refine (lawAlive15 _).mono ?_; rintro e w4 ⟨rfl, hb2⟩))
  all_goals
    have hq9 := ‹Below _ _ _ ∧ _›
    have HB9 := mkHid (HB.out.trans (hq9.1.mono HB.out.size))
    clear hq9
    go_wp2_with fail
    go_ret
    exact ⟨rfl, HB9.out⟩
end Go.Proofs.Ytbfmcljjbdaglaa
