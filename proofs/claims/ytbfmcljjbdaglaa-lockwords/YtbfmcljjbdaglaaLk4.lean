/- Which retention a bucket gives: what the program and the document say. -/
import Derived.Test.YtbfmcljjbdaglaaLk3
import Derived.Deep.Cut
namespace Go.Proofs.Ytbfmcljjbdaglaa
open Go.RowKit

attribute [local go_sem] undef
/-- how Default stands: the bucket's block, and the result's -/
structure DfAt (w y : World) (b : Bk) (m : Int) (u : Nat) : Prop where
  k : Blk y w.heap.size 30 (bkc b)
  r : Blk y (w.heap.size + 1) 24 [.int .i64 m, .int .u64 (u : Int)]
  bel : Below w.heap.size w y
theorem DfAt.on {w y y' : World} {b : Bk} {m : Int} {u : Nat} (h : DfAt w y b m u) (hb : Below y.heap.size y y') : DfAt w y' b m u := ⟨h.k.on hb, h.r.on hb, h.bel.trans (hb.mono h.bel.size)⟩
theorem DfAt.new (w : World) (b : Bk) : DfAt w ((w.alloc (.cells (bkc b).toArray 30)).alloc (.cells #[.int .i64 0, .int .u64 0] 24)) b 0 0 :=
  ⟨(Blk.new w 30 (bkc b)).alloc _, Blk.newAt _ _ _ _ [.int .i64 0, .int .u64 0] (World.size_alloc _ _) rfl, two_below w _ _⟩
theorem DfAt.row {w y : World} {b : Bk} {m : Int} {u : Nat} (h : DfAt w y b m u) (n : Int) (v : Nat) : DfAt w (y.setRow (w.heap.size + 1) #[.int .i64 n, .int .u64 (v : Int)]) b n v :=
  ⟨h.k.rowOther _ _ (by omega), h.r.row [.int .i64 n, .int .u64 (v : Int)], bel_row h.bel (by omega) _⟩
theorem DfAt.set {w y : World} {b : Bk} {m : Int} {u : Nat} (h : DfAt w y b m u) (n : Int) (v : Nat) : DfAt w ((y.setCell ⟨w.heap.size + 1, 0, none⟩ (.int .i64 n)).setCell ⟨w.heap.size + 1, 1, none⟩ (.int .u64 (v : Int))) b n v :=
  ⟨(h.k.other _ _ (by show w.heap.size ≠ w.heap.size + 1; omega)).other _ _ (by show w.heap.size ≠ w.heap.size + 1; omega), (h.r.set 0 _).set 1 _, (h.bel.setCell (p := ⟨w.heap.size + 1, 0, none⟩) (Nat.le_succ _) _).setCell (p := ⟨w.heap.size + 1, 1, none⟩) (Nat.le_succ _) _⟩
theorem ret_rt {m n : Int} {u v : Nat} (h : m = n) (h2 : u = v) : Value.agg #[.int .i64 m, .int .u64 (u : Int)] = .agg #[.int .i64 n, .int .u64 (v : Int)] := by rw [h, h2]
theorem def_no {b : Bk} {t : Nat} (h : (b.lock && kpM b.dflt && decide (t < laterN t b.days)) = false) : defM b t = 0 ∧ defU b t = 0 := by
  unfold defM defU; rw [h]; exact ⟨rfl, rfl⟩
theorem def_yes {b : Bk} {t : Nat} (h : (b.lock && kpM b.dflt && decide (t < laterN t b.days)) = true) : defM b t = b.dflt ∧ defU b t = laterN t b.days := by
  unfold defM defU; rw [h]; exact ⟨rfl, rfl⟩
set_option maxHeartbeats 2000000 in
theorem codDefault (b : Bk) (t : Nat) (w : World) (ht : t < 18446744073709551616) (hn : b.days ≤ 9223372036854775807) :
    Calls Try.prog 16 #[.agg (bkc b).toArray, .int .u64 (t : Int)] w fun e w' => e = .returned (.agg #[.int .i64 (defM b t), .int .u64 (defU b t : Int)]) ∧ Below w.heap.size w w' := by
  have hD := mkHid (DfAt.new w b)
  have HK := codKeeps b.dflt
  have HL := fun W => codLater t b.days W ht hn
  have HN := mkHid (@def_no b t)
  have HY := mkHid (@def_yes b t)
  clear ht hn
  generalize defM b t = dm at *
  generalize defU b t = du at *
  generalize laterN t b.days = L at *
  generalize kpM b.dflt = K at *
  obtain ⟨name, ver, lock, mfa, dflt, days, pol, exp, nonc⟩ := b
  simp only [bkc] at *
  cases lock
  · obtain ⟨rfl, rfl⟩ := HN.out (by first | rfl | (simp; done) | (simp; omega))
    go_enter Try.func16, Try.ntmps16
    go_wp2_with fail
    refine bodyPost_ret (results_cellrow (P := Try.prog) rfl _ _ (w.heap.size + 1) 24 #[.int .i64 0, .int .u64 0] (0, 0) _ rfl hD.out.r Try.underlying24 rfl (by kernel_rfl)) rfl ⟨?_, hD.out.bel⟩
    rfl
  cases K
  · obtain ⟨rfl, rfl⟩ := HN.out (by first | rfl | (simp; done) | (simp; omega))
    go_enter Try.func16, Try.ntmps16
    go_upto_region 1 with fail
    generalize World.alloc _ _ = y at *
    have c2 := hD.out.k.cell 2
    have c4 := hD.out.k.cell 4
    have r0 := hD.out.r.cell 0
    have r1 := hD.out.r.cell 1
    have f0 := hD.out.r.frozen 0
    have f1 := hD.out.r.frozen 1
    simp only [bkc, List.getElem?_cons_zero, List.getElem?_cons_succ] at c2 c4 r0 r1
    go_wp2_with (refine (HK _).mono ?_; rintro e y1 ⟨rfl, rfl⟩)
    refine bodyPost_ret (results_cellrow (P := Try.prog) rfl _ _ (w.heap.size + 1) 24 #[.int .i64 0, .int .u64 0] (0, 0) _ rfl (hD.out.set 0 0).r Try.underlying24 rfl (by kernel_rfl)) rfl ⟨?_, (hD.out.set 0 0).bel⟩
    rfl
  by_cases hL : t < L
  · obtain ⟨rfl, rfl⟩ := HY.out (by simp [hL])
    have hg : ¬ (du : Int) ≤ (t : Int) := by omega
    clear HN HY
    go_enter Try.func16, Try.ntmps16
    go_upto_region 1 with fail
    generalize World.alloc _ _ = y at *
    have c2 := hD.out.k.cell 2
    have c4 := hD.out.k.cell 4
    have c5 := hD.out.k.cell 5
    have r0 := hD.out.r.cell 0
    have r1 := hD.out.r.cell 1
    have f0 := hD.out.r.frozen 0
    have f1 := hD.out.r.frozen 1
    simp only [bkc, List.getElem?_cons_zero, List.getElem?_cons_succ] at c2 c4 c5 r0 r1
    go_wp2_with fail
    refine (HK _).mono ?_
    rintro e y1 ⟨rfl, rfl⟩
    go_wp2_with fail
    refine (HL _).mono ?_
    rintro e y1 ⟨rfl, rfl⟩
    go_wp2_with fail
    refine bodyPost_ret (results_cellrow (P := Try.prog) rfl _ _ (w.heap.size + 1) 24 #[.int .i64 dm, .int .u64 (du : Int)] (0, 0) _ rfl (hD.out.set dm du).r Try.underlying24 rfl (by kernel_rfl)) rfl ⟨?_, (hD.out.set dm du).bel⟩
    rfl
  · obtain ⟨rfl, rfl⟩ := HN.out (by simp [hL])
    have hg : (L : Int) ≤ (t : Int) := by omega
    clear HN HY
    go_enter Try.func16, Try.ntmps16
    go_upto_region 1 with fail
    generalize World.alloc _ _ = y at *
    have c2 := hD.out.k.cell 2
    have c4 := hD.out.k.cell 4
    have c5 := hD.out.k.cell 5
    have r0 := hD.out.r.cell 0
    have r1 := hD.out.r.cell 1
    have f0 := hD.out.r.frozen 0
    have f1 := hD.out.r.frozen 1
    simp only [bkc, List.getElem?_cons_zero, List.getElem?_cons_succ] at c2 c4 c5 r0 r1
    go_wp2_with fail
    refine (HK _).mono ?_
    rintro e y1 ⟨rfl, rfl⟩
    go_wp2_with fail
    refine (HL _).mono ?_
    rintro e y1 ⟨rfl, rfl⟩
    go_wp2_with fail
    refine bodyPost_ret (results_cellrow (P := Try.prog) rfl _ _ (w.heap.size + 1) 24 #[.int .i64 0, .int .u64 0] (0, 0) _ rfl (hD.out.set 0 0).r Try.underlying24 rfl (by kernel_rfl)) rfl ⟨?_, (hD.out.set 0 0).bel⟩
    rfl
set_option maxHeartbeats 2000000 in
theorem refDefault (b : Bk) (t : Nat) (w : World) (ht : t < 18446744073709551616) (hn : b.days ≤ 9223372036854775807) :
    Calls Try.prog 17 #[.agg (bkc b).toArray, .int .u64 (t : Int)] w fun e w' => e = .returned (.agg #[.int .i64 (defM b t), .int .u64 (defU b t : Int)]) ∧ Below w.heap.size w w' := by
  have hD := mkHid (DfAt.new w b)
  have HK := refKeeps b.dflt
  have HL := fun W => refLater t b.days W ht hn
  have HN := mkHid (@def_no b t)
  have HY := mkHid (@def_yes b t)
  clear ht hn
  generalize defM b t = dm at *
  generalize defU b t = du at *
  generalize laterN t b.days = L at *
  generalize kpM b.dflt = K at *
  obtain ⟨name, ver, lock, mfa, dflt, days, pol, exp, nonc⟩ := b
  simp only [bkc] at *
  cases lock
  · obtain ⟨rfl, rfl⟩ := HN.out (by first | rfl | (simp; done) | (simp; omega))
    go_enter Try.func17, Try.ntmps17
    go_upto_region 1 with fail
    generalize World.alloc _ _ = y at *
    have c2 := hD.out.k.cell 2
    have c4 := hD.out.k.cell 4
    have c5 := hD.out.k.cell 5
    have r0 := hD.out.r.cell 0
    have r1 := hD.out.r.cell 1
    have f0 := hD.out.r.frozen 0
    have f1 := hD.out.r.frozen 1
    simp only [bkc, List.getElem?_cons_zero, List.getElem?_cons_succ] at c2 c4 c5 r0 r1
    go_wp2_with fail
    refine (HL _).mono ?_
    rintro e y1 ⟨rfl, rfl⟩
    go_wp2_with fail
    refine bodyPost_ret (results_cellrow (P := Try.prog) rfl _ _ (w.heap.size + 1) 24 #[.int .i64 0, .int .u64 0] (0, 0) _ rfl (hD.out.set 0 0).r Try.underlying24 rfl (by kernel_rfl)) rfl ⟨?_, (hD.out.set 0 0).bel⟩
    rfl
  cases K
  · obtain ⟨rfl, rfl⟩ := HN.out (by first | rfl | (simp; done) | (simp; omega))
    go_enter Try.func17, Try.ntmps17
    go_upto_region 1 with fail
    generalize World.alloc _ _ = y at *
    have c2 := hD.out.k.cell 2
    have c4 := hD.out.k.cell 4
    have c5 := hD.out.k.cell 5
    have r0 := hD.out.r.cell 0
    have r1 := hD.out.r.cell 1
    have f0 := hD.out.r.frozen 0
    have f1 := hD.out.r.frozen 1
    simp only [bkc, List.getElem?_cons_zero, List.getElem?_cons_succ] at c2 c4 c5 r0 r1
    go_wp2_with fail
    refine (HL _).mono ?_
    rintro e y1 ⟨rfl, rfl⟩
    go_wp2_with (refine (HK _).mono ?_; rintro e y1 ⟨rfl, rfl⟩)
    refine bodyPost_ret (results_cellrow (P := Try.prog) rfl _ _ (w.heap.size + 1) 24 #[.int .i64 0, .int .u64 0] (0, 0) _ rfl (hD.out.set 0 0).r Try.underlying24 rfl (by kernel_rfl)) rfl ⟨?_, (hD.out.set 0 0).bel⟩
    rfl
  by_cases hL : t < L
  · obtain ⟨rfl, rfl⟩ := HY.out (by simp [hL])
    have hg : ¬ (du : Int) ≤ (t : Int) := by omega
    clear HN HY
    go_enter Try.func17, Try.ntmps17
    go_upto_region 1 with fail
    generalize World.alloc _ _ = y at *
    have c2 := hD.out.k.cell 2
    have c4 := hD.out.k.cell 4
    have c5 := hD.out.k.cell 5
    have r0 := hD.out.r.cell 0
    have r1 := hD.out.r.cell 1
    have f0 := hD.out.r.frozen 0
    have f1 := hD.out.r.frozen 1
    simp only [bkc, List.getElem?_cons_zero, List.getElem?_cons_succ] at c2 c4 c5 r0 r1
    go_wp2_with fail
    refine (HL _).mono ?_
    rintro e y1 ⟨rfl, rfl⟩
    go_wp2_with (refine (HK _).mono ?_; rintro e y1 ⟨rfl, rfl⟩)
    refine bodyPost_ret (results_cellrow (P := Try.prog) rfl _ _ (w.heap.size + 1) 24 #[.int .i64 dm, .int .u64 (du : Int)] (0, 0) _ rfl (hD.out.set dm du).r Try.underlying24 rfl (by kernel_rfl)) rfl ⟨?_, (hD.out.set dm du).bel⟩
    rfl
  · obtain ⟨rfl, rfl⟩ := HN.out (by simp [hL])
    have hg : (L : Int) ≤ (t : Int) := by omega
    clear HN HY
    go_enter Try.func17, Try.ntmps17
    go_upto_region 1 with fail
    generalize World.alloc _ _ = y at *
    have c2 := hD.out.k.cell 2
    have c4 := hD.out.k.cell 4
    have c5 := hD.out.k.cell 5
    have r0 := hD.out.r.cell 0
    have r1 := hD.out.r.cell 1
    have f0 := hD.out.r.frozen 0
    have f1 := hD.out.r.frozen 1
    simp only [bkc, List.getElem?_cons_zero, List.getElem?_cons_succ] at c2 c4 c5 r0 r1
    go_wp2_with fail
    refine (HL _).mono ?_
    rintro e y1 ⟨rfl, rfl⟩
    go_wp2_with (refine (HK _).mono ?_; rintro e y1 ⟨rfl, rfl⟩)
    refine bodyPost_ret (results_cellrow (P := Try.prog) rfl _ _ (w.heap.size + 1) 24 #[.int .i64 0, .int .u64 0] (0, 0) _ rfl (hD.out.set 0 0).r Try.underlying24 rfl (by kernel_rfl)) rfl ⟨?_, (hD.out.set 0 0).bel⟩
    rfl
end Go.Proofs.Ytbfmcljjbdaglaa
