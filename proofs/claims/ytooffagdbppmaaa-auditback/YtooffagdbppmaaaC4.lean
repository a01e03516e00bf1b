/- AuditReads: the walk. · AuditBack: the walk. -/
import Derived.Test.YtooffagdbppmaaaC0
import Derived.Test.YtooffagdbppmaaaAu15
namespace Go.Proofs.Ytooffagdbppmaaa
open Go.RowKit

theorem same_self14 (r : Rc) : sameRc r r = true := (sameRc_iff r r).2 rfl
attribute [local go_sem] undef
set_option maxRecDepth 20000 in
set_option maxHeartbeats 2000000 in
theorem reads14 (a : Option Addr) (len cap : Nat) (b : List UInt8) (w : World) (h : IsB w a len cap b) (hl : len ≤ 140737488351232) :
    Calls Try.prog 4 #[.slice a len cap] w fun e w' => e = .returned (.bool true) ∧ Below w.heap.size w w' := by
  have HI := mkHid h
  clear h
  by_cases hbig : 10000 < len
  · have hbig' : (10000 : Int) < (len : Int) := by omega
    go_enter Try.func4, Try.ntmps4
    go_wp2_with fail
    refine (lawAlive14 w).mono ?_
    rintro e y1 ⟨rfl, hb1⟩
    have HB1 := mkHid hb1
    clear hb1
    go_wp2_with fail
    go_ret
    exact ⟨rfl, HB1.out⟩
  · have hbig' : ¬ (10000 : Int) < (len : Int) := by omega
    have HC := codRead14 a len cap b w HI.out (by omega)
    have HD := fun W (hW : Below w.heap.size w W) => refRead14 a len cap b W (HI.out.below hW rfl) (by omega)
    unfold RdP14 at HC HD
    clear HI hbig hl
    generalize rdE14 b = E at *
    generalize rdR14 b = x at *
    have HS := fun q p W => refSame14 x x q p W
    rw [same_self14] at HS
    obtain ⟨xseq, xclk, xwho, xkind, xbkt, xkey, xver, xerr, xsum, xprev⟩ := x
    simp only [rcc] at HC HD HS
    go_enter Try.func4, Try.ntmps4
    go_wp2_with fail
    refine HC.mono ?_
    rintro e y1 ⟨⟨⟨pa, pc, pb, pd⟩, rfl, hr1⟩, hb1⟩
    have hbA : Below y1.heap.size y1 (y1.alloc (.cells #[.int .u64 (xseq : Int), .int .u64 (xclk : Int), .string xwho, .int .i64 xkind, .string xbkt, .string xkey, .int .u64 (xver : Int), .int .i64 xerr, .slice pa xsum.length pc, .slice pb xprev.length pd] 26)) := (Below.refl _ y1).alloc (Nat.le_refl _) _
    have HKA := mkHid (Blk.new y1 26 [.int .u64 (xseq : Int), .int .u64 (xclk : Int), .string xwho, .int .i64 xkind, .string xbkt, .string xkey, .int .u64 (xver : Int), .int .i64 xerr, .slice pa xsum.length pc, .slice pb xprev.length pd])
    have HR1 := mkHid (hr1.below hbA)
    have HB1 := mkHid (hb1.trans (hbA.mono hb1.size))
    clear hbA hr1 hb1 HC
    go_wp2_with fail
    generalize y1.alloc (.cells #[.int .u64 (xseq : Int), .int .u64 (xclk : Int), .string xwho, .int .i64 xkind, .string xbkt, .string xkey, .int .u64 (xver : Int), .int .i64 xerr, .slice pa xsum.length pc, .slice pb xprev.length pd] 26) = Y1 at *
    generalize y1.heap.size = P at *
    refine (HD Y1 HB1.out).mono ?_
    rintro e y2 ⟨⟨⟨qa, qc, qb, qd⟩, rfl, hr2⟩, hb2⟩
    have hbA : Below y2.heap.size y2 (y2.alloc (.cells #[.int .u64 (xseq : Int), .int .u64 (xclk : Int), .string xwho, .int .i64 xkind, .string xbkt, .string xkey, .int .u64 (xver : Int), .int .i64 xerr, .slice qa xsum.length qc, .slice qb xprev.length qd] 26)) := (Below.refl _ y2).alloc (Nat.le_refl _) _
    have HK2 := mkHid ((HKA.out.on hb2).on hbA)
    have HK3 := mkHid (Blk.new y2 26 [.int .u64 (xseq : Int), .int .u64 (xclk : Int), .string xwho, .int .i64 xkind, .string xbkt, .string xkey, .int .u64 (xver : Int), .int .i64 xerr, .slice qa xsum.length qc, .slice qb xprev.length qd])
    have HR2 := mkHid ((HR1.out.below hb2).below hbA)
    have HR3 := mkHid (hr2.below hbA)
    have HB2 := mkHid ((HB1.out.trans (hb2.mono HB1.out.size)).trans (hbA.mono (HB1.out.trans (hb2.mono HB1.out.size)).size))
    clear hbA hr2 hb2 HD HKA HR1 HB1
    go_upto_region 5 with fail
    generalize y2.alloc (.cells #[.int .u64 (xseq : Int), .int .u64 (xclk : Int), .string xwho, .int .i64 xkind, .string xbkt, .string xkey, .int .u64 (xver : Int), .int .i64 xerr, .slice qa xsum.length qc, .slice qb xprev.length qd] 26) = Y2 at *
    generalize y2.heap.size = P2 at *
    have c0 : Y2.cell? ⟨P, 0, none⟩ = some (.int .u64 (xseq : Int)) := HK2.out.cell 0
    have c1 : Y2.cell? ⟨P, 1, none⟩ = some (.int .u64 (xclk : Int)) := HK2.out.cell 1
    have c2 : Y2.cell? ⟨P, 2, none⟩ = some (.string xwho) := HK2.out.cell 2
    have c3 : Y2.cell? ⟨P, 3, none⟩ = some (.int .i64 xkind) := HK2.out.cell 3
    have c4 : Y2.cell? ⟨P, 4, none⟩ = some (.string xbkt) := HK2.out.cell 4
    have c5 : Y2.cell? ⟨P, 5, none⟩ = some (.string xkey) := HK2.out.cell 5
    have c6 : Y2.cell? ⟨P, 6, none⟩ = some (.int .u64 (xver : Int)) := HK2.out.cell 6
    have c7 : Y2.cell? ⟨P, 7, none⟩ = some (.int .i64 xerr) := HK2.out.cell 7
    have c8 : Y2.cell? ⟨P, 8, none⟩ = some (.slice pa xsum.length pc) := HK2.out.cell 8
    have c9 : Y2.cell? ⟨P, 9, none⟩ = some (.slice pb xprev.length pd) := HK2.out.cell 9
    have d0 : Y2.cell? ⟨P2, 0, none⟩ = some (.int .u64 (xseq : Int)) := HK3.out.cell 0
    have d1 : Y2.cell? ⟨P2, 1, none⟩ = some (.int .u64 (xclk : Int)) := HK3.out.cell 1
    have d2 : Y2.cell? ⟨P2, 2, none⟩ = some (.string xwho) := HK3.out.cell 2
    have d3 : Y2.cell? ⟨P2, 3, none⟩ = some (.int .i64 xkind) := HK3.out.cell 3
    have d4 : Y2.cell? ⟨P2, 4, none⟩ = some (.string xbkt) := HK3.out.cell 4
    have d5 : Y2.cell? ⟨P2, 5, none⟩ = some (.string xkey) := HK3.out.cell 5
    have d6 : Y2.cell? ⟨P2, 6, none⟩ = some (.int .u64 (xver : Int)) := HK3.out.cell 6
    have d7 : Y2.cell? ⟨P2, 7, none⟩ = some (.int .i64 xerr) := HK3.out.cell 7
    have d8 : Y2.cell? ⟨P2, 8, none⟩ = some (.slice qa xsum.length qc) := HK3.out.cell 8
    have d9 : Y2.cell? ⟨P2, 9, none⟩ = some (.slice qb xprev.length qd) := HK3.out.cell 9
    go_wp2_with fail
    refine (HS ⟨pa, pc, pb, pd⟩ ⟨qa, qc, qb, qd⟩ Y2 HR2.out HR3.out).mono ?_
    rintro e y3 ⟨rfl, hb3⟩
    have HB3 := mkHid (HB2.out.trans (hb3.mono HB2.out.size))
    clear hb3 HS HK2 HK3 HR2 HR3 HB2 c0 c1 c2 c3 c4 c5 c6 c7 c8 c9 d0 d1 d2 d3 d4 d5 d6 d7 d8 d9
    go_wp2_with fail
    refine (lawAlive14 y3).mono ?_
    rintro e y4 ⟨rfl, hb4⟩
    have HB4 := mkHid (HB3.out.trans (hb4.mono HB3.out.size))
    clear hb4 HB3
    go_wp2_with fail
    go_ret
    exact ⟨rfl, HB4.out⟩
end Go.Proofs.Ytooffagdbppmaaa
namespace Go.Proofs.Ytooffagdbppmaaa
open Go.RowKit

theorem right_len14 {r : Rc} (h : rightRc r = true) : rcLen r ≤ 5000 := by
  have := of_decide_eq_true h
  unfold rcLen
  omega
theorem light_one14 (r : Rc) (h : lightR [r] = true) : rcLen r ≤ 5000 := (light_len h).1 r (List.mem_singleton.2 rfl)
attribute [local go_sem] undef
set_option maxRecDepth 20000 in
set_option maxHeartbeats 4000000 in
theorem back14 (r : Rc) (q : RcA) (a : Option Addr) (len cap : Nat) (b : List UInt8) (w : World) (hr : IsRec w r q) (hz : RcZ r) (h : IsB w a len cap b) (hl : len ≤ 140737488351232) :
    Calls Try.prog 8 #[.agg (rcc r q).toArray, .slice a len cap] w fun e w' => e = .returned (.bool true) ∧ Below w.heap.size w w' := by
  have HI := mkHid h
  have HB0 : Hid (Below w.heap.size w ((w.alloc (.cells (rcc r q).toArray 26)).alloc (.cells (rcc r q).toArray 26))) := ((Below.refl _ w).alloc (Nat.le_refl _) _).alloc (by simp) _
  have HK0 := mkHid ((Blk.new w 26 (rcc r q)).alloc (.cells (rcc r q).toArray 26))
  have hX := Blk.newAt (w.alloc (.cells (rcc r q).toArray 26)) (w.heap.size + 1) 26 _ (rcc r q) (World.size_alloc _ _) rfl
  have HLt := lawLight14 (some ⟨w.heap.size + 1, 0, none⟩) 1 1 [(r, q)] _ (one_rl14 hX (hr.below HB0.out)) (fun x hx => by obtain rfl := List.mem_singleton.1 hx; exact hz) (by omega)
  have hL1 := light_one14 r
  rw [show [(r, q)].map Prod.fst = [r] from rfl] at HLt
  have HR := mkHid hr
  have HRS : Hid (rcLen r ≤ 5000 → 0 ≤ r.kind → 0 ≤ r.err → readRc (showRc r) = if rightRc r = true then some r else none) := fun h1 h2 h3 => read_show14 r hr.num h1 h2 h3
  have HSh := fun W (hW : Below w.heap.size w W) hs => codShow14 r q W (hr.below hW) hs
  have HSn : Hid (rcLen r ≤ 5000 → (showRc r).length ≤ 100000) := fun h1 => by rw [showRc_len]; omega
  have HRt := fun W => refRight14 r q W
  have HSm := fun p W (hW : Below w.heap.size w W) (hp : IsRec W r p) => codSame14 r r p q W hp (hr.below hW)
  rw [same_self14] at HSm
  have HDf := fun W (hW : Below w.heap.size w W) hle => codRead14 a len cap b W (HI.out.below hW rfl) hle
  clear hr hz h hX
  generalize lightR [r] = LT at *
  obtain ⟨rseq, rclk, rwho, rkind, rbkt, rkey, rver, rerr, rsum, rprev⟩ := r
  obtain ⟨qa, qc, qb, qd⟩ := q
  simp only [] at HRS
  simp only [rcc] at HB0 HK0 HLt HSh HRt HSm ⊢
  cases LT with
  | false =>
    clear hL1 HSh HRS HSn HRt HSm HDf HI
    go_enter Try.func8, Try.ntmps8
    go_wp2_with fail
    generalize (w.alloc (.cells #[.int .u64 (rseq : Int), .int .u64 (rclk : Int), .string rwho, .int .i64 rkind, .string rbkt, .string rkey, .int .u64 (rver : Int), .int .i64 rerr, .slice qa rsum.length qc, .slice qb rprev.length qd] 26)).alloc (.cells #[.int .u64 (rseq : Int), .int .u64 (rclk : Int), .string rwho, .int .i64 rkind, .string rbkt, .string rkey, .int .u64 (rver : Int), .int .i64 rerr, .slice qa rsum.length qc, .slice qb rprev.length qd] 26) = Y0 at *
    refine HLt.mono ?_
    rintro e y1 ⟨rfl, hb1⟩
    have HK1 := mkHid (HK0.out.on hb1)
    have HB1 := mkHid (HB0.out.trans (hb1.mono HB0.out.size))
    clear hb1 HLt HK0 HB0
    have c3 : y1.cell? ⟨w.heap.size, 3, none⟩ = some (.int .i64 rkind) := HK1.out.cell 3
    have c7 : y1.cell? ⟨w.heap.size, 7, none⟩ = some (.int .i64 rerr) := HK1.out.cell 7
    clear HK1
    go_wp2_with fail
    refine (lawAlive14 y1).mono ?_
    rintro e l2 ⟨rfl, hl2⟩
    have HL2 := mkHid (HB1.out.trans (hl2.mono HB1.out.size))
    clear hl2
    go_wp2_with fail
    go_ret
    exact ⟨rfl, HL2.out⟩
  | true =>
  have hL := hL1 rfl
  have HSh2 := fun W hW => HSh W hW hL
  have HSn2 := mkHid (HSn.out hL)
  clear hL1 HSh HSn
  by_cases hbig : 10000 < len
  · have hbig' : (10000 : Int) < (len : Int) := by omega
    clear HSh2 HRS HSn2 HRt HSm HDf HI
    go_enter Try.func8, Try.ntmps8
    go_wp2_with fail
    generalize (w.alloc (.cells #[.int .u64 (rseq : Int), .int .u64 (rclk : Int), .string rwho, .int .i64 rkind, .string rbkt, .string rkey, .int .u64 (rver : Int), .int .i64 rerr, .slice qa rsum.length qc, .slice qb rprev.length qd] 26)).alloc (.cells #[.int .u64 (rseq : Int), .int .u64 (rclk : Int), .string rwho, .int .i64 rkind, .string rbkt, .string rkey, .int .u64 (rver : Int), .int .i64 rerr, .slice qa rsum.length qc, .slice qb rprev.length qd] 26) = Y0 at *
    refine HLt.mono ?_
    rintro e y1 ⟨rfl, hb1⟩
    have HK1 := mkHid (HK0.out.on hb1)
    have HB1 := mkHid (HB0.out.trans (hb1.mono HB0.out.size))
    clear hb1 HLt HK0 HB0
    have c3 : y1.cell? ⟨w.heap.size, 3, none⟩ = some (.int .i64 rkind) := HK1.out.cell 3
    have c7 : y1.cell? ⟨w.heap.size, 7, none⟩ = some (.int .i64 rerr) := HK1.out.cell 7
    clear HK1
    go_wp2_with fail
    refine (lawAlive14 y1).mono ?_
    rintro e l2 ⟨rfl, hl2⟩
    have HL2 := mkHid (HB1.out.trans (hl2.mono HB1.out.size))
    clear hl2
    go_wp2_with fail
    go_ret
    exact ⟨rfl, HL2.out⟩
  have hbig' : ¬ (10000 : Int) < (len : Int) := by omega
  have HD := fun W hW => HDf W hW (by omega)
  clear HDf hbig hl
  by_cases hk : rkind < 0
  · clear HSh2 HRS HSn2 HRt HSm HD HI
    go_enter Try.func8, Try.ntmps8
    go_wp2_with fail
    generalize (w.alloc (.cells #[.int .u64 (rseq : Int), .int .u64 (rclk : Int), .string rwho, .int .i64 rkind, .string rbkt, .string rkey, .int .u64 (rver : Int), .int .i64 rerr, .slice qa rsum.length qc, .slice qb rprev.length qd] 26)).alloc (.cells #[.int .u64 (rseq : Int), .int .u64 (rclk : Int), .string rwho, .int .i64 rkind, .string rbkt, .string rkey, .int .u64 (rver : Int), .int .i64 rerr, .slice qa rsum.length qc, .slice qb rprev.length qd] 26) = Y0 at *
    refine HLt.mono ?_
    rintro e y1 ⟨rfl, hb1⟩
    have HK1 := mkHid (HK0.out.on hb1)
    have HB1 := mkHid (HB0.out.trans (hb1.mono HB0.out.size))
    clear hb1 HLt HK0 HB0
    have c3 : y1.cell? ⟨w.heap.size, 3, none⟩ = some (.int .i64 rkind) := HK1.out.cell 3
    have c7 : y1.cell? ⟨w.heap.size, 7, none⟩ = some (.int .i64 rerr) := HK1.out.cell 7
    clear HK1
    go_wp2_with fail
    refine (lawAlive14 y1).mono ?_
    rintro e l2 ⟨rfl, hl2⟩
    have HL2 := mkHid (HB1.out.trans (hl2.mono HB1.out.size))
    clear hl2
    go_wp2_with fail
    go_ret
    exact ⟨rfl, HL2.out⟩
  by_cases he : rerr < 0
  · clear HSh2 HRS HSn2 HRt HSm HD HI
    go_enter Try.func8, Try.ntmps8
    go_wp2_with fail
    generalize (w.alloc (.cells #[.int .u64 (rseq : Int), .int .u64 (rclk : Int), .string rwho, .int .i64 rkind, .string rbkt, .string rkey, .int .u64 (rver : Int), .int .i64 rerr, .slice qa rsum.length qc, .slice qb rprev.length qd] 26)).alloc (.cells #[.int .u64 (rseq : Int), .int .u64 (rclk : Int), .string rwho, .int .i64 rkind, .string rbkt, .string rkey, .int .u64 (rver : Int), .int .i64 rerr, .slice qa rsum.length qc, .slice qb rprev.length qd] 26) = Y0 at *
    refine HLt.mono ?_
    rintro e y1 ⟨rfl, hb1⟩
    have HK1 := mkHid (HK0.out.on hb1)
    have HB1 := mkHid (HB0.out.trans (hb1.mono HB0.out.size))
    clear hb1 HLt HK0 HB0
    have c3 : y1.cell? ⟨w.heap.size, 3, none⟩ = some (.int .i64 rkind) := HK1.out.cell 3
    have c7 : y1.cell? ⟨w.heap.size, 7, none⟩ = some (.int .i64 rerr) := HK1.out.cell 7
    clear HK1
    go_wp2_with fail
    refine (lawAlive14 y1).mono ?_
    rintro e l2 ⟨rfl, hl2⟩
    have HL2 := mkHid (HB1.out.trans (hl2.mono HB1.out.size))
    clear hl2
    go_wp2_with fail
    go_ret
    exact ⟨rfl, HL2.out⟩
  have HRS2 := mkHid (HRS.out hL (by omega) (by omega))
  clear HRS hL
  have hRd := fun W va vc (hv : IsB W va (showRc ⟨rseq, rclk, rwho, rkind, rbkt, rkey, rver, rerr, rsum, rprev⟩).length vc (showRc ⟨rseq, rclk, rwho, rkind, rbkt, rkey, rver, rerr, rsum, rprev⟩)) => codRead14 va _ vc _ W hv HSn2.out
  cases hrt : rightRc ⟨rseq, rclk, rwho, rkind, rbkt, rkey, rver, rerr, rsum, rprev⟩ with
  | true =>
    have e1 : rdR14 (showRc ⟨rseq, rclk, rwho, rkind, rbkt, rkey, rver, rerr, rsum, rprev⟩) = ⟨rseq, rclk, rwho, rkind, rbkt, rkey, rver, rerr, rsum, rprev⟩ := by unfold rdR14; rw [HRS2.out, if_pos hrt]; rfl
    have e2 : rdE14 (showRc ⟨rseq, rclk, rwho, rkind, rbkt, rkey, rver, rerr, rsum, rprev⟩) = 0 := by unfold rdE14; rw [HRS2.out, if_pos hrt]; rfl
    unfold RdP14 at hRd
    rw [e1, e2] at hRd
    rw [hrt] at HRt
    simp only [rcc] at hRd
    clear e1 e2 hrt HRS2 HSn2
    generalize showRc ⟨rseq, rclk, rwho, rkind, rbkt, rkey, rver, rerr, rsum, rprev⟩ = SR at *
    go_enter Try.func8, Try.ntmps8
    go_wp2_with fail
    generalize (w.alloc (.cells #[.int .u64 (rseq : Int), .int .u64 (rclk : Int), .string rwho, .int .i64 rkind, .string rbkt, .string rkey, .int .u64 (rver : Int), .int .i64 rerr, .slice qa rsum.length qc, .slice qb rprev.length qd] 26)).alloc (.cells #[.int .u64 (rseq : Int), .int .u64 (rclk : Int), .string rwho, .int .i64 rkind, .string rbkt, .string rkey, .int .u64 (rver : Int), .int .i64 rerr, .slice qa rsum.length qc, .slice qb rprev.length qd] 26) = Y0 at *
    refine HLt.mono ?_
    rintro e y1 ⟨rfl, hb1⟩
    have HK1 := mkHid (HK0.out.on hb1)
    have HB1 := mkHid (HB0.out.trans (hb1.mono HB0.out.size))
    clear hb1 HLt HK0 HB0
    have c3 : y1.cell? ⟨w.heap.size, 3, none⟩ = some (.int .i64 rkind) := HK1.out.cell 3
    have c7 : y1.cell? ⟨w.heap.size, 7, none⟩ = some (.int .i64 rerr) := HK1.out.cell 7
    go_upto_region 3 with fail
    clear c3 c7
    go_wp2_with (first | (refine wpList_load_row rfl 26 _ rfl _ rfl _ _ _ _ HK1.out Try.underlying26 rfl (by kernel_rfl) ?_))
    refine (HSh2 y1 HB1.out).mono ?_
    rintro e y2 ⟨v2, rfl, ho2, hb2⟩
    have HK2 := mkHid (HK1.out.on hb2)
    have HB2 := mkHid (HB1.out.trans (hb2.mono HB1.out.size))
    obtain ⟨va, vc, rfl, hvb⟩ := ho2.isV
    have hRd2 := hRd y2 va vc hvb
    clear hb2 ho2 hvb HK1 HB1 HSh2 hRd
    go_wp2_with fail
    refine hRd2.mono ?_
    rintro e y3 ⟨⟨⟨pa, pc, pb, pd⟩, rfl, hr3⟩, hb3⟩
    have hbA : Below y3.heap.size y3 (y3.alloc (.cells #[.int .u64 (rseq : Int), .int .u64 (rclk : Int), .string rwho, .int .i64 rkind, .string rbkt, .string rkey, .int .u64 (rver : Int), .int .i64 rerr, .slice pa rsum.length pc, .slice pb rprev.length pd] 26)) := (Below.refl _ y3).alloc (Nat.le_refl _) _
    have HK3 := mkHid ((HK2.out.on hb3).on hbA)
    have HJ3 := mkHid (Blk.new y3 26 [.int .u64 (rseq : Int), .int .u64 (rclk : Int), .string rwho, .int .i64 rkind, .string rbkt, .string rkey, .int .u64 (rver : Int), .int .i64 rerr, .slice pa rsum.length pc, .slice pb rprev.length pd])
    have HR3 := mkHid (hr3.below hbA)
    have HB3 := mkHid ((HB2.out.trans (hb3.mono HB2.out.size)).trans (hbA.mono (HB2.out.trans (hb3.mono HB2.out.size)).size))
    clear hb3 hbA hr3 hRd2 HK2 HB2
    go_upto_region 4 with fail
    generalize y3.alloc (.cells #[.int .u64 (rseq : Int), .int .u64 (rclk : Int), .string rwho, .int .i64 rkind, .string rbkt, .string rkey, .int .u64 (rver : Int), .int .i64 rerr, .slice pa rsum.length pc, .slice pb rprev.length pd] 26) = Y3 at *
    generalize y3.heap.size = P3 at *
    go_wp2_with (first | (refine wpList_load_row rfl 26 _ rfl _ rfl _ _ _ _ HK3.out Try.underlying26 rfl (by kernel_rfl) ?_))
    refine (HRt Y3).mono ?_
    rintro e y4 ⟨rfl, hb4⟩
    have HK4 := mkHid (HK3.out.on hb4)
    have HJ4 := mkHid (HJ3.out.on hb4)
    have HR4 := mkHid (HR3.out.below hb4)
    have HB4 := mkHid (HB3.out.trans (hb4.mono HB3.out.size))
    clear hb4 HK3 HJ3 HR3 HB3 HRt
    have c0 : y4.cell? ⟨w.heap.size, 0, none⟩ = some (.int .u64 (rseq : Int)) := HK4.out.cell 0
    have c1 : y4.cell? ⟨w.heap.size, 1, none⟩ = some (.int .u64 (rclk : Int)) := HK4.out.cell 1
    have c2 : y4.cell? ⟨w.heap.size, 2, none⟩ = some (.string rwho) := HK4.out.cell 2
    have c3 : y4.cell? ⟨w.heap.size, 3, none⟩ = some (.int .i64 rkind) := HK4.out.cell 3
    have c4 : y4.cell? ⟨w.heap.size, 4, none⟩ = some (.string rbkt) := HK4.out.cell 4
    have c5 : y4.cell? ⟨w.heap.size, 5, none⟩ = some (.string rkey) := HK4.out.cell 5
    have c6 : y4.cell? ⟨w.heap.size, 6, none⟩ = some (.int .u64 (rver : Int)) := HK4.out.cell 6
    have c7 : y4.cell? ⟨w.heap.size, 7, none⟩ = some (.int .i64 rerr) := HK4.out.cell 7
    have c8 : y4.cell? ⟨w.heap.size, 8, none⟩ = some (.slice qa rsum.length qc) := HK4.out.cell 8
    have c9 : y4.cell? ⟨w.heap.size, 9, none⟩ = some (.slice qb rprev.length qd) := HK4.out.cell 9
    have d0 : y4.cell? ⟨P3, 0, none⟩ = some (.int .u64 (rseq : Int)) := HJ4.out.cell 0
    have d1 : y4.cell? ⟨P3, 1, none⟩ = some (.int .u64 (rclk : Int)) := HJ4.out.cell 1
    have d2 : y4.cell? ⟨P3, 2, none⟩ = some (.string rwho) := HJ4.out.cell 2
    have d3 : y4.cell? ⟨P3, 3, none⟩ = some (.int .i64 rkind) := HJ4.out.cell 3
    have d4 : y4.cell? ⟨P3, 4, none⟩ = some (.string rbkt) := HJ4.out.cell 4
    have d5 : y4.cell? ⟨P3, 5, none⟩ = some (.string rkey) := HJ4.out.cell 5
    have d6 : y4.cell? ⟨P3, 6, none⟩ = some (.int .u64 (rver : Int)) := HJ4.out.cell 6
    have d7 : y4.cell? ⟨P3, 7, none⟩ = some (.int .i64 rerr) := HJ4.out.cell 7
    have d8 : y4.cell? ⟨P3, 8, none⟩ = some (.slice pa rsum.length pc) := HJ4.out.cell 8
    have d9 : y4.cell? ⟨P3, 9, none⟩ = some (.slice pb rprev.length pd) := HJ4.out.cell 9
    go_wp2_with fail
    refine (HSm ⟨pa, pc, pb, pd⟩ y4 HB4.out HR4.out).mono ?_
    rintro e y9 ⟨rfl, hb9⟩
    have HB9 := mkHid (HB4.out.trans (hb9.mono HB4.out.size))
    clear hb9 HK4 HJ4 HR4 HB4 HSm c0 c1 c2 c3 c4 c5 c6 c7 c8 c9 d0 d1 d2 d3 d4 d5 d6 d7 d8 d9
    have hD := HD y9 HB9.out
    cases hrb : readRc b with
    | none =>
      have e1 : rdR14 b = rc0 := by unfold rdR14; rw [hrb]; rfl
      have e2 : rdE14 b = 4 := by unfold rdE14; rw [hrb]; rfl
      unfold RdP14 at hD
      rw [e1, e2] at hD
      clear e1 e2 hrb HD
      simp only [rcc, rc0] at hD
      go_wp2_with fail
      refine hD.mono ?_
      rintro e y5 ⟨⟨⟨ua, uc, ub, ud⟩, rfl, _⟩, hb5⟩
      have HB5 := mkHid (HB9.out.trans (hb5.mono HB9.out.size))
      clear hb5
      go_wp2_with fail
      have HB6 := mkHid (HB5.out.alloc HB5.out.size (.cells #[.int .u64 0, .int .u64 0, .string { data := #[] }, .int .i64 0, .string { data := #[] }, .string { data := #[] }, .int .u64 0, .int .i64 0, .slice ua 0 uc, .slice ub 0 ud] 26))
      generalize World.alloc _ _ = Y6 at *
      refine (lawAlive14 Y6).mono ?_
      rintro e l7 ⟨rfl, hl7⟩
      have HL7 := mkHid (HB6.out.trans (hl7.mono HB6.out.size))
      clear hl7
      go_wp2_with fail
      go_ret
      exact ⟨rfl, HL7.out⟩
    | some x =>
      obtain ⟨x1, x2, x3⟩ := show_read14 hrb
      have e1 : rdR14 b = x := by unfold rdR14; rw [hrb]; rfl
      have e2 : rdE14 b = 0 := by unfold rdE14; rw [hrb]; rfl
      unfold RdP14 at hD
      rw [e1, e2] at hD
      have hSh := fun p W hW => codShow14 x p W hW (right_len14 x3)
      rw [x1] at hSh
      clear e1 e2 hrb HD x1 x2 x3
      obtain ⟨xseq, xclk, xwho, xkind, xbkt, xkey, xver, xerr, xsum, xprev⟩ := x
      simp only [rcc] at hD hSh
      go_wp2_with fail
      refine hD.mono ?_
      rintro e y5 ⟨⟨⟨ua, uc, ub, ud⟩, rfl, hr5⟩, hb5⟩
      have hbA : Below y5.heap.size y5 (y5.alloc (.cells #[.int .u64 (xseq : Int), .int .u64 (xclk : Int), .string xwho, .int .i64 xkind, .string xbkt, .string xkey, .int .u64 (xver : Int), .int .i64 xerr, .slice ua xsum.length uc, .slice ub xprev.length ud] 26)) := (Below.refl _ y5).alloc (Nat.le_refl _) _
      have HK6 := mkHid (Blk.new y5 26 [.int .u64 (xseq : Int), .int .u64 (xclk : Int), .string xwho, .int .i64 xkind, .string xbkt, .string xkey, .int .u64 (xver : Int), .int .i64 xerr, .slice ua xsum.length uc, .slice ub xprev.length ud])
      have HR6 := mkHid (hr5.below hbA)
      have HB6 := mkHid ((HB9.out.trans (hb5.mono HB9.out.size)).trans (hbA.mono (HB9.out.trans (hb5.mono HB9.out.size)).size))
      clear hb5 hbA hr5 hD
      go_upto_region 7 with fail
      generalize y5.alloc (.cells #[.int .u64 (xseq : Int), .int .u64 (xclk : Int), .string xwho, .int .i64 xkind, .string xbkt, .string xkey, .int .u64 (xver : Int), .int .i64 xerr, .slice ua xsum.length uc, .slice ub xprev.length ud] 26) = Y6 at *
      generalize y5.heap.size = P6 at *
      have g0 : Y6.cell? ⟨P6, 0, none⟩ = some (.int .u64 (xseq : Int)) := HK6.out.cell 0
      have g1 : Y6.cell? ⟨P6, 1, none⟩ = some (.int .u64 (xclk : Int)) := HK6.out.cell 1
      have g2 : Y6.cell? ⟨P6, 2, none⟩ = some (.string xwho) := HK6.out.cell 2
      have g3 : Y6.cell? ⟨P6, 3, none⟩ = some (.int .i64 xkind) := HK6.out.cell 3
      have g4 : Y6.cell? ⟨P6, 4, none⟩ = some (.string xbkt) := HK6.out.cell 4
      have g5 : Y6.cell? ⟨P6, 5, none⟩ = some (.string xkey) := HK6.out.cell 5
      have g6 : Y6.cell? ⟨P6, 6, none⟩ = some (.int .u64 (xver : Int)) := HK6.out.cell 6
      have g7 : Y6.cell? ⟨P6, 7, none⟩ = some (.int .i64 xerr) := HK6.out.cell 7
      have g8 : Y6.cell? ⟨P6, 8, none⟩ = some (.slice ua xsum.length uc) := HK6.out.cell 8
      have g9 : Y6.cell? ⟨P6, 9, none⟩ = some (.slice ub xprev.length ud) := HK6.out.cell 9
      go_wp2_with fail
      refine (hSh _ Y6 HR6.out).mono ?_
      rintro e y7 ⟨v7, rfl, ho7, hb7⟩
      have HB7 := mkHid (HB6.out.trans (hb7.mono HB6.out.size))
      have HV7 := mkHid ho7.isV
      clear hb7 ho7 hSh HK6 HR6 HB6 g0 g1 g2 g3 g4 g5 g6 g7 g8 g9
      have hSm := refSameV v7 (.slice a len cap) b b y7 HV7.out (HI.out.below HB7.out rfl).isV
      rw [show eqB b b = true from by unfold eqB; simp] at hSm
      go_wp2_with fail
      refine hSm.mono ?_
      rintro e y8 ⟨rfl, nn, hy8⟩
      have HB8 : Hid (Below w.heap.size w y8) := by unfold Hid; rw [hy8]; exact bel_drewN HB7.out nn
      clear hy8 hSm HV7 HB7
      go_wp2_with fail
      refine (lawAlive14 y8).mono ?_
      rintro e l9 ⟨rfl, hl9⟩
      have HL9 := mkHid (HB8.out.trans (hl9.mono HB8.out.size))
      clear hl9
      go_wp2_with fail
      go_ret
      exact ⟨rfl, HL9.out⟩
  | false =>
    have e1 : rdR14 (showRc ⟨rseq, rclk, rwho, rkind, rbkt, rkey, rver, rerr, rsum, rprev⟩) = rc0 := by unfold rdR14; rw [HRS2.out, if_neg (by rw [hrt]; simp)]; rfl
    have e2 : rdE14 (showRc ⟨rseq, rclk, rwho, rkind, rbkt, rkey, rver, rerr, rsum, rprev⟩) = 4 := by unfold rdE14; simp [HRS2.out, hrt]
    unfold RdP14 at hRd
    rw [e1, e2] at hRd
    rw [hrt] at HRt
    simp only [rcc, rc0] at hRd
    clear e1 e2 hrt HRS2 HSn2 HSm
    generalize showRc ⟨rseq, rclk, rwho, rkind, rbkt, rkey, rver, rerr, rsum, rprev⟩ = SR at *
    go_enter Try.func8, Try.ntmps8
    go_wp2_with fail
    generalize (w.alloc (.cells #[.int .u64 (rseq : Int), .int .u64 (rclk : Int), .string rwho, .int .i64 rkind, .string rbkt, .string rkey, .int .u64 (rver : Int), .int .i64 rerr, .slice qa rsum.length qc, .slice qb rprev.length qd] 26)).alloc (.cells #[.int .u64 (rseq : Int), .int .u64 (rclk : Int), .string rwho, .int .i64 rkind, .string rbkt, .string rkey, .int .u64 (rver : Int), .int .i64 rerr, .slice qa rsum.length qc, .slice qb rprev.length qd] 26) = Y0 at *
    refine HLt.mono ?_
    rintro e y1 ⟨rfl, hb1⟩
    have HK1 := mkHid (HK0.out.on hb1)
    have HB1 := mkHid (HB0.out.trans (hb1.mono HB0.out.size))
    clear hb1 HLt HK0 HB0
    have c3 : y1.cell? ⟨w.heap.size, 3, none⟩ = some (.int .i64 rkind) := HK1.out.cell 3
    have c7 : y1.cell? ⟨w.heap.size, 7, none⟩ = some (.int .i64 rerr) := HK1.out.cell 7
    go_upto_region 3 with fail
    clear c3 c7
    go_wp2_with (first | (refine wpList_load_row rfl 26 _ rfl _ rfl _ _ _ _ HK1.out Try.underlying26 rfl (by kernel_rfl) ?_))
    refine (HSh2 y1 HB1.out).mono ?_
    rintro e y2 ⟨v2, rfl, ho2, hb2⟩
    have HK2 := mkHid (HK1.out.on hb2)
    have HB2 := mkHid (HB1.out.trans (hb2.mono HB1.out.size))
    obtain ⟨va, vc, rfl, hvb⟩ := ho2.isV
    have hRd2 := hRd y2 va vc hvb
    clear hb2 ho2 hvb HK1 HB1 HSh2 hRd
    go_wp2_with fail
    refine hRd2.mono ?_
    rintro e y3 ⟨⟨⟨ua, uc, ub, ud⟩, rfl, _⟩, hb3⟩
    have hbA : Below y3.heap.size y3 (y3.alloc (.cells #[.int .u64 0, .int .u64 0, .string { data := #[] }, .int .i64 0, .string { data := #[] }, .string { data := #[] }, .int .u64 0, .int .i64 0, .slice ua 0 uc, .slice ub 0 ud] 26)) := (Below.refl _ y3).alloc (Nat.le_refl _) _
    have HK3 := mkHid ((HK2.out.on hb3).on hbA)
    have HB3 := mkHid ((HB2.out.trans (hb3.mono HB2.out.size)).trans (hbA.mono (HB2.out.trans (hb3.mono HB2.out.size)).size))
    clear hb3 hbA hRd2 HK2 HB2
    go_upto_region 4 with fail
    generalize y3.alloc (.cells #[.int .u64 0, .int .u64 0, .string { data := #[] }, .int .i64 0, .string { data := #[] }, .string { data := #[] }, .int .u64 0, .int .i64 0, .slice ua 0 uc, .slice ub 0 ud] 26) = Y3 at *
    go_wp2_with (first | (refine wpList_load_row rfl 26 _ rfl _ rfl _ _ _ _ HK3.out Try.underlying26 rfl (by kernel_rfl) ?_))
    refine (HRt Y3).mono ?_
    rintro e y9 ⟨rfl, hb9⟩
    have HB9 := mkHid (HB3.out.trans (hb9.mono HB3.out.size))
    clear hb9 HK3 HB3 HRt
    have hD := HD y9 HB9.out
    cases hrb : readRc b with
    | none =>
      have e1 : rdR14 b = rc0 := by unfold rdR14; rw [hrb]; rfl
      have e2 : rdE14 b = 4 := by unfold rdE14; rw [hrb]; rfl
      unfold RdP14 at hD
      rw [e1, e2] at hD
      clear e1 e2 hrb HD
      simp only [rcc, rc0] at hD
      go_wp2_with fail
      refine hD.mono ?_
      rintro e y5 ⟨⟨⟨ua, uc, ub, ud⟩, rfl, _⟩, hb5⟩
      have HB5 := mkHid (HB9.out.trans (hb5.mono HB9.out.size))
      clear hb5
      go_wp2_with fail
      have HB6 := mkHid (HB5.out.alloc HB5.out.size (.cells #[.int .u64 0, .int .u64 0, .string { data := #[] }, .int .i64 0, .string { data := #[] }, .string { data := #[] }, .int .u64 0, .int .i64 0, .slice ua 0 uc, .slice ub 0 ud] 26))
      generalize World.alloc _ _ = Y6 at *
      refine (lawAlive14 Y6).mono ?_
      rintro e l7 ⟨rfl, hl7⟩
      have HL7 := mkHid (HB6.out.trans (hl7.mono HB6.out.size))
      clear hl7
      go_wp2_with fail
      go_ret
      exact ⟨rfl, HL7.out⟩
    | some x =>
      obtain ⟨x1, x2, x3⟩ := show_read14 hrb
      have e1 : rdR14 b = x := by unfold rdR14; rw [hrb]; rfl
      have e2 : rdE14 b = 0 := by unfold rdE14; rw [hrb]; rfl
      unfold RdP14 at hD
      rw [e1, e2] at hD
      have hSh := fun p W hW => codShow14 x p W hW (right_len14 x3)
      rw [x1] at hSh
      clear e1 e2 hrb HD x1 x2 x3
      obtain ⟨xseq, xclk, xwho, xkind, xbkt, xkey, xver, xerr, xsum, xprev⟩ := x
      simp only [rcc] at hD hSh
      go_wp2_with fail
      refine hD.mono ?_
      rintro e y5 ⟨⟨⟨ua, uc, ub, ud⟩, rfl, hr5⟩, hb5⟩
      have hbA : Below y5.heap.size y5 (y5.alloc (.cells #[.int .u64 (xseq : Int), .int .u64 (xclk : Int), .string xwho, .int .i64 xkind, .string xbkt, .string xkey, .int .u64 (xver : Int), .int .i64 xerr, .slice ua xsum.length uc, .slice ub xprev.length ud] 26)) := (Below.refl _ y5).alloc (Nat.le_refl _) _
      have HK6 := mkHid (Blk.new y5 26 [.int .u64 (xseq : Int), .int .u64 (xclk : Int), .string xwho, .int .i64 xkind, .string xbkt, .string xkey, .int .u64 (xver : Int), .int .i64 xerr, .slice ua xsum.length uc, .slice ub xprev.length ud])
      have HR6 := mkHid (hr5.below hbA)
      have HB6 := mkHid ((HB9.out.trans (hb5.mono HB9.out.size)).trans (hbA.mono (HB9.out.trans (hb5.mono HB9.out.size)).size))
      clear hb5 hbA hr5 hD
      go_upto_region 7 with fail
      generalize y5.alloc (.cells #[.int .u64 (xseq : Int), .int .u64 (xclk : Int), .string xwho, .int .i64 xkind, .string xbkt, .string xkey, .int .u64 (xver : Int), .int .i64 xerr, .slice ua xsum.length uc, .slice ub xprev.length ud] 26) = Y6 at *
      generalize y5.heap.size = P6 at *
      have g0 : Y6.cell? ⟨P6, 0, none⟩ = some (.int .u64 (xseq : Int)) := HK6.out.cell 0
      have g1 : Y6.cell? ⟨P6, 1, none⟩ = some (.int .u64 (xclk : Int)) := HK6.out.cell 1
      have g2 : Y6.cell? ⟨P6, 2, none⟩ = some (.string xwho) := HK6.out.cell 2
      have g3 : Y6.cell? ⟨P6, 3, none⟩ = some (.int .i64 xkind) := HK6.out.cell 3
      have g4 : Y6.cell? ⟨P6, 4, none⟩ = some (.string xbkt) := HK6.out.cell 4
      have g5 : Y6.cell? ⟨P6, 5, none⟩ = some (.string xkey) := HK6.out.cell 5
      have g6 : Y6.cell? ⟨P6, 6, none⟩ = some (.int .u64 (xver : Int)) := HK6.out.cell 6
      have g7 : Y6.cell? ⟨P6, 7, none⟩ = some (.int .i64 xerr) := HK6.out.cell 7
      have g8 : Y6.cell? ⟨P6, 8, none⟩ = some (.slice ua xsum.length uc) := HK6.out.cell 8
      have g9 : Y6.cell? ⟨P6, 9, none⟩ = some (.slice ub xprev.length ud) := HK6.out.cell 9
      go_wp2_with fail
      refine (hSh _ Y6 HR6.out).mono ?_
      rintro e y7 ⟨v7, rfl, ho7, hb7⟩
      have HB7 := mkHid (HB6.out.trans (hb7.mono HB6.out.size))
      have HV7 := mkHid ho7.isV
      clear hb7 ho7 hSh HK6 HR6 HB6 g0 g1 g2 g3 g4 g5 g6 g7 g8 g9
      have hSm := refSameV v7 (.slice a len cap) b b y7 HV7.out (HI.out.below HB7.out rfl).isV
      rw [show eqB b b = true from by unfold eqB; simp] at hSm
      go_wp2_with fail
      refine hSm.mono ?_
      rintro e y8 ⟨rfl, nn, hy8⟩
      have HB8 : Hid (Below w.heap.size w y8) := by unfold Hid; rw [hy8]; exact bel_drewN HB7.out nn
      clear hy8 hSm HV7 HB7
      go_wp2_with fail
      refine (lawAlive14 y8).mono ?_
      rintro e l9 ⟨rfl, hl9⟩
      have HL9 := mkHid (HB8.out.trans (hl9.mono HB8.out.size))
      clear hl9
      go_wp2_with fail
      go_ret
      exact ⟨rfl, HL9.out⟩
end Go.Proofs.Ytooffagdbppmaaa
