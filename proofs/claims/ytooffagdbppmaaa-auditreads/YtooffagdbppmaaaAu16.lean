/- AuditReads: the walk. -/
import Derived.Test.YtooffagdbppmaaaC0
import Derived.Test.YtooffagdbppmaaaAu15
namespace Go.Proofs.Ytooffagdbppmaaa
open Go.RowKit

theorem same_self14 (r : Rc) : sameRc r r = true := (sameRc_iff r r).2 rfl
attribute [local go_sem] undef
set_option maxRecDepth 20000 in
set_option maxHeartbeats 2000000 in
theorem reads14 (a : Option Addr) (len cap : Nat) (b : List UInt8) (w : World) (h : IsB w a len cap b) (hl : len ≤ 140737488351232) :
    Calls Try.prog 4 #[.slice a len cap] w fun e w' => e = .returned (.bool true) ∧ Below w.heap.size w w' := by
  have HI := mkHid h
  clear h
  by_cases hbig : 10000 < len
  · have hbig' : (10000 : Int) < (len : Int) := by omega
    go_enter Try.func4, Try.ntmps4
    go_wp2_with fail
    refine (lawAlive14 w).mono ?_
    rintro e y1 ⟨rfl, hb1⟩
    have HB1 := mkHid hb1
    clear hb1
    go_wp2_with fail
    go_ret
    exact ⟨rfl, HB1.out⟩
  · have hbig' : ¬ (10000 : Int) < (len : Int) := by omega
    have HC := codRead14 a len cap b w HI.out (by omega)
    have HD := fun W (hW : Below w.heap.size w W) => refRead14 a len cap b W (HI.out.below hW rfl) (by omega)
    unfold RdP14 at HC HD
    clear HI hbig hl
    generalize rdE14 b = E at *
    generalize rdR14 b = x at *
    have HS := fun q p W => refSame14 x x q p W
    rw [same_self14] at HS
    obtain ⟨xseq, xclk, xwho, xkind, xbkt, xkey, xver, xerr, xsum, xprev⟩ := x
    simp only [rcc] at HC HD HS
    go_enter Try.func4, Try.ntmps4
    go_wp2_with fail
    refine HC.mono ?_
    rintro e y1 ⟨⟨⟨pa, pc, pb, pd⟩, rfl, hr1⟩, hb1⟩
    have hbA : Below y1.heap.size y1 (y1.alloc (.cells #[.int .u64 (xseq : Int), .int .u64 (xclk : Int), .string xwho, .int .i64 xkind, .string xbkt, .string xkey, .int .u64 (xver : Int), .int .i64 xerr, .slice pa xsum.length pc, .slice pb xprev.length pd] 26)) := (Below.refl _ y1).alloc (Nat.le_refl _) _
    have HKA := mkHid (Blk.new y1 26 [.int .u64 (xseq : Int), .int .u64 (xclk : Int), .string xwho, .int .i64 xkind, .string xbkt, .string xkey, .int .u64 (xver : Int), .int .i64 xerr, .slice pa xsum.length pc, .slice pb xprev.length pd])
    have HR1 := mkHid (hr1.below hbA)
    have HB1 := mkHid (hb1.trans (hbA.mono hb1.size))
    clear hbA hr1 hb1 HC
    go_wp2_with fail
    generalize y1.alloc (.cells #[.int .u64 (xseq : Int), .int .u64 (xclk : Int), .string xwho, .int .i64 xkind, .string xbkt, .string xkey, .int .u64 (xver : Int), .int .i64 xerr, .slice pa xsum.length pc, .slice pb xprev.length pd] 26) = Y1 at *
    generalize y1.heap.size = P at *
    refine (HD Y1 HB1.out).mono ?_
    rintro e y2 ⟨⟨⟨qa, qc, qb, qd⟩, rfl, hr2⟩, hb2⟩
    have hbA : Below y2.heap.size y2 (y2.alloc (.cells #[.int .u64 (xseq : Int), .int .u64 (xclk : Int), .string xwho, .int .i64 xkind, .string xbkt, .string xkey, .int .u64 (xver : Int), .int .i64 xerr, .slice qa xsum.length qc, .slice qb xprev.length qd] 26)) := (Below.refl _ y2).alloc (Nat.le_refl _) _
    have HK2 := mkHid ((HKA.out.on hb2).on hbA)
    have HK3 := mkHid (Blk.new y2 26 [.int .u64 (xseq : Int), .int .u64 (xclk : Int), .string xwho, .int .i64 xkind, .string xbkt, .string xkey, .int .u64 (xver : Int), .int .i64 xerr, .slice qa xsum.length qc, .slice qb xprev.length qd])
    have HR2 := mkHid ((HR1.out.below hb2).below hbA)
    have HR3 := mkHid (hr2.below hbA)
    have HB2 := mkHid ((HB1.out.trans (hb2.mono HB1.out.size)).trans (hbA.mono (HB1.out.trans (hb2.mono HB1.out.size)).size))
    clear hbA hr2 hb2 HD HKA HR1 HB1
    go_upto_region 5 with fail
    generalize y2.alloc (.cells #[.int .u64 (xseq : Int), .int .u64 (xclk : Int), .string xwho, .int .i64 xkind, .string xbkt, .string xkey, .int .u64 (xver : Int), .int .i64 xerr, .slice qa xsum.length qc, .slice qb xprev.length qd] 26) = Y2 at *
    generalize y2.heap.size = P2 at *
    have c0 : Y2.cell? ⟨P, 0, none⟩ = some (.int .u64 (xseq : Int)) := HK2.out.cell 0
    have c1 : Y2.cell? ⟨P, 1, none⟩ = some (.int .u64 (xclk : Int)) := HK2.out.cell 1
    have c2 : Y2.cell? ⟨P, 2, none⟩ = some (.string xwho) := HK2.out.cell 2
    have c3 : Y2.cell? ⟨P, 3, none⟩ = some (.int .i64 xkind) := HK2.out.cell 3
    have c4 : Y2.cell? ⟨P, 4, none⟩ = some (.string xbkt) := HK2.out.cell 4
    have c5 : Y2.cell? ⟨P, 5, none⟩ = some (.string xkey) := HK2.out.cell 5
    have c6 : Y2.cell? ⟨P, 6, none⟩ = some (.int .u64 (xver : Int)) := HK2.out.cell 6
    have c7 : Y2.cell? ⟨P, 7, none⟩ = some (.int .i64 xerr) := HK2.out.cell 7
    have c8 : Y2.cell? ⟨P, 8, none⟩ = some (.slice pa xsum.length pc) := HK2.out.cell 8
    have c9 : Y2.cell? ⟨P, 9, none⟩ = some (.slice pb xprev.length pd) := HK2.out.cell 9
    have d0 : Y2.cell? ⟨P2, 0, none⟩ = some (.int .u64 (xseq : Int)) := HK3.out.cell 0
    have d1 : Y2.cell? ⟨P2, 1, none⟩ = some (.int .u64 (xclk : Int)) := HK3.out.cell 1
    have d2 : Y2.cell? ⟨P2, 2, none⟩ = some (.string xwho) := HK3.out.cell 2
    have d3 : Y2.cell? ⟨P2, 3, none⟩ = some (.int .i64 xkind) := HK3.out.cell 3
    have d4 : Y2.cell? ⟨P2, 4, none⟩ = some (.string xbkt) := HK3.out.cell 4
    have d5 : Y2.cell? ⟨P2, 5, none⟩ = some (.string xkey) := HK3.out.cell 5
    have d6 : Y2.cell? ⟨P2, 6, none⟩ = some (.int .u64 (xver : Int)) := HK3.out.cell 6
    have d7 : Y2.cell? ⟨P2, 7, none⟩ = some (.int .i64 xerr) := HK3.out.cell 7
    have d8 : Y2.cell? ⟨P2, 8, none⟩ = some (.slice qa xsum.length qc) := HK3.out.cell 8
    have d9 : Y2.cell? ⟨P2, 9, none⟩ = some (.slice qb xprev.length qd) := HK3.out.cell 9
    go_wp2_with fail
    refine (HS ⟨pa, pc, pb, pd⟩ ⟨qa, qc, qb, qd⟩ Y2 HR2.out HR3.out).mono ?_
    rintro e y3 ⟨rfl, hb3⟩
    have HB3 := mkHid (HB2.out.trans (hb3.mono HB2.out.size))
    clear hb3 HS HK2 HK3 HR2 HR3 HB2 c0 c1 c2 c3 c4 c5 c6 c7 c8 c9 d0 d1 d2 d3 d4 d5 d6 d7 d8 d9
    go_wp2_with fail
    refine (lawAlive14 y3).mono ?_
    rintro e y4 ⟨rfl, hb4⟩
    have HB4 := mkHid (HB3.out.trans (hb4.mono HB3.out.size))
    clear hb4 HB3
    go_wp2_with fail
    go_ret
    exact ⟨rfl, HB4.out⟩
end Go.Proofs.Ytooffagdbppmaaa
