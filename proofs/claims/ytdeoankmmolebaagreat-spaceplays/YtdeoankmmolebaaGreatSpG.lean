/- One call of both: Read. -/
import Derived.Test.YtdeoankmmolebaaGreatB45
namespace Go.Proofs.YtdeoankmmolebaaGreat
open Go.RowKit

set_option maxRecDepth 20000 in
set_option maxHeartbeats 4000000 in
theorem step11_read {JA : World → Nat → Nat → Nat → Jl → Prop} {SA : World → Nat → Nat → Nat → Nat → Tl → Jl → Prop} (so : SpcOK JA SA) (o : Sq) (S R U J K P D base m : Nat) (t : Tl) (j : Jl) (w : World) (h : Both11 SA w S R U J K P D base m t j) (hkind : o.kind = 4) (h0 : -9223372036854775808 ≤ o.at_) (h1 : o.at_ ≤ 9223372036854775807) :
    Calls Tryz.prog 18 #[.pointer (some ⟨S, 0, none⟩), .pointer (some ⟨R, 0, none⟩), .agg (sqc o).toArray] w fun e w' => e = .returned (.bool true) ∧ Hid (Both11 SA w' S R U J K P D base m t j) ∧ Hid (KQ base w w') := by
  obtain ⟨kind, at', by'⟩ := o
  change kind = 4 at hkind
  change -9223372036854775808 ≤ at' at h0
  change at' ≤ 9223372036854775807 at h1
  subst hkind
  have HB := mkHid (box11 w ⟨4, at', by'⟩)
  have hh := h.on so HB.out
  have HF := mkHid h.fit
  have H1 := so.read _ S J P base m t j at' hh.sa h.fit h0 h1
  have HR := mkHid hh.rs
  have H2 := fun W (hW : RefS W R U K D base m t j) => refSRead11 hW (Nat.le_trans HF.out.m (by omega)) at'
  have HK0 := mkHid (KQ.of_below HB.out h.rs.lo)
  have HLo : Hid (base ≤ w.heap.size) := h.rs.lo
  generalize spRdE t j at' = E at *
  generalize spRdB t j at' = X at *
  have kb := Blk.new w 47 (sqc ⟨4, at', by'⟩)
  have HKb := mkHid kb
  have c0 : (w.alloc (.cells (sqc ⟨4, at', by'⟩).toArray 47)).cell? ⟨w.heap.size, 0, none⟩ = some (.int .i64 4) := kb.cell 0
  have c1 : (w.alloc (.cells (sqc ⟨4, at', by'⟩).toArray 47)).cell? ⟨w.heap.size, 1, none⟩ = some (.int .i64 at') := kb.cell 1
  clear h hh kb
  simp only [sqc] at *
  go_enter Tryz.func18, Tryz.ntmps18
  go_wp2_with fail
  refine H1.mono ?_
  rintro e w1 ⟨⟨v1, rfl, hV1⟩, hS1, hK1⟩
  have HR1 := mkHid (HR.out.keepS hK1)
  have HK1 := mkHid (HK0.out.trans (KQ.ofS hK1))
  have d1 : w1.cell? ⟨w.heap.size, 1, none⟩ = some (.int .i64 at') := (hK1.o.blk HKb.out (by decide)).cell 1
  have HS1 := mkHid hS1
  have HV1 := mkHid hV1
  clear hS1 hK1 H1 hV1 c0 c1
  go_wp2_with fail
  refine (H2 _ HR1.out).mono ?_
  rintro e w2 ⟨v2, rfl, hO2, hb2⟩
  have HS2 := mkHid (so.keep HS1.out (KeepT.of_below hb2))
  have HR2 := mkHid (HR1.out.on hb2)
  have HK2 := mkHid (HK1.out.trans (KQ.of_below hb2 HR1.out.lo))
  obtain ⟨a1, n1, hv1, hI1⟩ := HV1.out
  subst hv1
  have HSm := sameV (hI1.below hb2 rfl).isV hO2.isV
  rw [eqB_self] at HSm
  clear H2
  go_wp2_with fail
  refine HSm.mono ?_
  rintro e w3 ⟨rfl, hb3⟩
  have HK3 := mkHid (HK2.out.trans (KQ.of_below hb3 HR2.out.lo))
  have HB3 := mkHid (Both11.on so (w := w2) (w' := w3) ⟨HS2.out, HR2.out, HF.out⟩ hb3)
  clear HSm
  go_wp2_with fail
  go_ret
  exact ⟨rfl, HB3, HK3⟩
end Go.Proofs.YtdeoankmmolebaaGreat
