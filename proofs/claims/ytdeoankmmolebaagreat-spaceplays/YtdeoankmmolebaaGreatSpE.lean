/- One call of both: Commit. -/
import Derived.Test.YtdeoankmmolebaaGreatB45
namespace Go.Proofs.YtdeoankmmolebaaGreat
open Go.RowKit

set_option maxRecDepth 20000 in
set_option maxHeartbeats 4000000 in
theorem step11_commit {JA : World → Nat → Nat → Nat → Jl → Prop} {TA SA : World → Nat → Nat → Nat → Nat → Tl → Jl → Prop} (ok : JrnOK JA TA) (so : SpcOK JA SA) (o : Sq) (S R U J K P D base m : Nat) (t : Tl) (j : Jl) (w : World) (h : Both11 SA w S R U J K P D base m t j) (hkind : o.kind = 5) :
    Calls Tryz.prog 18 #[.pointer (some ⟨S, 0, none⟩), .pointer (some ⟨R, 0, none⟩), .agg (sqc o).toArray] w fun e w' => e = .returned (.bool true) ∧ Hid (JA w' J P base (cmJ t j)) ∧ Hid (RefS w' R U K D base (m + 150) (cmT t j) (cmJ t j)) ∧ Hid (KQ base w w') := by
  obtain ⟨kind, at', by'⟩ := o
  change kind = 5 at hkind
  subst hkind
  have HB := mkHid (box11 w ⟨5, at', by'⟩)
  have h1 := h.on so HB.out
  have HF := mkHid h.fit
  have H1 := so.commit _ S J P base m t j h1.sa h.fit
  have HR := mkHid h1.rs
  have H2 := fun W (hW : RefS W R U K D base m t j) => refSCommit11 hW HF.out.m
  have HK0 := mkHid (KQ.of_below HB.out h.rs.lo)
  generalize cmE t j = E at *
  generalize cmT t j = T1 at *
  generalize cmJ t j = J1 at *
  have c0 : (w.alloc (.cells (sqc ⟨5, at', by'⟩).toArray 47)).cell? ⟨w.heap.size, 0, none⟩ = some (.int .i64 5) := (Blk.new w _ (sqc _)).cell 0
  clear h h1
  simp only [sqc] at *
  go_enter Tryz.func18, Tryz.ntmps18
  go_wp2_with fail
  refine H1.mono ?_
  rintro e w1 ⟨rfl, hS1, hK1⟩
  have HR1 := mkHid (HR.out.keepS hK1)
  have HK1 := mkHid (HK0.out.trans (KQ.ofS hK1))
  have HS1 := mkHid hS1
  clear hS1 hK1 H1
  go_wp2_with fail
  refine (H2 _ HR1.out).mono ?_
  rintro e w2 ⟨rfl, hR2, hK2⟩
  have HS2 := mkHid (ok.keepJ HS1.out hK2.out.t)
  have HK2 := mkHid (HK1.out.trans (KQ.ofK hK2.out))
  clear H2
  go_wp2_with fail
  go_ret
  exact ⟨rfl, HS2, hR2, HK2⟩
set_option maxRecDepth 20000 in
set_option maxHeartbeats 4000000 in
theorem step11_none {JA : World → Nat → Nat → Nat → Jl → Prop} {SA : World → Nat → Nat → Nat → Nat → Tl → Jl → Prop} (so : SpcOK JA SA) (o : Sq) (S R U J K P D base m : Nat) (t : Tl) (j : Jl) (w : World) (h : Both11 SA w S R U J K P D base m t j) (h1 : o.kind ≠ 1) (h2 : o.kind ≠ 2) (h3 : o.kind ≠ 3) (h4 : o.kind ≠ 4) (h5 : o.kind ≠ 5) :
    Calls Tryz.prog 18 #[.pointer (some ⟨S, 0, none⟩), .pointer (some ⟨R, 0, none⟩), .agg (sqc o).toArray] w fun e w' => e = .returned (.bool true) ∧ Hid (Both11 SA w' S R U J K P D base m t j) ∧ Hid (KQ base w w') := by
  obtain ⟨kind, at', by'⟩ := o
  change kind ≠ 1 at h1
  change kind ≠ 2 at h2
  change kind ≠ 3 at h3
  change kind ≠ 4 at h4
  change kind ≠ 5 at h5
  have HB := mkHid (box11 w ⟨kind, at', by'⟩)
  have HH := mkHid (h.on so HB.out)
  have HK0 := mkHid (KQ.of_below HB.out h.rs.lo)
  have c0 : (w.alloc (.cells (sqc ⟨kind, at', by'⟩).toArray 47)).cell? ⟨w.heap.size, 0, none⟩ = some (.int .i64 kind) := (Blk.new w _ (sqc _)).cell 0
  clear h
  simp only [sqc] at *
  go_enter Tryz.func18, Tryz.ntmps18
  go_wp2_with fail
  go_ret
  exact ⟨rfl, HH, HK0⟩
end Go.Proofs.YtdeoankmmolebaaGreat
