/- The statements' step: Arm, Crash, Read, Stable, and no call. -/
import Derived.Test.YtjmgodlefaadoaaDk10
namespace Go.Proofs.Ytjmgodlefaadoaa
open Go.RowKit

set_option maxRecDepth 20000 in
set_option maxHeartbeats 1000000 in
theorem step9_arm {X : Nat → Prop} {Is : World → Nat → Nat → Pl → Prop} (ok : DiskOK X Is) (o : Oq) (P D base k : Nat) (w : World) (h : Both9 Is P D base k w) (hk : k ≤ 100000) (hb : base ≤ w.heap.size) (ho : OkQ w base o) (hkind : o.kind = 4) :
    Calls Try.prog 10 #[.pointer (some ⟨P, 0, none⟩), .pointer (some ⟨D, 0, none⟩), .agg (oqc o).toArray] w fun e w' => e = .returned (.bool true) ∧ Both9 Is P D base (k + 1) w' ∧ Below base w w' := by
  obtain ⟨kind, at', n, by', odd, raw, ra, rc, keep, ka, kc⟩ := o
  change kind = 4 at hkind
  subst hkind
  have HB := mkHid (box_bel w ⟨4, at', n, by', odd, raw, ra, rc, keep, ka, kc⟩)
  have KB := Blk.new w 34 (oqc ⟨4, at', n, by', odd, raw, ra, rc, keep, ka, kc⟩)
  have HO := mkHid (ho.on (HB.out.mono hb))
  obtain ⟨r, vS, vC, hP, hD, hF⟩ := h
  have HF := mkHid (hF.few hk)
  have HR := mkHid hF
  have HP := mkHid (ok.keep hP (KeepT.of_below HB.out))
  have HD := mkHid (hD.on HB.out)
  have c0 : (w.alloc (.cells (oqc ⟨4, at', n, by', odd, raw, ra, rc, keep, ka, kc⟩).toArray 34)).cell? ⟨w.heap.size, 0, none⟩ = some (.int .i64 4) := KB.cell 0
  have c2 : (w.alloc (.cells (oqc ⟨4, at', n, by', odd, raw, ra, rc, keep, ka, kc⟩).toArray 34)).cell? ⟨w.heap.size, 2, none⟩ = some (.int .i64 n) := KB.cell 2
  have H1 := ok.arm _ P base _ n HP.out HF.out ho.n0 ho.n1
  have H2 := fun W (hW : IsRD W D base r vS vC) => refArm9 D base r vS vC n W hW ⟨HO.out.n0, HO.out.n1⟩
  have HR2 : Hid (FewR (armR r n) (k + 1)) := HR.out.arm n ho.n1
  have Hb := mkHid hb
  have KBo := mkHid KB
  clear hP hD hF hb ho KB
  simp only [oqc] at *
  go_enter Try.func10, Try.ntmps10
  go_wp2_with fail
  refine H1.mono ?_
  rintro e w1 ⟨⟨x, rfl⟩, hI1, hK1, hB1⟩
  have hD1 := HD.out.keepO hK1.o inU9a inU9b inU9c
  have d2 : w1.cell? ⟨w.heap.size, 2, none⟩ = some (.int .i64 n) := (hK1.o.blk KBo.out inU9d).cell 2
  go_wp2_with fail
  refine (H2 _ hD1).mono ?_
  rintro e w2 ⟨⟨x2, rfl⟩, hR2, hK2, hB2⟩
  have HI2 := mkHid (ok.keep hI1 hK2)
  rw [← pl_arm] at HI2
  go_wp2_with fail
  go_ret
  exact ⟨rfl, ⟨armR r n, vS, vC, HI2.out, hR2, HR2.out⟩, (((HB.out).mono Hb.out).trans hB1).trans hB2⟩

set_option maxRecDepth 20000 in
set_option maxHeartbeats 1000000 in
theorem step9_crash {X : Nat → Prop} {Is : World → Nat → Nat → Pl → Prop} (ok : DiskOK X Is) (o : Oq) (P D base k : Nat) (w : World) (h : Both9 Is P D base k w) (hk : k ≤ 100000) (hb : base ≤ w.heap.size) (ho : OkQ w base o) (hkind : o.kind = 5) :
    Calls Try.prog 10 #[.pointer (some ⟨P, 0, none⟩), .pointer (some ⟨D, 0, none⟩), .agg (oqc o).toArray] w fun e w' => e = .returned (.bool true) ∧ Both9 Is P D base (k + 1) w' ∧ Below base w w' := by
  obtain ⟨kind, at', n, by', odd, raw, ra, rc, keep, ka, kc⟩ := o
  change kind = 5 at hkind
  subst hkind
  have HB := mkHid (box_bel w ⟨5, at', n, by', odd, raw, ra, rc, keep, ka, kc⟩)
  have KB := Blk.new w 34 (oqc ⟨5, at', n, by', odd, raw, ra, rc, keep, ka, kc⟩)
  have HO := mkHid (ho.on (HB.out.mono hb))
  obtain ⟨r, vS, vC, hP, hD, hF⟩ := h
  have HF := mkHid (hF.few hk)
  have HR := mkHid hF
  have HP := mkHid (ok.keep hP (KeepT.of_below HB.out))
  have HD := mkHid (hD.on HB.out)
  have c0 : (w.alloc (.cells (oqc ⟨5, at', n, by', odd, raw, ra, rc, keep, ka, kc⟩).toArray 34)).cell? ⟨w.heap.size, 0, none⟩ = some (.int .i64 5) := KB.cell 0
  have c6 : (w.alloc (.cells (oqc ⟨5, at', n, by', odd, raw, ra, rc, keep, ka, kc⟩).toArray 34)).cell? ⟨w.heap.size, 6, none⟩ = some (.slice ka keep.length kc) := KB.cell 6
  have H1 := ok.crash _ P base _ ka kc keep HP.out HF.out ho.keepLen (fun W _ h => HO.out.keep W h)
  have H2 := fun W (hW : IsRD W D base r vS vC) (hbW : Below base (w.alloc (.cells (oqc ⟨5, at', n, by', odd, raw, ra, rc, keep, ka, kc⟩).toArray 34)) W) => refCrash9 D base r vS vC ka keep.length kc keep W hW (by have := HR.out.sc; omega) (fun W' _ h' => HO.out.keep W' (hbW.trans h')) HO.out.keepLen
  have Hb := mkHid hb
  have KBo := mkHid KB
  clear hP hD hF hb ho KB
  simp only [oqc] at *
  go_enter Try.func10, Try.ntmps10
  go_wp2_with fail
  refine H1.mono ?_
  rintro e w1 ⟨⟨x, rfl⟩, hI1, hK1, hB1⟩
  have hD1 := HD.out.keepO hK1.o inU9a inU9b inU9c
  have d6 : w1.cell? ⟨w.heap.size, 6, none⟩ = some (.slice ka keep.length kc) := (hK1.o.blk KBo.out inU9d).cell 6
  go_wp2_with fail
  refine (H2 _ hD1 hB1).mono ?_
  rintro e w2 ⟨⟨x2, rfl⟩, ⟨vS', vC', hR2⟩, hK2, hB2⟩
  have HI2 := mkHid (ok.keep hI1 hK2)
  rw [← pl_crash] at HI2
  go_wp2_with fail
  go_ret
  exact ⟨rfl, ⟨crashR r keep, vS', vC', HI2.out, hR2, HR.out.crash keep⟩, (((HB.out).mono Hb.out).trans hB1).trans hB2⟩

set_option maxRecDepth 20000 in
set_option maxHeartbeats 1000000 in
theorem step9_read {X : Nat → Prop} {Is : World → Nat → Nat → Pl → Prop} (ok : DiskOK X Is) (o : Oq) (P D base k : Nat) (w : World) (h : Both9 Is P D base k w) (hk : k ≤ 100000) (hb : base ≤ w.heap.size) (ho : OkQ w base o) (hkind : o.kind = 2) :
    Calls Try.prog 10 #[.pointer (some ⟨P, 0, none⟩), .pointer (some ⟨D, 0, none⟩), .agg (oqc o).toArray] w fun e w' => e = .returned (.bool true) ∧ Both9 Is P D base (k + 1) w' ∧ Below base w w' := by
  obtain ⟨kind, at', n, by', odd, raw, ra, rc, keep, ka, kc⟩ := o
  change kind = 2 at hkind
  subst hkind
  have HB := mkHid (box_bel w ⟨2, at', n, by', odd, raw, ra, rc, keep, ka, kc⟩)
  have KB := Blk.new w 34 (oqc ⟨2, at', n, by', odd, raw, ra, rc, keep, ka, kc⟩)
  have HO := mkHid (ho.on (HB.out.mono hb))
  obtain ⟨r, vS, vC, hP, hD, hF⟩ := h
  have HF := mkHid (hF.few hk)
  have HR := mkHid hF
  have HP := mkHid (ok.keep hP (KeepT.of_below HB.out))
  have HD := mkHid (hD.on HB.out)
  have c0 : (w.alloc (.cells (oqc ⟨2, at', n, by', odd, raw, ra, rc, keep, ka, kc⟩).toArray 34)).cell? ⟨w.heap.size, 0, none⟩ = some (.int .i64 2) := KB.cell 0
  have c1 : (w.alloc (.cells (oqc ⟨2, at', n, by', odd, raw, ra, rc, keep, ka, kc⟩).toArray 34)).cell? ⟨w.heap.size, 1, none⟩ = some (.int .i64 at') := KB.cell 1
  have H1 := ok.read _ P base _ at' HP.out HF.out ho.at0 ho.at1
  have H2 := fun W (hW : IsRD W D base r vS vC) => refRead9 D base r vS vC at' W hW ⟨by have := HR.out.sc; omega, by have := HR.out.sc; omega⟩
  simp only [pl_rdE, pl_rdB] at H2
  generalize (plOf r).rdE at' = q at *
  generalize (plOf r).rdB at' = bs at *
  have Hb := mkHid hb
  have KBo := mkHid KB
  clear hP hD hF hb ho KB
  simp only [oqc] at *
  go_enter Try.func10, Try.ntmps10
  go_wp2_with fail
  refine H1.mono ?_
  rintro e w1 ⟨⟨v, rfl, hv⟩, hI1, hK1, hB1⟩
  have hD1 := HD.out.keepO hK1.o inU9a inU9b inU9c
  have d1 : w1.cell? ⟨w.heap.size, 1, none⟩ = some (.int .i64 at') := (hK1.o.blk KBo.out inU9d).cell 1
  go_wp2_with fail
  refine (H2 _ hD1).mono ?_
  rintro e w2 ⟨v2, rfl, hv2, hB2⟩
  obtain ⟨a1, c1', rfl, hI⟩ := hv
  obtain ⟨a2, c2', rfl, hI'⟩ := hv2.isB
  have hIw := hI.below hB2 rfl
  have HI2 := mkHid (ok.keep hI1 (KeepT.of_below hB2))
  have HD2 := mkHid (hD1.on hB2)
  have HB2 := mkHid ((((HB.out).mono Hb.out).trans hB1).trans (hB2.mono (Nat.le_trans (Nat.le_trans Hb.out (HB.out).size) hB1.size)))
  go_wp2_with fail
  refine (refSame _ _ _ bs _ _ _ bs _ hIw hI').mono ?_
  rintro e w3 ⟨rfl, nd, rfl⟩
  rw [eqB_self]
  go_wp2_with fail
  go_ret
  exact ⟨rfl, ⟨r, vS, vC, ok.keep HI2.out ((KeepT.refl _ w2).drewN nd), HD2.out.on (bel_drewN (Below.refl _ w2) nd), HR.out.more⟩, HB2.out.trans (bel_drewN (Below.refl _ w2) nd)⟩

set_option maxRecDepth 20000 in
set_option maxHeartbeats 1000000 in
theorem step9_stable {X : Nat → Prop} {Is : World → Nat → Nat → Pl → Prop} (ok : DiskOK X Is) (o : Oq) (P D base k : Nat) (w : World) (h : Both9 Is P D base k w) (hk : k ≤ 100000) (hb : base ≤ w.heap.size) (ho : OkQ w base o) (hkind : o.kind = 6) :
    Calls Try.prog 10 #[.pointer (some ⟨P, 0, none⟩), .pointer (some ⟨D, 0, none⟩), .agg (oqc o).toArray] w fun e w' => e = .returned (.bool true) ∧ Both9 Is P D base (k + 1) w' ∧ Below base w w' := by
  obtain ⟨kind, at', n, by', odd, raw, ra, rc, keep, ka, kc⟩ := o
  change kind = 6 at hkind
  subst hkind
  have HB := mkHid (box_bel w ⟨6, at', n, by', odd, raw, ra, rc, keep, ka, kc⟩)
  have KB := Blk.new w 34 (oqc ⟨6, at', n, by', odd, raw, ra, rc, keep, ka, kc⟩)
  have HO := mkHid (ho.on (HB.out.mono hb))
  obtain ⟨r, vS, vC, hP, hD, hF⟩ := h
  have HF := mkHid (hF.few hk)
  have HR := mkHid hF
  have HP := mkHid (ok.keep hP (KeepT.of_below HB.out))
  have HD := mkHid (hD.on HB.out)
  have c0 : (w.alloc (.cells (oqc ⟨6, at', n, by', odd, raw, ra, rc, keep, ka, kc⟩).toArray 34)).cell? ⟨w.heap.size, 0, none⟩ = some (.int .i64 6) := KB.cell 0
  have c1 : (w.alloc (.cells (oqc ⟨6, at', n, by', odd, raw, ra, rc, keep, ka, kc⟩).toArray 34)).cell? ⟨w.heap.size, 1, none⟩ = some (.int .i64 at') := KB.cell 1
  have H1 := ok.stable _ P base _ at' HP.out HF.out ho.at0 ho.at1
  have H2 := fun W (hW : IsRD W D base r vS vC) => refStable9 D base r vS vC at' W hW ⟨by have := HR.out.sc; omega, by have := HR.out.sc; omega⟩
  simp only [pl_stE, pl_stB] at H2
  generalize (plOf r).stE at' = q at *
  generalize (plOf r).stB at' = bs at *
  have Hb := mkHid hb
  have KBo := mkHid KB
  clear hP hD hF hb ho KB
  simp only [oqc] at *
  go_enter Try.func10, Try.ntmps10
  go_wp2_with fail
  refine H1.mono ?_
  rintro e w1 ⟨⟨v, rfl, hv⟩, hI1, hK1, hB1⟩
  have hD1 := HD.out.keepO hK1.o inU9a inU9b inU9c
  have d1 : w1.cell? ⟨w.heap.size, 1, none⟩ = some (.int .i64 at') := (hK1.o.blk KBo.out inU9d).cell 1
  go_wp2_with fail
  refine (H2 _ hD1).mono ?_
  rintro e w2 ⟨v2, rfl, hv2, hB2⟩
  obtain ⟨a1, c1', rfl, hI⟩ := hv
  obtain ⟨a2, c2', rfl, hI'⟩ := hv2.isB
  have hIw := hI.below hB2 rfl
  have HI2 := mkHid (ok.keep hI1 (KeepT.of_below hB2))
  have HD2 := mkHid (hD1.on hB2)
  have HB2 := mkHid ((((HB.out).mono Hb.out).trans hB1).trans (hB2.mono (Nat.le_trans (Nat.le_trans Hb.out (HB.out).size) hB1.size)))
  go_wp2_with fail
  refine (refSame _ _ _ bs _ _ _ bs _ hIw hI').mono ?_
  rintro e w3 ⟨rfl, nd, rfl⟩
  rw [eqB_self]
  go_wp2_with fail
  go_ret
  exact ⟨rfl, ⟨r, vS, vC, ok.keep HI2.out ((KeepT.refl _ w2).drewN nd), HD2.out.on (bel_drewN (Below.refl _ w2) nd), HR.out.more⟩, HB2.out.trans (bel_drewN (Below.refl _ w2) nd)⟩

set_option maxRecDepth 20000 in
set_option maxHeartbeats 1000000 in
theorem step9_none {X : Nat → Prop} {Is : World → Nat → Nat → Pl → Prop} (ok : DiskOK X Is) (o : Oq) (P D base k : Nat) (w : World) (h : Both9 Is P D base k w) (hk : k ≤ 100000) (hb : base ≤ w.heap.size) (ho : OkQ w base o) (hkind : o.kind ≠ 1 ∧ o.kind ≠ 2 ∧ o.kind ≠ 3 ∧ o.kind ≠ 4 ∧ o.kind ≠ 5 ∧ o.kind ≠ 6) :
    Calls Try.prog 10 #[.pointer (some ⟨P, 0, none⟩), .pointer (some ⟨D, 0, none⟩), .agg (oqc o).toArray] w fun e w' => e = .returned (.bool true) ∧ Both9 Is P D base (k + 1) w' ∧ Below base w w' := by
  obtain ⟨kind, at', n, by', odd, raw, ra, rc, keep, ka, kc⟩ := o
  change kind ≠ 1 ∧ kind ≠ 2 ∧ kind ≠ 3 ∧ kind ≠ 4 ∧ kind ≠ 5 ∧ kind ≠ 6 at hkind
  obtain ⟨n1, n2, n3, n4, n5, n6⟩ := hkind
  have HB := mkHid (box_bel w ⟨kind, at', n, by', odd, raw, ra, rc, keep, ka, kc⟩)
  have KB := Blk.new w 34 (oqc ⟨kind, at', n, by', odd, raw, ra, rc, keep, ka, kc⟩)
  have HO := mkHid (ho.on (HB.out.mono hb))
  obtain ⟨r, vS, vC, hP, hD, hF⟩ := h
  have HF := mkHid (hF.few hk)
  have HR := mkHid hF
  have HP := mkHid (ok.keep hP (KeepT.of_below HB.out))
  have HD := mkHid (hD.on HB.out)
  have c0 : (w.alloc (.cells (oqc ⟨kind, at', n, by', odd, raw, ra, rc, keep, ka, kc⟩).toArray 34)).cell? ⟨w.heap.size, 0, none⟩ = some (.int .i64 kind) := KB.cell 0
  have Hb := mkHid hb
  have KBo := mkHid KB
  clear hP hD hF hb ho KB
  simp only [oqc] at *
  go_enter Try.func10, Try.ntmps10
  go_wp2_with fail
  go_ret
  exact ⟨rfl, ⟨r, vS, vC, HP.out, HD.out, HR.out.more⟩, (HB.out).mono Hb.out⟩
end Go.Proofs.Ytjmgodlefaadoaa
