/- One call of both: Write. -/
import Derived.Test.YtdeoankmmolebaaGreatB45
namespace Go.Proofs.YtdeoankmmolebaaGreat
open Go.RowKit

set_option maxRecDepth 20000 in
set_option maxHeartbeats 4000000 in
theorem step11_write {JA : World → Nat → Nat → Nat → Jl → Prop} {SA : World → Nat → Nat → Nat → Nat → Tl → Jl → Prop} (so : SpcOK JA SA) (o : Sq) (S R U J K P D base m : Nat) (t : Tl) (j : Jl) (w : World) (h : Both11 SA w S R U J K P D base m t j) (hkind : o.kind = 3) (h0 : -9223372036854775808 ≤ o.at_) (h1 : o.at_ ≤ 9223372036854775807) :
    Calls Tryz.prog 18 #[.pointer (some ⟨S, 0, none⟩), .pointer (some ⟨R, 0, none⟩), .agg (sqc o).toArray] w fun e w' => e = .returned (.bool true) ∧ Hid (Both11 SA w' S R U J K P D base m (spWr t j o.at_ (secL o.by_ 1)) j) ∧ Hid (KQ base w w') := by
  obtain ⟨kind, at', by'⟩ := o
  change kind = 3 at hkind
  change -9223372036854775808 ≤ at' at h0
  change at' ≤ 9223372036854775807 at h1
  subst hkind
  have HB := mkHid (box11 w ⟨3, at', by'⟩)
  have hh := h.on so HB.out
  have kb := Blk.new w 47 (sqc ⟨3, at', by'⟩)
  have HKb := mkHid kb
  have c0 : (w.alloc (.cells (sqc ⟨3, at', by'⟩).toArray 47)).cell? ⟨w.heap.size, 0, none⟩ = some (.int .i64 3) := kb.cell 0
  have c1 : (w.alloc (.cells (sqc ⟨3, at', by'⟩).toArray 47)).cell? ⟨w.heap.size, 1, none⟩ = some (.int .i64 at') := kb.cell 1
  have c2 : (w.alloc (.cells (sqc ⟨3, at', by'⟩).toArray 47)).cell? ⟨w.heap.size, 2, none⟩ = some (.int .u8 (by'.toNat : Int)) := kb.cell 2
  have HF := mkHid h.fit
  have HR := mkHid hh.rs
  have HS := mkHid hh.sa
  have HK0 := mkHid (KQ.of_below HB.out h.rs.lo)
  have HLY : Hid (base ≤ (w.alloc (.cells (sqc ⟨3, at', by'⟩).toArray 47)).heap.size) := Nat.le_trans h.rs.lo HB.out.size
  have HSec : ∀ W, Calls Tryz.prog 50 #[.int .u8 (by'.toNat : Int), .int .u8 1] W fun e w' => ∃ v, e = .returned v ∧ Hid (OwnB w' W.heap.size v (secL by' 1)) ∧ Hid (Below W.heap.size W w') := fun W => lawSector9 by' 1 W
  have HWr : ∀ W v W0, Hid (SA W S J P base t j) → Hid (OwnB W W0 v (secL by' 1)) → Calls Tryz.prog 31 #[.pointer (some ⟨S, 0, none⟩), .int .i64 at', v] W fun e w' => e = .returned (.int .i64 (spWrE t j at' (secL by' 1))) ∧ Hid (SA w' S J P base (spWr t j at' (secL by' 1)) j) ∧ Hid (KS base W w') := fun W v W0 h3 h4 => by
    obtain ⟨va, vc, rfl, _⟩ := h4.out.isB
    refine so.write W S J P base m t j at' va vc (secL by' 1) h3.out HF.out h0 h1 (by rw [secL_len]; omega) (fun W2 hK _ => ?_)
    obtain ⟨a2, c2, e2, h2⟩ := (show OwnB W2 _ _ _ from own_keepO hK h4.out (by decide)).isB
    injection e2 with i1 i2 i3
    subst i1 i3
    exact h2
  have HT := mkHid (h.fit.spWr at' (secL by' 1))
  show Calls _ _ _ _ fun e w' => e = .returned (.bool true) ∧ Hid (Both11 SA w' S R U J K P D base m (spWr t j at' (secL by' 1)) j) ∧ Hid (KQ base w w')
  have HRW := fun (W : World) (v : Value) (W0 : Nat) (hW : Hid (RefS W R U K D base m t j)) (hv : Hid (OwnB W W0 v (secL by' 1))) => refSWrite11 hW.out at' hv.out
  generalize spWrE t j at' (secL by' 1) = E at *
  generalize spWr t j at' (secL by' 1) = T1 at *
  clear h hh kb
  simp only [sqc] at *
  go_enter Tryz.func18, Tryz.ntmps18
  go_upto_region 9 with fail
  generalize w.alloc (.cells #[.int .i64 3, .int .i64 at', .int .u8 (by'.toNat : Int)] 47) = Y at *
  refine wp_region_noPanic ?_
  refine wp_region_held_drew (S := fun w' => w'.cell? ⟨w.heap.size, 1, none⟩ = some (.int .i64 at') ∧ w'.cell? ⟨w.heap.size, 2, none⟩ = some (.int .u8 (by'.toNat : Int))) (by kernel_rfl) ⟨c1, c2⟩ (fun hHeld => ?_)
  refine takeH (some 50) (i := 0) (v := ?_) rfl (by kernel_rfl) (by kernel_rfl) (by kernel_rfl) (fun _ _ _ h => h) (Or.inl ⟨by rfl, ?_⟩) hHeld rfl ?_
  rotate_left
  · intro w hSw; obtain ⟨hS1, hS2⟩ := hSw; go_simp; with_reducible rfl
  (try simp only [Act.put, List.setIfInBounds_toArray, List.set_cons_zero, List.set_cons_succ])
  refine takeH (some 51) (i := 1) (v := ?_) rfl (by kernel_rfl) (by kernel_rfl) (by kernel_rfl) (fun _ _ _ h => h) (Or.inl ⟨by rfl, ?_⟩) hHeld rfl ?_
  rotate_left
  · intro w hSw; obtain ⟨hS1, hS2⟩ := hSw; go_simp; with_reducible rfl
  (try simp only [Act.put, List.setIfInBounds_toArray, List.set_cons_zero, List.set_cons_succ])
  refine takeH (some 52) (i := 2) (v := ?_) rfl (by kernel_rfl) (by kernel_rfl) (by kernel_rfl) (fun _ _ _ h => h) (Or.inl ⟨by rfl, ?_⟩) hHeld rfl ?_
  rotate_left
  · intro w hSw; obtain ⟨hS1, hS2⟩ := hSw; go_simp; with_reducible rfl
  (try simp only [Act.put, List.setIfInBounds_toArray, List.set_cons_zero, List.set_cons_succ])
  refine takeH (some 53) (i := 3) (v := ?_) rfl (by kernel_rfl) (by kernel_rfl) (by kernel_rfl) (fun _ _ _ h => h) (Or.inl ⟨by rfl, ?_⟩) hHeld rfl ?_
  rotate_left
  · intro w hSw; obtain ⟨hS1, hS2⟩ := hSw; go_simp; with_reducible rfl
  (try simp only [Act.put, List.setIfInBounds_toArray, List.set_cons_zero, List.set_cons_succ])
  refine takeH (some 54) (i := 4) (v := ?_) rfl (by kernel_rfl) (by kernel_rfl) (by kernel_rfl) (fun _ _ _ h => h) (Or.inl ⟨by rfl, ?_⟩) hHeld rfl ?_
  rotate_left
  · intro w hSw; obtain ⟨hS1, hS2⟩ := hSw; go_simp; with_reducible rfl
  (try simp only [Act.put, List.setIfInBounds_toArray, List.set_cons_zero, List.set_cons_succ])
  refine takeH (some 57) (i := 7) (v := ?_) rfl (by kernel_rfl) (by kernel_rfl) (by kernel_rfl) (fun _ _ _ h => h) (Or.inl ⟨by rfl, ?_⟩) hHeld rfl ?_
  rotate_left
  · intro w hSw; obtain ⟨hS1, hS2⟩ := hSw; go_simp; with_reducible rfl
  (try simp only [Act.put, List.setIfInBounds_toArray, List.set_cons_zero, List.set_cons_succ])
  refine takeH (some 58) (i := 8) (v := ?_) rfl (by kernel_rfl) (by kernel_rfl) (by kernel_rfl) (fun _ _ _ h => h) (Or.inl ⟨by rfl, ?_⟩) hHeld rfl ?_
  rotate_left
  · intro w hSw; obtain ⟨hS1, hS2⟩ := hSw; go_simp; with_reducible rfl
  (try simp only [Act.put, List.setIfInBounds_toArray, List.set_cons_zero, List.set_cons_succ])
  refine takeH (some 59) (i := 9) (v := ?_) rfl (by kernel_rfl) (by kernel_rfl) (by kernel_rfl) (fun _ _ _ h => h) (Or.inl ⟨by rfl, ?_⟩) hHeld rfl ?_
  rotate_left
  · intro w hSw; obtain ⟨hS1, hS2⟩ := hSw; go_simp; with_reducible rfl
  (try simp only [Act.put, List.setIfInBounds_toArray, List.set_cons_zero, List.set_cons_succ])
  refine takeH (some 60) (i := 10) (v := ?_) rfl (by kernel_rfl) (by kernel_rfl) (by kernel_rfl) (fun _ _ _ h => h) (Or.inl ⟨by rfl, ?_⟩) hHeld rfl ?_
  rotate_left
  · intro w hSw; obtain ⟨hS1, hS2⟩ := hSw; go_simp; with_reducible rfl
  (try simp only [Act.put, List.setIfInBounds_toArray, List.set_cons_zero, List.set_cons_succ])
  refine takeH (some 61) (i := 11) (v := ?_) rfl (by kernel_rfl) (by kernel_rfl) (by kernel_rfl) (fun _ _ _ h => h) (Or.inl ⟨by rfl, ?_⟩) hHeld rfl ?_
  rotate_left
  · intro w hSw; obtain ⟨hS1, hS2⟩ := hSw; go_simp; with_reducible rfl
  (try simp only [Act.put, List.setIfInBounds_toArray, List.set_cons_zero, List.set_cons_succ])
  refine wpAnyH_ready (rs := [5]) (by kernel_rfl) (by simp) (AllReadyH.cons rfl (fun K hK => ?_) AllReadyH.nil)
  go_simp
  go_wp2_with (go_at_call 50; refine (HSec _).mono ?_; rintro e y1 ⟨v1, rfl, hv1, hb1⟩)
  have K1 : Hid (Below Y.heap.size Y y1) := mkHid (((Below.refl _ Y).drew).trans hb1.out)
  have Q1 := mkHid (KQ.of_below K1.out HLY.out)
  clear hb1
  refine hK.out _ _ ⟨(Q1.out.o.blk HKb.out (by decide)).cell 1, (Q1.out.o.blk HKb.out (by decide)).cell 2⟩ (fun hHeld => ?_)
  (try simp only [Act.put, List.setIfInBounds_toArray, List.set_cons_zero, List.set_cons_succ])
  clear hK K
  refine wpAnyH_ready (rs := [6]) (by kernel_rfl) (by simp) (AllReadyH.cons rfl (fun K hK => ?_) AllReadyH.nil)
  go_simp
  go_wp2_with (go_at_call 31; refine (HWr _ _ _ (mkHid (so.keep HS.out (KeepT.of_below K1.out))) hv1).mono ?_; rintro e y2 ⟨rfl, S2, hk2⟩)
  have R2 := mkHid ((HR.out.on K1.out).keepS hk2.out)
  have Q2 := mkHid (Q1.out.trans (KQ.ofS hk2.out))
  clear hv1 hk2 K1 Q1
  refine hK.out _ _ ⟨(Q2.out.o.blk HKb.out (by decide)).cell 1, (Q2.out.o.blk HKb.out (by decide)).cell 2⟩ (fun hHeld => ?_)
  (try simp only [Act.put, List.setIfInBounds_toArray, List.set_cons_zero, List.set_cons_succ])
  clear hK K
  refine wpAnyH_ready (rs := [12]) (by kernel_rfl) (by simp) (AllReadyH.cons rfl (fun K hK => ?_) AllReadyH.nil)
  go_simp
  go_wp2_with (go_at_call 50; refine (HSec _).mono ?_; rintro e y3 ⟨v3, rfl, hv3, hb3⟩)
  have R3 := mkHid (R2.out.on hb3.out)
  have S3 := mkHid (so.keep S2.out (KeepT.of_below hb3.out))
  have Q3 := mkHid (Q2.out.trans (KQ.of_below hb3.out R2.out.lo))
  clear hb3 R2 S2 Q2
  refine hK.out _ _ ⟨(Q3.out.o.blk HKb.out (by decide)).cell 1, (Q3.out.o.blk HKb.out (by decide)).cell 2⟩ (fun hHeld => ?_)
  (try simp only [Act.put, List.setIfInBounds_toArray, List.set_cons_zero, List.set_cons_succ])
  clear hK K
  refine wpAnyH_ready (rs := [13]) (by kernel_rfl) (by simp) (AllReadyH.cons rfl (fun K hK => ?_) AllReadyH.nil)
  go_simp
  go_wp2_with (go_at_call 51; refine (HRW _ _ _ R3 hv3).mono ?_; rintro e y4 ⟨rfl, R4, hk4⟩)
  have S4 := mkHid (so.keep S3.out hk4.out.t)
  have Q4 := mkHid (Q3.out.trans (KQ.ofK hk4.out))
  clear hv3 R3 S3 Q3 hk4
  refine hK.out _ _ ⟨(Q4.out.o.blk HKb.out (by decide)).cell 1, (Q4.out.o.blk HKb.out (by decide)).cell 2⟩ (fun hHeld => ?_)
  (try simp only [Act.put, List.setIfInBounds_toArray, List.set_cons_zero, List.set_cons_succ])
  clear hK K
  refine takeH (some 64) (i := 14) (v := .bool true) rfl (by kernel_rfl) (by kernel_rfl) (by kernel_rfl) (fun _ _ _ h => h) (Or.inl ⟨by rfl, ?_⟩) hHeld rfl ?_
  · intro w hSw; go_simp <;> simp
  (try simp only [Act.put, List.setIfInBounds_toArray, List.set_cons_zero, List.set_cons_succ])
  refine takeH (some 6) (i := 15) (v := ?_) rfl (by kernel_rfl) (by kernel_rfl) (by kernel_rfl) (fun _ _ _ h => h) (Or.inl ⟨by rfl, ?_⟩) hHeld rfl ?_
  rotate_left
  · intro w hSw; go_simp; with_reducible rfl
  (try simp only [Act.put, List.setIfInBounds_toArray, List.set_cons_zero, List.set_cons_succ])
  refine wpAnyH_done (by kernel_rfl) ?_ _
  refine NoPanic.normal ?_
  go_wp2_with fail
  go_ret
  exact ⟨rfl, ⟨S4.out, R4.out, HT.out⟩, mkHid (HK0.out.trans Q4.out)⟩
end Go.Proofs.YtdeoankmmolebaaGreat
