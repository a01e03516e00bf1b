/- One call of both: Give. -/
import Derived.Test.YtdeoankmmolebaaGreatB45
namespace Go.Proofs.YtdeoankmmolebaaGreat
open Go.RowKit

set_option maxRecDepth 20000 in
set_option maxHeartbeats 4000000 in
theorem step11_give {JA : World → Nat → Nat → Nat → Jl → Prop} {SA : World → Nat → Nat → Nat → Nat → Tl → Jl → Prop} (so : SpcOK JA SA) (o : Sq) (S R U J K P D base m : Nat) (t : Tl) (j : Jl) (w : World) (h : Both11 SA w S R U J K P D base m t j) (hkind : o.kind = 2) (h0 : -9223372036854775808 ≤ o.at_) (h1 : o.at_ ≤ 9223372036854775807) :
    Calls Tryz.prog 18 #[.pointer (some ⟨S, 0, none⟩), .pointer (some ⟨R, 0, none⟩), .agg (sqc o).toArray] w fun e w' => e = .returned (.bool true) ∧ Hid (Both11 SA w' S R U J K P D base m (gvT t j o.at_) j) ∧ Hid (KQ base w w') := by
  obtain ⟨kind, at', by'⟩ := o
  change kind = 2 at hkind
  change -9223372036854775808 ≤ at' at h0
  change at' ≤ 9223372036854775807 at h1
  subst hkind
  have HB := mkHid (box11 w ⟨2, at', by'⟩)
  have hh := h.on so HB.out
  have HF := mkHid h.fit
  have H1 := fun W (hW : SA W S J P base t j) => so.give W S J P base m t j at' hW HF.out h0 h1
  have HR := mkHid hh.rs
  have HS := mkHid hh.sa
  have H2 := fun W (hW : RefS W R U K D base m t j) => refGive11 hW (Nat.le_trans HF.out.m (by omega)) HF.out.good.off at' h0 h1
  have HK0 := mkHid (KQ.of_below HB.out h.rs.lo)
  have HT := mkHid (h.fit.give at')
  show Calls _ _ _ _ fun e w' => e = .returned (.bool true) ∧ Hid (Both11 SA w' S R U J K P D base m (gvT t j at') j) ∧ Hid (KQ base w w')
  generalize gvE t j at' = E at *
  generalize gvT t j at' = T1 at *
  have kb := Blk.new w 47 (sqc ⟨2, at', by'⟩)
  have HKb := mkHid kb
  have c0 : (w.alloc (.cells (sqc ⟨2, at', by'⟩).toArray 47)).cell? ⟨w.heap.size, 0, none⟩ = some (.int .i64 2) := kb.cell 0
  have c1 : (w.alloc (.cells (sqc ⟨2, at', by'⟩).toArray 47)).cell? ⟨w.heap.size, 1, none⟩ = some (.int .i64 at') := kb.cell 1
  have HLY : Hid (base ≤ (w.alloc (.cells (sqc ⟨2, at', by'⟩).toArray 47)).heap.size) := Nat.le_trans h.rs.lo HB.out.size
  clear h hh kb
  simp only [sqc] at *
  go_enter Tryz.func18, Tryz.ntmps18
  go_upto_region 7 with fail
  generalize w.alloc (.cells #[.int .i64 2, .int .i64 at', .int .u8 (by'.toNat : Int)] 47) = Y at *
  have HD : Hid (Below Y.heap.size Y Y.drew) := (Below.refl _ Y).drew
  refine wp_region_noPanic ?_
  refine wp_region_held_drew (S := fun w' => w'.cell? ⟨w.heap.size, 1, none⟩ = some (.int .i64 at')) (by kernel_rfl) c1 (fun hHeld => ?_)
  refine takeH (some 39) (i := 0) (v := ?_) rfl (by kernel_rfl) (by kernel_rfl) (by kernel_rfl) (fun _ _ _ h => h) (Or.inl ⟨by rfl, ?_⟩) hHeld rfl ?_
  rotate_left
  · intro w hSw; go_simp; with_reducible rfl
  (try simp only [Act.put, List.setIfInBounds_toArray, List.set_cons_zero, List.set_cons_succ])
  refine takeH (some 40) (i := 1) (v := ?_) rfl (by kernel_rfl) (by kernel_rfl) (by kernel_rfl) (fun _ _ _ h => h) (Or.inl ⟨by rfl, ?_⟩) hHeld rfl ?_
  rotate_left
  · intro w hSw; go_simp; with_reducible rfl
  (try simp only [Act.put, List.setIfInBounds_toArray, List.set_cons_zero, List.set_cons_succ])
  refine takeH (some 41) (i := 2) (v := ?_) rfl (by kernel_rfl) (by kernel_rfl) (by kernel_rfl) (fun _ _ _ h => h) (Or.inl ⟨by rfl, ?_⟩) hHeld rfl ?_
  rotate_left
  · intro w hSw; go_simp; with_reducible rfl
  (try simp only [Act.put, List.setIfInBounds_toArray, List.set_cons_zero, List.set_cons_succ])
  refine takeH (some 43) (i := 4) (v := ?_) rfl (by kernel_rfl) (by kernel_rfl) (by kernel_rfl) (fun _ _ _ h => h) (Or.inl ⟨by rfl, ?_⟩) hHeld rfl ?_
  rotate_left
  · intro w hSw; go_simp; with_reducible rfl
  (try simp only [Act.put, List.setIfInBounds_toArray, List.set_cons_zero, List.set_cons_succ])
  refine takeH (some 44) (i := 5) (v := ?_) rfl (by kernel_rfl) (by kernel_rfl) (by kernel_rfl) (fun _ _ _ h => h) (Or.inl ⟨by rfl, ?_⟩) hHeld rfl ?_
  rotate_left
  · intro w hSw; go_simp; with_reducible rfl
  (try simp only [Act.put, List.setIfInBounds_toArray, List.set_cons_zero, List.set_cons_succ])
  refine takeH (some 45) (i := 6) (v := ?_) rfl (by kernel_rfl) (by kernel_rfl) (by kernel_rfl) (fun _ _ _ h => h) (Or.inl ⟨by rfl, ?_⟩) hHeld rfl ?_
  rotate_left
  · intro w hSw; go_simp; with_reducible rfl
  (try simp only [Act.put, List.setIfInBounds_toArray, List.set_cons_zero, List.set_cons_succ])
  refine wpAnyH_ready (rs := [3]) (by kernel_rfl) (by simp) (AllReadyH.cons rfl (fun K hK => ?_) AllReadyH.nil)
  go_simp
  go_wp2_with (go_at_call 28; refine (H1 _ (so.keep HS.out (KeepT.of_below HD.out))).mono ?_; rintro e w1 ⟨rfl, hS1, hK1⟩)
  have HR1 := mkHid ((HR.out.on HD.out).keepS hK1)
  have HKY := mkHid ((KQ.of_below HD.out HLY.out).trans (KQ.ofS hK1))
  have HS1 := mkHid hS1
  clear hS1 hK1 H1
  refine hK.out _ _ ((HKY.out.o.blk HKb.out (by decide)).cell 1) (fun hHeld => ?_)
  (try simp only [Act.put, List.setIfInBounds_toArray, List.set_cons_zero, List.set_cons_succ])
  clear hK K
  refine wpAnyH_ready (rs := [7]) (by kernel_rfl) (by simp) (AllReadyH.cons rfl (fun K hK => ?_) AllReadyH.nil)
  go_simp
  go_wp2_with (go_at_call 49; refine (H2 _ HR1.out).mono ?_; rintro e w2 ⟨rfl, hR2, hK2⟩)
  have HS2 := mkHid (so.keep HS1.out hK2.out.t)
  have HKZ := mkHid (HKY.out.trans (KQ.ofK hK2.out))
  clear H2
  refine hK.out _ _ ((HKZ.out.o.blk HKb.out (by decide)).cell 1) (fun hHeld => ?_)
  (try simp only [Act.put, List.setIfInBounds_toArray, List.set_cons_zero, List.set_cons_succ])
  clear hK K
  refine takeH (some 47) (i := 8) (v := .bool true) rfl (by kernel_rfl) (by kernel_rfl) (by kernel_rfl) (fun _ _ _ h => h) (Or.inl ⟨by rfl, ?_⟩) hHeld rfl ?_
  · intro w hSw; go_simp <;> simp
  (try simp only [Act.put, List.setIfInBounds_toArray, List.set_cons_zero, List.set_cons_succ])
  refine takeH (some 6) (i := 9) (v := ?_) rfl (by kernel_rfl) (by kernel_rfl) (by kernel_rfl) (fun _ _ _ h => h) (Or.inl ⟨by rfl, ?_⟩) hHeld rfl ?_
  rotate_left
  · intro w hSw; go_simp; with_reducible rfl
  (try simp only [Act.put, List.setIfInBounds_toArray, List.set_cons_zero, List.set_cons_succ])
  refine wpAnyH_done (by kernel_rfl) ?_ _
  refine NoPanic.normal ?_
  go_wp2_with fail
  go_ret
  exact ⟨rfl, ⟨HS2.out, hR2.out, HT.out⟩, mkHid (HK0.out.trans HKZ.out)⟩
end Go.Proofs.YtdeoankmmolebaaGreat
