/- What the document's Write does. -/
import Derived.Test.YthjdmfbengpepaaGreatB2
namespace Go.Proofs.YthjdmfbengpepaaGreat
open Go.RowKit
attribute [local go_sem ↓] Go.wp_at_zero Go.wp_at_succ

def wrE (r : Rd) (i : Int) (b : List UInt8) : Int := if r.off = true then 51 else if inR r.n i = false then 50 else if b.length ≠ 512 then 1 else if r.armed = true ∧ r.left = 0 then 51 else 0
def nextL (r : Rd) : Nat := if r.armed = true then r.left - 1 else r.left
def WrTo (r : Rd) (i : Int) (b : List UInt8) (r' : Rd) : Prop :=
  (wrE r i b = 0 ∧ ∃ g : Wg, g.at_ = i.toNat ∧ g.b = b ∧ r' = { r with left := nextL r, wr := r.wr + 1, C := r.C ++ [g] }) ∨
  (wrE r i b = 51 ∧ r.off = false ∧ r' = { r with off := true }) ∨ (wrE r i b ≠ 0 ∧ (r.off = true ∨ inR r.n i = false ∨ b.length ≠ 512) ∧ r' = r)

set_option maxRecDepth 20000 in
set_option maxHeartbeats 4000000 in
theorem refWrite9E (D base : Nat) (r : Rd) (vS vC : Value) (i : Int) (ba : Option Addr) (bc : Nat) (b : List UInt8) (w : World) (h : IsRD w D base r vS vC) (hf : r.C.length ≤ 1000000) (hwr : r.wr ≤ 1000000000) (hl : r.left ≤ 9223372036854775807)
    (hbs : ∀ W, KeepE (fun k => k = D ∨ vC.ownBlock = some k) w W → Below base w W → IsB W ba b.length bc b) (_hbl : b.length ≤ 140737488351232) :
    Calls Tryz.prog 38 #[.pointer (some ⟨D, 0, none⟩), .int .i64 i, .slice ba b.length bc] w fun e w' => e = .returned (.int .i64 (wrE r i b)) ∧ (∃ r' vC', IsRD w' D base r' vS vC' ∧ WrTo r i b r' ∧ ∀ k, vC'.ownBlock = some k → vC.ownBlock = some k ∨ w.heap.size ≤ k) ∧ KeepE (fun k => k = D ∨ vC.ownBlock = some k) w w' ∧ Below base w w' := by
  have HI := refIs9 D r.n i w (h.blk.cell 0)
  change Calls Tryz.prog _ _ w (fun e w' => e = .returned (.bool (inR r.n i)) ∧ w' = w) at HI
  have c3 : w.cell? ⟨D, 3, none⟩ = some (.bool r.off) := h.blk.cell 3
  have c4 : w.cell? ⟨D, 4, none⟩ = some (.bool r.armed) := h.blk.cell 4
  have c5 : w.cell? ⟨D, 5, none⟩ = some (.int .i64 (r.left : Int)) := h.blk.cell 5
  have f3 := h.blk.frozen 3
  have f5 := h.blk.frozen 5
  have hlow := h.low
  have HH := mkHid h
  have HBs := mkHid hbs
  clear h hbs
  cases ho : r.off with
  | true =>
    rw [ho] at c3
    have Q1 : Hid (wrE r i b = 51) := by unfold Hid wrE; rw [ho]; rfl
    have HW : Hid (WrTo r i b r) := .inr (.inr ⟨by rw [Q1.out]; decide, .inl ho, rfl⟩)
    clear ho
    go_enter Tryz.func38, Tryz.ntmps38
    go_wp2_with fail
    go_ret
    exact ⟨by rw [Q1.out]; rfl, ⟨r, vC, HH.out, HW.out, fun _ h => .inl h⟩, KeepE.refl _ _, Below.refl _ _⟩
  | false =>
    rw [ho] at c3
    cases hb : inR r.n i with
    | false =>
      rw [hb] at HI
      have Q1 : Hid (wrE r i b = 50) := by unfold Hid wrE; rw [ho, hb]; rfl
      have HW : Hid (WrTo r i b r) := .inr (.inr ⟨by rw [Q1.out]; decide, .inr (.inl hb), rfl⟩)
      clear ho hb
      go_enter Tryz.func38, Tryz.ntmps38
      go_wp2_with fail
      refine HI.mono ?_
      rintro e w' ⟨rfl, hw⟩
      obtain rfl := hw.symm
      go_wp2_with fail
      go_ret
      exact ⟨by rw [Q1.out]; rfl, ⟨r, vC, HH.out, HW.out, fun _ h => .inl h⟩, KeepE.refl _ _, Below.refl _ _⟩
    | true =>
      rw [hb] at HI
      by_cases h512 : b.length = 512
      · by_cases hal : r.armed = true ∧ r.left = 0
        · have Q1 : Hid (wrE r i b = 51) := by unfold Hid wrE; rw [ho, hb, if_neg (by simp), if_neg (by simp), if_neg (by simp [h512]), if_pos hal]
          have HW : Hid (WrTo r i b { r with off := true }) := .inr (.inl ⟨Q1.out, ho, rfl⟩)
          have hal2 : (r.left : Int) = 0 := by omega
          rw [hal.1] at c4
          rw [hal2] at c5
          have hbz : (b.length : Int) = 512 := by omega
          clear ho hb hal hal2
          go_enter Tryz.func38, Tryz.ntmps38
          go_wp2_with fail
          refine HI.mono ?_
          rintro e w' ⟨rfl, hw⟩
          obtain rfl := hw.symm
          go_wp2_with fail
          go_ret
          exact ⟨by rw [Q1.out]; rfl, ⟨{ r with off := true }, vC, HH.out.field 3 _ rfl rfl (.inl ⟨rfl, rfl⟩), HW.out, fun _ h => .inl h⟩, (KeepE.refl _ _).set HH.out.blk (.inl rfl) 3 _, (Below.refl _ _).setCell (p := ⟨D, 3, none⟩) hlow _⟩
        · have Q1 : Hid (wrE r i b = 0) := by unfold Hid wrE; rw [ho, hb, if_neg (by simp), if_neg (by simp), if_neg (by simp [h512]), if_neg hal]
          obtain ⟨iN, rfl⟩ : ∃ iN : Nat, i = (iN : Int) := ⟨i.toNat, by unfold inR at hb; have := of_decide_eq_true hb; omega⟩
          obtain ⟨ca, cc, hvC, _⟩ := HH.out.ownC.form
          subst hvC
          have hbz : (b.length : Int) = 512 := by omega
          have c6 : w.cell? ⟨D, 6, none⟩ = some (.int .u64 (r.wr : Int)) := HH.out.blk.cell 6
          obtain ⟨bt, hbt⟩ : ∃ bt, bt = r.armed := ⟨_, rfl⟩
          have HBT := mkHid hbt
          rw [← hbt] at c4
          have HAL : Hid (bt = true → r.left ≠ 0) := fun h1 h2 => hal ⟨by rw [← HBT.out]; exact h1, h2⟩
          have HNx : Hid ((bt = true → nextL r = r.left - 1) ∧ (bt = false → nextL r = r.left)) := ⟨fun h => by unfold nextL; rw [← HBT.out, h]; rfl, fun h => by unfold nextL; rw [← HBT.out, h]; rfl⟩
          clear ho hb hal hbt
          go_enter Tryz.func38, Tryz.ntmps38
          go_wp2_with fail
          refine HI.mono ?_
          rintro e w' ⟨rfl, hw⟩
          obtain rfl := hw.symm
          clear HI
          cases bt with
          | true =>
            have hlz : ¬ (r.left : Int) = 0 := by have := HAL.out rfl; omega
            have hlz2 : ((r.left : Int) == 0) = false := by rw [beq_eq_false_iff_ne]; exact hlz
            have hl1 : 1 ≤ r.left := by have := HAL.out rfl; omega
            have X5 : IsRD (w.setCell ⟨D, 5, none⟩ (.int .i64 ((r.left : Int) - 1))) D base { r with left := nextL r } vS (.slice ca r.C.length cc) := HH.out.field 5 _ (by
              rw [HNx.out.1 rfl, show (r.left : Int) - 1 = ((r.left - 1 : Nat) : Int) by omega]; rfl) rfl (.inl ⟨rfl, rfl⟩)
            have kx : KeepE (fun k => k = D ∨ (Value.slice ca r.C.length cc).ownBlock = some k) w (w.setCell ⟨D, 5, none⟩ (.int .i64 ((r.left : Int) - 1))) := (KeepE.refl _ w).set HH.out.blk (.inl rfl) 5 _
            have bx : Below base w (w.setCell ⟨D, 5, none⟩ (.int .i64 ((r.left : Int) - 1))) := (Below.refl _ w).setCell (p := ⟨D, 5, none⟩) hlow _
            have HX := mkHid X5
            have d6 : (w.setCell ⟨D, 5, none⟩ (.int .i64 ((r.left : Int) - 1))).cell? ⟨D, 6, none⟩ = some (.int .u64 (r.wr : Int)) := X5.blk.cell 6
            have f6 := X5.blk.frozen 6
            clear X5
            go_upto_region 12 with fail
            generalize w.setCell ⟨D, 5, none⟩ (.int .i64 ((r.left : Int) - 1)) = X at *
            have hw1 : (r.wr : Int) + 1 ≤ 18446744073709551615 := by omega
            have X6 : IsRD (X.setCell ⟨D, 6, none⟩ (.int .u64 ((r.wr : Int) + 1))) D base { r with left := nextL r, wr := r.wr + 1 } vS (.slice ca r.C.length cc) := HX.out.field 6 _ rfl rfl (.inl ⟨rfl, rfl⟩)
            have k6 : KeepE (fun k => k = D ∨ (Value.slice ca r.C.length cc).ownBlock = some k) w (X.setCell ⟨D, 6, none⟩ (.int .u64 ((r.wr : Int) + 1))) := kx.set HX.out.blk (.inl rfl) 6 _
            have b6 : Below base w (X.setCell ⟨D, 6, none⟩ (.int .u64 ((r.wr : Int) + 1))) := bx.setCell (p := ⟨D, 6, none⟩) hlow _
            have HX6 := mkHid X6
            have hby : base ≤ (X.setCell ⟨D, 6, none⟩ (.int .u64 ((r.wr : Int) + 1))).heap.size := by have := X6.blk.lt; omega
            clear X6 kx bx
            go_upto_region 13 with fail
            generalize X.setCell ⟨D, 6, none⟩ (.int .u64 ((r.wr : Int) + 1)) = Y at *
            have HBy : Hid (∀ W, Below Y.heap.size Y W → IsB W ba 512 bc b) := fun W hW => by
              have := HBs.out W (k6.trans (KeepE.of_below hW)) (b6.trans (hW.mono hby))
              rw [h512] at this; exact this
            clear c3 c4 c5 c6 f3 f5 d6 f6 HX
            refine wp_region_noPanic ?_
            refine wp_region_held_drew (S := fun _ => True) (by kernel_rfl) trivial (fun hHeld => ?_)
            have DW : Below Y.heap.size Y Y.drew := (Below.refl _ Y).drew
            refine takeH (some 50) (i := 0) (v := ?_) rfl (by kernel_rfl) (by kernel_rfl) (by kernel_rfl) (fun _ _ _ h => h) (Or.inl ⟨by rfl, ?_⟩) hHeld rfl ?_
            rotate_left
            · intro w hSw; go_simp; with_reducible rfl
            (try simp only [Act.put]); (try simp only [List.setIfInBounds_toArray]); (try simp only [List.set_cons_zero, List.set_cons_succ])
            refine takeH (some 51) (i := 1) (v := ?_) rfl (by kernel_rfl) (by kernel_rfl) (by kernel_rfl) (fun _ _ _ h => h) (Or.inl ⟨by rfl, ?_⟩) hHeld rfl ?_
            rotate_left
            · intro w hSw; go_simp; with_reducible rfl
            (try simp only [Act.put]); (try simp only [List.setIfInBounds_toArray]); (try simp only [List.set_cons_zero, List.set_cons_succ])
            refine takeH (some 52) (i := 2) (v := ?_) rfl (by kernel_rfl) (by kernel_rfl) (by kernel_rfl) (fun _ _ _ h => h) (Or.inl ⟨by rfl, ?_⟩) hHeld rfl ?_
            rotate_left
            · intro w hSw; go_simp; with_reducible rfl
            (try simp only [Act.put]); (try simp only [List.setIfInBounds_toArray]); (try simp only [List.set_cons_zero, List.set_cons_succ])
            refine takeH (some 53) (i := 3) (v := ?_) rfl (by kernel_rfl) (by kernel_rfl) (by kernel_rfl) (fun _ _ _ h => h) (Or.inl ⟨by rfl, ?_⟩) hHeld rfl ?_
            rotate_left
            · intro w hSw; go_simp; with_reducible rfl
            (try simp only [Act.put]); (try simp only [List.setIfInBounds_toArray]); (try simp only [List.set_cons_zero, List.set_cons_succ])
            refine takeH (some 55) (i := 5) (v := ?_) rfl (by kernel_rfl) (by kernel_rfl) (by kernel_rfl) (fun _ _ _ h => h) (Or.inl ⟨by rfl, ?_⟩) hHeld rfl ?_
            rotate_left
            · intro w hSw; go_simp; with_reducible rfl
            (try simp only [Act.put]); (try simp only [List.setIfInBounds_toArray]); (try simp only [List.set_cons_zero, List.set_cons_succ])
            refine takeH (some 57) (i := 7) (v := ?_) rfl (by kernel_rfl) (by kernel_rfl) (by kernel_rfl) (fun _ _ _ h => h) (Or.inl ⟨by rfl, ?_⟩) hHeld rfl ?_
            rotate_left
            · intro w hSw; go_simp; with_reducible rfl
            (try simp only [Act.put]); (try simp only [List.setIfInBounds_toArray]); (try simp only [List.set_cons_zero, List.set_cons_succ])
            generalize Y.drew = V0 at *
            refine wpAnyH_ready (rs := [4, 6]) (by kernel_rfl) (by simp) ?_
            refine AllReadyH.cons rfl (fun K hK => ?_) (AllReadyH.cons rfl (fun K hK => ?_) AllReadyH.nil)
            · skip
              have hL : V0.cell? ⟨D, 2, none⟩ = some (.slice ca r.C.length cc) := (HX6.out.on DW).blk.cell 2
              go_simp
              clear hL
              refine hK.out _ _ trivial (fun hHeld => ?_)
              (try simp only [Act.put]); (try simp only [List.setIfInBounds_toArray]); (try simp only [List.set_cons_zero, List.set_cons_succ])
              clear hK K
              refine wpAnyH_ready (rs := [6]) (by kernel_rfl) (by simp) ?_
              refine AllReadyH.cons rfl (fun K hK => ?_) AllReadyH.nil
              go_simp
              have D2 := DW.alloc DW.size (.cells #[] 5)
              have K2 : OwnB (V0.alloc (.cells #[] 5)) Y.heap.size (.slice (some ⟨V0.heap.size, 0, none⟩) 0 0) [] := OwnB.empty V0 _ DW.size
              refine hK.out _ _ trivial (fun hHeld => ?_)
              (try simp only [Act.put]); (try simp only [List.setIfInBounds_toArray]); (try simp only [List.set_cons_zero, List.set_cons_succ])
              clear hK K DW
              generalize V0.heap.size = bE at *
              generalize V0.alloc (.cells #[] 5) = V2 at *
              have DW := D2
              have KE := K2
              clear D2 K2
              refine wpAnyH_ready (rs := [8]) (by kernel_rfl) (by simp) ?_
              refine AllReadyH.cons rfl (fun K hK => ?_) AllReadyH.nil
              refine step_appB _ (by rfl) _ _ (by rfl) Y.heap.size (.slice (some ⟨bE, 0, none⟩) 0 0) [] (by rfl) KE ba 512 bc b (by rfl) (HBy.out _ DW) (by simp) DW.size 58 rfl ?_
              intro v1 V3 ho1 hg1
              rw [List.nil_append] at ho1
              have D3 := DW.grown hg1 DW.size (fun j hj => (KE.blk j hj).1)
              obtain ⟨a1, c1, ev1, _⟩ := ho1.isB
              rw [h512] at ev1
              subst ev1
              refine hK.out _ _ trivial (fun hHeld => ?_)
              (try simp only [Act.put]); (try simp only [List.setIfInBounds_toArray]); (try simp only [List.set_cons_zero, List.set_cons_succ])
              have DW := D3
              have OB := ho1
              clear hK K D3 ho1 hg1 KE
              refine takeH (some 59) (i := 9) (v := ?_) rfl (by kernel_rfl) (by kernel_rfl) (by kernel_rfl) (fun _ _ _ h => h) (Or.inl ⟨by rfl, ?_⟩) hHeld rfl ?_
              rotate_left
              · intro w hSw; go_simp; with_reducible rfl
              (try simp only [Act.put]); (try simp only [List.setIfInBounds_toArray]); (try simp only [List.set_cons_zero, List.set_cons_succ])
              refine wpAnyH_ready (rs := [10]) (by kernel_rfl) (by simp) ?_
              refine AllReadyH.cons rfl (fun K hK => ?_) AllReadyH.nil
              go_simp
              have D4 := DW.alloc DW.size (.cells #[.int .i64 (iN : Int), .slice a1 512 c1] 88)
              have K4 : Blk (V3.alloc (.cells #[.int .i64 (iN : Int), .slice a1 512 c1] 88)) V3.heap.size 88 [.int .i64 (iN : Int), .slice a1 512 c1] := Blk.newAt V3 _ _ _ _ rfl rfl
              have O4 := OB.alloc (.cells #[.int .i64 (iN : Int), .slice a1 512 c1] 88)
              refine hK.out _ _ trivial (fun hHeld => ?_)
              (try simp only [Act.put]); (try simp only [List.setIfInBounds_toArray]); (try simp only [List.set_cons_zero, List.set_cons_succ])
              clear hK K DW OB
              generalize V3.heap.size = bM at *
              generalize V3.alloc (.cells #[.int .i64 (iN : Int), .slice a1 512 c1] 88) = V4 at *
              have DW := D4
              have KM := K4
              have OB := O4
              clear D4 K4 O4
              refine wpAnyH_ready (rs := [11]) (by kernel_rfl) (by simp) ?_
              refine AllReadyH.cons rfl (fun K hK => ?_) AllReadyH.nil
              have IW := HX6.out.on DW
              obtain ⟨g, hg⟩ : ∃ g : Wg, g = ⟨iN, b, a1, c1⟩ := ⟨_, rfl⟩
              have hgc : wgc g = [.int .i64 (iN : Int), .slice a1 512 c1] := by rw [hg]; unfold wgc; rw [h512]
              refine step_appGl 78 88 Tryz.underlying78 infoW9 _ (by rfl) _ _ (by rfl) base (.slice ca r.C.length cc) r.C (by rfl) IW.ownC bM g (by rfl) (by rw [hgc]; exact KM) (by omega) (by have := DW.size; omega) 61 rfl ?_
              intro kk cap2 V5 ho2 hg2 hat
              have KT : KeepT [88] V4 V5 := (KeepT.refl _ V4).grown IW.ownC hg2 (by simp)
              have KT2 : KeepE (fun k => k = D ∨ (Value.slice ca r.C.length cc).ownBlock = some k) V4 V5 := (KeepE.refl _ V4).grown hg2 (fun _ h => .inr h)
              have BK := KT.blk IW.blk (by decide)
              have d2 : V5.cell? ⟨D, 2, none⟩ = some (.slice ca r.C.length cc) := BK.cell 2
              have f2 := BK.frozen 2
              have BB : Below base Y V5 := (DW.mono hby).grown hg2 (by have := DW.size; omega) (fun j hj => (IW.ownC.blk j hj).1)
              refine hK.out _ _ trivial (fun hHeld => ?_)
              (try simp only [Act.put]); (try simp only [List.setIfInBounds_toArray]); (try simp only [List.set_cons_zero, List.set_cons_succ])
              clear hK K
              refine takeH (some 62) (i := 12) (v := ?_) rfl (by kernel_rfl) (by kernel_rfl) (by kernel_rfl) (fun _ _ _ h => h) (Or.inl ⟨by rfl, ?_⟩) hHeld rfl ?_
              rotate_left
              · intro w hSw; go_simp; with_reducible rfl
              (try simp only [Act.put]); (try simp only [List.setIfInBounds_toArray]); (try simp only [List.set_cons_zero, List.set_cons_succ])
              refine takeH (some 63) (i := 13) (v := ?_) rfl (by kernel_rfl) (by kernel_rfl) (by kernel_rfl) (fun _ _ _ h => h) (Or.inl ⟨by rfl, ?_⟩) hHeld rfl ?_
              rotate_left
              · intro w hSw; go_simp; with_reducible rfl
              (try simp only [Act.put]); (try simp only [List.setIfInBounds_toArray]); (try simp only [List.set_cons_zero, List.set_cons_succ])
              refine wpAnyH_ready (rs := [14]) (by kernel_rfl) (by simp) (AllReadyH.cons rfl (fun K hK => ?_) AllReadyH.nil)
              go_simp
              refine hK.out _ _ trivial (fun hHeld => ?_)
              (try simp only [Act.put]); (try simp only [List.setIfInBounds_toArray]); (try simp only [List.set_cons_zero, List.set_cons_succ])
              clear hK K
              refine wpAnyH_done (by kernel_rfl) ?_ _
              refine NoPanic.normal ?_
              have hk9 : KeepT [81] V5 (V5.setCell ⟨D, 2, none⟩ (.slice (some ⟨kk, 0, none⟩) (r.C.length + 1) cap2)) := (KeepT.refl _ V5).set BK (by simp) 2 _
              have RZ : IsRD (V5.setCell ⟨D, 2, none⟩ (.slice (some ⟨kk, 0, none⟩) (r.C.length + 1) cap2)) D base { r with left := nextL r, wr := r.wr + 1, C := r.C ++ [g] } vS (.slice (some ⟨kk, 0, none⟩) (r.C.length + 1) cap2) := by
                have hS9 : OwnG 88 V5 base vS r.S := World.ownsRow.kept IW.ownS hg2 (by
                  by_cases hv : vS.ownBlock = (Value.slice ca r.C.length cc).ownBlock
                  · rcases IW.ownS.2 with ⟨h5, _⟩ | ⟨q, _, _, h5, _⟩
                    · exact .inl (by rw [h5]; rfl)
                    · exact absurd (hv.symm.trans (by rw [h5]; rfl)) (IW.apart q (by rw [h5]; rfl))
                  · exact .inr hv)
                refine ⟨BK.set 2 _, hlow, own_keep hk9 hS9 (by decide), own_keep hk9 ho2 (by decide), (IW.bS.keep KT (by decide)).keep hk9 (by decide), Bys.append ((IW.bC.keep KT (by decide)).keep hk9 (by decide)) (fun x hx => ?_), fun q hq hq2 => ?_⟩
                · rw [List.mem_singleton.1 hx, hg]
                  refine ⟨h512, ?_⟩
                  have h7 : OwnB V5 Y.heap.size (.slice a1 512 c1) b := own_keep KT OB (by decide)
                  have h8 : OwnB (V5.setCell ⟨D, 2, none⟩ (.slice (some ⟨kk, 0, none⟩) (r.C.length + 1) cap2)) Y.heap.size (.slice a1 512 c1) b := own_keep hk9 h7 (by decide)
                  show OwnB _ base (.slice a1 b.length c1) b
                  rw [h512]
                  exact h8.base hby
                · have hkk : kk = q := by simpa [Value.ownBlock] using hq2
                  rcases hat with h5 | h5
                  · exact IW.apart q hq (by rw [h5, hkk])
                  · have := (IW.ownS.blk q hq).2
                    omega
              have kZ : KeepE (fun k => k = D ∨ (Value.slice ca r.C.length cc).ownBlock = some k) w (V5.setCell ⟨D, 2, none⟩ (.slice (some ⟨kk, 0, none⟩) (r.C.length + 1) cap2)) := ((k6.trans (KeepE.of_below DW)).trans KT2).set BK (.inl rfl) 2 _
              have bZ : Below base w (V5.setCell ⟨D, 2, none⟩ (.slice (some ⟨kk, 0, none⟩) (r.C.length + 1) cap2)) := (b6.trans BB).setCell (p := ⟨D, 2, none⟩) hlow _
              have hWT : Hid (WrTo r (iN : Int) b { r with left := nextL r, wr := r.wr + 1, C := r.C ++ [g] }) := .inl ⟨Q1.out, g, by rw [hg]; rfl, by rw [hg], rfl⟩
              have HCk : Hid (∀ k, (Value.slice (some ⟨kk, 0, none⟩) (r.C.length + 1) cap2).ownBlock = some k → (Value.slice ca r.C.length cc).ownBlock = some k ∨ w.heap.size ≤ k) := fun k hk => by
                have e5 : kk = k := by simpa [Value.ownBlock] using hk
                subst e5
                rcases hat with h5 | h5
                · exact .inl h5
                · exact .inr (by rw [h5]; exact Nat.le_trans k6.size DW.size)
              have HRZ := mkHid RZ
              clear RZ hk9 BK d2 f2 BB IW KT KT2 OB KM DW ho2 hg2 hat hgc hg
              generalize V5.setCell ⟨D, 2, none⟩ (.slice (some ⟨kk, 0, none⟩) (r.C.length + 1) cap2) = Z at *
              go_wp2_with fail
              go_ret
              exact ⟨by rw [Q1.out]; rfl, ⟨_, _, HRZ.out, hWT.out, HCk.out⟩, kZ, bZ⟩
            · skip
              go_simp
              have D6 := DW.alloc DW.size (.cells #[] 5)
              have K6 : OwnB (V0.alloc (.cells #[] 5)) Y.heap.size (.slice (some ⟨V0.heap.size, 0, none⟩) 0 0) [] := OwnB.empty V0 _ DW.size
              refine hK.out _ _ trivial (fun hHeld => ?_)
              (try simp only [Act.put]); (try simp only [List.setIfInBounds_toArray]); (try simp only [List.set_cons_zero, List.set_cons_succ])
              clear hK K DW
              generalize V0.heap.size = bE at *
              generalize V0.alloc (.cells #[] 5) = V6 at *
              have DW := D6
              have KE := K6
              clear D6 K6
              refine wpAnyH_ready (rs := [4, 8]) (by kernel_rfl) (by simp) ?_
              refine AllReadyH.cons rfl (fun K hK => ?_) (AllReadyH.cons rfl (fun K hK => ?_) AllReadyH.nil)
              · skip
                have hL : V6.cell? ⟨D, 2, none⟩ = some (.slice ca r.C.length cc) := (HX6.out.on DW).blk.cell 2
                go_simp
                clear hL
                refine hK.out _ _ trivial (fun hHeld => ?_)
                (try simp only [Act.put]); (try simp only [List.setIfInBounds_toArray]); (try simp only [List.set_cons_zero, List.set_cons_succ])
                clear hK K
                refine wpAnyH_ready (rs := [8]) (by kernel_rfl) (by simp) ?_
                refine AllReadyH.cons rfl (fun K hK => ?_) AllReadyH.nil
                refine step_appB _ (by rfl) _ _ (by rfl) Y.heap.size (.slice (some ⟨bE, 0, none⟩) 0 0) [] (by rfl) KE ba 512 bc b (by rfl) (HBy.out _ DW) (by simp) DW.size 58 rfl ?_
                intro v1 V8 ho1 hg1
                rw [List.nil_append] at ho1
                have D8 := DW.grown hg1 DW.size (fun j hj => (KE.blk j hj).1)
                obtain ⟨a1, c1, ev1, _⟩ := ho1.isB
                rw [h512] at ev1
                subst ev1
                refine hK.out _ _ trivial (fun hHeld => ?_)
                (try simp only [Act.put]); (try simp only [List.setIfInBounds_toArray]); (try simp only [List.set_cons_zero, List.set_cons_succ])
                have DW := D8
                have OB := ho1
                clear hK K D8 ho1 hg1 KE
                refine takeH (some 59) (i := 9) (v := ?_) rfl (by kernel_rfl) (by kernel_rfl) (by kernel_rfl) (fun _ _ _ h => h) (Or.inl ⟨by rfl, ?_⟩) hHeld rfl ?_
                rotate_left
                · intro w hSw; go_simp; with_reducible rfl
                (try simp only [Act.put]); (try simp only [List.setIfInBounds_toArray]); (try simp only [List.set_cons_zero, List.set_cons_succ])
                refine wpAnyH_ready (rs := [10]) (by kernel_rfl) (by simp) ?_
                refine AllReadyH.cons rfl (fun K hK => ?_) AllReadyH.nil
                go_simp
                have D9 := DW.alloc DW.size (.cells #[.int .i64 (iN : Int), .slice a1 512 c1] 88)
                have K9 : Blk (V8.alloc (.cells #[.int .i64 (iN : Int), .slice a1 512 c1] 88)) V8.heap.size 88 [.int .i64 (iN : Int), .slice a1 512 c1] := Blk.newAt V8 _ _ _ _ rfl rfl
                have O9 := OB.alloc (.cells #[.int .i64 (iN : Int), .slice a1 512 c1] 88)
                refine hK.out _ _ trivial (fun hHeld => ?_)
                (try simp only [Act.put]); (try simp only [List.setIfInBounds_toArray]); (try simp only [List.set_cons_zero, List.set_cons_succ])
                clear hK K DW OB
                generalize V8.heap.size = bM at *
                generalize V8.alloc (.cells #[.int .i64 (iN : Int), .slice a1 512 c1] 88) = V9 at *
                have DW := D9
                have KM := K9
                have OB := O9
                clear D9 K9 O9
                refine wpAnyH_ready (rs := [11]) (by kernel_rfl) (by simp) ?_
                refine AllReadyH.cons rfl (fun K hK => ?_) AllReadyH.nil
                have IW := HX6.out.on DW
                obtain ⟨g, hg⟩ : ∃ g : Wg, g = ⟨iN, b, a1, c1⟩ := ⟨_, rfl⟩
                have hgc : wgc g = [.int .i64 (iN : Int), .slice a1 512 c1] := by rw [hg]; unfold wgc; rw [h512]
                refine step_appGl 78 88 Tryz.underlying78 infoW9 _ (by rfl) _ _ (by rfl) base (.slice ca r.C.length cc) r.C (by rfl) IW.ownC bM g (by rfl) (by rw [hgc]; exact KM) (by omega) (by have := DW.size; omega) 61 rfl ?_
                intro kk cap2 V10 ho2 hg2 hat
                have KT : KeepT [88] V9 V10 := (KeepT.refl _ V9).grown IW.ownC hg2 (by simp)
                have KT2 : KeepE (fun k => k = D ∨ (Value.slice ca r.C.length cc).ownBlock = some k) V9 V10 := (KeepE.refl _ V9).grown hg2 (fun _ h => .inr h)
                have BK := KT.blk IW.blk (by decide)
                have d2 : V10.cell? ⟨D, 2, none⟩ = some (.slice ca r.C.length cc) := BK.cell 2
                have f2 := BK.frozen 2
                have BB : Below base Y V10 := (DW.mono hby).grown hg2 (by have := DW.size; omega) (fun j hj => (IW.ownC.blk j hj).1)
                refine hK.out _ _ trivial (fun hHeld => ?_)
                (try simp only [Act.put]); (try simp only [List.setIfInBounds_toArray]); (try simp only [List.set_cons_zero, List.set_cons_succ])
                clear hK K
                refine takeH (some 62) (i := 12) (v := ?_) rfl (by kernel_rfl) (by kernel_rfl) (by kernel_rfl) (fun _ _ _ h => h) (Or.inl ⟨by rfl, ?_⟩) hHeld rfl ?_
                rotate_left
                · intro w hSw; go_simp; with_reducible rfl
                (try simp only [Act.put]); (try simp only [List.setIfInBounds_toArray]); (try simp only [List.set_cons_zero, List.set_cons_succ])
                refine takeH (some 63) (i := 13) (v := ?_) rfl (by kernel_rfl) (by kernel_rfl) (by kernel_rfl) (fun _ _ _ h => h) (Or.inl ⟨by rfl, ?_⟩) hHeld rfl ?_
                rotate_left
                · intro w hSw; go_simp; with_reducible rfl
                (try simp only [Act.put]); (try simp only [List.setIfInBounds_toArray]); (try simp only [List.set_cons_zero, List.set_cons_succ])
                refine wpAnyH_ready (rs := [14]) (by kernel_rfl) (by simp) (AllReadyH.cons rfl (fun K hK => ?_) AllReadyH.nil)
                go_simp
                refine hK.out _ _ trivial (fun hHeld => ?_)
                (try simp only [Act.put]); (try simp only [List.setIfInBounds_toArray]); (try simp only [List.set_cons_zero, List.set_cons_succ])
                clear hK K
                refine wpAnyH_done (by kernel_rfl) ?_ _
                refine NoPanic.normal ?_
                have hk9 : KeepT [81] V10 (V10.setCell ⟨D, 2, none⟩ (.slice (some ⟨kk, 0, none⟩) (r.C.length + 1) cap2)) := (KeepT.refl _ V10).set BK (by simp) 2 _
                have RZ : IsRD (V10.setCell ⟨D, 2, none⟩ (.slice (some ⟨kk, 0, none⟩) (r.C.length + 1) cap2)) D base { r with left := nextL r, wr := r.wr + 1, C := r.C ++ [g] } vS (.slice (some ⟨kk, 0, none⟩) (r.C.length + 1) cap2) := by
                  have hS9 : OwnG 88 V10 base vS r.S := World.ownsRow.kept IW.ownS hg2 (by
                    by_cases hv : vS.ownBlock = (Value.slice ca r.C.length cc).ownBlock
                    · rcases IW.ownS.2 with ⟨h5, _⟩ | ⟨q, _, _, h5, _⟩
                      · exact .inl (by rw [h5]; rfl)
                      · exact absurd (hv.symm.trans (by rw [h5]; rfl)) (IW.apart q (by rw [h5]; rfl))
                    · exact .inr hv)
                  refine ⟨BK.set 2 _, hlow, own_keep hk9 hS9 (by decide), own_keep hk9 ho2 (by decide), (IW.bS.keep KT (by decide)).keep hk9 (by decide), Bys.append ((IW.bC.keep KT (by decide)).keep hk9 (by decide)) (fun x hx => ?_), fun q hq hq2 => ?_⟩
                  · rw [List.mem_singleton.1 hx, hg]
                    refine ⟨h512, ?_⟩
                    have h7 : OwnB V10 Y.heap.size (.slice a1 512 c1) b := own_keep KT OB (by decide)
                    have h8 : OwnB (V10.setCell ⟨D, 2, none⟩ (.slice (some ⟨kk, 0, none⟩) (r.C.length + 1) cap2)) Y.heap.size (.slice a1 512 c1) b := own_keep hk9 h7 (by decide)
                    show OwnB _ base (.slice a1 b.length c1) b
                    rw [h512]
                    exact h8.base hby
                  · have hkk : kk = q := by simpa [Value.ownBlock] using hq2
                    rcases hat with h5 | h5
                    · exact IW.apart q hq (by rw [h5, hkk])
                    · have := (IW.ownS.blk q hq).2
                      omega
                have kZ : KeepE (fun k => k = D ∨ (Value.slice ca r.C.length cc).ownBlock = some k) w (V10.setCell ⟨D, 2, none⟩ (.slice (some ⟨kk, 0, none⟩) (r.C.length + 1) cap2)) := ((k6.trans (KeepE.of_below DW)).trans KT2).set BK (.inl rfl) 2 _
                have bZ : Below base w (V10.setCell ⟨D, 2, none⟩ (.slice (some ⟨kk, 0, none⟩) (r.C.length + 1) cap2)) := (b6.trans BB).setCell (p := ⟨D, 2, none⟩) hlow _
                have hWT : Hid (WrTo r (iN : Int) b { r with left := nextL r, wr := r.wr + 1, C := r.C ++ [g] }) := .inl ⟨Q1.out, g, by rw [hg]; rfl, by rw [hg], rfl⟩
                have HCk : Hid (∀ k, (Value.slice (some ⟨kk, 0, none⟩) (r.C.length + 1) cap2).ownBlock = some k → (Value.slice ca r.C.length cc).ownBlock = some k ∨ w.heap.size ≤ k) := fun k hk => by
                  have e5 : kk = k := by simpa [Value.ownBlock] using hk
                  subst e5
                  rcases hat with h5 | h5
                  · exact .inl h5
                  · exact .inr (by rw [h5]; exact Nat.le_trans k6.size DW.size)
                have HRZ := mkHid RZ
                clear RZ hk9 BK d2 f2 BB IW KT KT2 OB KM DW ho2 hg2 hat hgc hg
                generalize V10.setCell ⟨D, 2, none⟩ (.slice (some ⟨kk, 0, none⟩) (r.C.length + 1) cap2) = Z at *
                go_wp2_with fail
                go_ret
                exact ⟨by rw [Q1.out]; rfl, ⟨_, _, HRZ.out, hWT.out, HCk.out⟩, kZ, bZ⟩
              · skip
                refine step_appB _ (by rfl) _ _ (by rfl) Y.heap.size (.slice (some ⟨bE, 0, none⟩) 0 0) [] (by rfl) KE ba 512 bc b (by rfl) (HBy.out _ DW) (by simp) DW.size 58 rfl ?_
                intro v1 V11 ho1 hg1
                rw [List.nil_append] at ho1
                have D11 := DW.grown hg1 DW.size (fun j hj => (KE.blk j hj).1)
                obtain ⟨a1, c1, ev1, _⟩ := ho1.isB
                rw [h512] at ev1
                subst ev1
                refine hK.out _ _ trivial (fun hHeld => ?_)
                (try simp only [Act.put]); (try simp only [List.setIfInBounds_toArray]); (try simp only [List.set_cons_zero, List.set_cons_succ])
                have DW := D11
                have OB := ho1
                clear hK K D11 ho1 hg1 KE
                refine takeH (some 59) (i := 9) (v := ?_) rfl (by kernel_rfl) (by kernel_rfl) (by kernel_rfl) (fun _ _ _ h => h) (Or.inl ⟨by rfl, ?_⟩) hHeld rfl ?_
                rotate_left
                · intro w hSw; go_simp; with_reducible rfl
                (try simp only [Act.put]); (try simp only [List.setIfInBounds_toArray]); (try simp only [List.set_cons_zero, List.set_cons_succ])
                refine wpAnyH_ready (rs := [4, 10]) (by kernel_rfl) (by simp) ?_
                refine AllReadyH.cons rfl (fun K hK => ?_) (AllReadyH.cons rfl (fun K hK => ?_) AllReadyH.nil)
                · skip
                  have hL : V11.cell? ⟨D, 2, none⟩ = some (.slice ca r.C.length cc) := (HX6.out.on DW).blk.cell 2
                  go_simp
                  clear hL
                  refine hK.out _ _ trivial (fun hHeld => ?_)
                  (try simp only [Act.put]); (try simp only [List.setIfInBounds_toArray]); (try simp only [List.set_cons_zero, List.set_cons_succ])
                  clear hK K
                  refine wpAnyH_ready (rs := [10]) (by kernel_rfl) (by simp) ?_
                  refine AllReadyH.cons rfl (fun K hK => ?_) AllReadyH.nil
                  go_simp
                  have D13 := DW.alloc DW.size (.cells #[.int .i64 (iN : Int), .slice a1 512 c1] 88)
                  have K13 : Blk (V11.alloc (.cells #[.int .i64 (iN : Int), .slice a1 512 c1] 88)) V11.heap.size 88 [.int .i64 (iN : Int), .slice a1 512 c1] := Blk.newAt V11 _ _ _ _ rfl rfl
                  have O13 := OB.alloc (.cells #[.int .i64 (iN : Int), .slice a1 512 c1] 88)
                  refine hK.out _ _ trivial (fun hHeld => ?_)
                  (try simp only [Act.put]); (try simp only [List.setIfInBounds_toArray]); (try simp only [List.set_cons_zero, List.set_cons_succ])
                  clear hK K DW OB
                  generalize V11.heap.size = bM at *
                  generalize V11.alloc (.cells #[.int .i64 (iN : Int), .slice a1 512 c1] 88) = V13 at *
                  have DW := D13
                  have KM := K13
                  have OB := O13
                  clear D13 K13 O13
                  refine wpAnyH_ready (rs := [11]) (by kernel_rfl) (by simp) ?_
                  refine AllReadyH.cons rfl (fun K hK => ?_) AllReadyH.nil
                  have IW := HX6.out.on DW
                  obtain ⟨g, hg⟩ : ∃ g : Wg, g = ⟨iN, b, a1, c1⟩ := ⟨_, rfl⟩
                  have hgc : wgc g = [.int .i64 (iN : Int), .slice a1 512 c1] := by rw [hg]; unfold wgc; rw [h512]
                  refine step_appGl 78 88 Tryz.underlying78 infoW9 _ (by rfl) _ _ (by rfl) base (.slice ca r.C.length cc) r.C (by rfl) IW.ownC bM g (by rfl) (by rw [hgc]; exact KM) (by omega) (by have := DW.size; omega) 61 rfl ?_
                  intro kk cap2 V14 ho2 hg2 hat
                  have KT : KeepT [88] V13 V14 := (KeepT.refl _ V13).grown IW.ownC hg2 (by simp)
                  have KT2 : KeepE (fun k => k = D ∨ (Value.slice ca r.C.length cc).ownBlock = some k) V13 V14 := (KeepE.refl _ V13).grown hg2 (fun _ h => .inr h)
                  have BK := KT.blk IW.blk (by decide)
                  have d2 : V14.cell? ⟨D, 2, none⟩ = some (.slice ca r.C.length cc) := BK.cell 2
                  have f2 := BK.frozen 2
                  have BB : Below base Y V14 := (DW.mono hby).grown hg2 (by have := DW.size; omega) (fun j hj => (IW.ownC.blk j hj).1)
                  refine hK.out _ _ trivial (fun hHeld => ?_)
                  (try simp only [Act.put]); (try simp only [List.setIfInBounds_toArray]); (try simp only [List.set_cons_zero, List.set_cons_succ])
                  clear hK K
                  refine takeH (some 62) (i := 12) (v := ?_) rfl (by kernel_rfl) (by kernel_rfl) (by kernel_rfl) (fun _ _ _ h => h) (Or.inl ⟨by rfl, ?_⟩) hHeld rfl ?_
                  rotate_left
                  · intro w hSw; go_simp; with_reducible rfl
                  (try simp only [Act.put]); (try simp only [List.setIfInBounds_toArray]); (try simp only [List.set_cons_zero, List.set_cons_succ])
                  refine takeH (some 63) (i := 13) (v := ?_) rfl (by kernel_rfl) (by kernel_rfl) (by kernel_rfl) (fun _ _ _ h => h) (Or.inl ⟨by rfl, ?_⟩) hHeld rfl ?_
                  rotate_left
                  · intro w hSw; go_simp; with_reducible rfl
                  (try simp only [Act.put]); (try simp only [List.setIfInBounds_toArray]); (try simp only [List.set_cons_zero, List.set_cons_succ])
                  refine wpAnyH_ready (rs := [14]) (by kernel_rfl) (by simp) (AllReadyH.cons rfl (fun K hK => ?_) AllReadyH.nil)
                  go_simp
                  refine hK.out _ _ trivial (fun hHeld => ?_)
                  (try simp only [Act.put]); (try simp only [List.setIfInBounds_toArray]); (try simp only [List.set_cons_zero, List.set_cons_succ])
                  clear hK K
                  refine wpAnyH_done (by kernel_rfl) ?_ _
                  refine NoPanic.normal ?_
                  have hk9 : KeepT [81] V14 (V14.setCell ⟨D, 2, none⟩ (.slice (some ⟨kk, 0, none⟩) (r.C.length + 1) cap2)) := (KeepT.refl _ V14).set BK (by simp) 2 _
                  have RZ : IsRD (V14.setCell ⟨D, 2, none⟩ (.slice (some ⟨kk, 0, none⟩) (r.C.length + 1) cap2)) D base { r with left := nextL r, wr := r.wr + 1, C := r.C ++ [g] } vS (.slice (some ⟨kk, 0, none⟩) (r.C.length + 1) cap2) := by
                    have hS9 : OwnG 88 V14 base vS r.S := World.ownsRow.kept IW.ownS hg2 (by
                      by_cases hv : vS.ownBlock = (Value.slice ca r.C.length cc).ownBlock
                      · rcases IW.ownS.2 with ⟨h5, _⟩ | ⟨q, _, _, h5, _⟩
                        · exact .inl (by rw [h5]; rfl)
                        · exact absurd (hv.symm.trans (by rw [h5]; rfl)) (IW.apart q (by rw [h5]; rfl))
                      · exact .inr hv)
                    refine ⟨BK.set 2 _, hlow, own_keep hk9 hS9 (by decide), own_keep hk9 ho2 (by decide), (IW.bS.keep KT (by decide)).keep hk9 (by decide), Bys.append ((IW.bC.keep KT (by decide)).keep hk9 (by decide)) (fun x hx => ?_), fun q hq hq2 => ?_⟩
                    · rw [List.mem_singleton.1 hx, hg]
                      refine ⟨h512, ?_⟩
                      have h7 : OwnB V14 Y.heap.size (.slice a1 512 c1) b := own_keep KT OB (by decide)
                      have h8 : OwnB (V14.setCell ⟨D, 2, none⟩ (.slice (some ⟨kk, 0, none⟩) (r.C.length + 1) cap2)) Y.heap.size (.slice a1 512 c1) b := own_keep hk9 h7 (by decide)
                      show OwnB _ base (.slice a1 b.length c1) b
                      rw [h512]
                      exact h8.base hby
                    · have hkk : kk = q := by simpa [Value.ownBlock] using hq2
                      rcases hat with h5 | h5
                      · exact IW.apart q hq (by rw [h5, hkk])
                      · have := (IW.ownS.blk q hq).2
                        omega
                  have kZ : KeepE (fun k => k = D ∨ (Value.slice ca r.C.length cc).ownBlock = some k) w (V14.setCell ⟨D, 2, none⟩ (.slice (some ⟨kk, 0, none⟩) (r.C.length + 1) cap2)) := ((k6.trans (KeepE.of_below DW)).trans KT2).set BK (.inl rfl) 2 _
                  have bZ : Below base w (V14.setCell ⟨D, 2, none⟩ (.slice (some ⟨kk, 0, none⟩) (r.C.length + 1) cap2)) := (b6.trans BB).setCell (p := ⟨D, 2, none⟩) hlow _
                  have hWT : Hid (WrTo r (iN : Int) b { r with left := nextL r, wr := r.wr + 1, C := r.C ++ [g] }) := .inl ⟨Q1.out, g, by rw [hg]; rfl, by rw [hg], rfl⟩
                  have HCk : Hid (∀ k, (Value.slice (some ⟨kk, 0, none⟩) (r.C.length + 1) cap2).ownBlock = some k → (Value.slice ca r.C.length cc).ownBlock = some k ∨ w.heap.size ≤ k) := fun k hk => by
                    have e5 : kk = k := by simpa [Value.ownBlock] using hk
                    subst e5
                    rcases hat with h5 | h5
                    · exact .inl h5
                    · exact .inr (by rw [h5]; exact Nat.le_trans k6.size DW.size)
                  have HRZ := mkHid RZ
                  clear RZ hk9 BK d2 f2 BB IW KT KT2 OB KM DW ho2 hg2 hat hgc hg
                  generalize V14.setCell ⟨D, 2, none⟩ (.slice (some ⟨kk, 0, none⟩) (r.C.length + 1) cap2) = Z at *
                  go_wp2_with fail
                  go_ret
                  exact ⟨by rw [Q1.out]; rfl, ⟨_, _, HRZ.out, hWT.out, HCk.out⟩, kZ, bZ⟩
                · skip
                  go_simp
                  have D15 := DW.alloc DW.size (.cells #[.int .i64 (iN : Int), .slice a1 512 c1] 88)
                  have K15 : Blk (V11.alloc (.cells #[.int .i64 (iN : Int), .slice a1 512 c1] 88)) V11.heap.size 88 [.int .i64 (iN : Int), .slice a1 512 c1] := Blk.newAt V11 _ _ _ _ rfl rfl
                  have O15 := OB.alloc (.cells #[.int .i64 (iN : Int), .slice a1 512 c1] 88)
                  refine hK.out _ _ trivial (fun hHeld => ?_)
                  (try simp only [Act.put]); (try simp only [List.setIfInBounds_toArray]); (try simp only [List.set_cons_zero, List.set_cons_succ])
                  clear hK K DW OB
                  generalize V11.heap.size = bM at *
                  generalize V11.alloc (.cells #[.int .i64 (iN : Int), .slice a1 512 c1] 88) = V15 at *
                  have DW := D15
                  have KM := K15
                  have OB := O15
                  clear D15 K15 O15
                  refine wpAnyH_ready (rs := [4]) (by kernel_rfl) (by simp) ?_
                  refine AllReadyH.cons rfl (fun K hK => ?_) AllReadyH.nil
                  have hL : V15.cell? ⟨D, 2, none⟩ = some (.slice ca r.C.length cc) := (HX6.out.on DW).blk.cell 2
                  go_simp
                  clear hL
                  refine hK.out _ _ trivial (fun hHeld => ?_)
                  (try simp only [Act.put]); (try simp only [List.setIfInBounds_toArray]); (try simp only [List.set_cons_zero, List.set_cons_succ])
                  clear hK K
                  refine wpAnyH_ready (rs := [11]) (by kernel_rfl) (by simp) ?_
                  refine AllReadyH.cons rfl (fun K hK => ?_) AllReadyH.nil
                  have IW := HX6.out.on DW
                  obtain ⟨g, hg⟩ : ∃ g : Wg, g = ⟨iN, b, a1, c1⟩ := ⟨_, rfl⟩
                  have hgc : wgc g = [.int .i64 (iN : Int), .slice a1 512 c1] := by rw [hg]; unfold wgc; rw [h512]
                  refine step_appGl 78 88 Tryz.underlying78 infoW9 _ (by rfl) _ _ (by rfl) base (.slice ca r.C.length cc) r.C (by rfl) IW.ownC bM g (by rfl) (by rw [hgc]; exact KM) (by omega) (by have := DW.size; omega) 61 rfl ?_
                  intro kk cap2 V17 ho2 hg2 hat
                  have KT : KeepT [88] V15 V17 := (KeepT.refl _ V15).grown IW.ownC hg2 (by simp)
                  have KT2 : KeepE (fun k => k = D ∨ (Value.slice ca r.C.length cc).ownBlock = some k) V15 V17 := (KeepE.refl _ V15).grown hg2 (fun _ h => .inr h)
                  have BK := KT.blk IW.blk (by decide)
                  have d2 : V17.cell? ⟨D, 2, none⟩ = some (.slice ca r.C.length cc) := BK.cell 2
                  have f2 := BK.frozen 2
                  have BB : Below base Y V17 := (DW.mono hby).grown hg2 (by have := DW.size; omega) (fun j hj => (IW.ownC.blk j hj).1)
                  refine hK.out _ _ trivial (fun hHeld => ?_)
                  (try simp only [Act.put]); (try simp only [List.setIfInBounds_toArray]); (try simp only [List.set_cons_zero, List.set_cons_succ])
                  clear hK K
                  refine takeH (some 62) (i := 12) (v := ?_) rfl (by kernel_rfl) (by kernel_rfl) (by kernel_rfl) (fun _ _ _ h => h) (Or.inl ⟨by rfl, ?_⟩) hHeld rfl ?_
                  rotate_left
                  · intro w hSw; go_simp; with_reducible rfl
                  (try simp only [Act.put]); (try simp only [List.setIfInBounds_toArray]); (try simp only [List.set_cons_zero, List.set_cons_succ])
                  refine takeH (some 63) (i := 13) (v := ?_) rfl (by kernel_rfl) (by kernel_rfl) (by kernel_rfl) (fun _ _ _ h => h) (Or.inl ⟨by rfl, ?_⟩) hHeld rfl ?_
                  rotate_left
                  · intro w hSw; go_simp; with_reducible rfl
                  (try simp only [Act.put]); (try simp only [List.setIfInBounds_toArray]); (try simp only [List.set_cons_zero, List.set_cons_succ])
                  refine wpAnyH_ready (rs := [14]) (by kernel_rfl) (by simp) (AllReadyH.cons rfl (fun K hK => ?_) AllReadyH.nil)
                  go_simp
                  refine hK.out _ _ trivial (fun hHeld => ?_)
                  (try simp only [Act.put]); (try simp only [List.setIfInBounds_toArray]); (try simp only [List.set_cons_zero, List.set_cons_succ])
                  clear hK K
                  refine wpAnyH_done (by kernel_rfl) ?_ _
                  refine NoPanic.normal ?_
                  have hk9 : KeepT [81] V17 (V17.setCell ⟨D, 2, none⟩ (.slice (some ⟨kk, 0, none⟩) (r.C.length + 1) cap2)) := (KeepT.refl _ V17).set BK (by simp) 2 _
                  have RZ : IsRD (V17.setCell ⟨D, 2, none⟩ (.slice (some ⟨kk, 0, none⟩) (r.C.length + 1) cap2)) D base { r with left := nextL r, wr := r.wr + 1, C := r.C ++ [g] } vS (.slice (some ⟨kk, 0, none⟩) (r.C.length + 1) cap2) := by
                    have hS9 : OwnG 88 V17 base vS r.S := World.ownsRow.kept IW.ownS hg2 (by
                      by_cases hv : vS.ownBlock = (Value.slice ca r.C.length cc).ownBlock
                      · rcases IW.ownS.2 with ⟨h5, _⟩ | ⟨q, _, _, h5, _⟩
                        · exact .inl (by rw [h5]; rfl)
                        · exact absurd (hv.symm.trans (by rw [h5]; rfl)) (IW.apart q (by rw [h5]; rfl))
                      · exact .inr hv)
                    refine ⟨BK.set 2 _, hlow, own_keep hk9 hS9 (by decide), own_keep hk9 ho2 (by decide), (IW.bS.keep KT (by decide)).keep hk9 (by decide), Bys.append ((IW.bC.keep KT (by decide)).keep hk9 (by decide)) (fun x hx => ?_), fun q hq hq2 => ?_⟩
                    · rw [List.mem_singleton.1 hx, hg]
                      refine ⟨h512, ?_⟩
                      have h7 : OwnB V17 Y.heap.size (.slice a1 512 c1) b := own_keep KT OB (by decide)
                      have h8 : OwnB (V17.setCell ⟨D, 2, none⟩ (.slice (some ⟨kk, 0, none⟩) (r.C.length + 1) cap2)) Y.heap.size (.slice a1 512 c1) b := own_keep hk9 h7 (by decide)
                      show OwnB _ base (.slice a1 b.length c1) b
                      rw [h512]
                      exact h8.base hby
                    · have hkk : kk = q := by simpa [Value.ownBlock] using hq2
                      rcases hat with h5 | h5
                      · exact IW.apart q hq (by rw [h5, hkk])
                      · have := (IW.ownS.blk q hq).2
                        omega
                  have kZ : KeepE (fun k => k = D ∨ (Value.slice ca r.C.length cc).ownBlock = some k) w (V17.setCell ⟨D, 2, none⟩ (.slice (some ⟨kk, 0, none⟩) (r.C.length + 1) cap2)) := ((k6.trans (KeepE.of_below DW)).trans KT2).set BK (.inl rfl) 2 _
                  have bZ : Below base w (V17.setCell ⟨D, 2, none⟩ (.slice (some ⟨kk, 0, none⟩) (r.C.length + 1) cap2)) := (b6.trans BB).setCell (p := ⟨D, 2, none⟩) hlow _
                  have hWT : Hid (WrTo r (iN : Int) b { r with left := nextL r, wr := r.wr + 1, C := r.C ++ [g] }) := .inl ⟨Q1.out, g, by rw [hg]; rfl, by rw [hg], rfl⟩
                  have HCk : Hid (∀ k, (Value.slice (some ⟨kk, 0, none⟩) (r.C.length + 1) cap2).ownBlock = some k → (Value.slice ca r.C.length cc).ownBlock = some k ∨ w.heap.size ≤ k) := fun k hk => by
                    have e5 : kk = k := by simpa [Value.ownBlock] using hk
                    subst e5
                    rcases hat with h5 | h5
                    · exact .inl h5
                    · exact .inr (by rw [h5]; exact Nat.le_trans k6.size DW.size)
                  have HRZ := mkHid RZ
                  clear RZ hk9 BK d2 f2 BB IW KT KT2 OB KM DW ho2 hg2 hat hgc hg
                  generalize V17.setCell ⟨D, 2, none⟩ (.slice (some ⟨kk, 0, none⟩) (r.C.length + 1) cap2) = Z at *
                  go_wp2_with fail
                  go_ret
                  exact ⟨by rw [Q1.out]; rfl, ⟨_, _, HRZ.out, hWT.out, HCk.out⟩, kZ, bZ⟩
          | false =>
            obtain ⟨X, hX⟩ : ∃ X, X = w := ⟨_, rfl⟩
            have X5 : IsRD X D base { r with left := nextL r } vS (.slice ca r.C.length cc) := by rw [hX, HNx.out.2 rfl]; exact HH.out
            have kx : KeepE (fun k => k = D ∨ (Value.slice ca r.C.length cc).ownBlock = some k) w X := by rw [hX]; exact KeepE.refl _ w
            have bx : Below base w X := by rw [hX]; exact Below.refl _ w
            have HX := mkHid X5
            have d6 : X.cell? ⟨D, 6, none⟩ = some (.int .u64 (r.wr : Int)) := X5.blk.cell 6
            have f6 := X5.blk.frozen 6
            clear X5
            go_upto_region 12 with fail
            rw [← hX]
            clear hX
            have hw1 : (r.wr : Int) + 1 ≤ 18446744073709551615 := by omega
            have X6 : IsRD (X.setCell ⟨D, 6, none⟩ (.int .u64 ((r.wr : Int) + 1))) D base { r with left := nextL r, wr := r.wr + 1 } vS (.slice ca r.C.length cc) := HX.out.field 6 _ rfl rfl (.inl ⟨rfl, rfl⟩)
            have k6 : KeepE (fun k => k = D ∨ (Value.slice ca r.C.length cc).ownBlock = some k) w (X.setCell ⟨D, 6, none⟩ (.int .u64 ((r.wr : Int) + 1))) := kx.set HX.out.blk (.inl rfl) 6 _
            have b6 : Below base w (X.setCell ⟨D, 6, none⟩ (.int .u64 ((r.wr : Int) + 1))) := bx.setCell (p := ⟨D, 6, none⟩) hlow _
            have HX6 := mkHid X6
            have hby : base ≤ (X.setCell ⟨D, 6, none⟩ (.int .u64 ((r.wr : Int) + 1))).heap.size := by have := X6.blk.lt; omega
            clear X6 kx bx
            go_upto_region 13 with fail
            generalize X.setCell ⟨D, 6, none⟩ (.int .u64 ((r.wr : Int) + 1)) = Y at *
            have HBy : Hid (∀ W, Below Y.heap.size Y W → IsB W ba 512 bc b) := fun W hW => by
              have := HBs.out W (k6.trans (KeepE.of_below hW)) (b6.trans (hW.mono hby))
              rw [h512] at this; exact this
            clear c3 c4 c5 c6 f3 f5 d6 f6 HX
            refine wp_region_noPanic ?_
            refine wp_region_held_drew (S := fun _ => True) (by kernel_rfl) trivial (fun hHeld => ?_)
            have DW : Below Y.heap.size Y Y.drew := (Below.refl _ Y).drew
            refine takeH (some 50) (i := 0) (v := ?_) rfl (by kernel_rfl) (by kernel_rfl) (by kernel_rfl) (fun _ _ _ h => h) (Or.inl ⟨by rfl, ?_⟩) hHeld rfl ?_
            rotate_left
            · intro w hSw; go_simp; with_reducible rfl
            (try simp only [Act.put]); (try simp only [List.setIfInBounds_toArray]); (try simp only [List.set_cons_zero, List.set_cons_succ])
            refine takeH (some 51) (i := 1) (v := ?_) rfl (by kernel_rfl) (by kernel_rfl) (by kernel_rfl) (fun _ _ _ h => h) (Or.inl ⟨by rfl, ?_⟩) hHeld rfl ?_
            rotate_left
            · intro w hSw; go_simp; with_reducible rfl
            (try simp only [Act.put]); (try simp only [List.setIfInBounds_toArray]); (try simp only [List.set_cons_zero, List.set_cons_succ])
            refine takeH (some 52) (i := 2) (v := ?_) rfl (by kernel_rfl) (by kernel_rfl) (by kernel_rfl) (fun _ _ _ h => h) (Or.inl ⟨by rfl, ?_⟩) hHeld rfl ?_
            rotate_left
            · intro w hSw; go_simp; with_reducible rfl
            (try simp only [Act.put]); (try simp only [List.setIfInBounds_toArray]); (try simp only [List.set_cons_zero, List.set_cons_succ])
            refine takeH (some 53) (i := 3) (v := ?_) rfl (by kernel_rfl) (by kernel_rfl) (by kernel_rfl) (fun _ _ _ h => h) (Or.inl ⟨by rfl, ?_⟩) hHeld rfl ?_
            rotate_left
            · intro w hSw; go_simp; with_reducible rfl
            (try simp only [Act.put]); (try simp only [List.setIfInBounds_toArray]); (try simp only [List.set_cons_zero, List.set_cons_succ])
            refine takeH (some 55) (i := 5) (v := ?_) rfl (by kernel_rfl) (by kernel_rfl) (by kernel_rfl) (fun _ _ _ h => h) (Or.inl ⟨by rfl, ?_⟩) hHeld rfl ?_
            rotate_left
            · intro w hSw; go_simp; with_reducible rfl
            (try simp only [Act.put]); (try simp only [List.setIfInBounds_toArray]); (try simp only [List.set_cons_zero, List.set_cons_succ])
            refine takeH (some 57) (i := 7) (v := ?_) rfl (by kernel_rfl) (by kernel_rfl) (by kernel_rfl) (fun _ _ _ h => h) (Or.inl ⟨by rfl, ?_⟩) hHeld rfl ?_
            rotate_left
            · intro w hSw; go_simp; with_reducible rfl
            (try simp only [Act.put]); (try simp only [List.setIfInBounds_toArray]); (try simp only [List.set_cons_zero, List.set_cons_succ])
            generalize Y.drew = V0 at *
            refine wpAnyH_ready (rs := [4, 6]) (by kernel_rfl) (by simp) ?_
            refine AllReadyH.cons rfl (fun K hK => ?_) (AllReadyH.cons rfl (fun K hK => ?_) AllReadyH.nil)
            · skip
              have hL : V0.cell? ⟨D, 2, none⟩ = some (.slice ca r.C.length cc) := (HX6.out.on DW).blk.cell 2
              go_simp
              clear hL
              refine hK.out _ _ trivial (fun hHeld => ?_)
              (try simp only [Act.put]); (try simp only [List.setIfInBounds_toArray]); (try simp only [List.set_cons_zero, List.set_cons_succ])
              clear hK K
              refine wpAnyH_ready (rs := [6]) (by kernel_rfl) (by simp) ?_
              refine AllReadyH.cons rfl (fun K hK => ?_) AllReadyH.nil
              go_simp
              have D2 := DW.alloc DW.size (.cells #[] 5)
              have K2 : OwnB (V0.alloc (.cells #[] 5)) Y.heap.size (.slice (some ⟨V0.heap.size, 0, none⟩) 0 0) [] := OwnB.empty V0 _ DW.size
              refine hK.out _ _ trivial (fun hHeld => ?_)
              (try simp only [Act.put]); (try simp only [List.setIfInBounds_toArray]); (try simp only [List.set_cons_zero, List.set_cons_succ])
              clear hK K DW
              generalize V0.heap.size = bE at *
              generalize V0.alloc (.cells #[] 5) = V2 at *
              have DW := D2
              have KE := K2
              clear D2 K2
              refine wpAnyH_ready (rs := [8]) (by kernel_rfl) (by simp) ?_
              refine AllReadyH.cons rfl (fun K hK => ?_) AllReadyH.nil
              refine step_appB _ (by rfl) _ _ (by rfl) Y.heap.size (.slice (some ⟨bE, 0, none⟩) 0 0) [] (by rfl) KE ba 512 bc b (by rfl) (HBy.out _ DW) (by simp) DW.size 58 rfl ?_
              intro v1 V3 ho1 hg1
              rw [List.nil_append] at ho1
              have D3 := DW.grown hg1 DW.size (fun j hj => (KE.blk j hj).1)
              obtain ⟨a1, c1, ev1, _⟩ := ho1.isB
              rw [h512] at ev1
              subst ev1
              refine hK.out _ _ trivial (fun hHeld => ?_)
              (try simp only [Act.put]); (try simp only [List.setIfInBounds_toArray]); (try simp only [List.set_cons_zero, List.set_cons_succ])
              have DW := D3
              have OB := ho1
              clear hK K D3 ho1 hg1 KE
              refine takeH (some 59) (i := 9) (v := ?_) rfl (by kernel_rfl) (by kernel_rfl) (by kernel_rfl) (fun _ _ _ h => h) (Or.inl ⟨by rfl, ?_⟩) hHeld rfl ?_
              rotate_left
              · intro w hSw; go_simp; with_reducible rfl
              (try simp only [Act.put]); (try simp only [List.setIfInBounds_toArray]); (try simp only [List.set_cons_zero, List.set_cons_succ])
              refine wpAnyH_ready (rs := [10]) (by kernel_rfl) (by simp) ?_
              refine AllReadyH.cons rfl (fun K hK => ?_) AllReadyH.nil
              go_simp
              have D4 := DW.alloc DW.size (.cells #[.int .i64 (iN : Int), .slice a1 512 c1] 88)
              have K4 : Blk (V3.alloc (.cells #[.int .i64 (iN : Int), .slice a1 512 c1] 88)) V3.heap.size 88 [.int .i64 (iN : Int), .slice a1 512 c1] := Blk.newAt V3 _ _ _ _ rfl rfl
              have O4 := OB.alloc (.cells #[.int .i64 (iN : Int), .slice a1 512 c1] 88)
              refine hK.out _ _ trivial (fun hHeld => ?_)
              (try simp only [Act.put]); (try simp only [List.setIfInBounds_toArray]); (try simp only [List.set_cons_zero, List.set_cons_succ])
              clear hK K DW OB
              generalize V3.heap.size = bM at *
              generalize V3.alloc (.cells #[.int .i64 (iN : Int), .slice a1 512 c1] 88) = V4 at *
              have DW := D4
              have KM := K4
              have OB := O4
              clear D4 K4 O4
              refine wpAnyH_ready (rs := [11]) (by kernel_rfl) (by simp) ?_
              refine AllReadyH.cons rfl (fun K hK => ?_) AllReadyH.nil
              have IW := HX6.out.on DW
              obtain ⟨g, hg⟩ : ∃ g : Wg, g = ⟨iN, b, a1, c1⟩ := ⟨_, rfl⟩
              have hgc : wgc g = [.int .i64 (iN : Int), .slice a1 512 c1] := by rw [hg]; unfold wgc; rw [h512]
              refine step_appGl 78 88 Tryz.underlying78 infoW9 _ (by rfl) _ _ (by rfl) base (.slice ca r.C.length cc) r.C (by rfl) IW.ownC bM g (by rfl) (by rw [hgc]; exact KM) (by omega) (by have := DW.size; omega) 61 rfl ?_
              intro kk cap2 V5 ho2 hg2 hat
              have KT : KeepT [88] V4 V5 := (KeepT.refl _ V4).grown IW.ownC hg2 (by simp)
              have KT2 : KeepE (fun k => k = D ∨ (Value.slice ca r.C.length cc).ownBlock = some k) V4 V5 := (KeepE.refl _ V4).grown hg2 (fun _ h => .inr h)
              have BK := KT.blk IW.blk (by decide)
              have d2 : V5.cell? ⟨D, 2, none⟩ = some (.slice ca r.C.length cc) := BK.cell 2
              have f2 := BK.frozen 2
              have BB : Below base Y V5 := (DW.mono hby).grown hg2 (by have := DW.size; omega) (fun j hj => (IW.ownC.blk j hj).1)
              refine hK.out _ _ trivial (fun hHeld => ?_)
              (try simp only [Act.put]); (try simp only [List.setIfInBounds_toArray]); (try simp only [List.set_cons_zero, List.set_cons_succ])
              clear hK K
              refine takeH (some 62) (i := 12) (v := ?_) rfl (by kernel_rfl) (by kernel_rfl) (by kernel_rfl) (fun _ _ _ h => h) (Or.inl ⟨by rfl, ?_⟩) hHeld rfl ?_
              rotate_left
              · intro w hSw; go_simp; with_reducible rfl
              (try simp only [Act.put]); (try simp only [List.setIfInBounds_toArray]); (try simp only [List.set_cons_zero, List.set_cons_succ])
              refine takeH (some 63) (i := 13) (v := ?_) rfl (by kernel_rfl) (by kernel_rfl) (by kernel_rfl) (fun _ _ _ h => h) (Or.inl ⟨by rfl, ?_⟩) hHeld rfl ?_
              rotate_left
              · intro w hSw; go_simp; with_reducible rfl
              (try simp only [Act.put]); (try simp only [List.setIfInBounds_toArray]); (try simp only [List.set_cons_zero, List.set_cons_succ])
              refine wpAnyH_ready (rs := [14]) (by kernel_rfl) (by simp) (AllReadyH.cons rfl (fun K hK => ?_) AllReadyH.nil)
              go_simp
              refine hK.out _ _ trivial (fun hHeld => ?_)
              (try simp only [Act.put]); (try simp only [List.setIfInBounds_toArray]); (try simp only [List.set_cons_zero, List.set_cons_succ])
              clear hK K
              refine wpAnyH_done (by kernel_rfl) ?_ _
              refine NoPanic.normal ?_
              have hk9 : KeepT [81] V5 (V5.setCell ⟨D, 2, none⟩ (.slice (some ⟨kk, 0, none⟩) (r.C.length + 1) cap2)) := (KeepT.refl _ V5).set BK (by simp) 2 _
              have RZ : IsRD (V5.setCell ⟨D, 2, none⟩ (.slice (some ⟨kk, 0, none⟩) (r.C.length + 1) cap2)) D base { r with left := nextL r, wr := r.wr + 1, C := r.C ++ [g] } vS (.slice (some ⟨kk, 0, none⟩) (r.C.length + 1) cap2) := by
                have hS9 : OwnG 88 V5 base vS r.S := World.ownsRow.kept IW.ownS hg2 (by
                  by_cases hv : vS.ownBlock = (Value.slice ca r.C.length cc).ownBlock
                  · rcases IW.ownS.2 with ⟨h5, _⟩ | ⟨q, _, _, h5, _⟩
                    · exact .inl (by rw [h5]; rfl)
                    · exact absurd (hv.symm.trans (by rw [h5]; rfl)) (IW.apart q (by rw [h5]; rfl))
                  · exact .inr hv)
                refine ⟨BK.set 2 _, hlow, own_keep hk9 hS9 (by decide), own_keep hk9 ho2 (by decide), (IW.bS.keep KT (by decide)).keep hk9 (by decide), Bys.append ((IW.bC.keep KT (by decide)).keep hk9 (by decide)) (fun x hx => ?_), fun q hq hq2 => ?_⟩
                · rw [List.mem_singleton.1 hx, hg]
                  refine ⟨h512, ?_⟩
                  have h7 : OwnB V5 Y.heap.size (.slice a1 512 c1) b := own_keep KT OB (by decide)
                  have h8 : OwnB (V5.setCell ⟨D, 2, none⟩ (.slice (some ⟨kk, 0, none⟩) (r.C.length + 1) cap2)) Y.heap.size (.slice a1 512 c1) b := own_keep hk9 h7 (by decide)
                  show OwnB _ base (.slice a1 b.length c1) b
                  rw [h512]
                  exact h8.base hby
                · have hkk : kk = q := by simpa [Value.ownBlock] using hq2
                  rcases hat with h5 | h5
                  · exact IW.apart q hq (by rw [h5, hkk])
                  · have := (IW.ownS.blk q hq).2
                    omega
              have kZ : KeepE (fun k => k = D ∨ (Value.slice ca r.C.length cc).ownBlock = some k) w (V5.setCell ⟨D, 2, none⟩ (.slice (some ⟨kk, 0, none⟩) (r.C.length + 1) cap2)) := ((k6.trans (KeepE.of_below DW)).trans KT2).set BK (.inl rfl) 2 _
              have bZ : Below base w (V5.setCell ⟨D, 2, none⟩ (.slice (some ⟨kk, 0, none⟩) (r.C.length + 1) cap2)) := (b6.trans BB).setCell (p := ⟨D, 2, none⟩) hlow _
              have hWT : Hid (WrTo r (iN : Int) b { r with left := nextL r, wr := r.wr + 1, C := r.C ++ [g] }) := .inl ⟨Q1.out, g, by rw [hg]; rfl, by rw [hg], rfl⟩
              have HCk : Hid (∀ k, (Value.slice (some ⟨kk, 0, none⟩) (r.C.length + 1) cap2).ownBlock = some k → (Value.slice ca r.C.length cc).ownBlock = some k ∨ w.heap.size ≤ k) := fun k hk => by
                have e5 : kk = k := by simpa [Value.ownBlock] using hk
                subst e5
                rcases hat with h5 | h5
                · exact .inl h5
                · exact .inr (by rw [h5]; exact Nat.le_trans k6.size DW.size)
              have HRZ := mkHid RZ
              clear RZ hk9 BK d2 f2 BB IW KT KT2 OB KM DW ho2 hg2 hat hgc hg
              generalize V5.setCell ⟨D, 2, none⟩ (.slice (some ⟨kk, 0, none⟩) (r.C.length + 1) cap2) = Z at *
              go_wp2_with fail
              go_ret
              exact ⟨by rw [Q1.out]; rfl, ⟨_, _, HRZ.out, hWT.out, HCk.out⟩, kZ, bZ⟩
            · skip
              go_simp
              have D6 := DW.alloc DW.size (.cells #[] 5)
              have K6 : OwnB (V0.alloc (.cells #[] 5)) Y.heap.size (.slice (some ⟨V0.heap.size, 0, none⟩) 0 0) [] := OwnB.empty V0 _ DW.size
              refine hK.out _ _ trivial (fun hHeld => ?_)
              (try simp only [Act.put]); (try simp only [List.setIfInBounds_toArray]); (try simp only [List.set_cons_zero, List.set_cons_succ])
              clear hK K DW
              generalize V0.heap.size = bE at *
              generalize V0.alloc (.cells #[] 5) = V6 at *
              have DW := D6
              have KE := K6
              clear D6 K6
              refine wpAnyH_ready (rs := [4, 8]) (by kernel_rfl) (by simp) ?_
              refine AllReadyH.cons rfl (fun K hK => ?_) (AllReadyH.cons rfl (fun K hK => ?_) AllReadyH.nil)
              · skip
                have hL : V6.cell? ⟨D, 2, none⟩ = some (.slice ca r.C.length cc) := (HX6.out.on DW).blk.cell 2
                go_simp
                clear hL
                refine hK.out _ _ trivial (fun hHeld => ?_)
                (try simp only [Act.put]); (try simp only [List.setIfInBounds_toArray]); (try simp only [List.set_cons_zero, List.set_cons_succ])
                clear hK K
                refine wpAnyH_ready (rs := [8]) (by kernel_rfl) (by simp) ?_
                refine AllReadyH.cons rfl (fun K hK => ?_) AllReadyH.nil
                refine step_appB _ (by rfl) _ _ (by rfl) Y.heap.size (.slice (some ⟨bE, 0, none⟩) 0 0) [] (by rfl) KE ba 512 bc b (by rfl) (HBy.out _ DW) (by simp) DW.size 58 rfl ?_
                intro v1 V8 ho1 hg1
                rw [List.nil_append] at ho1
                have D8 := DW.grown hg1 DW.size (fun j hj => (KE.blk j hj).1)
                obtain ⟨a1, c1, ev1, _⟩ := ho1.isB
                rw [h512] at ev1
                subst ev1
                refine hK.out _ _ trivial (fun hHeld => ?_)
                (try simp only [Act.put]); (try simp only [List.setIfInBounds_toArray]); (try simp only [List.set_cons_zero, List.set_cons_succ])
                have DW := D8
                have OB := ho1
                clear hK K D8 ho1 hg1 KE
                refine takeH (some 59) (i := 9) (v := ?_) rfl (by kernel_rfl) (by kernel_rfl) (by kernel_rfl) (fun _ _ _ h => h) (Or.inl ⟨by rfl, ?_⟩) hHeld rfl ?_
                rotate_left
                · intro w hSw; go_simp; with_reducible rfl
                (try simp only [Act.put]); (try simp only [List.setIfInBounds_toArray]); (try simp only [List.set_cons_zero, List.set_cons_succ])
                refine wpAnyH_ready (rs := [10]) (by kernel_rfl) (by simp) ?_
                refine AllReadyH.cons rfl (fun K hK => ?_) AllReadyH.nil
                go_simp
                have D9 := DW.alloc DW.size (.cells #[.int .i64 (iN : Int), .slice a1 512 c1] 88)
                have K9 : Blk (V8.alloc (.cells #[.int .i64 (iN : Int), .slice a1 512 c1] 88)) V8.heap.size 88 [.int .i64 (iN : Int), .slice a1 512 c1] := Blk.newAt V8 _ _ _ _ rfl rfl
                have O9 := OB.alloc (.cells #[.int .i64 (iN : Int), .slice a1 512 c1] 88)
                refine hK.out _ _ trivial (fun hHeld => ?_)
                (try simp only [Act.put]); (try simp only [List.setIfInBounds_toArray]); (try simp only [List.set_cons_zero, List.set_cons_succ])
                clear hK K DW OB
                generalize V8.heap.size = bM at *
                generalize V8.alloc (.cells #[.int .i64 (iN : Int), .slice a1 512 c1] 88) = V9 at *
                have DW := D9
                have KM := K9
                have OB := O9
                clear D9 K9 O9
                refine wpAnyH_ready (rs := [11]) (by kernel_rfl) (by simp) ?_
                refine AllReadyH.cons rfl (fun K hK => ?_) AllReadyH.nil
                have IW := HX6.out.on DW
                obtain ⟨g, hg⟩ : ∃ g : Wg, g = ⟨iN, b, a1, c1⟩ := ⟨_, rfl⟩
                have hgc : wgc g = [.int .i64 (iN : Int), .slice a1 512 c1] := by rw [hg]; unfold wgc; rw [h512]
                refine step_appGl 78 88 Tryz.underlying78 infoW9 _ (by rfl) _ _ (by rfl) base (.slice ca r.C.length cc) r.C (by rfl) IW.ownC bM g (by rfl) (by rw [hgc]; exact KM) (by omega) (by have := DW.size; omega) 61 rfl ?_
                intro kk cap2 V10 ho2 hg2 hat
                have KT : KeepT [88] V9 V10 := (KeepT.refl _ V9).grown IW.ownC hg2 (by simp)
                have KT2 : KeepE (fun k => k = D ∨ (Value.slice ca r.C.length cc).ownBlock = some k) V9 V10 := (KeepE.refl _ V9).grown hg2 (fun _ h => .inr h)
                have BK := KT.blk IW.blk (by decide)
                have d2 : V10.cell? ⟨D, 2, none⟩ = some (.slice ca r.C.length cc) := BK.cell 2
                have f2 := BK.frozen 2
                have BB : Below base Y V10 := (DW.mono hby).grown hg2 (by have := DW.size; omega) (fun j hj => (IW.ownC.blk j hj).1)
                refine hK.out _ _ trivial (fun hHeld => ?_)
                (try simp only [Act.put]); (try simp only [List.setIfInBounds_toArray]); (try simp only [List.set_cons_zero, List.set_cons_succ])
                clear hK K
                refine takeH (some 62) (i := 12) (v := ?_) rfl (by kernel_rfl) (by kernel_rfl) (by kernel_rfl) (fun _ _ _ h => h) (Or.inl ⟨by rfl, ?_⟩) hHeld rfl ?_
                rotate_left
                · intro w hSw; go_simp; with_reducible rfl
                (try simp only [Act.put]); (try simp only [List.setIfInBounds_toArray]); (try simp only [List.set_cons_zero, List.set_cons_succ])
                refine takeH (some 63) (i := 13) (v := ?_) rfl (by kernel_rfl) (by kernel_rfl) (by kernel_rfl) (fun _ _ _ h => h) (Or.inl ⟨by rfl, ?_⟩) hHeld rfl ?_
                rotate_left
                · intro w hSw; go_simp; with_reducible rfl
                (try simp only [Act.put]); (try simp only [List.setIfInBounds_toArray]); (try simp only [List.set_cons_zero, List.set_cons_succ])
                refine wpAnyH_ready (rs := [14]) (by kernel_rfl) (by simp) (AllReadyH.cons rfl (fun K hK => ?_) AllReadyH.nil)
                go_simp
                refine hK.out _ _ trivial (fun hHeld => ?_)
                (try simp only [Act.put]); (try simp only [List.setIfInBounds_toArray]); (try simp only [List.set_cons_zero, List.set_cons_succ])
                clear hK K
                refine wpAnyH_done (by kernel_rfl) ?_ _
                refine NoPanic.normal ?_
                have hk9 : KeepT [81] V10 (V10.setCell ⟨D, 2, none⟩ (.slice (some ⟨kk, 0, none⟩) (r.C.length + 1) cap2)) := (KeepT.refl _ V10).set BK (by simp) 2 _
                have RZ : IsRD (V10.setCell ⟨D, 2, none⟩ (.slice (some ⟨kk, 0, none⟩) (r.C.length + 1) cap2)) D base { r with left := nextL r, wr := r.wr + 1, C := r.C ++ [g] } vS (.slice (some ⟨kk, 0, none⟩) (r.C.length + 1) cap2) := by
                  have hS9 : OwnG 88 V10 base vS r.S := World.ownsRow.kept IW.ownS hg2 (by
                    by_cases hv : vS.ownBlock = (Value.slice ca r.C.length cc).ownBlock
                    · rcases IW.ownS.2 with ⟨h5, _⟩ | ⟨q, _, _, h5, _⟩
                      · exact .inl (by rw [h5]; rfl)
                      · exact absurd (hv.symm.trans (by rw [h5]; rfl)) (IW.apart q (by rw [h5]; rfl))
                    · exact .inr hv)
                  refine ⟨BK.set 2 _, hlow, own_keep hk9 hS9 (by decide), own_keep hk9 ho2 (by decide), (IW.bS.keep KT (by decide)).keep hk9 (by decide), Bys.append ((IW.bC.keep KT (by decide)).keep hk9 (by decide)) (fun x hx => ?_), fun q hq hq2 => ?_⟩
                  · rw [List.mem_singleton.1 hx, hg]
                    refine ⟨h512, ?_⟩
                    have h7 : OwnB V10 Y.heap.size (.slice a1 512 c1) b := own_keep KT OB (by decide)
                    have h8 : OwnB (V10.setCell ⟨D, 2, none⟩ (.slice (some ⟨kk, 0, none⟩) (r.C.length + 1) cap2)) Y.heap.size (.slice a1 512 c1) b := own_keep hk9 h7 (by decide)
                    show OwnB _ base (.slice a1 b.length c1) b
                    rw [h512]
                    exact h8.base hby
                  · have hkk : kk = q := by simpa [Value.ownBlock] using hq2
                    rcases hat with h5 | h5
                    · exact IW.apart q hq (by rw [h5, hkk])
                    · have := (IW.ownS.blk q hq).2
                      omega
                have kZ : KeepE (fun k => k = D ∨ (Value.slice ca r.C.length cc).ownBlock = some k) w (V10.setCell ⟨D, 2, none⟩ (.slice (some ⟨kk, 0, none⟩) (r.C.length + 1) cap2)) := ((k6.trans (KeepE.of_below DW)).trans KT2).set BK (.inl rfl) 2 _
                have bZ : Below base w (V10.setCell ⟨D, 2, none⟩ (.slice (some ⟨kk, 0, none⟩) (r.C.length + 1) cap2)) := (b6.trans BB).setCell (p := ⟨D, 2, none⟩) hlow _
                have hWT : Hid (WrTo r (iN : Int) b { r with left := nextL r, wr := r.wr + 1, C := r.C ++ [g] }) := .inl ⟨Q1.out, g, by rw [hg]; rfl, by rw [hg], rfl⟩
                have HCk : Hid (∀ k, (Value.slice (some ⟨kk, 0, none⟩) (r.C.length + 1) cap2).ownBlock = some k → (Value.slice ca r.C.length cc).ownBlock = some k ∨ w.heap.size ≤ k) := fun k hk => by
                  have e5 : kk = k := by simpa [Value.ownBlock] using hk
                  subst e5
                  rcases hat with h5 | h5
                  · exact .inl h5
                  · exact .inr (by rw [h5]; exact Nat.le_trans k6.size DW.size)
                have HRZ := mkHid RZ
                clear RZ hk9 BK d2 f2 BB IW KT KT2 OB KM DW ho2 hg2 hat hgc hg
                generalize V10.setCell ⟨D, 2, none⟩ (.slice (some ⟨kk, 0, none⟩) (r.C.length + 1) cap2) = Z at *
                go_wp2_with fail
                go_ret
                exact ⟨by rw [Q1.out]; rfl, ⟨_, _, HRZ.out, hWT.out, HCk.out⟩, kZ, bZ⟩
              · skip
                refine step_appB _ (by rfl) _ _ (by rfl) Y.heap.size (.slice (some ⟨bE, 0, none⟩) 0 0) [] (by rfl) KE ba 512 bc b (by rfl) (HBy.out _ DW) (by simp) DW.size 58 rfl ?_
                intro v1 V11 ho1 hg1
                rw [List.nil_append] at ho1
                have D11 := DW.grown hg1 DW.size (fun j hj => (KE.blk j hj).1)
                obtain ⟨a1, c1, ev1, _⟩ := ho1.isB
                rw [h512] at ev1
                subst ev1
                refine hK.out _ _ trivial (fun hHeld => ?_)
                (try simp only [Act.put]); (try simp only [List.setIfInBounds_toArray]); (try simp only [List.set_cons_zero, List.set_cons_succ])
                have DW := D11
                have OB := ho1
                clear hK K D11 ho1 hg1 KE
                refine takeH (some 59) (i := 9) (v := ?_) rfl (by kernel_rfl) (by kernel_rfl) (by kernel_rfl) (fun _ _ _ h => h) (Or.inl ⟨by rfl, ?_⟩) hHeld rfl ?_
                rotate_left
                · intro w hSw; go_simp; with_reducible rfl
                (try simp only [Act.put]); (try simp only [List.setIfInBounds_toArray]); (try simp only [List.set_cons_zero, List.set_cons_succ])
                refine wpAnyH_ready (rs := [4, 10]) (by kernel_rfl) (by simp) ?_
                refine AllReadyH.cons rfl (fun K hK => ?_) (AllReadyH.cons rfl (fun K hK => ?_) AllReadyH.nil)
                · skip
                  have hL : V11.cell? ⟨D, 2, none⟩ = some (.slice ca r.C.length cc) := (HX6.out.on DW).blk.cell 2
                  go_simp
                  clear hL
                  refine hK.out _ _ trivial (fun hHeld => ?_)
                  (try simp only [Act.put]); (try simp only [List.setIfInBounds_toArray]); (try simp only [List.set_cons_zero, List.set_cons_succ])
                  clear hK K
                  refine wpAnyH_ready (rs := [10]) (by kernel_rfl) (by simp) ?_
                  refine AllReadyH.cons rfl (fun K hK => ?_) AllReadyH.nil
                  go_simp
                  have D13 := DW.alloc DW.size (.cells #[.int .i64 (iN : Int), .slice a1 512 c1] 88)
                  have K13 : Blk (V11.alloc (.cells #[.int .i64 (iN : Int), .slice a1 512 c1] 88)) V11.heap.size 88 [.int .i64 (iN : Int), .slice a1 512 c1] := Blk.newAt V11 _ _ _ _ rfl rfl
                  have O13 := OB.alloc (.cells #[.int .i64 (iN : Int), .slice a1 512 c1] 88)
                  refine hK.out _ _ trivial (fun hHeld => ?_)
                  (try simp only [Act.put]); (try simp only [List.setIfInBounds_toArray]); (try simp only [List.set_cons_zero, List.set_cons_succ])
                  clear hK K DW OB
                  generalize V11.heap.size = bM at *
                  generalize V11.alloc (.cells #[.int .i64 (iN : Int), .slice a1 512 c1] 88) = V13 at *
                  have DW := D13
                  have KM := K13
                  have OB := O13
                  clear D13 K13 O13
                  refine wpAnyH_ready (rs := [11]) (by kernel_rfl) (by simp) ?_
                  refine AllReadyH.cons rfl (fun K hK => ?_) AllReadyH.nil
                  have IW := HX6.out.on DW
                  obtain ⟨g, hg⟩ : ∃ g : Wg, g = ⟨iN, b, a1, c1⟩ := ⟨_, rfl⟩
                  have hgc : wgc g = [.int .i64 (iN : Int), .slice a1 512 c1] := by rw [hg]; unfold wgc; rw [h512]
                  refine step_appGl 78 88 Tryz.underlying78 infoW9 _ (by rfl) _ _ (by rfl) base (.slice ca r.C.length cc) r.C (by rfl) IW.ownC bM g (by rfl) (by rw [hgc]; exact KM) (by omega) (by have := DW.size; omega) 61 rfl ?_
                  intro kk cap2 V14 ho2 hg2 hat
                  have KT : KeepT [88] V13 V14 := (KeepT.refl _ V13).grown IW.ownC hg2 (by simp)
                  have KT2 : KeepE (fun k => k = D ∨ (Value.slice ca r.C.length cc).ownBlock = some k) V13 V14 := (KeepE.refl _ V13).grown hg2 (fun _ h => .inr h)
                  have BK := KT.blk IW.blk (by decide)
                  have d2 : V14.cell? ⟨D, 2, none⟩ = some (.slice ca r.C.length cc) := BK.cell 2
                  have f2 := BK.frozen 2
                  have BB : Below base Y V14 := (DW.mono hby).grown hg2 (by have := DW.size; omega) (fun j hj => (IW.ownC.blk j hj).1)
                  refine hK.out _ _ trivial (fun hHeld => ?_)
                  (try simp only [Act.put]); (try simp only [List.setIfInBounds_toArray]); (try simp only [List.set_cons_zero, List.set_cons_succ])
                  clear hK K
                  refine takeH (some 62) (i := 12) (v := ?_) rfl (by kernel_rfl) (by kernel_rfl) (by kernel_rfl) (fun _ _ _ h => h) (Or.inl ⟨by rfl, ?_⟩) hHeld rfl ?_
                  rotate_left
                  · intro w hSw; go_simp; with_reducible rfl
                  (try simp only [Act.put]); (try simp only [List.setIfInBounds_toArray]); (try simp only [List.set_cons_zero, List.set_cons_succ])
                  refine takeH (some 63) (i := 13) (v := ?_) rfl (by kernel_rfl) (by kernel_rfl) (by kernel_rfl) (fun _ _ _ h => h) (Or.inl ⟨by rfl, ?_⟩) hHeld rfl ?_
                  rotate_left
                  · intro w hSw; go_simp; with_reducible rfl
                  (try simp only [Act.put]); (try simp only [List.setIfInBounds_toArray]); (try simp only [List.set_cons_zero, List.set_cons_succ])
                  refine wpAnyH_ready (rs := [14]) (by kernel_rfl) (by simp) (AllReadyH.cons rfl (fun K hK => ?_) AllReadyH.nil)
                  go_simp
                  refine hK.out _ _ trivial (fun hHeld => ?_)
                  (try simp only [Act.put]); (try simp only [List.setIfInBounds_toArray]); (try simp only [List.set_cons_zero, List.set_cons_succ])
                  clear hK K
                  refine wpAnyH_done (by kernel_rfl) ?_ _
                  refine NoPanic.normal ?_
                  have hk9 : KeepT [81] V14 (V14.setCell ⟨D, 2, none⟩ (.slice (some ⟨kk, 0, none⟩) (r.C.length + 1) cap2)) := (KeepT.refl _ V14).set BK (by simp) 2 _
                  have RZ : IsRD (V14.setCell ⟨D, 2, none⟩ (.slice (some ⟨kk, 0, none⟩) (r.C.length + 1) cap2)) D base { r with left := nextL r, wr := r.wr + 1, C := r.C ++ [g] } vS (.slice (some ⟨kk, 0, none⟩) (r.C.length + 1) cap2) := by
                    have hS9 : OwnG 88 V14 base vS r.S := World.ownsRow.kept IW.ownS hg2 (by
                      by_cases hv : vS.ownBlock = (Value.slice ca r.C.length cc).ownBlock
                      · rcases IW.ownS.2 with ⟨h5, _⟩ | ⟨q, _, _, h5, _⟩
                        · exact .inl (by rw [h5]; rfl)
                        · exact absurd (hv.symm.trans (by rw [h5]; rfl)) (IW.apart q (by rw [h5]; rfl))
                      · exact .inr hv)
                    refine ⟨BK.set 2 _, hlow, own_keep hk9 hS9 (by decide), own_keep hk9 ho2 (by decide), (IW.bS.keep KT (by decide)).keep hk9 (by decide), Bys.append ((IW.bC.keep KT (by decide)).keep hk9 (by decide)) (fun x hx => ?_), fun q hq hq2 => ?_⟩
                    · rw [List.mem_singleton.1 hx, hg]
                      refine ⟨h512, ?_⟩
                      have h7 : OwnB V14 Y.heap.size (.slice a1 512 c1) b := own_keep KT OB (by decide)
                      have h8 : OwnB (V14.setCell ⟨D, 2, none⟩ (.slice (some ⟨kk, 0, none⟩) (r.C.length + 1) cap2)) Y.heap.size (.slice a1 512 c1) b := own_keep hk9 h7 (by decide)
                      show OwnB _ base (.slice a1 b.length c1) b
                      rw [h512]
                      exact h8.base hby
                    · have hkk : kk = q := by simpa [Value.ownBlock] using hq2
                      rcases hat with h5 | h5
                      · exact IW.apart q hq (by rw [h5, hkk])
                      · have := (IW.ownS.blk q hq).2
                        omega
                  have kZ : KeepE (fun k => k = D ∨ (Value.slice ca r.C.length cc).ownBlock = some k) w (V14.setCell ⟨D, 2, none⟩ (.slice (some ⟨kk, 0, none⟩) (r.C.length + 1) cap2)) := ((k6.trans (KeepE.of_below DW)).trans KT2).set BK (.inl rfl) 2 _
                  have bZ : Below base w (V14.setCell ⟨D, 2, none⟩ (.slice (some ⟨kk, 0, none⟩) (r.C.length + 1) cap2)) := (b6.trans BB).setCell (p := ⟨D, 2, none⟩) hlow _
                  have hWT : Hid (WrTo r (iN : Int) b { r with left := nextL r, wr := r.wr + 1, C := r.C ++ [g] }) := .inl ⟨Q1.out, g, by rw [hg]; rfl, by rw [hg], rfl⟩
                  have HCk : Hid (∀ k, (Value.slice (some ⟨kk, 0, none⟩) (r.C.length + 1) cap2).ownBlock = some k → (Value.slice ca r.C.length cc).ownBlock = some k ∨ w.heap.size ≤ k) := fun k hk => by
                    have e5 : kk = k := by simpa [Value.ownBlock] using hk
                    subst e5
                    rcases hat with h5 | h5
                    · exact .inl h5
                    · exact .inr (by rw [h5]; exact Nat.le_trans k6.size DW.size)
                  have HRZ := mkHid RZ
                  clear RZ hk9 BK d2 f2 BB IW KT KT2 OB KM DW ho2 hg2 hat hgc hg
                  generalize V14.setCell ⟨D, 2, none⟩ (.slice (some ⟨kk, 0, none⟩) (r.C.length + 1) cap2) = Z at *
                  go_wp2_with fail
                  go_ret
                  exact ⟨by rw [Q1.out]; rfl, ⟨_, _, HRZ.out, hWT.out, HCk.out⟩, kZ, bZ⟩
                · skip
                  go_simp
                  have D15 := DW.alloc DW.size (.cells #[.int .i64 (iN : Int), .slice a1 512 c1] 88)
                  have K15 : Blk (V11.alloc (.cells #[.int .i64 (iN : Int), .slice a1 512 c1] 88)) V11.heap.size 88 [.int .i64 (iN : Int), .slice a1 512 c1] := Blk.newAt V11 _ _ _ _ rfl rfl
                  have O15 := OB.alloc (.cells #[.int .i64 (iN : Int), .slice a1 512 c1] 88)
                  refine hK.out _ _ trivial (fun hHeld => ?_)
                  (try simp only [Act.put]); (try simp only [List.setIfInBounds_toArray]); (try simp only [List.set_cons_zero, List.set_cons_succ])
                  clear hK K DW OB
                  generalize V11.heap.size = bM at *
                  generalize V11.alloc (.cells #[.int .i64 (iN : Int), .slice a1 512 c1] 88) = V15 at *
                  have DW := D15
                  have KM := K15
                  have OB := O15
                  clear D15 K15 O15
                  refine wpAnyH_ready (rs := [4]) (by kernel_rfl) (by simp) ?_
                  refine AllReadyH.cons rfl (fun K hK => ?_) AllReadyH.nil
                  have hL : V15.cell? ⟨D, 2, none⟩ = some (.slice ca r.C.length cc) := (HX6.out.on DW).blk.cell 2
                  go_simp
                  clear hL
                  refine hK.out _ _ trivial (fun hHeld => ?_)
                  (try simp only [Act.put]); (try simp only [List.setIfInBounds_toArray]); (try simp only [List.set_cons_zero, List.set_cons_succ])
                  clear hK K
                  refine wpAnyH_ready (rs := [11]) (by kernel_rfl) (by simp) ?_
                  refine AllReadyH.cons rfl (fun K hK => ?_) AllReadyH.nil
                  have IW := HX6.out.on DW
                  obtain ⟨g, hg⟩ : ∃ g : Wg, g = ⟨iN, b, a1, c1⟩ := ⟨_, rfl⟩
                  have hgc : wgc g = [.int .i64 (iN : Int), .slice a1 512 c1] := by rw [hg]; unfold wgc; rw [h512]
                  refine step_appGl 78 88 Tryz.underlying78 infoW9 _ (by rfl) _ _ (by rfl) base (.slice ca r.C.length cc) r.C (by rfl) IW.ownC bM g (by rfl) (by rw [hgc]; exact KM) (by omega) (by have := DW.size; omega) 61 rfl ?_
                  intro kk cap2 V17 ho2 hg2 hat
                  have KT : KeepT [88] V15 V17 := (KeepT.refl _ V15).grown IW.ownC hg2 (by simp)
                  have KT2 : KeepE (fun k => k = D ∨ (Value.slice ca r.C.length cc).ownBlock = some k) V15 V17 := (KeepE.refl _ V15).grown hg2 (fun _ h => .inr h)
                  have BK := KT.blk IW.blk (by decide)
                  have d2 : V17.cell? ⟨D, 2, none⟩ = some (.slice ca r.C.length cc) := BK.cell 2
                  have f2 := BK.frozen 2
                  have BB : Below base Y V17 := (DW.mono hby).grown hg2 (by have := DW.size; omega) (fun j hj => (IW.ownC.blk j hj).1)
                  refine hK.out _ _ trivial (fun hHeld => ?_)
                  (try simp only [Act.put]); (try simp only [List.setIfInBounds_toArray]); (try simp only [List.set_cons_zero, List.set_cons_succ])
                  clear hK K
                  refine takeH (some 62) (i := 12) (v := ?_) rfl (by kernel_rfl) (by kernel_rfl) (by kernel_rfl) (fun _ _ _ h => h) (Or.inl ⟨by rfl, ?_⟩) hHeld rfl ?_
                  rotate_left
                  · intro w hSw; go_simp; with_reducible rfl
                  (try simp only [Act.put]); (try simp only [List.setIfInBounds_toArray]); (try simp only [List.set_cons_zero, List.set_cons_succ])
                  refine takeH (some 63) (i := 13) (v := ?_) rfl (by kernel_rfl) (by kernel_rfl) (by kernel_rfl) (fun _ _ _ h => h) (Or.inl ⟨by rfl, ?_⟩) hHeld rfl ?_
                  rotate_left
                  · intro w hSw; go_simp; with_reducible rfl
                  (try simp only [Act.put]); (try simp only [List.setIfInBounds_toArray]); (try simp only [List.set_cons_zero, List.set_cons_succ])
                  refine wpAnyH_ready (rs := [14]) (by kernel_rfl) (by simp) (AllReadyH.cons rfl (fun K hK => ?_) AllReadyH.nil)
                  go_simp
                  refine hK.out _ _ trivial (fun hHeld => ?_)
                  (try simp only [Act.put]); (try simp only [List.setIfInBounds_toArray]); (try simp only [List.set_cons_zero, List.set_cons_succ])
                  clear hK K
                  refine wpAnyH_done (by kernel_rfl) ?_ _
                  refine NoPanic.normal ?_
                  have hk9 : KeepT [81] V17 (V17.setCell ⟨D, 2, none⟩ (.slice (some ⟨kk, 0, none⟩) (r.C.length + 1) cap2)) := (KeepT.refl _ V17).set BK (by simp) 2 _
                  have RZ : IsRD (V17.setCell ⟨D, 2, none⟩ (.slice (some ⟨kk, 0, none⟩) (r.C.length + 1) cap2)) D base { r with left := nextL r, wr := r.wr + 1, C := r.C ++ [g] } vS (.slice (some ⟨kk, 0, none⟩) (r.C.length + 1) cap2) := by
                    have hS9 : OwnG 88 V17 base vS r.S := World.ownsRow.kept IW.ownS hg2 (by
                      by_cases hv : vS.ownBlock = (Value.slice ca r.C.length cc).ownBlock
                      · rcases IW.ownS.2 with ⟨h5, _⟩ | ⟨q, _, _, h5, _⟩
                        · exact .inl (by rw [h5]; rfl)
                        · exact absurd (hv.symm.trans (by rw [h5]; rfl)) (IW.apart q (by rw [h5]; rfl))
                      · exact .inr hv)
                    refine ⟨BK.set 2 _, hlow, own_keep hk9 hS9 (by decide), own_keep hk9 ho2 (by decide), (IW.bS.keep KT (by decide)).keep hk9 (by decide), Bys.append ((IW.bC.keep KT (by decide)).keep hk9 (by decide)) (fun x hx => ?_), fun q hq hq2 => ?_⟩
                    · rw [List.mem_singleton.1 hx, hg]
                      refine ⟨h512, ?_⟩
                      have h7 : OwnB V17 Y.heap.size (.slice a1 512 c1) b := own_keep KT OB (by decide)
                      have h8 : OwnB (V17.setCell ⟨D, 2, none⟩ (.slice (some ⟨kk, 0, none⟩) (r.C.length + 1) cap2)) Y.heap.size (.slice a1 512 c1) b := own_keep hk9 h7 (by decide)
                      show OwnB _ base (.slice a1 b.length c1) b
                      rw [h512]
                      exact h8.base hby
                    · have hkk : kk = q := by simpa [Value.ownBlock] using hq2
                      rcases hat with h5 | h5
                      · exact IW.apart q hq (by rw [h5, hkk])
                      · have := (IW.ownS.blk q hq).2
                        omega
                  have kZ : KeepE (fun k => k = D ∨ (Value.slice ca r.C.length cc).ownBlock = some k) w (V17.setCell ⟨D, 2, none⟩ (.slice (some ⟨kk, 0, none⟩) (r.C.length + 1) cap2)) := ((k6.trans (KeepE.of_below DW)).trans KT2).set BK (.inl rfl) 2 _
                  have bZ : Below base w (V17.setCell ⟨D, 2, none⟩ (.slice (some ⟨kk, 0, none⟩) (r.C.length + 1) cap2)) := (b6.trans BB).setCell (p := ⟨D, 2, none⟩) hlow _
                  have hWT : Hid (WrTo r (iN : Int) b { r with left := nextL r, wr := r.wr + 1, C := r.C ++ [g] }) := .inl ⟨Q1.out, g, by rw [hg]; rfl, by rw [hg], rfl⟩
                  have HCk : Hid (∀ k, (Value.slice (some ⟨kk, 0, none⟩) (r.C.length + 1) cap2).ownBlock = some k → (Value.slice ca r.C.length cc).ownBlock = some k ∨ w.heap.size ≤ k) := fun k hk => by
                    have e5 : kk = k := by simpa [Value.ownBlock] using hk
                    subst e5
                    rcases hat with h5 | h5
                    · exact .inl h5
                    · exact .inr (by rw [h5]; exact Nat.le_trans k6.size DW.size)
                  have HRZ := mkHid RZ
                  clear RZ hk9 BK d2 f2 BB IW KT KT2 OB KM DW ho2 hg2 hat hgc hg
                  generalize V17.setCell ⟨D, 2, none⟩ (.slice (some ⟨kk, 0, none⟩) (r.C.length + 1) cap2) = Z at *
                  go_wp2_with fail
                  go_ret
                  exact ⟨by rw [Q1.out]; rfl, ⟨_, _, HRZ.out, hWT.out, HCk.out⟩, kZ, bZ⟩
      · have Q1 : Hid (wrE r i b = 1) := by unfold Hid wrE; rw [ho, hb, if_neg (by simp), if_neg (by simp), if_pos h512]
        have HW : Hid (WrTo r i b r) := .inr (.inr ⟨by rw [Q1.out]; decide, .inr (.inr h512), rfl⟩)
        have hbz : ((b.length : Int) == 512) = false := by rw [beq_eq_false_iff_ne]; omega
        have hbz' : ¬ (b.length : Int) = 512 := by omega
        clear ho hb
        go_enter Tryz.func38, Tryz.ntmps38
        go_wp2_with fail
        refine HI.mono ?_
        rintro e w' ⟨rfl, hw⟩
        obtain rfl := hw.symm
        go_wp2_with fail
        go_ret
        exact ⟨by rw [Q1.out]; rfl, ⟨r, vC, HH.out, HW.out, fun _ h => .inl h⟩, KeepE.refl _ _, Below.refl _ _⟩

theorem IsRD.eD {w : World} {D base : Nat} {r : Rd} {vS vC : Value} (h : IsRD w D base r vS vC) : ∀ k, k = D → k < w.heap.size → ∃ c t fz, w.heap[k]? = some (.cells c t fz) ∧ t ∈ [81, 88] := fun k e _ => by
  subst e; exact ⟨_, _, _, h.blk, by simp⟩
theorem IsRD.eC {w : World} {D base : Nat} {r : Rd} {vS vC : Value} (h : IsRD w D base r vS vC) : ∀ k, k = D ∨ vC.ownBlock = some k → k < w.heap.size → ∃ c t fz, w.heap[k]? = some (.cells c t fz) ∧ t ∈ [81, 88] := fun k e hl => by
  rcases e with e | e
  · exact h.eD k e hl
  · rcases h.ownC.2 with ⟨h1, _⟩ | ⟨g, cap, cur, h1, _, hg, _⟩
    · rw [h1] at e; cases e
    · rw [h1] at e
      have e2 : g = k := by simpa [Value.ownBlock] using e
      subst e2
      exact ⟨_, _, _, hg, by simp⟩
theorem refFlush9 (D base : Nat) (r : Rd) (vS vC : Value) (w : World) (h : IsRD w D base r vS vC) (hf : r.S.length + r.C.length ≤ 1000000) (hfl : r.fl ≤ 1000000000) :
    Calls Tryz.prog 39 #[.pointer (some ⟨D, 0, none⟩)] w fun e w' => e = .returned (.int .i64 (flE r)) ∧ (∃ vS' vC', IsRD w' D base (flushR r) vS' vC') ∧ KeepT [81, 88] w w' ∧ Below base w w' :=
  (refFlush9E D base r vS vC w h hf hfl).mono fun _ _ ⟨h1, ⟨a, h2, _⟩, h3, h4⟩ => ⟨h1, ⟨a, _, h2⟩, h3.toT h.eD, h4⟩
theorem refWrite9 (D base : Nat) (r : Rd) (vS vC : Value) (i : Int) (ba : Option Addr) (bc : Nat) (b : List UInt8) (w : World) (h : IsRD w D base r vS vC) (hf : r.C.length ≤ 1000000) (hwr : r.wr ≤ 1000000000) (hl : r.left ≤ 9223372036854775807)
    (hbs : ∀ W, KeepT [81, 88] w W → Below base w W → IsB W ba b.length bc b) (hbl : b.length ≤ 140737488351232) :
    Calls Tryz.prog 38 #[.pointer (some ⟨D, 0, none⟩), .int .i64 i, .slice ba b.length bc] w fun e w' => e = .returned (.int .i64 (wrE r i b)) ∧ (∃ r' vC', IsRD w' D base r' vS vC' ∧ WrTo r i b r') ∧ KeepT [81, 88] w w' ∧ Below base w w' :=
  (refWrite9E D base r vS vC i ba bc b w h hf hwr hl (fun W hW => hbs W (hW.toT h.eC)) hbl).mono fun _ _ ⟨h1, ⟨r', vC', h2, h2b, _⟩, h3, h4⟩ => ⟨h1, ⟨r', vC', h2, h2b⟩, h3.toT h.eC, h4⟩
end Go.Proofs.YthjdmfbengpepaaGreat
