/- The program's transaction: Write, its walk. -/
import Derived.Test.YthjdmfbengpepaaGreatB35
namespace Go.Proofs.YthjdmfbengpepaaGreat
open Go.RowKit Go.Maps
attribute [local go_sem ↓] zvJ arrJ

set_option maxRecDepth 20000 in
set_option maxHeartbeats 2000000 in
theorem codTWrite (w : World) (T J P base : Nat) (t : Tl) (j : Jl) (M : Nat) (tr : Bool) (i : Int) (ba : Option Addr) (bc : Nat) (b : List UInt8) (h : TAt w T J P base t j M tr) (hl : t.l.length ≤ 48) (hn : j.p.n ≤ 4096) (hi0 : -9223372036854775808 ≤ i) (hi1 : i ≤ 9223372036854775807) (hB : IsB w ba b.length bc b) :
    Calls Tryz.prog 133 #[.pointer (some ⟨T, 0, none⟩), .int .i64 i, .slice ba b.length bc] w (TwPost w T J P base t j i b) := by
  have c0 : w.cell? ⟨T, 0, none⟩ = some (.pointer (some ⟨J, 0, none⟩)) := h.blk.cell 0
  have c1 : w.cell? ⟨T, 1, none⟩ = some (.map (some M)) := h.blk.cell 1
  have c5 : w.cell? ⟨T, 5, none⟩ = some (.bool tr) := h.blk.cell 5
  have HT := mkHid h
  have HBy := mkHid hB
  clear hB
  cases tr with
  | true =>
    have HZ : Hid (t.wrE j i b = 51 ∧ t.write j i b = t) := wr51 (by
      cases hd : j.dead with
      | true => exact .inr rfl
      | false => exact .inl (h.over hd).symm)
    clear h
    go_enter Tryz.func133, Tryz.ntmps133
    go_wp2_with fail
    go_ret
    exact twNo HT.out HZ.out (Below.refl _ _)
  | false =>
  have HLo := atLoadAt J 2 j.dead w (h.ja.blk.cell 2)
  cases hd : j.dead with
  | true =>
    have HZ : Hid (t.wrE j i b = 51 ∧ t.write j i b = t) := wr51 (.inr hd)
    rw [hd] at HLo
    clear h
    go_enter Tryz.func133, Tryz.ntmps133
    go_wp2_with fail
    refine HLo.mono ?_
    rintro e w1 ⟨rfl, rfl⟩
    go_wp2_with fail
    go_ret
    exact twNo HT.out HZ.out (Below.refl _ _)
  | false =>
  have hov : ¬ (t.over = true ∨ j.dead = true) := by rw [← h.over hd, hd]; simp
  have HZi := codJSize w J P base j h.ja
  have HA := codInArea i j.p.n w
  rw [hd] at HLo
  cases ha : areaI j.p.n i with
  | false =>
    have HZ := mkHid (wr50 (b := b) hov ha)
    rw [ha] at HA
    clear h hov hn
    generalize j.p.n = n at *
    go_enter Tryz.func133, Tryz.ntmps133
    go_wp2_with fail
    refine HLo.mono ?_
    rintro e w1 ⟨rfl, rfl⟩
    go_wp2_with fail
    refine HZi.mono ?_
    rintro e w2 ⟨rfl, hw2⟩
    obtain rfl := hw2.symm
    go_wp2_with fail
    refine HA.mono ?_
    rintro e w3 ⟨rfl, hw3⟩
    obtain rfl := hw3.symm
    go_wp2_with fail
    go_ret
    exact twNo HT.out HZ.out (Below.refl _ _)
  | true =>
  rw [ha] at HA
  by_cases hb5 : b.length = 512
  · have hlk := lookOk h.own hi0 hi1
    have hhit : hitQ t.l i.toNat = (Tl.find t.l i).isSome := by
      have ha2 : 49 ≤ i ∧ i < j.p.n := by unfold areaI at ha; exact of_decide_eq_true ha
      have := hit_find t.l i.toNat h.sort
      rwa [Int.toNat_of_nonneg (by omega)] at this
    obtain ⟨C, hC, hCs, hCa⟩ : ∃ C : Array Value, (Tl.find t.l i).elim (.agg zSec.toArray) secV = .agg C ∧ C.size = 512 ∧ C.all (·.oneCell') = true := by
      cases hfd : Tl.find t.l i with
      | none => exact ⟨_, rfl, by rw [List.size_toArray, zSec_length], zAll⟩
      | some b0 => exact ⟨_, rfl, by rw [List.size_toArray, bv_length, find_len hfd h.ok], bvAll9 b0⟩
    rw [hC, ← hhit] at hlk
    have HRw : Hid (Blk (w.alloc (.cells zSec.toArray 168)) w.heap.size 168 zSec) := Blk.new w _ _
    have hS6 : (Tryz.prog.info? 168).map (·.size) = some C.size := by rw [hCs]; exact infoJ
    have hS7 : zSec.toArray.size = C.size := by rw [hCs, List.size_toArray, zSec_length]
    have HS67 := mkHid (And.intro hS6 (And.intro hS7 hCa))
    have HD1 : Hid (Below w.heap.size w ((w.alloc (.cells zSec.toArray 168)).setRow w.heap.size C)) := bel_row ((Below.refl _ w).alloc (Nat.le_refl _) _) (Nat.le_refl _) _
    have HAr := mkHid ha
    have HN4 := mkHid hn
    have H5 := mkHid hb5
    obtain ⟨bb, bo, rfl⟩ : ∃ bb bo, ba = some ⟨bb, bo, none⟩ := by
      obtain ⟨x, y, e, _⟩ := HBy.out.cells (by omega)
      exact ⟨x, y, e⟩
    have hbz : (b.length : Int) = 512 := by omega
    have hlen : (t.l.length : Int) ≤ 48 := by omega
    have hhz : hitQ t.l i.toNat = false ∧ 48 ≤ t.l.length → _ := wr44 (b := b) hov ha hb5
    have hhy : ¬ (hitQ t.l i.toNat = false ∧ 48 ≤ t.l.length) → _ := wr00 (b := b) hov ha hb5
    have HKi : Hid (Lit.int .i64 i = keyQ i.toNat) := by
      have ha2 : 49 ≤ i ∧ i < j.p.n := by unfold areaI at ha; exact of_decide_eq_true ha
      unfold Hid keyQ
      rw [Int.toNat_of_nonneg (by omega)]
    have HL48 := mkHid hl
    have HLn := (ownM_on h.own HD1.out).len Tryz.underlying170 3
    rw [mapD_size] at HLn
    have hd1 : ((w.alloc (.cells zSec.toArray 168)).setRow w.heap.size C).cell? ⟨T, 1, none⟩ = some (.map (some M)) := (HD1.out.cell (p := ⟨T, 1, none⟩) (cell_lt c1)).trans c1
    rw [hb5] at HBy ⊢
    clear h hC hCs hCa hS6 hS7 hhit ha hn hov hbz hb5
    generalize hitQ t.l i.toNat = hit at *
    obtain ⟨n, hn⟩ : ∃ n, n = j.p.n := ⟨_, rfl⟩
    rw [← hn] at HZi HA
    clear hn
    cases hit with
    | true =>
      have HZ := mkHid (hhy (fun e => by cases e.1))
      clear hhy hhz
      go_enter Tryz.func133, Tryz.ntmps133
      go_wp2_with fail
      refine HLo.mono ?_
      rintro e w1 ⟨rfl, hw1⟩
      obtain rfl := hw1.symm
      go_wp2_with fail
      refine HZi.mono ?_
      rintro e w2 ⟨rfl, hw2⟩
      obtain rfl := hw2.symm
      go_wp2_with fail
      refine HA.mono ?_
      rintro e w3 ⟨rfl, hw3⟩
      obtain rfl := hw3.symm
      go_upto_region 12 with (refine wpList_store_row rfl 168 _ _ rfl w.heap.size C rfl rfl _ _ HRw.out HS67.out.1 HS67.out.2.1 HS67.out.2.2 ?_)
      clear HRw HS67
      generalize (w.alloc (.cells zSec.toArray 168)).setRow w.heap.size C = W1 at *
      have k1 : W1.cell? ⟨T, 1, none⟩ = some (.map (some M)) := (HD1.out.cell (p := ⟨T, 1, none⟩) (cell_lt c1)).trans c1
      have HRg : Hid (W1.rangeAt bb bo (bv b)) := isB_range (HBy.out.below HD1.out rfl) (by omega)
      have HUp : Hid (∃ w9, (Instr.mapUpdate 170 (.map (some M)) (.int .i64 i) (secV b)).run Tryz.prog W1.drew = .ok () w9 ∧ w9.ownsMap Tryz.prog 3 secR M (t.l.length + 1) ((mapD t.l).put (keyQ i.toNat) (.held (secV b))) ∧ W1.grownBy w9 (some M)) := by
        have hu := (ownM_on HT.out.own HD1.out).drew.update (Maps.int_keyed Tryz.underlying3) Tryz.underlying170 (by unfold maxLen; have := HL48.out; omega) (keyI hi0 hi1) (val := secV b) (d := .held (secV b)) (ps := []) rfl
        rw [HKi.out] at hu
        obtain ⟨w9, q1, q2, q3⟩ := hu
        exact ⟨w9, q1, q2, ⟨q3.1, q3.2, q3.3, q3.4, fun k hk hne => q3.5 k hk hne⟩⟩
      have HSd : Hid (∀ w9, W1.grownBy w9 (some M) → w9.cell? ⟨T, 1, none⟩ = some (.map (some M)) ∧ w9.rangeAt bb bo (bv b)) := fun w9 hg => by
        have hko := map_keepO (ownM_on HT.out.own HD1.out) hg
        obtain ⟨cc, ty, fz, hcc⟩ := range_lt HRg.out (by rw [bv_length, H5.out]; omega)
        refine ⟨((hko [179]).blk (HT.out.on HD1.out).blk (by simp)).cell 1, fun k v hv => ?_⟩
        have h1 := HRg.out k v hv
        have h2 := (hko [ty]).same bb cc ty fz hcc (by simp)
        rw [← h1]
        unfold World.cell?
        rw [h2, hcc]
      clear c0 c1 c5 hlk HLo HZi HA HLn
      refine wp_region_noPanic ?_
      refine wp_region_held_drew (S := fun w' => w'.cell? ⟨T, 1, none⟩ = some (.map (some M)) ∧ w'.rangeAt bb bo (bv b)) (by kernel_rfl) ⟨k1, HRg.out⟩ (fun hHeld => ?_)
      refine takeH (some 54) (i := 0) (v := ?_) rfl (by kernel_rfl) (by kernel_rfl) (by kernel_rfl) (fun _ _ _ h => h) (Or.inl ⟨by rfl, ?_⟩) hHeld rfl ?_
      rotate_left
      · intro w hSw; have hS1 := hSw.1; go_simp; with_reducible rfl
      (try simp only [Act.put]); (try simp only [List.setIfInBounds_toArray]); (try simp only [List.set_cons_zero, List.set_cons_succ])
      refine takeH (some 55) (i := 1) (v := ?_) rfl (by kernel_rfl) (by kernel_rfl) (by kernel_rfl) (fun _ _ _ h => h) (Or.inl ⟨by rfl, ?_⟩) hHeld rfl ?_
      rotate_left
      · intro w hSw; have hS1 := hSw.1; go_simp; with_reducible rfl
      (try simp only [Act.put]); (try simp only [List.setIfInBounds_toArray]); (try simp only [List.set_cons_zero, List.set_cons_succ])
      refine takeH (some 56) (i := 2) (v := ?_) rfl (by kernel_rfl) (by kernel_rfl) (by kernel_rfl) (fun _ _ _ h => h) (Or.inl ⟨by rfl, ?_⟩) hHeld rfl ?_
      rotate_left
      · intro w hSw; have hS1 := hSw.1; go_simp; with_reducible rfl
      (try simp only [Act.put]); (try simp only [List.setIfInBounds_toArray]); (try simp only [List.set_cons_zero, List.set_cons_succ])
      refine takeH (some 57) (i := 3) (v := ?_) rfl (by kernel_rfl) (by kernel_rfl) (by kernel_rfl) (fun _ _ _ h => h) (Or.inl ⟨by rfl, ?_⟩) hHeld rfl ?_
      rotate_left
      · intro w hSw; have hS1 := hSw.1; go_simp; with_reducible rfl
      (try simp only [Act.put]); (try simp only [List.setIfInBounds_toArray]); (try simp only [List.set_cons_zero, List.set_cons_succ])
      refine takeH (some 58) (i := 4) (v := ?_) rfl (by kernel_rfl) (by kernel_rfl) (by kernel_rfl) (fun _ _ _ h => h) (Or.inl ⟨by rfl, ?_⟩) hHeld rfl ?_
      rotate_left
      · intro w hSw; have hS1 := hSw.1; go_simp; with_reducible rfl
      (try simp only [Act.put]); (try simp only [List.setIfInBounds_toArray]); (try simp only [List.set_cons_zero, List.set_cons_succ])
      refine takeH (some 59) (i := 5) (v := ?_) rfl (by kernel_rfl) (by kernel_rfl) (by kernel_rfl) (fun _ _ _ h => h) (Or.inl ⟨by rfl, ?_⟩) hHeld rfl ?_
      rotate_left
      · intro w hSw; have hS1 := hSw.1; go_simp; with_reducible rfl
      (try simp only [Act.put]); (try simp only [List.setIfInBounds_toArray]); (try simp only [List.set_cons_zero, List.set_cons_succ])
      refine takeH (some 60) (i := 6) (v := ?_) rfl (by kernel_rfl) (by kernel_rfl) (by kernel_rfl) (fun _ _ _ h => h) (Or.inl ⟨by rfl, ?_⟩) hHeld rfl ?_
      rotate_left
      · intro w hSw; have hS1 := hSw.1; go_simp; with_reducible rfl
      (try simp only [Act.put]); (try simp only [List.setIfInBounds_toArray]); (try simp only [List.set_cons_zero, List.set_cons_succ])
      refine takeH (some 61) (i := 7) (v := .agg (bv b).toArray) rfl (by kernel_rfl) (by kernel_rfl) (by kernel_rfl) (fun _ _ _ h => h) (yieldsIf_load_mid (by rfl) 168 (.tmp 60) (by rfl) bb bo (by rfl) (bv b) _ (fun w1 hw1 => hw1.2) Tryz.underlying168 rfl (infoJOf H5.out)) hHeld rfl ?_
      (try simp only [Act.put]); (try simp only [List.setIfInBounds_toArray]); (try simp only [List.set_cons_zero, List.set_cons_succ])
      obtain ⟨w9, hrun, hM9, hg9⟩ := HUp.out
      refine oneH 8 rfl (by kernel_rfl) (by rfl) (stepMapUp (.tmp 57) (.tmp 58) (.tmp 61) 170 rfl (vm := .map (some M)) (key := .int .i64 i) (val := secV b) rfl rfl rfl hrun none rfl ⟨?_, ?_⟩)
      · exact HSd.out w9 hg9
      · refine wpAnyH_done (by kernel_rfl) ?_ _
        refine NoPanic.normal ?_
        have HP := mkHid (twYes HT.out HD1.out HZ.out HAr.out HN4.out H5.out hM9 hg9)
        clear hM9 hg9 hrun
        (try simp only [Act.put]); (try simp only [List.setIfInBounds_toArray]); (try simp only [List.set_cons_zero, List.set_cons_succ])
        go_wp2_with fail
        go_ret
        exact HP.out
    | false =>
      obtain ⟨ln, hln⟩ : ∃ ln, ln = t.l.length := ⟨_, rfl⟩
      rw [← hln] at HLn hlen hl
      by_cases h48 : ln = 48
      · have HZ := mkHid (hhz ⟨rfl, by omega⟩)
        have h48z : (ln : Int) = 48 := by omega
        clear hhy hhz hln
        rw [h48z] at HLn
        clear h48 h48z hlen
        go_enter Tryz.func133, Tryz.ntmps133
        go_wp2_with fail
        refine HLo.mono ?_
        rintro e w1 ⟨rfl, hw1⟩
        obtain rfl := hw1.symm
        go_wp2_with fail
        refine HZi.mono ?_
        rintro e w2 ⟨rfl, hw2⟩
        obtain rfl := hw2.symm
        go_wp2_with fail
        refine HA.mono ?_
        rintro e w3 ⟨rfl, hw3⟩
        obtain rfl := hw3.symm
        go_wp2_with (refine wpList_store_row rfl 168 _ _ rfl w.heap.size C rfl rfl _ _ HRw.out HS67.out.1 HS67.out.2.1 HS67.out.2.2 ?_)
        go_ret
        exact twNo HT.out HZ.out HD1.out
      · have HZ := mkHid (hhy (fun e => by have := e.2; omega))
        have h48z : ¬ (ln : Int) = 48 := by omega
        clear hhy hhz hln
        go_enter Tryz.func133, Tryz.ntmps133
        go_wp2_with fail
        refine HLo.mono ?_
        rintro e w1 ⟨rfl, hw1⟩
        obtain rfl := hw1.symm
        go_wp2_with fail
        refine HZi.mono ?_
        rintro e w2 ⟨rfl, hw2⟩
        obtain rfl := hw2.symm
        go_wp2_with fail
        refine HA.mono ?_
        rintro e w3 ⟨rfl, hw3⟩
        obtain rfl := hw3.symm
        go_upto_region 12 with (refine wpList_store_row rfl 168 _ _ rfl w.heap.size C rfl rfl _ _ HRw.out HS67.out.1 HS67.out.2.1 HS67.out.2.2 ?_)
        clear HRw HS67
        generalize (w.alloc (.cells zSec.toArray 168)).setRow w.heap.size C = W1 at *
        have k1 : W1.cell? ⟨T, 1, none⟩ = some (.map (some M)) := (HD1.out.cell (p := ⟨T, 1, none⟩) (cell_lt c1)).trans c1
        have HRg : Hid (W1.rangeAt bb bo (bv b)) := isB_range (HBy.out.below HD1.out rfl) (by omega)
        have HUp : Hid (∃ w9, (Instr.mapUpdate 170 (.map (some M)) (.int .i64 i) (secV b)).run Tryz.prog W1.drew = .ok () w9 ∧ w9.ownsMap Tryz.prog 3 secR M (t.l.length + 1) ((mapD t.l).put (keyQ i.toNat) (.held (secV b))) ∧ W1.grownBy w9 (some M)) := by
          have hu := (ownM_on HT.out.own HD1.out).drew.update (Maps.int_keyed Tryz.underlying3) Tryz.underlying170 (by unfold maxLen; have := HL48.out; omega) (keyI hi0 hi1) (val := secV b) (d := .held (secV b)) (ps := []) rfl
          rw [HKi.out] at hu
          obtain ⟨w9, q1, q2, q3⟩ := hu
          exact ⟨w9, q1, q2, ⟨q3.1, q3.2, q3.3, q3.4, fun k hk hne => q3.5 k hk hne⟩⟩
        have HSd : Hid (∀ w9, W1.grownBy w9 (some M) → w9.cell? ⟨T, 1, none⟩ = some (.map (some M)) ∧ w9.rangeAt bb bo (bv b)) := fun w9 hg => by
          have hko := map_keepO (ownM_on HT.out.own HD1.out) hg
          obtain ⟨cc, ty, fz, hcc⟩ := range_lt HRg.out (by rw [bv_length, H5.out]; omega)
          refine ⟨((hko [179]).blk (HT.out.on HD1.out).blk (by simp)).cell 1, fun k v hv => ?_⟩
          have h1 := HRg.out k v hv
          have h2 := (hko [ty]).same bb cc ty fz hcc (by simp)
          rw [← h1]
          unfold World.cell?
          rw [h2, hcc]
        clear c0 c1 c5 hlk HLo HZi HA HLn
        refine wp_region_noPanic ?_
        refine wp_region_held_drew (S := fun w' => w'.cell? ⟨T, 1, none⟩ = some (.map (some M)) ∧ w'.rangeAt bb bo (bv b)) (by kernel_rfl) ⟨k1, HRg.out⟩ (fun hHeld => ?_)
        refine takeH (some 54) (i := 0) (v := ?_) rfl (by kernel_rfl) (by kernel_rfl) (by kernel_rfl) (fun _ _ _ h => h) (Or.inl ⟨by rfl, ?_⟩) hHeld rfl ?_
        rotate_left
        · intro w hSw; have hS1 := hSw.1; go_simp; with_reducible rfl
        (try simp only [Act.put]); (try simp only [List.setIfInBounds_toArray]); (try simp only [List.set_cons_zero, List.set_cons_succ])
        refine takeH (some 55) (i := 1) (v := ?_) rfl (by kernel_rfl) (by kernel_rfl) (by kernel_rfl) (fun _ _ _ h => h) (Or.inl ⟨by rfl, ?_⟩) hHeld rfl ?_
        rotate_left
        · intro w hSw; have hS1 := hSw.1; go_simp; with_reducible rfl
        (try simp only [Act.put]); (try simp only [List.setIfInBounds_toArray]); (try simp only [List.set_cons_zero, List.set_cons_succ])
        refine takeH (some 56) (i := 2) (v := ?_) rfl (by kernel_rfl) (by kernel_rfl) (by kernel_rfl) (fun _ _ _ h => h) (Or.inl ⟨by rfl, ?_⟩) hHeld rfl ?_
        rotate_left
        · intro w hSw; have hS1 := hSw.1; go_simp; with_reducible rfl
        (try simp only [Act.put]); (try simp only [List.setIfInBounds_toArray]); (try simp only [List.set_cons_zero, List.set_cons_succ])
        refine takeH (some 57) (i := 3) (v := ?_) rfl (by kernel_rfl) (by kernel_rfl) (by kernel_rfl) (fun _ _ _ h => h) (Or.inl ⟨by rfl, ?_⟩) hHeld rfl ?_
        rotate_left
        · intro w hSw; have hS1 := hSw.1; go_simp; with_reducible rfl
        (try simp only [Act.put]); (try simp only [List.setIfInBounds_toArray]); (try simp only [List.set_cons_zero, List.set_cons_succ])
        refine takeH (some 58) (i := 4) (v := ?_) rfl (by kernel_rfl) (by kernel_rfl) (by kernel_rfl) (fun _ _ _ h => h) (Or.inl ⟨by rfl, ?_⟩) hHeld rfl ?_
        rotate_left
        · intro w hSw; have hS1 := hSw.1; go_simp; with_reducible rfl
        (try simp only [Act.put]); (try simp only [List.setIfInBounds_toArray]); (try simp only [List.set_cons_zero, List.set_cons_succ])
        refine takeH (some 59) (i := 5) (v := ?_) rfl (by kernel_rfl) (by kernel_rfl) (by kernel_rfl) (fun _ _ _ h => h) (Or.inl ⟨by rfl, ?_⟩) hHeld rfl ?_
        rotate_left
        · intro w hSw; have hS1 := hSw.1; go_simp; with_reducible rfl
        (try simp only [Act.put]); (try simp only [List.setIfInBounds_toArray]); (try simp only [List.set_cons_zero, List.set_cons_succ])
        refine takeH (some 60) (i := 6) (v := ?_) rfl (by kernel_rfl) (by kernel_rfl) (by kernel_rfl) (fun _ _ _ h => h) (Or.inl ⟨by rfl, ?_⟩) hHeld rfl ?_
        rotate_left
        · intro w hSw; have hS1 := hSw.1; go_simp; with_reducible rfl
        (try simp only [Act.put]); (try simp only [List.setIfInBounds_toArray]); (try simp only [List.set_cons_zero, List.set_cons_succ])
        refine takeH (some 61) (i := 7) (v := .agg (bv b).toArray) rfl (by kernel_rfl) (by kernel_rfl) (by kernel_rfl) (fun _ _ _ h => h) (yieldsIf_load_mid (by rfl) 168 (.tmp 60) (by rfl) bb bo (by rfl) (bv b) _ (fun w1 hw1 => hw1.2) Tryz.underlying168 rfl (infoJOf H5.out)) hHeld rfl ?_
        (try simp only [Act.put]); (try simp only [List.setIfInBounds_toArray]); (try simp only [List.set_cons_zero, List.set_cons_succ])
        obtain ⟨w9, hrun, hM9, hg9⟩ := HUp.out
        refine oneH 8 rfl (by kernel_rfl) (by rfl) (stepMapUp (.tmp 57) (.tmp 58) (.tmp 61) 170 rfl (vm := .map (some M)) (key := .int .i64 i) (val := secV b) rfl rfl rfl hrun none rfl ⟨?_, ?_⟩)
        · exact HSd.out w9 hg9
        · refine wpAnyH_done (by kernel_rfl) ?_ _
          refine NoPanic.normal ?_
          have HP := mkHid (twYes HT.out HD1.out HZ.out HAr.out HN4.out H5.out hM9 hg9)
          clear hM9 hg9 hrun
          (try simp only [Act.put]); (try simp only [List.setIfInBounds_toArray]); (try simp only [List.set_cons_zero, List.set_cons_succ])
          go_wp2_with fail
          go_ret
          exact HP.out
  · have HZ := mkHid (wr1 (b := b) hov ha hb5)
    have hb6 : ¬ (b.length : Int) = 512 := by omega
    clear h hov hn ha
    generalize j.p.n = n at *
    generalize hbn : b.length = bn at *
    clear hbn
    go_enter Tryz.func133, Tryz.ntmps133
    go_wp2_with fail
    refine HLo.mono ?_
    rintro e w1 ⟨rfl, rfl⟩
    go_wp2_with fail
    refine HZi.mono ?_
    rintro e w2 ⟨rfl, hw2⟩
    obtain rfl := hw2.symm
    go_wp2_with fail
    refine HA.mono ?_
    rintro e w3 ⟨rfl, hw3⟩
    obtain rfl := hw3.symm
    go_wp2_with fail
    go_ret
    exact twNo HT.out HZ.out (Below.refl _ _)
end Go.Proofs.YthjdmfbengpepaaGreat
