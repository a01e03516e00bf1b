/- The program's disk: Crash. (Made by mkpcrash9.py.) -/
import Derived.Test.YtacnoagjcacniaaGreatPd8
namespace Go.Proofs.YtacnoagjcacniaaGreat
open Go.RowKit
attribute [local go_sem ↓] zvWr

theorem kept_nil (l : List (Nat × List UInt8)) : Pl.kept l [] = [] := by cases l <;> rfl
theorem keptQ (l : List (Nat × List UInt8)) (ks : List Bool) (k : Nat) (h : k < l.length) : Pl.kept (l.take (k + 1)) ks = Pl.kept (l.take k) ks ++ (if ks.getD k false = true then [nthQ l k] else []) := by
  induction l generalizing ks k with
  | nil => simp at h
  | cons g l ih =>
    cases ks with
    | nil => rw [kept_nil, kept_nil]; simp
    | cons b ks =>
      cases k with
      | zero => cases b <;> simp [Pl.kept, nthQ]
      | succ k =>
        have h2 := ih ks k (by simpa using h)
        rw [List.take_succ_cons, List.take_succ_cons, Pl.kept, Pl.kept, h2]
        cases b <;> simp [nthQ]

set_option maxRecDepth 20000 in
set_option maxHeartbeats 4000000 in
theorem codCrash (X : Nat → Prop) (w : World) (P base : Nat) (p : Pl) (ka : Option Addr) (kc : Nat) (ks : List Bool) (h : IsD X w P base p) (hf : FewP p) (hkl : ks.length ≤ 140737488351232) (hks : ∀ W, KeepB X w W → Below base w W → IsKs W ka ks.length kc ks) :
    Calls Tryz.prog 27 #[.pointer (some ⟨P, 0, none⟩), .slice ka ks.length kc] w fun e w' => (∃ x, e = .returned x) ∧ IsD X w' P base (p.crash ks) ∧ KeepB X w w' ∧ Below base w w' := by
  obtain ⟨S, vC, arm, h⟩ := h
  have HH := mkHid h
  have HF := mkHid hf
  have HKs := mkHid hks
  clear h hf hks
  obtain ⟨ca, cc, hvC, hle, hmx, hnl, hcs⟩ := HH.out.ca.form (fun g hg => (HF.out.at_ g hg).2)
  subst hvC
  have c1 : w.cell? ⟨P, 1, none⟩ = some (.slice ca p.ca.length cc) := HH.out.blk.cell 1
  obtain ⟨n, hn⟩ : ∃ n, n = p.ca.length := ⟨_, rfl⟩
  have HN := mkHid hn
  have hn6 : n ≤ 1000000 := by rw [hn]; exact HF.out.ca
  rw [← hn] at c1 HH
  obtain ⟨N, hN⟩ : ∃ N, N = p.n := ⟨_, rfl⟩
  have HNN := mkHid hN
  have hN4 : N ≤ 4096 := by rw [hN]; exact HF.out.n
  have HI0 : Hid (IsPd X w P base S (.slice ca n cc) arm { p with st := (Pl.kept (p.ca.take 0) ks).foldl Pl.put p.st }) := HH.out
  obtain ⟨kn, hkn0⟩ : ∃ kn, kn = ks.length := ⟨_, rfl⟩
  have HKn := mkHid hkn0
  rw [← hkn0] at hkl HKs ⊢
  clear hn hN hle hmx hnl hcs hkn0
  go_enter Tryz.func27, Tryz.ntmps27
  go_wp2_with fail
  go_loopw [13] (fun kv wr => ∃ k : Nat, k ≤ n ∧ kv = .int .i64 (k : Int) ∧ Hid (IsPd X wr P base S (.slice ca n cc) arm { p with st := (Pl.kept (p.ca.take k) ks).foldl Pl.put p.st }) ∧ Hid (KeepB X w wr) ∧ Hid (Below base w wr)) (fun kv _ => n - (intOf kv).toNat)
  case atStart => exact ⟨0, Nat.zero_le _, rfl, HI0, KeepB.refl _ _, Below.refl _ _⟩
  case round =>
    obtain ⟨k, hk, rfl, HI, HK, HB⟩ := hrel
    by_cases hlt : k < n
    · have HkL : Hid (k < p.ca.length) := by unfold Hid; rw [← HN.out]; exact hlt
      obtain ⟨ca', cc', ev, _, _, _, hcs⟩ := HI.out.ca.form (fun g hg => (HF.out.at_ g hg).2)
      obtain ⟨g, eg, _, _, hr⟩ := hcs (by have := HkL.out; show 0 < p.ca.length; omega)
      have hcag : ca = some ⟨g, 0, none⟩ := by injection ev with e1; rw [e1, eg]
      subst hcag
      have HRg := mkHid (hr k HkL.out)
      have HQ := mkHid (HF.out.at_ _ (nthQ_mem p.ca k HkL.out))
      have HFo := mkHid (keptQ p.ca ks k HkL.out)
      clear hr hcs ev eg
      have hk0 : (0 : Int) ≤ (k : Int) := by omega
      have hkn : (k : Int) < (n : Int) := by omega
      generalize hq : nthQ p.ca k = q at *
      clear hq
      have HS5 : Hid ((Tryz.prog.info? 108).map (·.size) = some (wq q).length) := by unfold Hid; rw [wq_length HQ.out.2]; exact infoWr
      have HS6 : Hid ((Tryz.prog.info? 108).map (·.size) = some (wq q).toArray.size) := HS5.out
      have HS7 : Hid (zWr.toArray.size = (wq q).toArray.size) := by unfold Hid; rw [List.size_toArray, List.size_toArray, zWr_length, wq_length HQ.out.2]
      have HBn : Hid (Blk (wr.alloc (.cells zWr.toArray 108)) wr.heap.size 108 zWr) := Blk.new wr _ _
      have HDZ : Hid (Below wr.heap.size wr ((wr.alloc (.cells zWr.toArray 108)).setRow wr.heap.size (wq q).toArray)) := bel_row ((Below.refl _ wr).alloc (Nat.le_refl _) _) (Nat.le_refl _) _
      have HBZ : Hid (Blk ((wr.alloc (.cells zWr.toArray 108)).setRow wr.heap.size (wq q).toArray) wr.heap.size 108 (wq q)) := HBn.out.row _
      go_upto_region 4 with (first | (refine wpList_load_mid rfl 108 _ rfl g (k * 513) rfl (wq q) _ HRg.out Tryz.underlying108 rfl HS5.out ?_) | (refine wpList_store_row rfl 108 _ _ rfl wr.heap.size (wq q).toArray rfl rfl _ _ HBn.out HS6.out HS7.out (all_oneCell_toArray (wq_one q)) ?_))
      generalize (wr.alloc (.cells zWr.toArray 108)).setRow wr.heap.size (wq q).toArray = Z at *
      have HZ := mkHid (HI.out.on HDZ.out)
      have HKZ : Hid (KeepB X w Z) := HK.out.trans (KeepB.of_below HDZ.out)
      have HBeZ : Hid (Below base w Z) := HB.out.trans (HDZ.out.mono (by have := HI.out.low; have := HI.out.blk.lt; omega))
      clear HDZ HBn HS5 HS6 HS7 HRg HI HK HB
      generalize wr.heap.size = R at *
      have HIs := mkHid (HKs.out Z HKZ.out HBeZ.out)
      by_cases hkk : k < kn
      · have hkk' : (k : Int) < (kn : Int) := by omega
        obtain ⟨kb, koff, rfl, hkc⟩ := HIs.out.cells (by omega)
        have hkcell := hkc k hkk
        clear hkc HIs
        obtain ⟨t, ht⟩ : ∃ t, t = ks.getD k false := ⟨_, rfl⟩
        have HT0 := mkHid ht
        rw [← ht] at hkcell
        clear ht
        cases t with
        | true =>
          have HT1 : Hid (ks.getD k false = true) := HT0.out.symm
          go_upto_region 5 with fail
          obtain ⟨f1, f2, f3, f4, f5⟩ := settle_facts HZ.out HQ.out.1 HQ.out.2 HBZ.out
          have f3' : IsPd X (Z.drew.setCells S (q.1 * 512) (bv q.2).toArray.toList) P base S (.slice (some ⟨g, 0, none⟩) n cc) arm { p with st := (Pl.kept (p.ca.take (k + 1)) ks).foldl Pl.put p.st } := by rw [HFo.out, if_pos HT1.out, List.foldl_append]; exact f3
          have zc0 : Z.drew.cell? ⟨P, 0, none⟩ = some (.slice (some ⟨S, 0, none⟩) N N) := by rw [HNN.out]; exact HZ.out.blk.cell 0
          have zr := range_data (Blk.whole (w := Z.drew) HBZ.out)
          obtain ⟨zr0, zr1⟩ := zr
          rw [Nat.zero_add] at zr1
          have H512 := mkHid HQ.out.2
          have hq1 : (q.1 : Int) < (N : Int) := by rw [HNN.out]; have := HQ.out.1; simpa using this
          have hq0 : (0 : Int) ≤ (q.1 : Int) := by omega
          have f2' : (Z.drew.setCells S (q.1 * 512) (bv q.2).toArray.toList).cell? ⟨P, 0, none⟩ = some (.slice (some ⟨S, 0, none⟩) N N) := by rw [HNN.out]; exact f2.1
          have HTh := mkHid f1
          have HF0 := mkHid (And.intro f2' f2.2)
          have HI3 := mkHid f3'
          have HK3 : Hid (KeepB X w (Z.drew.setCells S (q.1 * 512) (bv q.2).toArray.toList)) := HKZ.out.trans f4
          have HB3 : Hid (Below base w (Z.drew.setCells S (q.1 * 512) (bv q.2).toArray.toList)) := HBeZ.out.trans f5
          clear f1 f2 f3 f3' f4 f5 f2' HKZ HBeZ HBZ HFo HQ
          generalize q.1 = q1 at *
          generalize q.2 = q2 at *
          refine wp_region_noPanic ?_
          refine wp_region_held_drew (S := fun w' => w'.cell? ⟨P, 0, none⟩ = some (.slice (some ⟨S, 0, none⟩) N N) ∧ w'.cell? ⟨R, 0, none⟩ = some (.int .i64 (q1 : Int)) ∧ w'.rangeAt R 1 (bv q2)) (by kernel_rfl) ⟨zc0, zr0, zr1⟩ (fun hHeld => ?_)
          refine takeH (some 28) (i := 0) (v := ?_) rfl (by kernel_rfl) (by kernel_rfl) (by kernel_rfl) (fun _ _ _ h => h) (Or.inl ⟨by rfl, ?_⟩) hHeld rfl ?_
          rotate_left
          · intro w hSw; obtain ⟨hS1, hS2, hS3⟩ := hSw; go_simp; with_reducible rfl
          (try simp only [Act.put]); (try simp only [List.setIfInBounds_toArray]); (try simp only [List.set_cons_zero, List.set_cons_succ])
          refine takeH (some 29) (i := 1) (v := ?_) rfl (by kernel_rfl) (by kernel_rfl) (by kernel_rfl) (fun _ _ _ h => h) (Or.inl ⟨by rfl, ?_⟩) hHeld rfl ?_
          rotate_left
          · intro w hSw; obtain ⟨hS1, hS2, hS3⟩ := hSw; go_simp; with_reducible rfl
          (try simp only [Act.put]); (try simp only [List.setIfInBounds_toArray]); (try simp only [List.set_cons_zero, List.set_cons_succ])
          refine takeH (some 30) (i := 2) (v := ?_) rfl (by kernel_rfl) (by kernel_rfl) (by kernel_rfl) (fun _ _ _ h => h) (Or.inl ⟨by rfl, ?_⟩) hHeld rfl ?_
          rotate_left
          · intro w hSw; obtain ⟨hS1, hS2, hS3⟩ := hSw; go_simp; with_reducible rfl
          (try simp only [Act.put]); (try simp only [List.setIfInBounds_toArray]); (try simp only [List.set_cons_zero, List.set_cons_succ])
          refine takeH (some 31) (i := 3) (v := ?_) rfl (by kernel_rfl) (by kernel_rfl) (by kernel_rfl) (fun _ _ _ h => h) (Or.inl ⟨by rfl, ?_⟩) hHeld rfl ?_
          rotate_left
          · intro w hSw; obtain ⟨hS1, hS2, hS3⟩ := hSw; go_simp; with_reducible rfl
          (try simp only [Act.put]); (try simp only [List.setIfInBounds_toArray]); (try simp only [List.set_cons_zero, List.set_cons_succ])
          refine takeH (some 32) (i := 4) (v := ?_) rfl (by kernel_rfl) (by kernel_rfl) (by kernel_rfl) (fun _ _ _ h => h) (Or.inl ⟨by rfl, ?_⟩) hHeld rfl ?_
          rotate_left
          · intro w hSw; obtain ⟨hS1, hS2, hS3⟩ := hSw; go_simp; with_reducible rfl
          (try simp only [Act.put]); (try simp only [List.setIfInBounds_toArray]); (try simp only [List.set_cons_zero, List.set_cons_succ])
          refine takeH (some 33) (i := 5) (v := ?_) rfl (by kernel_rfl) (by kernel_rfl) (by kernel_rfl) (fun _ _ _ h => h) (Or.inl ⟨by rfl, ?_⟩) hHeld rfl ?_
          rotate_left
          · intro w hSw; obtain ⟨hS1, hS2, hS3⟩ := hSw; go_simp; with_reducible rfl
          (try simp only [Act.put]); (try simp only [List.setIfInBounds_toArray]); (try simp only [List.set_cons_zero, List.set_cons_succ])
          refine takeH (some 34) (i := 6) (v := ?_) rfl (by kernel_rfl) (by kernel_rfl) (by kernel_rfl) (fun _ _ _ h => h) (Or.inl ⟨by rfl, ?_⟩) hHeld rfl ?_
          rotate_left
          · intro w hSw; obtain ⟨hS1, hS2, hS3⟩ := hSw; go_simp; with_reducible rfl
          (try simp only [Act.put]); (try simp only [List.setIfInBounds_toArray]); (try simp only [List.set_cons_zero, List.set_cons_succ])
          refine takeH (some 35) (i := 7) (v := .agg (bv q2).toArray) rfl (by kernel_rfl) (by kernel_rfl) (by kernel_rfl) (fun _ _ _ h => h) (yieldsIf_load_mid (by rfl) 106 (.tmp 34) (by rfl) R 1 (by rfl) (bv q2) _ (fun w1 hw1 => hw1.2.2) Tryz.underlying106 rfl (infoSecOf H512.out)) hHeld rfl ?_
          (try simp only [Act.put]); (try simp only [List.setIfInBounds_toArray]); (try simp only [List.set_cons_zero, List.set_cons_succ])
          refine takeH (some 36) (i := 8) (v := ?_) rfl (by kernel_rfl) (by kernel_rfl) (by kernel_rfl) (fun _ _ _ h => h) (Or.inl ⟨by rfl, ?_⟩) hHeld rfl ?_
          rotate_left
          · intro w hSw; obtain ⟨hS1, hS2, hS3⟩ := hSw; go_simp; with_reducible rfl
          (try simp only [Act.put]); (try simp only [List.setIfInBounds_toArray]); (try simp only [List.set_cons_zero, List.set_cons_succ])
          refine wpAnyH_ready (rs := [9]) (by kernel_rfl) (by simp) (AllReadyH.cons rfl (fun K hK => ?_) AllReadyH.nil)
          rw [if_pos (by rfl)]
          refine wp_store_mid 106 _ _ (by rfl) S (q1 * 512) (bv q2).toArray (by rfl) (by rfl) HTh.out (infoSecOf' H512.out) (bvAll9 q2) ?_
          refine hK.out _ _ ⟨HF0.out.1, HF0.out.2.1, HF0.out.2.2⟩ (fun _ => ?_)
          (try simp only [Act.put]); (try simp only [List.setIfInBounds_toArray]); (try simp only [List.set_cons_zero, List.set_cons_succ])
          clear hK K
          refine wpAnyH_done (by kernel_rfl) ?_ _
          refine NoPanic.normal ?_
          clear zc0 zr0 zr1 HTh HF0 HZ
          generalize Z.drew.setCells S (q1 * 512) (bv q2).toArray.toList = Z4 at *
          go_wp2_with fail
          go_roundw
          case rel => exact ⟨k + 1, by omega, by go_num, HI3, HK3, HB3⟩
          case measure => simp [intOf]; omega
        | false =>
          have HI3 : Hid (IsPd X Z P base S (.slice (some ⟨g, 0, none⟩) n cc) arm { p with st := (Pl.kept (p.ca.take (k + 1)) ks).foldl Pl.put p.st }) := by
            unfold Hid
            rw [HFo.out, if_neg (by rw [← HT0.out]; decide), List.append_nil]; exact HZ.out
          clear HFo HZ HBZ
          go_wp2_with fail
          go_roundw
          case rel => exact ⟨k + 1, by omega, by go_num, HI3, HKZ, HBeZ⟩
          case measure => simp [intOf]; omega
      · have hkk' : ¬ (k : Int) < (kn : Int) := by omega
        have HI3 : Hid (IsPd X Z P base S (.slice (some ⟨g, 0, none⟩) n cc) arm { p with st := (Pl.kept (p.ca.take (k + 1)) ks).foldl Pl.put p.st }) := by
          unfold Hid
          rw [HFo.out, if_neg (by rw [List.getD_eq_getElem?_getD, List.getElem?_eq_none (by rw [← HKn.out]; omega)]; decide), List.append_nil]; exact HZ.out
        clear HFo HZ HBZ
        go_wp2_with fail
        go_roundw
        case rel => exact ⟨k + 1, by omega, by go_num, HI3, HKZ, HBeZ⟩
        case measure => simp [intOf]; omega
    · have hge : ¬ (k : Int) < (n : Int) := by omega
      have hkn : k = n := by omega
      subst hkn
      have HT : Hid (p.ca.take k = p.ca) := List.take_of_length_le (by rw [HN.out]; exact Nat.le_refl _)
      rw [HT.out] at HI
      have d1 : wr.cell? ⟨P, 1, none⟩ = some (.slice ca k cc) := HI.out.blk.cell 1
      have f1 := HI.out.blk.frozen 1
      have hg1 := gr_cell wr P 1 (.slice none 0 0)
      have HI2 : Hid (IsPd X (wr.setCell ⟨P, 1, none⟩ (.slice none 0 0)) P base S (.slice none 0 0) arm { p with st := (Pl.kept p.ca ks).foldl Pl.put p.st, ca := [] }) := HI.out.turn hg1 (HI.out.blk.set 1 _) rfl rfl (OwnC.nil _ _) (fun k e => by cases e) HI.out.armd HI.out.lo HI.out.hi
      have HK2 : Hid (KeepB X w (wr.setCell ⟨P, 1, none⟩ (.slice none 0 0))) := HK.out.trans (KeepB.one hg1 HI.out.xP)
      have HB2 : Hid (Below base w (wr.setCell ⟨P, 1, none⟩ (.slice none 0 0))) := HB.out.trans (bel_one hg1 HI.out.low HI.out.blk.lt)
      clear hg1 HI HK HB
      go_upto_region 8 with fail
      clear d1 f1
      generalize wr.setCell ⟨P, 1, none⟩ (.slice none 0 0) = Z at *
      have d2 : Z.cell? ⟨P, 2, none⟩ = some (.int .i64 arm) := HI2.out.blk.cell 2
      have f2 := HI2.out.blk.frozen 2
      have hg1 := gr_cell Z P 2 (.int .i64 (-1))
      have HI5 : Hid (IsPd X (Z.setCell ⟨P, 2, none⟩ (.int .i64 (-1))) P base S (.slice none 0 0) (-1) { p with st := (Pl.kept p.ca ks).foldl Pl.put p.st, ca := [], arm := none }) := HI2.out.turn hg1 (HI2.out.blk.set 2 _) rfl rfl (OwnC.nil _ _) (fun k e => by cases e) rfl (by omega) (by omega)
      have HK5 : Hid (KeepB X w (Z.setCell ⟨P, 2, none⟩ (.int .i64 (-1)))) := HK2.out.trans (KeepB.one hg1 HI2.out.xP)
      have HB5 : Hid (Below base w (Z.setCell ⟨P, 2, none⟩ (.int .i64 (-1)))) := HB2.out.trans (bel_one hg1 HI2.out.low HI2.out.blk.lt)
      clear hg1 HI2 HK2 HB2
      go_upto_region 9 with fail
      clear d2 f2
      generalize Z.setCell ⟨P, 2, none⟩ (.int .i64 (-1)) = Z5 at *
      have HSt := atStoreAt P 3 false _ Z5 (HI5.out.blk.cell 3) (HI5.out.blk.frozen 3)
      go_wp2_with fail
      refine HSt.mono ?_
      rintro e7 Z7 ⟨rfl, hz7⟩
      have hg7 := gr_drewCell Z5 P 3 (.int .u32 (flag false))
      rw [← hz7] at hg7
      have HI7 : Hid (IsPd X Z7 P base S (.slice none 0 0) (-1) (p.crash ks)) := by
        refine HI5.out.turn hg7 ?_ rfl rfl HI5.out.ca HI5.out.xC HI5.out.armd HI5.out.lo HI5.out.hi
        rw [hz7]
        exact Blk.set (w := Z5.drew) HI5.out.blk 3 _
      have HK7 : Hid (KeepB X w Z7) := HK5.out.trans (KeepB.one hg7 HI5.out.xP)
      have HB7 : Hid (Below base w Z7) := HB5.out.trans (bel_one hg7 HI5.out.low HI5.out.blk.lt)
      clear hg7 hz7 HSt HI5 HK5 HB5
      go_wp2_with fail
      go_end0
      exact ⟨⟨_, rfl⟩, ⟨S, _, -1, HI7.out⟩, HK7.out, HB7.out⟩
end Go.Proofs.YtacnoagjcacniaaGreat
