/- What a call leaves fits again. · The program's space: Take, Give, Free. -/
import Derived.Test.YtdeoankmmolebaaGreatB41
import Derived.Test.YtdeoankmmolebaaGreatPsC
namespace Go.Proofs.YtdeoankmmolebaaGreat
open Go.RowKit

theorem Fit.write {t : Tl} {j : Jl} {m : Nat} (h : Fit t j m) (i : Int) (b : List UInt8) : Fit (t.write j i b) j m :=
  ⟨h.few, h.m, h.good, tlWrite_len _ _ _ _ h.len, tlWrite_512 h.lens, tlWrite_at _ _ _ _ h.at_, (tlWrite_over _ _ _ _).trans h.over, h.dead, h.seq⟩
theorem Fit.spWr {t : Tl} {j : Jl} {m : Nat} (h : Fit t j m) (i : Int) (b : List UInt8) : Fit (spWr t j i b) j m := by
  unfold Go.Proofs.YtdeoankmmolebaaGreat.spWr
  split
  · exact h
  · exact h.write i b
theorem Fit.give {t : Tl} {j : Jl} {m : Nat} (h : Fit t j m) (i : Int) : Fit (gvT t j i) j m := by
  unfold gvT
  split
  · exact h
  · exact h.write _ _
theorem Fit.take {t : Tl} {j : Jl} {m : Nat} (h : Fit t j m) : Fit (tkT t j) j m := by
  unfold tkT
  split
  · exact h
  · split
    · exact h.write _ _
    · exact (h.write _ _).write _ _
theorem Fit.fresh {t : Tl} {j : Jl} {m : Nat} (h : Fit t j m) : Fit ⟨[], false⟩ j m :=
  ⟨h.few, h.m, h.good, Nat.zero_le _, fun g hg => (by cases hg), fun g hg => (by cases hg), rfl, h.dead, h.seq⟩
/-- a commit does not go wrong, and what stands behind it fits -/
theorem Fit.commit {t : Tl} {j : Jl} {m : Nat} (h : Fit t j m) (hm : m + 150 ≤ 80000) : cmE t j = 0 ∧ Fit ⟨[], false⟩ (cmJ t j) (m + 150) ∧ (cmJ t j).p.n = j.p.n := by
  have hnot : ¬ (t.over = true ∨ j.dead = true) := by rw [h.over, h.dead]; simp
  by_cases hne : t.l = []
  · have e1 : cmE t j = 0 := by unfold cmE; rw [if_neg hnot, if_pos hne]
    have e2 : cmJ t j = j := by unfold cmJ; rw [if_neg hnot, if_pos hne]
    rw [e2]
    exact ⟨e1, { h.fresh with few := h.few.more (by omega), m := hm }, rfl⟩
  · obtain ⟨e1, q, e2, h3, h4, _⟩ := commit_ok h.few h.good h.over h.dead hne h.len (fun g hg => ⟨h.at_ g hg, h.lens g hg⟩)
    have hf := h.few.commit h.len
    rw [e2] at hf ⊢
    exact ⟨e1, ⟨hf.more (by omega), hm, h3, Nat.zero_le _, fun g hg => (by cases hg), fun g hg => (by cases hg), rfl, rfl, Nat.mod_lt _ (by omega)⟩, h4⟩
end Go.Proofs.YtdeoankmmolebaaGreat
namespace Go.Proofs.YtdeoankmmolebaaGreat
open Go.RowKit

theorem tk_rng (t : Tl) (j : Jl) (hn : 51 ≤ j.p.n) : tkK t j = j.p.n ∨ (51 ≤ tkK t j ∧ tkK t j < j.p.n) := by
  unfold tkK tkI
  have : ∀ (f i : Nat), i ≤ tkGo (mapL t j) f i ∧ tkGo (mapL t j) f i ≤ i + f := by
    intro f
    induction f with
    | zero => intro i; exact ⟨Nat.le_refl _, Nat.le_refl _⟩
    | succ f ih =>
      intro i
      rw [tkGo]
      split
      · have := ih (i + 1); omega
      · omega
  have := this (j.p.n - 51) 51
  omega
theorem zlen : zero512.length = 512 := by unfold zero512; exact List.length_replicate
theorem cnt_free (b : List UInt8) (d : Nat) : cntL b (51 + d) + freeL b d = cntL b 51 + d := by
  induction d with
  | zero => rfl
  | succ d ih =>
    rw [← Nat.add_assoc, cntL, freeL]
    split <;> omega
theorem free_count (b : List UInt8) (n : Nat) (h : 51 ≤ n) : (n : Int) - 51 - ((countL b (n : Int) : Int) - (countL b 51 : Int)) = (freeL b (n - 51) : Int) ∧ countL b 51 ≤ 51 ∧ countL b (n : Int) ≤ n := by
  obtain ⟨d, rfl⟩ : ∃ d, n = 51 + d := ⟨n - 51, by omega⟩
  have e0 : 51 + d - 51 = d := by omega
  have e1 : ((51 + d : Nat) : Int).toNat = 51 + d := Int.toNat_natCast _
  have e2 : (51 : Int).toNat = 51 := by omega
  have hc := cnt_free b d
  have hl := cntL_le b 51
  have hm := cntL_le b (51 + d)
  rw [countL_all, countL_all, e0, e1, e2]
  generalize cntL b (51 + d) = x at *
  generalize cntL b 51 = y at *
  generalize freeL b d = z at *
  omega
set_option maxRecDepth 20000 in
set_option maxHeartbeats 2000000 in
theorem codTake (w : World) (S J P base m : Nat) (t : Tl) (j : Jl) (h : SpAx w S J P base t j) (hf : Fit t j m) :
    Calls Tryz.prog 26 #[.pointer (some ⟨S, 0, none⟩)] w fun e w' => e = .returned (.tuple #[.int .i64 (tkV t j : Int), .int .i64 (tkE t j)]) ∧ SpAx w' S J P base (tkT t j) j ∧ KS base w w' := by
  obtain ⟨T, g, c, h⟩ := h
  have HH := mkHid h
  have HLw := mkHid h.ta.lo
  have HLe := codLeast w S J P base m t j T g c h hf
  have hn0 := hf.few.n0
  have hn1 := hf.few.n
  clear h
  rcases tk_rng t j (by omega) with hK | ⟨k0, k1⟩
  · rw [lsNo hK] at HLe
    have HO := mkHid (tk_full hK)
    go_enter Tryz.func26, Tryz.ntmps26
    go_wp2_with fail
    refine HLe.mono ?_
    rintro e w1 ⟨rfl, q, rfl⟩
    go_wp2_with fail
    go_ret2
    exact ⟨by rw [HO.out.1, HO.out.2.1]; rfl, by rw [HO.out.2.2]; exact ⟨T, g, c, HH.out.drewN q⟩, KS.of_below (bel_drewN (Below.refl _ _) q) HLw.out⟩
  · obtain ⟨x, hx⟩ : ∃ x, tkK t j = x := ⟨_, rfl⟩
    rw [hx] at k0 k1
    rw [lsYes hx k1] at HLe
    go_enter Tryz.func26, Tryz.ntmps26
    go_wp2_with fail
    refine HLe.mono ?_
    rintro e w1 ⟨rfl, q, rfl⟩
    go_upto_region 6 with fail
    have HA := mkHid (HH.out.drewN q)
    have HBA : Hid (Below w.heap.size w (w.drewN q)) := bel_drewN (Below.refl _ _) q
    generalize w.drewN q = y2 at *
    have c0 : y2.cell? ⟨S, 0, none⟩ = some (.pointer (some ⟨T, 0, none⟩)) := HA.out.blk.cell 0
    obtain ⟨w4, hrun4, hob4, hbb4⟩ := make_run512 y2.drew
    have Hrun := mkHid hrun4
    clear hrun4
    refine wp_region_noPanic ?_
    refine wp_region_held_drew (S := fun w' => w'.cell? ⟨S, 0, none⟩ = some (.pointer (some ⟨T, 0, none⟩))) (by kernel_rfl) c0 (fun hHeld => ?_)
    refine takeH (some 17) (i := 0) (v := ?_) rfl (by kernel_rfl) (by kernel_rfl) (by kernel_rfl) (fun _ _ _ h => h) (Or.inl ⟨by rfl, ?_⟩) hHeld rfl ?_
    rotate_left
    · intro w hSw; go_simp; with_reducible rfl
    (try simp only [Act.put, List.setIfInBounds_toArray, List.set_cons_zero, List.set_cons_succ])
    refine takeH (some 18) (i := 1) (v := ?_) rfl (by kernel_rfl) (by kernel_rfl) (by kernel_rfl) (fun _ _ _ h => h) (Or.inl ⟨by rfl, ?_⟩) hHeld rfl ?_
    rotate_left
    · intro w hSw; go_simp; with_reducible rfl
    (try simp only [Act.put, List.setIfInBounds_toArray, List.set_cons_zero, List.set_cons_succ])
    refine takeH (some 19) (i := 2) (v := ?_) rfl (by kernel_rfl) (by kernel_rfl) (by kernel_rfl) (fun _ _ _ h => h) (Or.inl ⟨by rfl, ?_⟩) hHeld rfl ?_
    rotate_left
    · intro w hSw; go_simp; with_reducible rfl
    (try simp only [Act.put, List.setIfInBounds_toArray, List.set_cons_zero, List.set_cons_succ])
    refine takeH (some 20) (i := 3) (v := ?_) rfl (by kernel_rfl) (by kernel_rfl) (by kernel_rfl) (fun _ _ _ h => h) (Or.inl ⟨by rfl, ?_⟩) hHeld rfl ?_
    rotate_left
    · intro w hSw; go_simp; with_reducible rfl
    (try simp only [Act.put, List.setIfInBounds_toArray, List.set_cons_zero, List.set_cons_succ])
    refine takeH (some 21) (i := 4) (v := ?_) rfl (by kernel_rfl) (by kernel_rfl) (by kernel_rfl) (fun _ _ _ h => h) (Or.inl ⟨by rfl, ?_⟩) hHeld rfl ?_
    rotate_left
    · intro w hSw; go_simp; with_reducible rfl
    (try simp only [Act.put, List.setIfInBounds_toArray, List.set_cons_zero, List.set_cons_succ])
    refine wpAnyH_ready (rs := [5]) (by kernel_rfl) (by simp) (AllReadyH.cons rfl (fun K hK => ?_) AllReadyH.nil)
    go_simp
    rw [Hrun.out]
    go_simp
    have HV4 := mkHid hob4
    have HB4 : Hid (Below y2.heap.size y2 w4) := ((Below.refl _ y2).drew).trans hbb4
    have HS4 := mkHid (HA.out.on HB4.out)
    clear hob4 hbb4 Hrun
    refine hK.out _ _ (HS4.out.blk.cell 0) (fun hHeld => ?_)
    (try simp only [Act.put, List.setIfInBounds_toArray, List.set_cons_zero, List.set_cons_succ])
    clear hK K
    obtain ⟨za, zc, hze, hzI⟩ := HV4.out.isB
    have HW := jrnOK.write w4 T J P base m t j (x : Int) za zc zero512 HS4.out.ta hf.len hf.few hf.m (by omega) (by omega) (by rw [zlen]; omega) (fun W hK _ => by
      obtain ⟨a2, c2, e2, h2⟩ := (show OwnB W _ _ _ from own_keepO hK HV4.out (by decide)).isB
      rw [hze] at e2
      injection e2 with i1 i2 i3
      subst i1 i3
      exact h2)
    rw [← hze] at HW
    clear hzI
    refine wpAnyH_ready (rs := [6]) (by kernel_rfl) (by simp) (AllReadyH.cons rfl (fun K hK => ?_) AllReadyH.nil)
    go_simp
    go_wp2_with (go_at_call 61; refine HW.mono ?_; rintro e y5 ⟨rfl, ht5, hk5⟩)
    have HS5 : Hid (SpAt y5 S J P base (tkT1 t j x) j T g c) := HS4.out.wrote ht5 hk5 (map_other (by omega))
    refine hK.out _ _ (HS5.out.blk.cell 0) (fun hHeld => ?_)
    (try simp only [Act.put, List.setIfInBounds_toArray, List.set_cons_zero, List.set_cons_succ])
    clear hK K HW
    refine takeH (some 6) (i := 7) (v := ?_) rfl (by kernel_rfl) (by kernel_rfl) (by kernel_rfl) (fun _ _ _ h => h) (Or.inl ⟨by rfl, ?_⟩) hHeld rfl ?_
    rotate_left
    · intro w hSw; go_simp; with_reducible rfl
    (try simp only [Act.put, List.setIfInBounds_toArray, List.set_cons_zero, List.set_cons_succ])
    refine wpAnyH_done (by kernel_rfl) ?_ _
    refine NoPanic.normal ?_
    have HK5 := mkHid ((KS.of_below (HBA.out.trans (HB4.out.mono HBA.out.size)) HLw.out).trans (KS.ofP hk5))
    have HE1 : Hid (tkE1 t j x = t.wrE j (x : Int) zero512) := rfl
    clear ht5 hk5 HB4 HS4 HV4 hHeld c0 HA HBA
    have HF1 : Hid (Fit (tkT1 t j x) j m) := hf.write _ _
    generalize t.wrE j (x : Int) zero512 = E1 at *
    by_cases hz : E1 = 0
    · subst hz
      have HSt := codTurn y5 S J P base m (tkT1 t j x) j x ⟨T, g, c, HS5.out⟩ HF1.out k1
      have HE2 : Hid (tkE2 t j x = (tkT1 t j x).wrE j 49 (flipL (mapL (tkT1 t j x) j) x)) := rfl
      have HT2 : Hid (tkT2 t j x = (tkT1 t j x).write j 49 (flipL (mapL (tkT1 t j x) j) x)) := rfl
      generalize (tkT1 t j x).wrE j 49 (flipL (mapL (tkT1 t j x) j) x) = E2 at *
      generalize (tkT1 t j x).write j 49 (flipL (mapL (tkT1 t j x) j) x) = T2 at *
      by_cases hz2 : E2 = 0
      · subst hz2
        have HO := mkHid (tk_yes hx k1 HE1.out HE2.out)
        go_wp2_with (go_at_call 62; refine HSt.mono ?_; rintro e y6 ⟨rfl, hs6, hk6⟩)
        go_ret2
        exact ⟨by rw [HO.out.1, HO.out.2.1]; rfl, by rw [HO.out.2.2, HT2.out]; exact hs6, HK5.out.trans hk6⟩
      · have HO := mkHid (tk_no2 hx k1 HE1.out (by rw [HE2.out]; exact hz2))
        go_wp2_with (go_at_call 62; refine HSt.mono ?_; rintro e y6 ⟨rfl, hs6, hk6⟩)
        go_ret2
        exact ⟨by rw [HO.out.1, HO.out.2.1, HE2.out]; rfl, by rw [HO.out.2.2, HT2.out]; exact hs6, HK5.out.trans hk6⟩
    · have HO := mkHid (tk_no1 hx k1 (by rw [HE1.out]; exact hz))
      go_wp2_with fail
      go_ret2
      exact ⟨by rw [HO.out.1, HO.out.2.1, HE1.out]; rfl, by rw [HO.out.2.2]; exact ⟨T, g, c, HS5.out⟩, HK5.out⟩
set_option maxRecDepth 20000 in
set_option maxHeartbeats 2000000 in
theorem codGive (w : World) (S J P base m : Nat) (t : Tl) (j : Jl) (i : Int) (h : SpAx w S J P base t j) (hf : Fit t j m) (h0 : -9223372036854775808 ≤ i) (h1 : i ≤ 9223372036854775807) :
    Calls Tryz.prog 28 #[.pointer (some ⟨S, 0, none⟩), .int .i64 i] w fun e w' => e = .returned (.int .i64 (gvE t j i)) ∧ SpAx w' S J P base (gvT t j i) j ∧ KS base w w' := by
  obtain ⟨T, g, c, h⟩ := h
  have HH := mkHid h
  have HLw := mkHid h.ta.lo
  have c1 : w.cell? ⟨S, 1, none⟩ = some (.slice (some ⟨g, 0, none⟩) 512 c) := h.blk.cell 1
  have c2 : w.cell? ⟨S, 2, none⟩ = some (.int .i64 (j.p.n : Int)) := h.blk.cell 2
  have hn0 := hf.few.n0
  have hn1 := hf.few.n
  have hl := (map_ok hf.few hf.good.off hf.lens).2
  have HI : Hid (IsB w (some ⟨g, 0, none⟩) 512 c (mapL t j)) := h.isB hl
  clear h
  by_cases hi : i < 51
  · have HE : Hid ((50 : Int) = gvE t j i ∧ t = gvT t j i) := by unfold Hid gvE gvT; rw [if_pos (.inl hi), if_pos (.inl hi)]; exact ⟨rfl, rfl⟩
    go_enter Tryz.func28, Tryz.ntmps28
    go_wp2_with fail
    go_ret
    exact ⟨ret_i HE.out.1, by rw [← HE.out.2]; exact ⟨T, g, c, HH.out⟩, KS.of_below (Below.refl _ _) HLw.out⟩
  by_cases hn : (j.p.n : Int) ≤ i
  · have HE : Hid ((50 : Int) = gvE t j i ∧ t = gvT t j i) := by unfold Hid gvE gvT; rw [if_pos (.inr (.inl hn)), if_pos (.inr (.inl hn))]; exact ⟨rfl, rfl⟩
    go_enter Tryz.func28, Tryz.ntmps28
    go_wp2_with fail
    go_ret
    exact ⟨ret_i HE.out.1, by rw [← HE.out.2]; exact ⟨T, g, c, HH.out⟩, KS.of_below (Below.refl _ _) HLw.out⟩
  obtain ⟨k, rfl⟩ : ∃ k : Nat, i = (k : Int) := ⟨i.toNat, by omega⟩
  have HG : Hid (gvNo t j (k : Int) ↔ takenL (mapL t j) (k : Int) = false) := by
    unfold Hid gvNo
    exact ⟨fun h => by rcases h with h | h | h; exact absurd h hi; exact absurd h hn; exact h, fun h => .inr (.inr h)⟩
  have HTk := codTaken (some ⟨g, 0, none⟩) 512 c (mapL t j) (k : Int) w HI.out h0 h1
  have HTu := fun q => codTurn (w.drewN q) S J P base m t j k ⟨T, g, c, HH.out.drewN q⟩ hf (by omega)
  have HE : Hid (gvE t j (k : Int) = (if takenL (mapL t j) (k : Int) = false then 50 else t.wrE j 49 (flipL (mapL t j) k)) ∧ gvT t j (k : Int) = (if takenL (mapL t j) (k : Int) = false then t else t.write j 49 (flipL (mapL t j) k))) := by
    unfold Hid gvE gvT
    have e : (k : Int).toNat = k := by omega
    rw [e]
    by_cases h : takenL (mapL t j) (k : Int) = false
    · rw [if_pos (HG.out.2 h), if_pos (HG.out.2 h), if_pos h, if_pos h]; exact ⟨rfl, rfl⟩
    · rw [if_neg (fun x => h (HG.out.1 x)), if_neg (fun x => h (HG.out.1 x)), if_neg h, if_neg h]; exact ⟨rfl, rfl⟩
  clear HG hl HI
  cases ht : takenL (mapL t j) (k : Int) with
  | false =>
    rw [ht] at HTk HE
    have HE1 : Hid ((50 : Int) = gvE t j (k : Int) ∧ t = gvT t j (k : Int)) := ⟨HE.out.1.symm, HE.out.2.symm⟩
    clear HE ht HTu
    go_enter Tryz.func28, Tryz.ntmps28
    go_wp2_with fail
    refine HTk.mono ?_
    rintro e w1 ⟨rfl, q, rfl⟩
    go_wp2_with fail
    go_ret
    exact ⟨ret_i HE1.out.1, by rw [← HE1.out.2]; exact ⟨T, g, c, HH.out.drewN q⟩, KS.of_below (bel_drewN (Below.refl _ _) q) HLw.out⟩
  | true =>
    rw [ht] at HTk HE
    have HE1 : Hid (t.wrE j 49 (flipL (mapL t j) k) = gvE t j (k : Int) ∧ t.write j 49 (flipL (mapL t j) k) = gvT t j (k : Int)) := ⟨HE.out.1.symm, HE.out.2.symm⟩
    clear HE ht
    go_enter Tryz.func28, Tryz.ntmps28
    go_wp2_with fail
    refine HTk.mono ?_
    rintro e w1 ⟨rfl, q, rfl⟩
    go_wp2_with fail
    refine (HTu q).mono ?_
    rintro e w2 ⟨rfl, hs, hk⟩
    go_wp2_with fail
    go_ret
    exact ⟨ret_i HE1.out.1, by rw [← HE1.out.2]; exact hs, (KS.of_below (bel_drewN (Below.refl _ _) q) HLw.out).trans hk⟩
set_option maxRecDepth 20000 in
set_option maxHeartbeats 2000000 in
theorem codFree (w : World) (S J P base m : Nat) (t : Tl) (j : Jl) (h : SpAx w S J P base t j) (hf : Fit t j m) :
    Calls Tryz.prog 19 #[.pointer (some ⟨S, 0, none⟩)] w fun e w' => e = .returned (.int .i64 (freeL (mapL t j) (j.p.n - 51) : Int)) ∧ SpAx w' S J P base t j ∧ KS base w w' := by
  obtain ⟨T, g, c, h⟩ := h
  have HH := mkHid h
  have HLw := mkHid h.ta.lo
  have c1 : w.cell? ⟨S, 1, none⟩ = some (.slice (some ⟨g, 0, none⟩) 512 c) := h.blk.cell 1
  have c2 : w.cell? ⟨S, 2, none⟩ = some (.int .i64 (j.p.n : Int)) := h.blk.cell 2
  have hn0 := hf.few.n0
  have hn1 := hf.few.n
  have hl := (map_ok hf.few hf.good.off hf.lens).2
  have HCn : ∀ q, Calls Tryz.prog 9 #[.slice (some ⟨g, 0, none⟩) 512 c, .int .i64 (j.p.n : Int)] (w.drewN q) fun e w' => e = .returned (.int .i64 (countL (mapL t j) (j.p.n : Int) : Int)) ∧ w' = w.drewN q := fun q => codSCount (some ⟨g, 0, none⟩) 512 c (mapL t j) _ _ ((h.isB hl).drewN q) (by omega) (by omega) (by omega)
  have HC5 : ∀ q, Calls Tryz.prog 9 #[.slice (some ⟨g, 0, none⟩) 512 c, .int .i64 51] (w.drewN q) fun e w' => e = .returned (.int .i64 (countL (mapL t j) 51 : Int)) ∧ w' = w.drewN q := fun q => codSCount (some ⟨g, 0, none⟩) 512 c (mapL t j) _ _ ((h.isB hl).drewN q) (by omega) (by omega) (by omega)
  obtain ⟨hv, hv1, hv2⟩ := free_count (mapL t j) j.p.n (by omega)
  clear h hl
  generalize countL (mapL t j) (j.p.n : Int) = C1 at *
  generalize countL (mapL t j) 51 = C2 at *
  generalize freeL (mapL t j) (j.p.n - 51) = fr at *
  go_enter Tryz.func19, Tryz.ntmps19
  go_wp2_with fail
  go_quiet (first
    | (go_at_call_of 9 (Value.int IntKind.i64 51); exact Calls.quiet_of_same (HC5 _))
    | (go_at_call_of 9 (Value.int IntKind.i64 (j.p.n : Int)); exact Calls.quiet_of_same (HCn _)))
  have d2 : (w.drewN nq).cell? ⟨S, 2, none⟩ = some (.int .i64 (j.p.n : Int)) := (HH.out.drewN nq).blk.cell 2
  go_wp2_with fail
  go_ret
  refine ⟨ret_i (by omega), ⟨T, g, c, HH.out.drewN nq⟩, KS.of_below (bel_drewN (Below.refl _ _) nq) HLw.out⟩
end Go.Proofs.YtdeoankmmolebaaGreat
