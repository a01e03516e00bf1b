/- What a call leaves fits again. · The program's space: Take, Give, Free. · SpaceNils, over any space that keeps the document. · The program's space keeps the document. · One call of both: Take. · A script of stage 11 in a world. · What the frame tells of a slice of truths. · What the frame tells of a script of stage 11 that came in. -/
import Derived.Test.YtdeoankmmolebaaGreatB42
import Derived.Test.YtdeoankmmolebaaGreatPsC
import Derived.Test.YtdeoankmmolebaaGreatB36
import Derived.Deep.SlicePairs
import Derived.OpenShut
namespace Go.Proofs.YtdeoankmmolebaaGreat
open Go.RowKit

theorem Fit.write {t : Tl} {j : Jl} {m : Nat} (h : Fit t j m) (i : Int) (b : List UInt8) : Fit (t.write j i b) j m :=
  ⟨h.few, h.m, h.good, tlWrite_len _ _ _ _ h.len, tlWrite_512 h.lens, tlWrite_at _ _ _ _ h.at_, (tlWrite_over _ _ _ _).trans h.over, h.dead, h.seq⟩
theorem Fit.spWr {t : Tl} {j : Jl} {m : Nat} (h : Fit t j m) (i : Int) (b : List UInt8) : Fit (spWr t j i b) j m := by
  unfold Go.Proofs.YtdeoankmmolebaaGreat.spWr
  split
  · exact h
  · exact h.write i b
theorem Fit.give {t : Tl} {j : Jl} {m : Nat} (h : Fit t j m) (i : Int) : Fit (gvT t j i) j m := by
  unfold gvT
  split
  · exact h
  · exact h.write _ _
theorem Fit.take {t : Tl} {j : Jl} {m : Nat} (h : Fit t j m) : Fit (tkT t j) j m := by
  unfold tkT
  split
  · exact h
  · split
    · exact h.write _ _
    · exact (h.write _ _).write _ _
theorem Fit.fresh {t : Tl} {j : Jl} {m : Nat} (h : Fit t j m) : Fit ⟨[], false⟩ j m :=
  ⟨h.few, h.m, h.good, Nat.zero_le _, fun g hg => (by cases hg), fun g hg => (by cases hg), rfl, h.dead, h.seq⟩
/-- a commit does not go wrong, and what stands behind it fits -/
theorem Fit.commit {t : Tl} {j : Jl} {m : Nat} (h : Fit t j m) (hm : m + 150 ≤ 80000) : cmE t j = 0 ∧ Fit ⟨[], false⟩ (cmJ t j) (m + 150) ∧ (cmJ t j).p.n = j.p.n := by
  have hnot : ¬ (t.over = true ∨ j.dead = true) := by rw [h.over, h.dead]; simp
  by_cases hne : t.l = []
  · have e1 : cmE t j = 0 := by unfold cmE; rw [if_neg hnot, if_pos hne]
    have e2 : cmJ t j = j := by unfold cmJ; rw [if_neg hnot, if_pos hne]
    rw [e2]
    exact ⟨e1, { h.fresh with few := h.few.more (by omega), m := hm }, rfl⟩
  · obtain ⟨e1, q, e2, h3, h4, _⟩ := commit_ok h.few h.good h.over h.dead hne h.len (fun g hg => ⟨h.at_ g hg, h.lens g hg⟩)
    have hf := h.few.commit h.len
    rw [e2] at hf ⊢
    exact ⟨e1, ⟨hf.more (by omega), hm, h3, Nat.zero_le _, fun g hg => (by cases hg), fun g hg => (by cases hg), rfl, rfl, Nat.mod_lt _ (by omega)⟩, h4⟩
end Go.Proofs.YtdeoankmmolebaaGreat
namespace Go.Proofs.YtdeoankmmolebaaGreat
open Go.RowKit

theorem tk_rng (t : Tl) (j : Jl) (hn : 51 ≤ j.p.n) : tkK t j = j.p.n ∨ (51 ≤ tkK t j ∧ tkK t j < j.p.n) := by
  unfold tkK tkI
  have : ∀ (f i : Nat), i ≤ tkGo (mapL t j) f i ∧ tkGo (mapL t j) f i ≤ i + f := by
    intro f
    induction f with
    | zero => intro i; exact ⟨Nat.le_refl _, Nat.le_refl _⟩
    | succ f ih =>
      intro i
      rw [tkGo]
      split
      · have := ih (i + 1); omega
      · omega
  have := this (j.p.n - 51) 51
  omega
theorem zlen : zero512.length = 512 := by unfold zero512; exact List.length_replicate
theorem cnt_free (b : List UInt8) (d : Nat) : cntL b (51 + d) + freeL b d = cntL b 51 + d := by
  induction d with
  | zero => rfl
  | succ d ih =>
    rw [← Nat.add_assoc, cntL, freeL]
    split <;> omega
set_option maxRecDepth 20000 in
set_option maxHeartbeats 2000000 in
theorem codTake (w : World) (S J P base m : Nat) (t : Tl) (j : Jl) (h : SpAx w S J P base t j) (hf : Fit t j m) :
    Calls Tryz.prog 26 #[.pointer (some ⟨S, 0, none⟩)] w fun e w' => e = .returned (.tuple #[.int .i64 (tkV t j : Int), .int .i64 (tkE t j)]) ∧ SpAx w' S J P base (tkT t j) j ∧ KS base w w' := by
  obtain ⟨T, g, c, h⟩ := h
  have HH := mkHid h
  have HLw := mkHid h.ta.lo
  have HLe := codLeast w S J P base m t j T g c h hf
  have hn0 := hf.few.n0
  have hn1 := hf.few.n
  clear h
  rcases tk_rng t j (by omega) with hK | ⟨k0, k1⟩
  · rw [lsNo hK] at HLe
    have HO := mkHid (tk_full hK)
    go_enter Tryz.func26, Tryz.ntmps26
    go_wp2_with fail
    refine HLe.mono ?_
    rintro e w1 ⟨rfl, q, rfl⟩
    go_wp2_with fail
    go_ret2
    exact ⟨by rw [HO.out.1, HO.out.2.1]; rfl, by rw [HO.out.2.2]; exact ⟨T, g, c, HH.out.drewN q⟩, KS.of_below (bel_drewN (Below.refl _ _) q) HLw.out⟩
  · obtain ⟨x, hx⟩ : ∃ x, tkK t j = x := ⟨_, rfl⟩
    rw [hx] at k0 k1
    rw [lsYes hx k1] at HLe
    go_enter Tryz.func26, Tryz.ntmps26
    go_wp2_with fail
    refine HLe.mono ?_
    rintro e w1 ⟨rfl, q, rfl⟩
    go_upto_region 6 with fail
    have HA := mkHid (HH.out.drewN q)
    have HBA : Hid (Below w.heap.size w (w.drewN q)) := bel_drewN (Below.refl _ _) q
    generalize w.drewN q = y2 at *
    have c0 : y2.cell? ⟨S, 0, none⟩ = some (.pointer (some ⟨T, 0, none⟩)) := HA.out.blk.cell 0
    obtain ⟨w4, hrun4, hob4, hbb4⟩ := make_run512 y2.drew
    have Hrun := mkHid hrun4
    clear hrun4
    refine wp_region_noPanic ?_
    refine wp_region_held_drew (S := fun w' => w'.cell? ⟨S, 0, none⟩ = some (.pointer (some ⟨T, 0, none⟩))) (by kernel_rfl) c0 (fun hHeld => ?_)
    refine takeH (some 17) (i := 0) (v := ?_) rfl (by kernel_rfl) (by kernel_rfl) (by kernel_rfl) (fun _ _ _ h => h) (Or.inl ⟨by rfl, ?_⟩) hHeld rfl ?_
    rotate_left
    · intro w hSw; go_simp; with_reducible rfl
    (try simp only [Act.put, List.setIfInBounds_toArray, List.set_cons_zero, List.set_cons_succ])
    refine takeH (some 18) (i := 1) (v := ?_) rfl (by kernel_rfl) (by kernel_rfl) (by kernel_rfl) (fun _ _ _ h => h) (Or.inl ⟨by rfl, ?_⟩) hHeld rfl ?_
    rotate_left
    · intro w hSw; go_simp; with_reducible rfl
    (try simp only [Act.put, List.setIfInBounds_toArray, List.set_cons_zero, List.set_cons_succ])
    refine takeH (some 19) (i := 2) (v := ?_) rfl (by kernel_rfl) (by kernel_rfl) (by kernel_rfl) (fun _ _ _ h => h) (Or.inl ⟨by rfl, ?_⟩) hHeld rfl ?_
    rotate_left
    · intro w hSw; go_simp; with_reducible rfl
    (try simp only [Act.put, List.setIfInBounds_toArray, List.set_cons_zero, List.set_cons_succ])
    refine takeH (some 20) (i := 3) (v := ?_) rfl (by kernel_rfl) (by kernel_rfl) (by kernel_rfl) (fun _ _ _ h => h) (Or.inl ⟨by rfl, ?_⟩) hHeld rfl ?_
    rotate_left
    · intro w hSw; go_simp; with_reducible rfl
    (try simp only [Act.put, List.setIfInBounds_toArray, List.set_cons_zero, List.set_cons_succ])
    refine takeH (some 21) (i := 4) (v := ?_) rfl (by kernel_rfl) (by kernel_rfl) (by kernel_rfl) (fun _ _ _ h => h) (Or.inl ⟨by rfl, ?_⟩) hHeld rfl ?_
    rotate_left
    · intro w hSw; go_simp; with_reducible rfl
    (try simp only [Act.put, List.setIfInBounds_toArray, List.set_cons_zero, List.set_cons_succ])
    refine wpAnyH_ready (rs := [5]) (by kernel_rfl) (by simp) (AllReadyH.cons rfl (fun K hK => ?_) AllReadyH.nil)
    go_simp
    rw [Hrun.out]
    go_simp
    have HV4 := mkHid hob4
    have HB4 : Hid (Below y2.heap.size y2 w4) := ((Below.refl _ y2).drew).trans hbb4
    have HS4 := mkHid (HA.out.on HB4.out)
    clear hob4 hbb4 Hrun
    refine hK.out _ _ (HS4.out.blk.cell 0) (fun hHeld => ?_)
    (try simp only [Act.put, List.setIfInBounds_toArray, List.set_cons_zero, List.set_cons_succ])
    clear hK K
    obtain ⟨za, zc, hze, hzI⟩ := HV4.out.isB
    have HW := jrnOK.write w4 T J P base m t j (x : Int) za zc zero512 HS4.out.ta hf.len hf.few hf.m (by omega) (by omega) (by rw [zlen]; omega) (fun W hK _ => by
      obtain ⟨a2, c2, e2, h2⟩ := (show OwnB W _ _ _ from own_keepO hK HV4.out (by decide)).isB
      rw [hze] at e2
      injection e2 with i1 i2 i3
      subst i1 i3
      exact h2)
    rw [← hze] at HW
    clear hzI
    refine wpAnyH_ready (rs := [6]) (by kernel_rfl) (by simp) (AllReadyH.cons rfl (fun K hK => ?_) AllReadyH.nil)
    go_simp
    go_wp2_with (go_at_call 61; refine HW.mono ?_; rintro e y5 ⟨rfl, ht5, hk5⟩)
    have HS5 : Hid (SpAt y5 S J P base (tkT1 t j x) j T g c) := HS4.out.wrote ht5 hk5 (map_other (by omega))
    refine hK.out _ _ (HS5.out.blk.cell 0) (fun hHeld => ?_)
    (try simp only [Act.put, List.setIfInBounds_toArray, List.set_cons_zero, List.set_cons_succ])
    clear hK K HW
    refine takeH (some 6) (i := 7) (v := ?_) rfl (by kernel_rfl) (by kernel_rfl) (by kernel_rfl) (fun _ _ _ h => h) (Or.inl ⟨by rfl, ?_⟩) hHeld rfl ?_
    rotate_left
    · intro w hSw; go_simp; with_reducible rfl
    (try simp only [Act.put, List.setIfInBounds_toArray, List.set_cons_zero, List.set_cons_succ])
    refine wpAnyH_done (by kernel_rfl) ?_ _
    refine NoPanic.normal ?_
    have HK5 := mkHid ((KS.of_below (HBA.out.trans (HB4.out.mono HBA.out.size)) HLw.out).trans (KS.ofP hk5))
    have HE1 : Hid (tkE1 t j x = t.wrE j (x : Int) zero512) := rfl
    clear ht5 hk5 HB4 HS4 HV4 hHeld c0 HA HBA
    have HF1 : Hid (Fit (tkT1 t j x) j m) := hf.write _ _
    generalize t.wrE j (x : Int) zero512 = E1 at *
    by_cases hz : E1 = 0
    · subst hz
      have HSt := codTurn y5 S J P base m (tkT1 t j x) j x ⟨T, g, c, HS5.out⟩ HF1.out k1
      have HE2 : Hid (tkE2 t j x = (tkT1 t j x).wrE j 49 (flipL (mapL (tkT1 t j x) j) x)) := rfl
      have HT2 : Hid (tkT2 t j x = (tkT1 t j x).write j 49 (flipL (mapL (tkT1 t j x) j) x)) := rfl
      generalize (tkT1 t j x).wrE j 49 (flipL (mapL (tkT1 t j x) j) x) = E2 at *
      generalize (tkT1 t j x).write j 49 (flipL (mapL (tkT1 t j x) j) x) = T2 at *
      by_cases hz2 : E2 = 0
      · subst hz2
        have HO := mkHid (tk_yes hx k1 HE1.out HE2.out)
        go_wp2_with (go_at_call 62; refine HSt.mono ?_; rintro e y6 ⟨rfl, hs6, hk6⟩)
        go_ret2
        exact ⟨by rw [HO.out.1, HO.out.2.1]; rfl, by rw [HO.out.2.2, HT2.out]; exact hs6, HK5.out.trans hk6⟩
      · have HO := mkHid (tk_no2 hx k1 HE1.out (by rw [HE2.out]; exact hz2))
        go_wp2_with (go_at_call 62; refine HSt.mono ?_; rintro e y6 ⟨rfl, hs6, hk6⟩)
        go_ret2
        exact ⟨by rw [HO.out.1, HO.out.2.1, HE2.out]; rfl, by rw [HO.out.2.2, HT2.out]; exact hs6, HK5.out.trans hk6⟩
    · have HO := mkHid (tk_no1 hx k1 (by rw [HE1.out]; exact hz))
      go_wp2_with fail
      go_ret2
      exact ⟨by rw [HO.out.1, HO.out.2.1, HE1.out]; rfl, by rw [HO.out.2.2]; exact ⟨T, g, c, HS5.out⟩, HK5.out⟩
set_option maxRecDepth 20000 in
set_option maxHeartbeats 2000000 in
theorem codGive (w : World) (S J P base m : Nat) (t : Tl) (j : Jl) (i : Int) (h : SpAx w S J P base t j) (hf : Fit t j m) (h0 : -9223372036854775808 ≤ i) (h1 : i ≤ 9223372036854775807) :
    Calls Tryz.prog 28 #[.pointer (some ⟨S, 0, none⟩), .int .i64 i] w fun e w' => e = .returned (.int .i64 (gvE t j i)) ∧ SpAx w' S J P base (gvT t j i) j ∧ KS base w w' := by
  obtain ⟨T, g, c, h⟩ := h
  have HH := mkHid h
  have HLw := mkHid h.ta.lo
  have c1 : w.cell? ⟨S, 1, none⟩ = some (.slice (some ⟨g, 0, none⟩) 512 c) := h.blk.cell 1
  have c2 : w.cell? ⟨S, 2, none⟩ = some (.int .i64 (j.p.n : Int)) := h.blk.cell 2
  have hn0 := hf.few.n0
  have hn1 := hf.few.n
  have hl := (map_ok hf.few hf.good.off hf.lens).2
  have HI : Hid (IsB w (some ⟨g, 0, none⟩) 512 c (mapL t j)) := h.isB hl
  clear h
  by_cases hi : i < 51
  · have HE : Hid ((50 : Int) = gvE t j i ∧ t = gvT t j i) := by unfold Hid gvE gvT; rw [if_pos (.inl hi), if_pos (.inl hi)]; exact ⟨rfl, rfl⟩
    go_enter Tryz.func28, Tryz.ntmps28
    go_wp2_with fail
    go_ret
    exact ⟨ret_i HE.out.1, by rw [← HE.out.2]; exact ⟨T, g, c, HH.out⟩, KS.of_below (Below.refl _ _) HLw.out⟩
  by_cases hn : (j.p.n : Int) ≤ i
  · have HE : Hid ((50 : Int) = gvE t j i ∧ t = gvT t j i) := by unfold Hid gvE gvT; rw [if_pos (.inr (.inl hn)), if_pos (.inr (.inl hn))]; exact ⟨rfl, rfl⟩
    go_enter Tryz.func28, Tryz.ntmps28
    go_wp2_with fail
    go_ret
    exact ⟨ret_i HE.out.1, by rw [← HE.out.2]; exact ⟨T, g, c, HH.out⟩, KS.of_below (Below.refl _ _) HLw.out⟩
  obtain ⟨k, rfl⟩ : ∃ k : Nat, i = (k : Int) := ⟨i.toNat, by omega⟩
  have HG : Hid (gvNo t j (k : Int) ↔ takenL (mapL t j) (k : Int) = false) := by
    unfold Hid gvNo
    exact ⟨fun h => by rcases h with h | h | h; exact absurd h hi; exact absurd h hn; exact h, fun h => .inr (.inr h)⟩
  have HTk := codTaken (some ⟨g, 0, none⟩) 512 c (mapL t j) (k : Int) w HI.out h0 h1
  have HTu := fun q => codTurn (w.drewN q) S J P base m t j k ⟨T, g, c, HH.out.drewN q⟩ hf (by omega)
  have HE : Hid (gvE t j (k : Int) = (if takenL (mapL t j) (k : Int) = false then 50 else t.wrE j 49 (flipL (mapL t j) k)) ∧ gvT t j (k : Int) = (if takenL (mapL t j) (k : Int) = false then t else t.write j 49 (flipL (mapL t j) k))) := by
    unfold Hid gvE gvT
    have e : (k : Int).toNat = k := by omega
    rw [e]
    by_cases h : takenL (mapL t j) (k : Int) = false
    · rw [if_pos (HG.out.2 h), if_pos (HG.out.2 h), if_pos h, if_pos h]; exact ⟨rfl, rfl⟩
    · rw [if_neg (fun x => h (HG.out.1 x)), if_neg (fun x => h (HG.out.1 x)), if_neg h, if_neg h]; exact ⟨rfl, rfl⟩
  clear HG hl HI
  cases ht : takenL (mapL t j) (k : Int) with
  | false =>
    rw [ht] at HTk HE
    have HE1 : Hid ((50 : Int) = gvE t j (k : Int) ∧ t = gvT t j (k : Int)) := ⟨HE.out.1.symm, HE.out.2.symm⟩
    clear HE ht HTu
    go_enter Tryz.func28, Tryz.ntmps28
    go_wp2_with fail
    refine HTk.mono ?_
    rintro e w1 ⟨rfl, q, rfl⟩
    go_wp2_with fail
    go_ret
    exact ⟨ret_i HE1.out.1, by rw [← HE1.out.2]; exact ⟨T, g, c, HH.out.drewN q⟩, KS.of_below (bel_drewN (Below.refl _ _) q) HLw.out⟩
  | true =>
    rw [ht] at HTk HE
    have HE1 : Hid (t.wrE j 49 (flipL (mapL t j) k) = gvE t j (k : Int) ∧ t.write j 49 (flipL (mapL t j) k) = gvT t j (k : Int)) := ⟨HE.out.1.symm, HE.out.2.symm⟩
    clear HE ht
    go_enter Tryz.func28, Tryz.ntmps28
    go_wp2_with fail
    refine HTk.mono ?_
    rintro e w1 ⟨rfl, q, rfl⟩
    go_wp2_with fail
    refine (HTu q).mono ?_
    rintro e w2 ⟨rfl, hs, hk⟩
    go_wp2_with fail
    go_ret
    exact ⟨ret_i HE1.out.1, by rw [← HE1.out.2]; exact hs, (KS.of_below (bel_drewN (Below.refl _ _) q) HLw.out).trans hk⟩
end Go.Proofs.YtdeoankmmolebaaGreat
namespace Go.Proofs.YtdeoankmmolebaaGreat
open Go.RowKit

/-- what nil ones say -/
structure SpcNil : Prop where
  open_ : ∀ (w : World), Calls Tryz.prog 16 #[.pointer none] w fun e w' => (∃ v, e = .returned (.tuple #[v, .int .i64 2])) ∧ Below w.heap.size w w'
  take : ∀ (w : World), Calls Tryz.prog 26 #[.pointer none] w fun e w' => (∃ v, e = .returned (.tuple #[v, .int .i64 2])) ∧ Below w.heap.size w w'
  read : ∀ (w : World) (i : Int), Calls Tryz.prog 30 #[.pointer none, .int .i64 i] w fun e w' => (∃ v, e = .returned (.tuple #[v, .int .i64 2])) ∧ Below w.heap.size w w'
  give : ∀ (w : World) (i : Int), Calls Tryz.prog 28 #[.pointer none, .int .i64 i] w fun e w' => e = .returned (.int .i64 2) ∧ Below w.heap.size w w'
  write : ∀ (w : World) (i : Int) (ba : Option Addr) (bn bc : Nat), Calls Tryz.prog 31 #[.pointer none, .int .i64 i, .slice ba bn bc] w fun e w' => e = .returned (.int .i64 2) ∧ Below w.heap.size w w'
  commit : ∀ (w : World), Calls Tryz.prog 32 #[.pointer none] w fun e w' => e = .returned (.int .i64 2) ∧ Below w.heap.size w w'
  free : ∀ (w : World), Calls Tryz.prog 19 #[.pointer none] w fun e w' => e = .returned (.int .i64 0) ∧ Below w.heap.size w w'
  left : ∀ (w : World), Calls Tryz.prog 21 #[.pointer none] w fun e w' => e = .returned (.int .i64 0) ∧ Below w.heap.size w w'
set_option maxRecDepth 20000 in
set_option maxHeartbeats 4000000 in
theorem nils11 {JA : World → Nat → Nat → Nat → Jl → Prop} {TA SA : World → Nat → Nat → Nat → Nat → Tl → Jl → Prop} (ok : JrnOK JA TA) (so : SpcOK JA SA) (nl : SpcNil) (i : Int) (ba : Option Addr) (bn bc : Nat) (w : World) :
    Calls Tryz.prog 6 #[.int .i64 i, .slice ba bn bc] w fun e w' => e = .returned (.bool true) ∧ Below w.heap.size w w' := by
  have HAl := lawAlive11 ok so
  clear ok so
  go_enter Tryz.func6, Tryz.ntmps6
  go_wp2_with fail
  refine (nl.open_ _).mono ?_
  rintro e x1 ⟨⟨v1, rfl⟩, hb1⟩
  have HB1 := mkHid hb1
  clear hb1
  go_wp2_with fail
  refine (nl.take _).mono ?_
  rintro e x2 ⟨⟨v2, rfl⟩, hb2⟩
  have HB2 := mkHid (HB1.out.trans (hb2.mono HB1.out.size))
  clear hb2
  go_wp2_with fail
  refine (nl.read _ i).mono ?_
  rintro e x3 ⟨⟨v3, rfl⟩, hb3⟩
  have HB3 := mkHid (HB2.out.trans (hb3.mono HB2.out.size))
  clear hb3
  go_wp2_with fail
  refine (nl.give _ i).mono ?_
  rintro e x4 ⟨rfl, hb4⟩
  have HB4 := mkHid (HB3.out.trans (hb4.mono HB3.out.size))
  clear hb4
  go_wp2_with fail
  refine (nl.write _ i ba bn bc).mono ?_
  rintro e x5 ⟨rfl, hb5⟩
  have HB5 := mkHid (HB4.out.trans (hb5.mono HB4.out.size))
  clear hb5
  go_wp2_with fail
  refine (nl.commit _).mono ?_
  rintro e x6 ⟨rfl, hb6⟩
  have HB6 := mkHid (HB5.out.trans (hb6.mono HB5.out.size))
  clear hb6
  go_wp2_with fail
  refine (nl.free _).mono ?_
  rintro e x7 ⟨rfl, hb7⟩
  have HB7 := mkHid (HB6.out.trans (hb7.mono HB6.out.size))
  clear hb7
  go_wp2_with fail
  refine (nl.left _).mono ?_
  rintro e x8 ⟨rfl, hb8⟩
  have HB8 := mkHid (HB7.out.trans (hb8.mono HB7.out.size))
  clear hb8
  go_wp2_with fail
  refine (HAl _).mono ?_
  rintro e x9 ⟨rfl, hb9⟩
  have HB9 := mkHid (HB8.out.trans (hb9.mono HB8.out.size))
  clear HAl hb9
  go_wp2_with fail
  go_ret
  exact ⟨rfl, HB9.out⟩
end Go.Proofs.YtdeoankmmolebaaGreat
namespace Go.Proofs.YtdeoankmmolebaaGreat
open Go.RowKit

theorem nilOpen (w : World) : Calls Tryz.prog 16 #[.pointer none] w fun e w' => (∃ v, e = .returned (.tuple #[v, .int .i64 2])) ∧ Below w.heap.size w w' := by
  go_enter Tryz.func16, Tryz.ntmps16
  go_wp2_with fail
  go_ret2
  exact ⟨⟨_, rfl⟩, Below.refl _ _⟩
theorem nilTake (w : World) : Calls Tryz.prog 26 #[.pointer none] w fun e w' => (∃ v, e = .returned (.tuple #[v, .int .i64 2])) ∧ Below w.heap.size w w' := by
  go_enter Tryz.func26, Tryz.ntmps26
  go_wp2_with fail
  go_ret2
  exact ⟨⟨_, rfl⟩, Below.refl _ _⟩
theorem nilSRead (w : World) (i : Int) : Calls Tryz.prog 30 #[.pointer none, .int .i64 i] w fun e w' => (∃ v, e = .returned (.tuple #[v, .int .i64 2])) ∧ Below w.heap.size w w' := by
  go_enter Tryz.func30, Tryz.ntmps30
  go_wp2_with fail
  go_ret2
  exact ⟨⟨_, rfl⟩, Below.refl _ _⟩
theorem nilGive (w : World) (i : Int) : Calls Tryz.prog 28 #[.pointer none, .int .i64 i] w fun e w' => e = .returned (.int .i64 2) ∧ Below w.heap.size w w' := by
  go_enter Tryz.func28, Tryz.ntmps28
  go_wp2_with fail
  go_ret
  exact ⟨rfl, Below.refl _ _⟩
theorem nilSWrite (w : World) (i : Int) (ba : Option Addr) (bn bc : Nat) : Calls Tryz.prog 31 #[.pointer none, .int .i64 i, .slice ba bn bc] w fun e w' => e = .returned (.int .i64 2) ∧ Below w.heap.size w w' := by
  go_enter Tryz.func31, Tryz.ntmps31
  go_wp2_with fail
  go_ret
  exact ⟨rfl, Below.refl _ _⟩
theorem nilSCommit (w : World) : Calls Tryz.prog 32 #[.pointer none] w fun e w' => e = .returned (.int .i64 2) ∧ Below w.heap.size w w' := by
  go_enter Tryz.func32, Tryz.ntmps32
  go_wp2_with fail
  go_ret
  exact ⟨rfl, Below.refl _ _⟩
theorem nilFree (w : World) : Calls Tryz.prog 19 #[.pointer none] w fun e w' => e = .returned (.int .i64 0) ∧ Below w.heap.size w w' := by
  go_enter Tryz.func19, Tryz.ntmps19
  go_wp2_with fail
  go_ret
  exact ⟨rfl, Below.refl _ _⟩
theorem nilLeft (w : World) : Calls Tryz.prog 21 #[.pointer none] w fun e w' => e = .returned (.int .i64 0) ∧ Below w.heap.size w w' := by
  go_enter Tryz.func21, Tryz.ntmps21
  go_wp2_with fail
  go_ret
  exact ⟨rfl, Below.refl _ _⟩
theorem spcNil : SpcNil where
  open_ := nilOpen
  take := nilTake
  read := nilSRead
  give := nilGive
  write := nilSWrite
  commit := nilSCommit
  free := nilFree
  left := nilLeft
end Go.Proofs.YtdeoankmmolebaaGreat
namespace Go.Proofs.YtdeoankmmolebaaGreat
open Go.RowKit

/-- a script's call -/
structure Sq where
  kind : Int
  at_ : Int
  by_ : UInt8
def sqc (o : Sq) : List Value := [.int .i64 o.kind, .int .i64 o.at_, .int .u8 (o.by_.toNat : Int)]
structure Both11 (SA : World → Nat → Nat → Nat → Nat → Tl → Jl → Prop) (w : World) (S R U J K P D base m : Nat) (t : Tl) (j : Jl) : Prop where
  sa : SA w S J P base t j
  rs : RefS w R U K D base m t j
  fit : Fit t j m
theorem Both11.on {JA : World → Nat → Nat → Nat → Jl → Prop} {SA : World → Nat → Nat → Nat → Nat → Tl → Jl → Prop} (so : SpcOK JA SA) {w w' : World} {S R U J K P D base m : Nat} {t : Tl} {j : Jl} (h : Both11 SA w S R U J K P D base m t j) (hb : Below w.heap.size w w') : Both11 SA w' S R U J K P D base m t j := ⟨so.keep h.sa (KeepT.of_below hb), h.rs.on hb, h.fit⟩
theorem KQ.ofK {base : Nat} {w w' : World} (h : KC base w w') : KQ base w w' := KQ.ofC h.t h.b
theorem box11 (w : World) (o : Sq) : Below w.heap.size w (w.alloc (.cells (sqc o).toArray 47)) := (Below.refl _ w).alloc (Nat.le_refl _) _
set_option maxRecDepth 20000 in
set_option maxHeartbeats 4000000 in
theorem step11_take {JA : World → Nat → Nat → Nat → Jl → Prop} {SA : World → Nat → Nat → Nat → Nat → Tl → Jl → Prop} (so : SpcOK JA SA) (o : Sq) (S R U J K P D base m : Nat) (t : Tl) (j : Jl) (w : World) (h : Both11 SA w S R U J K P D base m t j) (hkind : o.kind = 1) :
    Calls Tryz.prog 18 #[.pointer (some ⟨S, 0, none⟩), .pointer (some ⟨R, 0, none⟩), .agg (sqc o).toArray] w fun e w' => e = .returned (.bool true) ∧ Hid (Both11 SA w' S R U J K P D base m (tkT t j) j) ∧ Hid (KQ base w w') := by
  obtain ⟨kind, at', by'⟩ := o
  change kind = 1 at hkind
  subst hkind
  have HB := mkHid (box11 w ⟨1, at', by'⟩)
  have h1 := h.on so HB.out
  have HF := mkHid h.fit
  have H1 := so.take _ S J P base m t j h1.sa h.fit
  have HR := mkHid h1.rs
  have H2 := fun W (hW : RefS W R U K D base m t j) => refTake11 hW (Nat.le_trans HF.out.m (by omega)) HF.out.good.off
  have HK0 := mkHid (KQ.of_below HB.out h.rs.lo)
  have HT := mkHid h.fit.take
  generalize tkV t j = A at *
  generalize tkE t j = E at *
  generalize tkT t j = T1 at *
  have c0 : (w.alloc (.cells (sqc ⟨1, at', by'⟩).toArray 47)).cell? ⟨w.heap.size, 0, none⟩ = some (.int .i64 1) := (Blk.new w _ (sqc _)).cell 0
  clear h h1
  simp only [sqc] at *
  go_enter Tryz.func18, Tryz.ntmps18
  go_wp2_with fail
  refine H1.mono ?_
  rintro e w1 ⟨rfl, hS1, hK1⟩
  have HR1 := mkHid (HR.out.keepS hK1)
  have HK1 := mkHid (HK0.out.trans (KQ.ofS hK1))
  have HS1 := mkHid hS1
  clear hS1 hK1 H1
  go_wp2_with fail
  refine (H2 _ HR1.out).mono ?_
  rintro e w2 ⟨rfl, hR2, hK2⟩
  have HS2 := mkHid (so.keep HS1.out hK2.out.t)
  have HK2 := mkHid (HK1.out.trans (KQ.ofK hK2.out))
  clear H2
  go_wp2_with fail
  go_ret
  exact ⟨rfl, ⟨HS2.out, hR2.out, HT.out⟩, HK2⟩
end Go.Proofs.YtdeoankmmolebaaGreat
namespace Go.Proofs.YtdeoankmmolebaaGreat
open Go.RowKit

def sq0 : Sq := ⟨0, 0, 0⟩
structure OkS (o : Sq) : Prop where
  kind0 : -9223372036854775808 ≤ o.kind
  kind1 : o.kind ≤ 9223372036854775807
  at0 : -9223372036854775808 ≤ o.at_
  at1 : o.at_ ≤ 9223372036854775807
structure IsSs (w : World) (a : Option Addr) (len cap : Nat) (os : List Sq) : Prop where
  len_eq : os.length = len
  max : len ≤ 140737488351232
  cells : 0 < len → ∃ b off, a = some ⟨b, off, none⟩ ∧ b < w.heap.size ∧ ∀ i, i < len → ∀ j, j < 3 → w.cell? ⟨b, off + i * 3 + j, none⟩ = (sqc (os.getD i sq0))[j]?
  ok : ∀ i, i < len → OkS (os.getD i sq0)
end Go.Proofs.YtdeoankmmolebaaGreat
namespace Go.Proofs.YtdeoankmmolebaaGreat
open Go.ChangeShapes Go.WideShapes

theorem weights_all_mem {H : Type} {P : Program} {e : TypeId} {d : DataW H} {n : Nat} (hn : n ∈ d.weights P e) : ∀ {l : List (DataW H)}, d ∈ l → n ∈ DataW.weightsAll P e l
  | [], h => by cases h
  | x :: l, h => by
    simp only [DataW.weightsAll]
    rcases List.mem_cons.1 h with rfl | h
    · exact List.mem_append_left _ hn
    · exact List.mem_append_right _ (weights_all_mem hn h)
theorem IsKs.below {w w' : World} {a : Option Addr} {n cap : Nat} {l : List Bool} (h : IsKs w a n cap l) (hb : Go.RowKit.Below w.heap.size w w') : IsKs w' a n cap l :=
  ⟨h.len_eq, fun hp => by
    obtain ⟨b, off, e, hc⟩ := h.cells hp
    refine ⟨b, off, e, fun i hi => ?_⟩
    rw [← hc i hi]
    exact hb.cell (cell_lt (hc i hi))⟩

theorem cellsBo : Tryz.prog.cellsOf 4 = 1 := by kernel_rfl
theorem open_bytes {H : Type} {enc : TypeId × Value → H} {W : World} {fuel : Nat} {a : Option Addr} {len cap : Nat} {x : DataW H × List MemPlace} (h : DataW.trod enc Tryz.prog W 0 (fun _ => true) true fuel 22 [.slice a len cap] = some x) :
    ∃ b, IsB W a len cap b ∧ ∀ N, (∀ n ∈ x.1.weights Tryz.prog 22, n ≤ N) → len ≤ N := by
  rcases open_ints Tryz.underlying22 Tryz.underlying5 (by kernel_rfl) h with ⟨hcs, _⟩ | ⟨y, l, c, zs, hcs, _, hl, hm, hz, hx, hcell, hwz⟩
  · simp only [List.cons.injEq, and_true, Value.slice.injEq] at hcs
    obtain ⟨rfl, rfl, rfl⟩ := hcs
    exact ⟨[], isB_none W, fun _ _ => Nat.zero_le _⟩
  · simp only [List.cons.injEq, and_true, Value.slice.injEq] at hcs
    obtain ⟨rfl, rfl, rfl⟩ := hcs
    have hz0 : zs.length = cap := by simpa using hz
    have hrow : IsRow .u8 W (some y) len cap zs := .inr ⟨_, rfl, hl, hm, hz0, hcell, hwz⟩
    obtain ⟨b, hb⟩ := hrow.bytes
    refine ⟨b, hb, fun N hN => ?_⟩
    have hb1 : Tryz.prog.bytesOf 5 = 1 := by kernel_rfl
    rw [hx] at hN
    simp only [DataW.weights, Tryz.underlying22, hb1] at hN
    have := hN _ (List.mem_cons_self ..)
    simp only [lits, List.length_map, List.length_take] at this
    omega
end Go.Proofs.YtdeoankmmolebaaGreat
namespace Go.Proofs.YtdeoankmmolebaaGreat
open Go.ChangeShapes Go.WideShapes

theorem cellsSq : Tryz.prog.cellsOf 47 = 3 := by kernel_rfl
set_option maxRecDepth 20000 in
theorem open_sq {H : Type} {enc : TypeId × Value → H} {W : World} {n : Nat} {cs : List Value} {x : DataW H × List MemPlace} (h : DataW.trod enc Tryz.prog W 0 (fun _ => true) true n 47 cs = some x) :
    ∃ q : Sq, cs = sqc q ∧ OkS q := by
  obtain ⟨xs, k, hk, hxy, hcl, hxl, hf⟩ := DataW.trod_struct Tryz.underlying47 h
  rw [cellsSq] at hcl
  match xs, hxl, cs, hcl with
  | [y0, y1, y2], _, [v0, v1, v2], _ =>
    have g0 := hf 0 _ rfl
    have g1 := hf 1 _ rfl
    have g2 := hf 2 _ rfl
    have c3 : Tryz.prog.cellsOf 3 = 1 := by kernel_rfl
    have c8 : Tryz.prog.cellsOf 5 = 1 := by kernel_rfl
    simp [c3, c8] at g0 g1 g2
    obtain ⟨k0, e0, _, hw0⟩ := DataW.trod_int Tryz.underlying3 g0
    obtain ⟨k1, e1, _, hw1⟩ := DataW.trod_int Tryz.underlying3 g1
    obtain ⟨k2, e2, _, hw2⟩ := DataW.trod_int Tryz.underlying5 g2
    simp only [List.cons.injEq, and_true] at e0 e1 e2
    subst e0 e1 e2
    have r0 : -9223372036854775808 ≤ k0 ∧ k0 ≤ 9223372036854775807 := by simpa [Lit.wf, IntKind.min, IntKind.max, IntKind.signed, IntKind.bits] using hw0
    have r1 : -9223372036854775808 ≤ k1 ∧ k1 ≤ 9223372036854775807 := by simpa [Lit.wf, IntKind.min, IntKind.max, IntKind.signed, IntKind.bits] using hw1
    have r2 : 0 ≤ k2 ∧ k2 ≤ 255 := by simpa [Lit.wf, IntKind.min, IntKind.max, IntKind.signed, IntKind.bits] using hw2
    have hu2 : ((UInt8.ofNat k2.toNat).toNat : Int) = k2 := by simp only [UInt8.toNat_ofNat']; omega
    refine ⟨⟨k0, k1, UInt8.ofNat k2.toNat⟩, ?_, r0.1, r0.2, r1.1, r1.2⟩
    unfold sqc
    simp only [hu2]
theorem open_ss {H : Type} {enc : TypeId × Value → H} {W : World} {fuel : Nat} {a : Option Addr} {len cap : Nat} {x : DataW H × List MemPlace} (h : DataW.trod enc Tryz.prog W 0 (fun _ => true) true fuel 27 [.slice a len cap] = some x) (hN : ∀ n ∈ x.1.weights Tryz.prog 27, n ≤ 140737488351232) :
    ∃ os, IsSs W a len cap os := by
  rcases Deep.open_slice Tryz.underlying27 h with ⟨hcs, _⟩ | ⟨ad, l, c, m, n, D, Pl, hcs, _, hl, hm, hmm, hx, hel⟩
  · simp only [List.cons.injEq, and_true, Value.slice.injEq] at hcs
    obtain ⟨rfl, rfl, rfl⟩ := hcs
    exact ⟨[], rfl, Nat.zero_le _, fun h => absurd h (Nat.lt_irrefl 0), fun i hi => absurd hi (Nat.not_lt_zero _)⟩
  · simp only [List.cons.injEq, and_true, Value.slice.injEq] at hcs
    obtain ⟨rfl, rfl, rfl⟩ := hcs
    have hmc : m = cap := by simpa using hmm
    subst hmc
    rw [cellsSq] at hel
    have each : ∀ i, i < len → ∃ q : Sq, (∀ j, j < 3 → W.cell? (ad.add (i * 3 + j)) = (sqc q)[j]?) ∧ OkS q := by
      intro i hi
      obtain ⟨cs', h1, h2⟩ := hel i (by omega)
      obtain ⟨_, _, hcell⟩ := World.cells?_some h1
      obtain ⟨o, rfl, hok⟩ := open_sq h2
      refine ⟨o, fun j hj => ?_, hok⟩
      have e := hcell j (by omega)
      rw [Deep.add_add] at e
      simpa using e
    haveI : Inhabited Sq := ⟨sq0⟩
    obtain ⟨q, hq⟩ := Deep.choose_lt each
    have hn : ∀ i, i < len → ((List.range len).map q).getD i sq0 = q i := fun i hi => by simp [hi]
    refine ⟨(List.range len).map q, by simp, ?_, fun hp => ?_, fun i hi => by rw [hn i hi]; exact (hq i hi).2⟩
    rotate_left
    · obtain ⟨b, off, spot⟩ := ad
      have h00 : W.cell? (Addr.add ⟨b, off, spot⟩ (0 * 3 + 0)) = some (.int .i64 (q 0).kind) := ((hq 0 hp).1 0 (by omega))
      have hspot : spot = none := by simpa [Addr.add] using World.cell?_spot h00
      subst hspot
      refine ⟨b, off, rfl, cell_lt h00, fun i hi j hj => ?_⟩
      have e := (hq i hi).1 j hj
      rw [Addr.add_lit] at e
      rw [hn i hi, Nat.add_assoc]
      exact e
    · have hb1 : 1 ≤ Tryz.prog.bytesOf 47 := of_decide_eq_true (by kernel_rfl)
      rw [hx] at hN
      simp only [DataW.weights, Tryz.underlying27] at hN
      have := hN _ (List.mem_cons_self ..)
      simp only [List.length_map, List.length_range] at this
      have h5 : len * 1 ≤ (len + (m - len)) * Tryz.prog.bytesOf 47 := Nat.mul_le_mul (by omega) hb1
      omega
end Go.Proofs.YtdeoankmmolebaaGreat
