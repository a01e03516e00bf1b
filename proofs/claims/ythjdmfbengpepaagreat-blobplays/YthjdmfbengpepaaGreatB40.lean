/- The program's space: Take, Give, Free. · SpaceNils, over any space that keeps the document. · The program's space keeps the document. · The program's blob: ask (a read that may panic is recovered). -/
import Derived.Test.YthjdmfbengpepaaGreatB39
import Derived.Test.YthjdmfbengpepaaGreatB26
import Derived.Test.YthjdmfbengpepaaGreatB31
import Derived.Defers
import Derived.Recover
import Derived.Laws.Pointers
namespace Go.Proofs.YthjdmfbengpepaaGreat
open Go.RowKit

theorem tk_rng (t : Tl) (j : Jl) (hn : 51 ≤ j.p.n) : tkK t j = j.p.n ∨ (51 ≤ tkK t j ∧ tkK t j < j.p.n) := by
  unfold tkK tkI
  have : ∀ (f i : Nat), i ≤ tkGo (mapL t j) f i ∧ tkGo (mapL t j) f i ≤ i + f := by
    intro f
    induction f with
    | zero => intro i; exact ⟨Nat.le_refl _, Nat.le_refl _⟩
    | succ f ih =>
      intro i
      rw [tkGo]
      split
      · have := ih (i + 1); omega
      · omega
  have := this (j.p.n - 51) 51
  omega
theorem zlen : zero512.length = 512 := by unfold zero512; exact List.length_replicate
theorem cnt_free (b : List UInt8) (d : Nat) : cntL b (51 + d) + freeL b d = cntL b 51 + d := by
  induction d with
  | zero => rfl
  | succ d ih =>
    rw [← Nat.add_assoc, cntL, freeL]
    split <;> omega
theorem free_count (b : List UInt8) (n : Nat) (h : 51 ≤ n) : (n : Int) - 51 - ((countL b (n : Int) : Int) - (countL b 51 : Int)) = (freeL b (n - 51) : Int) ∧ countL b 51 ≤ 51 ∧ countL b (n : Int) ≤ n := by
  obtain ⟨d, rfl⟩ : ∃ d, n = 51 + d := ⟨n - 51, by omega⟩
  have e0 : 51 + d - 51 = d := by omega
  have e1 : ((51 + d : Nat) : Int).toNat = 51 + d := Int.toNat_natCast _
  have e2 : (51 : Int).toNat = 51 := by omega
  have hc := cnt_free b d
  have hl := cntL_le b 51
  have hm := cntL_le b (51 + d)
  rw [countL_all, countL_all, e0, e1, e2]
  generalize cntL b (51 + d) = x at *
  generalize cntL b 51 = y at *
  generalize freeL b d = z at *
  omega
set_option maxRecDepth 20000 in
set_option maxHeartbeats 2000000 in
theorem codTake (w : World) (S J P base m : Nat) (t : Tl) (j : Jl) (h : SpAx w S J P base t j) (hf : Fit t j m) :
    Calls Tryz.prog 101 #[.pointer (some ⟨S, 0, none⟩)] w fun e w' => e = .returned (.tuple #[.int .i64 (tkV t j : Int), .int .i64 (tkE t j)]) ∧ SpAx w' S J P base (tkT t j) j ∧ KS base w w' := by
  obtain ⟨T, g, c, h⟩ := h
  have HH := mkHid h
  have HLw := mkHid h.ta.lo
  have HLe := codLeast w S J P base m t j T g c h hf
  have hn0 := hf.few.n0
  have hn1 := hf.few.n
  clear h
  rcases tk_rng t j (by omega) with hK | ⟨k0, k1⟩
  · rw [lsNo hK] at HLe
    have HO := mkHid (tk_full hK)
    go_enter Tryz.func101, Tryz.ntmps101
    go_wp2_with fail
    refine HLe.mono ?_
    rintro e w1 ⟨rfl, q, rfl⟩
    go_wp2_with fail
    go_ret2
    exact ⟨by rw [HO.out.1, HO.out.2.1]; rfl, by rw [HO.out.2.2]; exact ⟨T, g, c, HH.out.drewN q⟩, KS.of_below (bel_drewN (Below.refl _ _) q) HLw.out⟩
  · obtain ⟨x, hx⟩ : ∃ x, tkK t j = x := ⟨_, rfl⟩
    rw [hx] at k0 k1
    rw [lsYes hx k1] at HLe
    go_enter Tryz.func101, Tryz.ntmps101
    go_wp2_with fail
    refine HLe.mono ?_
    rintro e w1 ⟨rfl, q, rfl⟩
    go_upto_region 6 with fail
    have HA := mkHid (HH.out.drewN q)
    have HBA : Hid (Below w.heap.size w (w.drewN q)) := bel_drewN (Below.refl _ _) q
    generalize w.drewN q = y2 at *
    have c0 : y2.cell? ⟨S, 0, none⟩ = some (.pointer (some ⟨T, 0, none⟩)) := HA.out.blk.cell 0
    obtain ⟨w4, hrun4, hob4, hbb4⟩ := make_run512 y2.drew
    have Hrun := mkHid hrun4
    clear hrun4
    refine wp_region_noPanic ?_
    refine wp_region_held_drew (S := fun w' => w'.cell? ⟨S, 0, none⟩ = some (.pointer (some ⟨T, 0, none⟩))) (by kernel_rfl) c0 (fun hHeld => ?_)
    refine takeH (some 17) (i := 0) (v := ?_) rfl (by kernel_rfl) (by kernel_rfl) (by kernel_rfl) (fun _ _ _ h => h) (Or.inl ⟨by rfl, ?_⟩) hHeld rfl ?_
    rotate_left
    · intro w hSw; go_simp; with_reducible rfl
    (try simp only [Act.put, List.setIfInBounds_toArray, List.set_cons_zero, List.set_cons_succ])
    refine takeH (some 18) (i := 1) (v := ?_) rfl (by kernel_rfl) (by kernel_rfl) (by kernel_rfl) (fun _ _ _ h => h) (Or.inl ⟨by rfl, ?_⟩) hHeld rfl ?_
    rotate_left
    · intro w hSw; go_simp; with_reducible rfl
    (try simp only [Act.put, List.setIfInBounds_toArray, List.set_cons_zero, List.set_cons_succ])
    refine takeH (some 19) (i := 2) (v := ?_) rfl (by kernel_rfl) (by kernel_rfl) (by kernel_rfl) (fun _ _ _ h => h) (Or.inl ⟨by rfl, ?_⟩) hHeld rfl ?_
    rotate_left
    · intro w hSw; go_simp; with_reducible rfl
    (try simp only [Act.put, List.setIfInBounds_toArray, List.set_cons_zero, List.set_cons_succ])
    refine takeH (some 20) (i := 3) (v := ?_) rfl (by kernel_rfl) (by kernel_rfl) (by kernel_rfl) (fun _ _ _ h => h) (Or.inl ⟨by rfl, ?_⟩) hHeld rfl ?_
    rotate_left
    · intro w hSw; go_simp; with_reducible rfl
    (try simp only [Act.put, List.setIfInBounds_toArray, List.set_cons_zero, List.set_cons_succ])
    refine takeH (some 21) (i := 4) (v := ?_) rfl (by kernel_rfl) (by kernel_rfl) (by kernel_rfl) (fun _ _ _ h => h) (Or.inl ⟨by rfl, ?_⟩) hHeld rfl ?_
    rotate_left
    · intro w hSw; go_simp; with_reducible rfl
    (try simp only [Act.put, List.setIfInBounds_toArray, List.set_cons_zero, List.set_cons_succ])
    refine wpAnyH_ready (rs := [5]) (by kernel_rfl) (by simp) (AllReadyH.cons rfl (fun K hK => ?_) AllReadyH.nil)
    go_simp
    rw [Hrun.out]
    go_simp
    have HV4 := mkHid hob4
    have HB4 : Hid (Below y2.heap.size y2 w4) := ((Below.refl _ y2).drew).trans hbb4
    have HS4 := mkHid (HA.out.on HB4.out)
    clear hob4 hbb4 Hrun
    refine hK.out _ _ (HS4.out.blk.cell 0) (fun hHeld => ?_)
    (try simp only [Act.put, List.setIfInBounds_toArray, List.set_cons_zero, List.set_cons_succ])
    clear hK K
    obtain ⟨za, zc, hze, hzI⟩ := HV4.out.isB
    have HW := jrnOK.write w4 T J P base m t j (x : Int) za zc zero512 HS4.out.ta hf.len hf.few hf.m (by omega) (by omega) (by rw [zlen]; omega) (fun W hK _ => by
      obtain ⟨a2, c2, e2, h2⟩ := (show OwnB W _ _ _ from own_keepO hK HV4.out (by decide)).isB
      rw [hze] at e2
      injection e2 with i1 i2 i3
      subst i1 i3
      exact h2)
    rw [← hze] at HW
    clear hzI
    refine wpAnyH_ready (rs := [6]) (by kernel_rfl) (by simp) (AllReadyH.cons rfl (fun K hK => ?_) AllReadyH.nil)
    go_simp
    go_wp2_with (go_at_call 133; refine HW.mono ?_; rintro e y5 ⟨rfl, ht5, hk5⟩)
    have HS5 : Hid (SpAt y5 S J P base (tkT1 t j x) j T g c) := HS4.out.wrote ht5 hk5 (map_other (by omega))
    refine hK.out _ _ (HS5.out.blk.cell 0) (fun hHeld => ?_)
    (try simp only [Act.put, List.setIfInBounds_toArray, List.set_cons_zero, List.set_cons_succ])
    clear hK K HW
    refine takeH (some 6) (i := 7) (v := ?_) rfl (by kernel_rfl) (by kernel_rfl) (by kernel_rfl) (fun _ _ _ h => h) (Or.inl ⟨by rfl, ?_⟩) hHeld rfl ?_
    rotate_left
    · intro w hSw; go_simp; with_reducible rfl
    (try simp only [Act.put, List.setIfInBounds_toArray, List.set_cons_zero, List.set_cons_succ])
    refine wpAnyH_done (by kernel_rfl) ?_ _
    refine NoPanic.normal ?_
    have HK5 := mkHid ((KS.of_below (HBA.out.trans (HB4.out.mono HBA.out.size)) HLw.out).trans (KS.ofP hk5))
    have HE1 : Hid (tkE1 t j x = t.wrE j (x : Int) zero512) := rfl
    clear ht5 hk5 HB4 HS4 HV4 hHeld c0 HA HBA
    have HF1 : Hid (Fit (tkT1 t j x) j m) := hf.write _ _
    generalize t.wrE j (x : Int) zero512 = E1 at *
    by_cases hz : E1 = 0
    · subst hz
      have HSt := codTurn y5 S J P base m (tkT1 t j x) j x ⟨T, g, c, HS5.out⟩ HF1.out k1
      have HE2 : Hid (tkE2 t j x = (tkT1 t j x).wrE j 49 (flipL (mapL (tkT1 t j x) j) x)) := rfl
      have HT2 : Hid (tkT2 t j x = (tkT1 t j x).write j 49 (flipL (mapL (tkT1 t j x) j) x)) := rfl
      generalize (tkT1 t j x).wrE j 49 (flipL (mapL (tkT1 t j x) j) x) = E2 at *
      generalize (tkT1 t j x).write j 49 (flipL (mapL (tkT1 t j x) j) x) = T2 at *
      by_cases hz2 : E2 = 0
      · subst hz2
        have HO := mkHid (tk_yes hx k1 HE1.out HE2.out)
        go_wp2_with (go_at_call 92; refine HSt.mono ?_; rintro e y6 ⟨rfl, hs6, hk6⟩)
        go_ret2
        exact ⟨by rw [HO.out.1, HO.out.2.1]; rfl, by rw [HO.out.2.2, HT2.out]; exact hs6, HK5.out.trans hk6⟩
      · have HO := mkHid (tk_no2 hx k1 HE1.out (by rw [HE2.out]; exact hz2))
        go_wp2_with (go_at_call 92; refine HSt.mono ?_; rintro e y6 ⟨rfl, hs6, hk6⟩)
        go_ret2
        exact ⟨by rw [HO.out.1, HO.out.2.1, HE2.out]; rfl, by rw [HO.out.2.2, HT2.out]; exact hs6, HK5.out.trans hk6⟩
    · have HO := mkHid (tk_no1 hx k1 (by rw [HE1.out]; exact hz))
      go_wp2_with fail
      go_ret2
      exact ⟨by rw [HO.out.1, HO.out.2.1, HE1.out]; rfl, by rw [HO.out.2.2]; exact ⟨T, g, c, HS5.out⟩, HK5.out⟩
set_option maxRecDepth 20000 in
set_option maxHeartbeats 2000000 in
theorem codGive (w : World) (S J P base m : Nat) (t : Tl) (j : Jl) (i : Int) (h : SpAx w S J P base t j) (hf : Fit t j m) (h0 : -9223372036854775808 ≤ i) (h1 : i ≤ 9223372036854775807) :
    Calls Tryz.prog 42 #[.pointer (some ⟨S, 0, none⟩), .int .i64 i] w fun e w' => e = .returned (.int .i64 (gvE t j i)) ∧ SpAx w' S J P base (gvT t j i) j ∧ KS base w w' := by
  obtain ⟨T, g, c, h⟩ := h
  have HH := mkHid h
  have HLw := mkHid h.ta.lo
  have c1 : w.cell? ⟨S, 1, none⟩ = some (.slice (some ⟨g, 0, none⟩) 512 c) := h.blk.cell 1
  have c2 : w.cell? ⟨S, 2, none⟩ = some (.int .i64 (j.p.n : Int)) := h.blk.cell 2
  have hn0 := hf.few.n0
  have hn1 := hf.few.n
  have hl := (map_ok hf.few hf.good.off hf.lens).2
  have HI : Hid (IsB w (some ⟨g, 0, none⟩) 512 c (mapL t j)) := h.isB hl
  clear h
  by_cases hi : i < 51
  · have HE : Hid ((50 : Int) = gvE t j i ∧ t = gvT t j i) := by unfold Hid gvE gvT; rw [if_pos (.inl hi), if_pos (.inl hi)]; exact ⟨rfl, rfl⟩
    go_enter Tryz.func42, Tryz.ntmps42
    go_wp2_with fail
    go_ret
    exact ⟨ret_i HE.out.1, by rw [← HE.out.2]; exact ⟨T, g, c, HH.out⟩, KS.of_below (Below.refl _ _) HLw.out⟩
  by_cases hn : (j.p.n : Int) ≤ i
  · have HE : Hid ((50 : Int) = gvE t j i ∧ t = gvT t j i) := by unfold Hid gvE gvT; rw [if_pos (.inr (.inl hn)), if_pos (.inr (.inl hn))]; exact ⟨rfl, rfl⟩
    go_enter Tryz.func42, Tryz.ntmps42
    go_wp2_with fail
    go_ret
    exact ⟨ret_i HE.out.1, by rw [← HE.out.2]; exact ⟨T, g, c, HH.out⟩, KS.of_below (Below.refl _ _) HLw.out⟩
  obtain ⟨k, rfl⟩ : ∃ k : Nat, i = (k : Int) := ⟨i.toNat, by omega⟩
  have HG : Hid (gvNo t j (k : Int) ↔ takenL (mapL t j) (k : Int) = false) := by
    unfold Hid gvNo
    exact ⟨fun h => by rcases h with h | h | h; exact absurd h hi; exact absurd h hn; exact h, fun h => .inr (.inr h)⟩
  have HTk := codTaken (some ⟨g, 0, none⟩) 512 c (mapL t j) (k : Int) w HI.out h0 h1
  have HTu := fun q => codTurn (w.drewN q) S J P base m t j k ⟨T, g, c, HH.out.drewN q⟩ hf (by omega)
  have HE : Hid (gvE t j (k : Int) = (if takenL (mapL t j) (k : Int) = false then 50 else t.wrE j 49 (flipL (mapL t j) k)) ∧ gvT t j (k : Int) = (if takenL (mapL t j) (k : Int) = false then t else t.write j 49 (flipL (mapL t j) k))) := by
    unfold Hid gvE gvT
    have e : (k : Int).toNat = k := by omega
    rw [e]
    by_cases h : takenL (mapL t j) (k : Int) = false
    · rw [if_pos (HG.out.2 h), if_pos (HG.out.2 h), if_pos h, if_pos h]; exact ⟨rfl, rfl⟩
    · rw [if_neg (fun x => h (HG.out.1 x)), if_neg (fun x => h (HG.out.1 x)), if_neg h, if_neg h]; exact ⟨rfl, rfl⟩
  clear HG hl HI
  cases ht : takenL (mapL t j) (k : Int) with
  | false =>
    rw [ht] at HTk HE
    have HE1 : Hid ((50 : Int) = gvE t j (k : Int) ∧ t = gvT t j (k : Int)) := ⟨HE.out.1.symm, HE.out.2.symm⟩
    clear HE ht HTu
    go_enter Tryz.func42, Tryz.ntmps42
    go_wp2_with fail
    refine HTk.mono ?_
    rintro e w1 ⟨rfl, q, rfl⟩
    go_wp2_with fail
    go_ret
    exact ⟨ret_i HE1.out.1, by rw [← HE1.out.2]; exact ⟨T, g, c, HH.out.drewN q⟩, KS.of_below (bel_drewN (Below.refl _ _) q) HLw.out⟩
  | true =>
    rw [ht] at HTk HE
    have HE1 : Hid (t.wrE j 49 (flipL (mapL t j) k) = gvE t j (k : Int) ∧ t.write j 49 (flipL (mapL t j) k) = gvT t j (k : Int)) := ⟨HE.out.1.symm, HE.out.2.symm⟩
    clear HE ht
    go_enter Tryz.func42, Tryz.ntmps42
    go_wp2_with fail
    refine HTk.mono ?_
    rintro e w1 ⟨rfl, q, rfl⟩
    go_wp2_with fail
    refine (HTu q).mono ?_
    rintro e w2 ⟨rfl, hs, hk⟩
    go_wp2_with fail
    go_ret
    exact ⟨ret_i HE1.out.1, by rw [← HE1.out.2]; exact hs, (KS.of_below (bel_drewN (Below.refl _ _) q) HLw.out).trans hk⟩
set_option maxRecDepth 20000 in
set_option maxHeartbeats 2000000 in
theorem codFree (w : World) (S J P base m : Nat) (t : Tl) (j : Jl) (h : SpAx w S J P base t j) (hf : Fit t j m) :
    Calls Tryz.prog 15 #[.pointer (some ⟨S, 0, none⟩)] w fun e w' => e = .returned (.int .i64 (freeL (mapL t j) (j.p.n - 51) : Int)) ∧ SpAx w' S J P base t j ∧ KS base w w' := by
  obtain ⟨T, g, c, h⟩ := h
  have HH := mkHid h
  have HLw := mkHid h.ta.lo
  have c1 : w.cell? ⟨S, 1, none⟩ = some (.slice (some ⟨g, 0, none⟩) 512 c) := h.blk.cell 1
  have c2 : w.cell? ⟨S, 2, none⟩ = some (.int .i64 (j.p.n : Int)) := h.blk.cell 2
  have hn0 := hf.few.n0
  have hn1 := hf.few.n
  have hl := (map_ok hf.few hf.good.off hf.lens).2
  have HCn : ∀ q, Calls Tryz.prog 44 #[.slice (some ⟨g, 0, none⟩) 512 c, .int .i64 (j.p.n : Int)] (w.drewN q) fun e w' => e = .returned (.int .i64 (countL (mapL t j) (j.p.n : Int) : Int)) ∧ w' = w.drewN q := fun q => codSCount (some ⟨g, 0, none⟩) 512 c (mapL t j) _ _ ((h.isB hl).drewN q) (by omega) (by omega) (by omega)
  have HC5 : ∀ q, Calls Tryz.prog 44 #[.slice (some ⟨g, 0, none⟩) 512 c, .int .i64 51] (w.drewN q) fun e w' => e = .returned (.int .i64 (countL (mapL t j) 51 : Int)) ∧ w' = w.drewN q := fun q => codSCount (some ⟨g, 0, none⟩) 512 c (mapL t j) _ _ ((h.isB hl).drewN q) (by omega) (by omega) (by omega)
  obtain ⟨hv, hv1, hv2⟩ := free_count (mapL t j) j.p.n (by omega)
  clear h hl
  generalize countL (mapL t j) (j.p.n : Int) = C1 at *
  generalize countL (mapL t j) 51 = C2 at *
  generalize freeL (mapL t j) (j.p.n - 51) = fr at *
  go_enter Tryz.func15, Tryz.ntmps15
  go_wp2_with fail
  go_quiet (first
    | (go_at_call_of 44 (Value.int IntKind.i64 51); exact Calls.quiet_of_same (HC5 _))
    | (go_at_call_of 44 (Value.int IntKind.i64 (j.p.n : Int)); exact Calls.quiet_of_same (HCn _)))
  have d2 : (w.drewN nq).cell? ⟨S, 2, none⟩ = some (.int .i64 (j.p.n : Int)) := (HH.out.drewN nq).blk.cell 2
  go_wp2_with fail
  go_ret
  refine ⟨ret_i (by omega), ⟨T, g, c, HH.out.drewN nq⟩, KS.of_below (bel_drewN (Below.refl _ _) nq) HLw.out⟩
end Go.Proofs.YthjdmfbengpepaaGreat
namespace Go.Proofs.YthjdmfbengpepaaGreat
open Go.RowKit

/-- what nil ones say -/
structure SpcNil : Prop where
  open_ : ∀ (w : World), Calls Tryz.prog 35 #[.pointer none] w fun e w' => (∃ v, e = .returned (.tuple #[v, .int .i64 2])) ∧ Below w.heap.size w w'
  take : ∀ (w : World), Calls Tryz.prog 101 #[.pointer none] w fun e w' => (∃ v, e = .returned (.tuple #[v, .int .i64 2])) ∧ Below w.heap.size w w'
  read : ∀ (w : World) (i : Int), Calls Tryz.prog 23 #[.pointer none, .int .i64 i] w fun e w' => (∃ v, e = .returned (.tuple #[v, .int .i64 2])) ∧ Below w.heap.size w w'
  give : ∀ (w : World) (i : Int), Calls Tryz.prog 42 #[.pointer none, .int .i64 i] w fun e w' => e = .returned (.int .i64 2) ∧ Below w.heap.size w w'
  write : ∀ (w : World) (i : Int) (ba : Option Addr) (bn bc : Nat), Calls Tryz.prog 102 #[.pointer none, .int .i64 i, .slice ba bn bc] w fun e w' => e = .returned (.int .i64 2) ∧ Below w.heap.size w w'
  commit : ∀ (w : World), Calls Tryz.prog 121 #[.pointer none] w fun e w' => e = .returned (.int .i64 2) ∧ Below w.heap.size w w'
  free : ∀ (w : World), Calls Tryz.prog 15 #[.pointer none] w fun e w' => e = .returned (.int .i64 0) ∧ Below w.heap.size w w'
  left : ∀ (w : World), Calls Tryz.prog 97 #[.pointer none] w fun e w' => e = .returned (.int .i64 0) ∧ Below w.heap.size w w'
end Go.Proofs.YthjdmfbengpepaaGreat
namespace Go.Proofs.YthjdmfbengpepaaGreat
open Go.RowKit

theorem spcOK : SpcOK JAt SpAx where
  toJ := fun ⟨_, _, _, h⟩ => jrnOK.toJ h.ta
  lo := fun ⟨_, _, _, h⟩ => h.ta.lo
  keep := fun h hk => h.keep hk
  open_ := codOpen
  take := codTake
  give := codGive
  read := codSRead
  write := codSWrite
  free := codFree
  left := codSLeft
  commit := codSCommit
  taken := fun w a len cap l i h _ h0 h1 => (codTaken a len cap l i w h h0 h1).mono fun _ _ ⟨he, m, hm⟩ => ⟨he, by rw [hm]; exact bel_drewN (Below.refl _ _) m⟩
  count := fun w a len cap l n h hl h0 h1 => (codSCount a len cap l n w h hl h0 h1).mono fun _ _ ⟨he, hm⟩ => ⟨he, by rw [hm]; exact Below.refl _ _⟩
theorem nilOpen (w : World) : Calls Tryz.prog 35 #[.pointer none] w fun e w' => (∃ v, e = .returned (.tuple #[v, .int .i64 2])) ∧ Below w.heap.size w w' := by
  go_enter Tryz.func35, Tryz.ntmps35
  go_wp2_with fail
  go_ret2
  exact ⟨⟨_, rfl⟩, Below.refl _ _⟩
theorem nilTake (w : World) : Calls Tryz.prog 101 #[.pointer none] w fun e w' => (∃ v, e = .returned (.tuple #[v, .int .i64 2])) ∧ Below w.heap.size w w' := by
  go_enter Tryz.func101, Tryz.ntmps101
  go_wp2_with fail
  go_ret2
  exact ⟨⟨_, rfl⟩, Below.refl _ _⟩
theorem nilSRead (w : World) (i : Int) : Calls Tryz.prog 23 #[.pointer none, .int .i64 i] w fun e w' => (∃ v, e = .returned (.tuple #[v, .int .i64 2])) ∧ Below w.heap.size w w' := by
  go_enter Tryz.func23, Tryz.ntmps23
  go_wp2_with fail
  go_ret2
  exact ⟨⟨_, rfl⟩, Below.refl _ _⟩
theorem nilGive (w : World) (i : Int) : Calls Tryz.prog 42 #[.pointer none, .int .i64 i] w fun e w' => e = .returned (.int .i64 2) ∧ Below w.heap.size w w' := by
  go_enter Tryz.func42, Tryz.ntmps42
  go_wp2_with fail
  go_ret
  exact ⟨rfl, Below.refl _ _⟩
theorem nilSWrite (w : World) (i : Int) (ba : Option Addr) (bn bc : Nat) : Calls Tryz.prog 102 #[.pointer none, .int .i64 i, .slice ba bn bc] w fun e w' => e = .returned (.int .i64 2) ∧ Below w.heap.size w w' := by
  go_enter Tryz.func102, Tryz.ntmps102
  go_wp2_with fail
  go_ret
  exact ⟨rfl, Below.refl _ _⟩
theorem nilSCommit (w : World) : Calls Tryz.prog 121 #[.pointer none] w fun e w' => e = .returned (.int .i64 2) ∧ Below w.heap.size w w' := by
  go_enter Tryz.func121, Tryz.ntmps121
  go_wp2_with fail
  go_ret
  exact ⟨rfl, Below.refl _ _⟩
theorem nilFree (w : World) : Calls Tryz.prog 15 #[.pointer none] w fun e w' => e = .returned (.int .i64 0) ∧ Below w.heap.size w w' := by
  go_enter Tryz.func15, Tryz.ntmps15
  go_wp2_with fail
  go_ret
  exact ⟨rfl, Below.refl _ _⟩
theorem nilLeft (w : World) : Calls Tryz.prog 97 #[.pointer none] w fun e w' => e = .returned (.int .i64 0) ∧ Below w.heap.size w w' := by
  go_enter Tryz.func97, Tryz.ntmps97
  go_wp2_with fail
  go_ret
  exact ⟨rfl, Below.refl _ _⟩
theorem spcNil : SpcNil where
  open_ := nilOpen
  take := nilTake
  read := nilSRead
  give := nilGive
  write := nilSWrite
  commit := nilSCommit
  free := nilFree
  left := nilLeft
end Go.Proofs.YthjdmfbengpepaaGreat
namespace Go.Proofs.YthjdmfbengpepaaGreat
open Go.RowKit

theorem codSReadB (w : World) (S J P base m : Nat) (t : Tl) (j : Jl) (i : Int) (h : SpAx w S J P base t j) (hf : Fit t j m) (h0 : -9223372036854775808 ≤ i) (h1 : i ≤ 9223372036854775807) :
    Calls Tryz.prog 23 #[.pointer (some ⟨S, 0, none⟩), .int .i64 i] w fun e w' => (∃ v, e = .returned (.tuple #[v, .int .i64 (spRdE t j i)]) ∧ IsV w' v (spRdB t j i)) ∧ Below w.heap.size w w' := by
  obtain ⟨T, g, c, h⟩ := h
  have c0 : w.cell? ⟨S, 0, none⟩ = some (.pointer (some ⟨T, 0, none⟩)) := h.blk.cell 0
  obtain ⟨M, tr, hT⟩ := h.ta
  have HR := codTRead w T J P base t j M tr i hT (hf.few.few (by have := hf.m; omega)) hf.good.off h0 h1
  clear h hT
  by_cases hi : i < 50
  · have HE : Hid ((50 : Int) = spRdE t j i ∧ [] = spRdB t j i) := by unfold Hid spRdE spRdB; rw [if_pos hi, if_pos hi]; exact ⟨rfl, rfl⟩
    clear HR
    go_enter Tryz.func23, Tryz.ntmps23
    go_wp2_with fail
    go_ret2
    exact ⟨⟨.slice none 0 0, by rw [← HE.out.1]; rfl, by rw [← HE.out.2]; exact ⟨none, 0, rfl, isB_none _⟩⟩, Below.refl _ _⟩
  · have HE : Hid (t.rdE j i = spRdE t j i ∧ t.rdB j i = spRdB t j i) := by unfold Hid spRdE spRdB; rw [if_neg hi, if_neg hi]; exact ⟨rfl, rfl⟩
    go_enter Tryz.func23, Tryz.ntmps23
    go_wp2_with fail
    refine HR.mono ?_
    rintro e w1 ⟨⟨v, rfl, hv⟩, hk⟩
    go_wp2_with fail
    go_ret2
    exact ⟨⟨v, by rw [← HE.out.1]; rfl, by rw [← HE.out.2]; exact hv⟩, hk⟩
theorem askIdle (Q E : Nat) (w : World) :
    CallsD Tryz.prog 109 #[.pointer (some ⟨Q, 0, none⟩), .pointer (some ⟨E, 0, none⟩)] .returning w fun e u' w' => e = .returned (.tuple #[]) ∧ u' = .returning ∧ w' = w := by
  refine callsD_of_wpS Tryz.func109 rfl fun c₀ cs hu => ?_
  apply wpS_seq
  apply wpS_region
  simp [wpOpsS, go_sem, recoverD, hu, Tryz.ntmps109, Exit.thenS]
  refine wpS_cond (t := false) (by simp [Act.eval, Array.replicate]) ?_
  simp only [Bool.false_eq_true, if_false]
  refine wpS_of_wp (wp_skip ?_)
  cases c₀
  simp_all [bodyPostS, results, Tryz.results109]
theorem results_cells12 {P : Program} {fn : Func} {p u : Tmp} {ty tu : TypeId} (h : fn.results = #[.cell p ty, .cell u tu]) (tmps : Array Value) (w : World) (g g2 : Nat) (x v : Value)
    (hp : tmps.getD p undef = .pointer (some ⟨g, 0, none⟩)) (hl : (loadVar ty ⟨g, 0, none⟩).run P w = .ok x w)
    (hp2 : tmps.getD u undef = .pointer (some ⟨g2, 0, none⟩)) (hl2 : (loadVar tu ⟨g2, 0, none⟩).run P w = .ok v w) :
    (results fn tmps).run P w = .ok (.tuple #[x, v]) w := by
  have q1 : tmps[p]?.getD undef = .pointer (some ⟨g, 0, none⟩) := by simpa using hp
  have q2 : tmps[u]?.getD undef = .pointer (some ⟨g2, 0, none⟩) := by simpa using hp2
  simp only [results, h]
  simp [Sem.run_bind, Result.andThen, q1, q2, asAddr, hl, hl2]
theorem load_er12 (w : World) (g : Nat) (v : Value) (h : Blk w g 31 [v]) : (loadVar 31 ⟨g, 0, none⟩).run Tryz.prog w = .ok v w := by
  have hc : w.cell? ⟨g, 0, none⟩ = some v := h.cell 0
  simp [loadVar, go_sem, hc]
theorem load_sl12 (w : World) (g : Nat) (v : Value) (h : Blk w g 41 [v]) : (loadVar 41 ⟨g, 0, none⟩).run Tryz.prog w = .ok v w := by
  have hc : w.cell? ⟨g, 0, none⟩ = some v := h.cell 0
  simp [loadVar, go_sem, hc]
theorem askRet (tmps : Array Value) (v k : Value) (w1 : World) (N : Nat) (R : Ending → World → Prop)
    (h2 : tmps.getD 4 undef = .pointer (some ⟨N, 0, none⟩)) (h3 : tmps.getD 5 undef = .pointer (some ⟨N + 1, 0, none⟩))
    (KQ : Blk w1 N 41 [v]) (KE : Blk w1 (N + 1) 31 [k])
    (hR : R (.returned (.tuple #[v, k])) w1) :
    bodyPostD Tryz.prog Tryz.f55 R .ret { tmps := tmps, defers := [{ target := .fn (.func 109) #[.pointer (some ⟨N, 0, none⟩), .pointer (some ⟨N + 1, 0, none⟩)], args := #[] }] } w1 := by
  refine leaves_cons (f := 109) (args := #[.pointer (some ⟨N, 0, none⟩), .pointer (some ⟨N + 1, 0, none⟩)]) (by simp) (by simp [go_sem]) ?_
  refine (askIdle N (N + 1) w1).mono ?_
  rintro e u' w'' ⟨rfl, rfl, rfl⟩
  exact ⟨_, results_cells12 (P := Tryz.prog) rfl tmps w'' N (N + 1) _ _ h2 (load_sl12 w'' N _ KQ) h3 (load_er12 w'' (N + 1) _ KE), hR⟩
/-- a block of one cell that holds no byte isn't the bytes' own -/
theorem isB_ne {w : World} {a : Option Addr} {len cap : Nat} {l : List UInt8} {B t : Nat} {v : Value} (h : IsB w a len cap l) (hb : Blk w B t [v]) (hv : ∀ n : Int, v ≠ .int .u8 n) : 0 < len → ∀ x, a = some x → x.block ≠ B := fun hp x hx e => by
  obtain ⟨b, off, e1, hc⟩ := h.cells hp
  have h0 := hc 0 hp
  rw [hx] at e1
  have e2 := Option.some.inj e1
  subst e2
  change b = B at e
  subst e
  rw [Nat.add_zero, cell_of_row w b off _ _ _ hb] at h0
  cases off with
  | zero => exact hv _ (Option.some.inj h0)
  | succ n => simp at h0
set_option maxRecDepth 20000 in
set_option maxHeartbeats 1000000 in
theorem codAsk (w : World) (S J P base m : Nat) (t : Tl) (j : Jl) (i : Int) (h : SpAx w S J P base t j) (hf : Fit t j m) (h0 : -9223372036854775808 ≤ i) (h1 : i ≤ 9223372036854775807) :
    Calls Tryz.prog 55 #[.func (.func 23) #[.pointer (some ⟨S, 0, none⟩)] #[], .int .i64 i] w fun e w' => (∃ v, e = .returned (.tuple #[v, .int .i64 (spRdE t j i)]) ∧ IsV w' v (spRdB t j i)) ∧ Below w.heap.size w w' := by
  have hmf : ∀ (fn : Fn) (first cap : Array Value) (w : World), (Instr.makeFunc fn first cap).run Tryz.prog w = .ok (.func fn first cap) w := fun _ _ _ _ => rfl
  have A0 : Below w.heap.size w ((w.alloc (.cells #[.slice none 0 0] 41)).alloc (.cells #[.int .i64 0] 31)) := ((Below.refl _ w).alloc (Nat.le_refl _) _).alloc (by simp) _
  have KQ0 : Blk ((w.alloc (.cells #[.slice none 0 0] 41)).alloc (.cells #[.int .i64 0] 31)) w.heap.size 41 [.slice none 0 0] := (Blk.newAt w w.heap.size 41 _ [.slice none 0 0] rfl rfl).alloc _
  have KE0 : Blk ((w.alloc (.cells #[.slice none 0 0] 41)).alloc (.cells #[.int .i64 0] 31)) (w.heap.size + 1) 31 [.int .i64 0] := Blk.newAt _ (w.heap.size + 1) 31 _ [.int .i64 0] (by simp) rfl
  have HR := codSReadB _ S J P base m t j i (SpAx.keep h (KeepT.of_below A0)) hf h0 h1
  generalize spRdE t j i = E at *
  generalize spRdB t j i = bb at *
  go_enter_defers Tryz.func55, Tryz.ntmps55
  go_wp2_with (go_at_call 23; refine HR.mono ?_; rintro x w1 ⟨⟨v, rfl, hv⟩, hb1⟩; obtain ⟨va, vc, rfl, hi⟩ := hv; have KQ1 := KQ0.on hb1; have KE1 := KE0.on hb1; have q0 : w1.cell? ⟨w.heap.size, 0, none⟩ = some (.slice none 0 0) := KQ1.cell 0; have f0 := KQ1.frozen 0; have q1 : w1.cell? ⟨w.heap.size + 1, 0, none⟩ = some (.int .i64 0) := KE1.cell 0; have f1 := KE1.frozen 0)
  have hS : (w.alloc (.cells #[.slice none 0 0] 41)).heap.size = w.heap.size + 1 := by simp
  refine askRet _ _ _ _ w.heap.size _ rfl rfl ((KQ1.set 0 _).other _ _ (by show w.heap.size ≠ w.heap.size + 1; omega)) ((KE1.other _ _ (by show w.heap.size + 1 ≠ w.heap.size; omega)).set 0 _) ?_
  have hb2 : Below w.heap.size w w1 := A0.trans (hb1.mono A0.size)
  refine ⟨⟨_, rfl, va, vc, rfl, ?_⟩, (hb2.setCell (p := ⟨w.heap.size, 0, none⟩) (Nat.le_refl _) _).setCell (p := ⟨w.heap.size + 1, 0, none⟩) (Nat.le_succ _) _⟩
  have hi2 := hi.setOther w.heap.size 0 (.slice va bb.length vc) (isB_ne hi KQ1 (fun n e => by cases e))
  exact hi2.setOther (w.heap.size + 1) 0 _ (isB_ne hi2 (KE1.other ⟨w.heap.size, 0, none⟩ _ (by show w.heap.size + 1 ≠ w.heap.size; omega)) (fun n e => by cases e))
end Go.Proofs.YthjdmfbengpepaaGreat
