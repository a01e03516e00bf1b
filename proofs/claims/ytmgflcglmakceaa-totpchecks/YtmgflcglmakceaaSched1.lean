/- What schedule1, rounds1 answer. -/
import Derived.Test.YtmgflcglmakceaaSpec1
namespace Go.Proofs.Ytmgflcglmakceaa
open Go.RowKit
attribute [local go_sem] w_add w_addw w_xor w_and w_or w_not w_notm

theorem infoA80 : (Try.prog.info? 64).map (·.size) = some 80 := by kernel_rfl
theorem zero80 : (Try.prog.info? 64).map (·.zero) = some (some (.agg (wv (List.replicate 80 0)).toArray)) := by kernel_rfl
theorem zv80 (w : World) : (zeroValue 64).run Try.prog w = .ok (.agg (wv (List.replicate 80 0)).toArray) w := by
  have h := zero80
  cases hi : Try.prog.info? 64 with
  | none => rw [hi] at h; cases h
  | some i =>
    rw [hi] at h
    have hz : i.zero = some (.agg (wv (List.replicate 80 0)).toArray) := by injection h
    simp [zeroValue, typeInfo, hi, hz]
attribute [local go_sem ↓] zv80

def wfill1 (bl : List UInt8) (n : Nat) : List UInt32 := wl1 bl n ++ List.replicate (80 - n) 0
theorem wfill1_length (bl : List UInt8) (n : Nat) (h : n ≤ 80) : (wfill1 bl n).length = 80 := by
  unfold wfill1; rw [List.length_append, wl1_length, List.length_replicate]; omega
theorem wfill1_set (bl : List UInt8) (n : Nat) (h : n < 80) (x : UInt32) (hx : x = if n < 16 then wd bl n else next1 (wl1 bl n) n) : (wfill1 bl n).set n x = wfill1 bl (n + 1) := by
  unfold wfill1
  obtain ⟨m, hm⟩ : ∃ m, 80 - n = m + 1 := ⟨80 - n - 1, by omega⟩
  have hm' : 80 - (n + 1) = m := by omega
  rw [hm, hm', wl1, List.set_append_right _ _ (by rw [wl1_length]; exact Nat.le_refl _), wl1_length, Nat.sub_self, List.replicate_succ, List.set_cons_zero, List.append_assoc, hx]
  rfl
theorem wfill1_at (bl : List UInt8) (n i : Nat) (h : i < n) : nthW (wfill1 bl n) i = nthW (wl1 bl n) i := by
  have h1 : i < (wl1 bl n).length := by rw [wl1_length]; exact h
  rw [nthW_eq _ _ h1, nthW_eq _ _ (by unfold wfill1; rw [List.length_append]; omega)]
  unfold wfill1
  rw [List.getElem_append_left h1]
theorem wfill1_cell (bl : List UInt8) (n i : Nat) (hn : n ≤ 80) (h : i < n) : (wv (wfill1 bl n))[i]? = some (.int .u32 ((nthW (wl1 bl n) i).toNat : Int)) := by
  rw [wv_at _ _ (by rw [wfill1_length bl n hn]; omega), wfill1_at bl n i h]

theorem rotLposI (x : UInt32) (k : Int) (h0 : 1 ≤ k) (h1 : k ≤ 31) (w : World) :
    Calls Try.prog 42 #[.int .u32 (x.toNat : Int), .int .i64 k] w fun e w' => e = .returned (.int .u32 ((rot x (32 - k.toNat)).toNat : Int)) ∧ w' = w := by
  have h := rotLpos x k.toNat (by omega) (by omega) w
  have e : ((k.toNat : Nat) : Int) = k := by omega
  rw [e] at h; exact h

theorem infoA4 : (Try.prog.info? 62).map (·.size) = some 4 := by kernel_rfl
set_option maxRecDepth 20000 in
set_option maxHeartbeats 1000000 in
theorem digRounds1 (w : World) :
    Calls Try.prog 40 #[] w fun e w' => e = .returned (.agg (wv k1L).toArray) ∧ Below w.heap.size w w' := by
  have b0 : Blk (w.alloc (.cells (wv (List.replicate 4 0)).toArray 62)) w.heap.size 62 (wv (List.replicate 4 0)) := Blk.new w _ _
  go_enter Try.func40, Try.ntmps40
  go_wp2_with (refine wpList_store_row rfl _ _ _ rfl _ (wv k1L).toArray rfl rfl _ _ b0 infoA4 rfl (wv_all _) ?_)
  refine bodyPost_ret (v := .agg (wv k1L).toArray) ?_ rfl ⟨rfl, bel_row ((Below.refl _ _).alloc (Nat.le_refl _) _) (Nat.le_refl _) _⟩
  exact results_cell_row Try.results40 _ _ _ _ _ _ _ rfl (b0.row (wv k1L)) Try.underlying62 rfl infoA4

set_option maxRecDepth 20000 in
set_option maxHeartbeats 4000000 in
theorem digSched1 (bl : List UInt8) (hl : bl.length = 64) (w : World) :
    Calls Try.prog 41 #[.agg (bv bl).toArray] w fun e w' => e = .returned (.agg (wv (wl1 bl 80)).toArray) ∧ Below w.heap.size w w' := by
  have HL : Hid (bl.length = 64) := hl
  have hsz : Hid ((Try.prog.info? 57).map (·.size) = some (bv bl).toArray.size) := by unfold Hid; rw [infoA8, List.size_toArray, bv_length, hl]
  clear hl
  go_enter Try.func41, Try.ntmps41
  go_wp2
  go_loopw [7] (fun c wr => ∃ j : Nat, j ≤ 16 ∧ c = .int .i64 j ∧ Blk wr w.heap.size 57 (bv bl) ∧ Blk wr (w.heap.size + 1) 64 (wv (List.replicate 80 0)) ∧ Blk wr (w.heap.size + 2) 64 (wv (wfill1 bl j)) ∧ Below w.heap.size w wr) (fun c _ => 16 - (intOf c).toNat)
  case atStart => exact ⟨0, by omega, rfl, ((Blk.newAt w _ _ _ (bv bl) rfl rfl).alloc _).alloc _, (Blk.newAt _ _ _ _ (wv (List.replicate 80 0)) (by simp) rfl).alloc _, Blk.newAt _ _ _ _ (wv (wfill1 bl 0)) (by simp) rfl, (((Below.refl _ _).alloc (Nat.le_refl _) _).alloc (by simp) _).alloc (by simp; omega) _⟩
  case round =>
    obtain ⟨j, hj, rfl, b0, b1, b2, hbel⟩ := hrel
    by_cases hlt : j < 16
    · have hlt' : (j : Int) < 80 := by omega
      go_wp2_with (refine wpList_load_row rfl _ _ rfl _ rfl _ _ _ _ b0 Try.underlying57 rfl hsz.out ?_)
      refine (digWord bl HL.out j hlt _).mono ?_
      rintro e w1 ⟨rfl, bel1⟩
      have l0 := b0.lt
      have l1 := b1.lt
      have l2 := b2.lt
      have b0' := b0.below bel1 l0
      have b1' := b1.below bel1 l1
      have b2' := b2.below bel1 l2
      have hc := (b2'.cell j).trans (wv_at _ j (by rw [wfill1_length bl j (by omega)]; omega))
      have hf := b2'.frozen j
      have HS : Hid (Blk (w1.setCell ⟨w.heap.size + 2, j, none⟩ (.int .u32 ((wd bl j).toNat : Int))) (w.heap.size + 2) 64 (wv (wfill1 bl (j + 1)))) := by
        have := b2'.set j (.int .u32 ((wd bl j).toNat : Int))
        rw [← wv_set, wfill1_set bl j (by omega) _ (by rw [if_pos hlt])] at this; exact this
      have bel1' := hbel.trans (bel1.mono hbel.size)
      have H0 : Hid (Blk w1 w.heap.size 57 (bv bl)) := b0'
      have H1 : Hid (Blk w1 (w.heap.size + 1) 64 (wv (List.replicate 80 0))) := b1'
      clear b0 b1 b2 b0' b1' b2' hbel bel1
      go_wp2
      go_roundw
      case rel => exact ⟨j + 1, by omega, by go_num, H0.out.other _ _ (by show w.heap.size ≠ w.heap.size + 2; omega), H1.out.other _ _ (by show w.heap.size + 1 ≠ w.heap.size + 2; omega), HS.out, bel1'.setCell (by show w.heap.size ≤ w.heap.size + 2; omega) _⟩
      case measure => simp [intOf]; omega
    · have b2 : Blk wr (w.heap.size + 2) 64 (wv (wfill1 bl 16)) := by
        have e : j = 16 := by omega
        rw [← e]; exact b2
      go_wp2
      clear hlt hj
      go_loopw [16] (fun c wr => ∃ t : Nat, 16 ≤ t ∧ t ≤ 80 ∧ c = .int .i64 ((t : Int) - 16) ∧ Blk wr (w.heap.size + 1) 64 (wv (List.replicate 80 0)) ∧ Blk wr (w.heap.size + 2) 64 (wv (wfill1 bl t)) ∧ Below w.heap.size w wr) (fun c _ => 64 - (intOf c).toNat)
      case atStart => exact ⟨16, by omega, by omega, rfl, b1, b2, hbel⟩
      case round =>
        clear b0 b1 b2 hbel
        obtain ⟨t, ht, ht', rfl, b1, b2, hbel⟩ := hrel
        by_cases hlt : t < 80
        · have hr : ∀ i, i < t → _ := fun i hi => (b2.cell i).trans (wfill1_cell bl t i (by omega) hi)
          have c3 := hr (t - 3) (by omega)
          have c8 := hr (t - 8) (by omega)
          have c14 := hr (t - 14) (by omega)
          have c16 := hr (t - 16) (by omega)
          clear hr
          have g0 : (t : Int) - 16 < 64 := by omega
          have g1 : (0 : Int) ≤ (t : Int) - 16 := by omega
          have g9 : (t : Int) < 80 := by omega
          have cz := (b2.cell t).trans (wv_at _ t (by rw [wfill1_length bl _ (by omega)]; omega))
          have fz := b2.frozen t
          have HN : Hid (next1 (wl1 bl t) t = rot (xor32 (xor32 (xor32 (nthW (wl1 bl t) (t - 3)) (nthW (wl1 bl t) (t - 8))) (nthW (wl1 bl t) (t - 14))) (nthW (wl1 bl t) (t - 16))) 31) := rfl
          have HS : Hid (∀ w4 : World, w4.heap = wr.heap → Blk (w4.setCell ⟨w.heap.size + 2, t, none⟩ (.int .u32 ((next1 (wl1 bl t) t).toNat : Int))) (w.heap.size + 2) 64 (wv (wfill1 bl (t + 1)))) := by
            intro w4 e
            have b3 : Blk w4 (w.heap.size + 2) 64 (wv (wfill1 bl t)) := by unfold Blk; rw [e]; exact b2
            have := b3.set t (.int .u32 ((next1 (wl1 bl t) t).toNat : Int))
            rw [← wv_set, wfill1_set bl t (by omega) _ (by rw [if_neg (by omega)])] at this; exact this
          have H1 : Hid (Blk wr (w.heap.size + 1) 64 (wv (List.replicate 80 0))) := b1
          clear b1 b2
          obtain ⟨p3, h3⟩ : ∃ p, t - 3 = p := ⟨_, rfl⟩
          obtain ⟨p8, h8⟩ : ∃ p, t - 8 = p := ⟨_, rfl⟩
          obtain ⟨p14, h14⟩ : ∃ p, t - 14 = p := ⟨_, rfl⟩
          obtain ⟨p16, h16⟩ : ∃ p, t - 16 = p := ⟨_, rfl⟩
          rw [h3] at c3 HN
          rw [h8] at c8 HN
          rw [h14] at c14 HN
          rw [h16] at c16 HN
          have q3 : IntKind.i64.wrap ((t : Int) - 3) = (p3 : Int) := by rw [wrapi64_in _ (by omega) (by omega)]; omega
          have q8 : IntKind.i64.wrap ((t : Int) - 8) = (p8 : Int) := by rw [wrapi64_in _ (by omega) (by omega)]; omega
          have q14 : IntKind.i64.wrap ((t : Int) - 14) = (p14 : Int) := by rw [wrapi64_in _ (by omega) (by omega)]; omega
          have q16 : IntKind.i64.wrap ((t : Int) - 16) = (p16 : Int) := by rw [wrapi64_in _ (by omega) (by omega)]; omega
          have r3 : (p3 : Int) < 80 := by omega
          have r8 : (p8 : Int) < 80 := by omega
          have r14 : (p14 : Int) < 80 := by omega
          have r16 : (p16 : Int) < 80 := by omega
          have n3 : ¬ (t = p3) := by omega
          have n8 : ¬ (t = p8) := by omega
          have n14 : ¬ (t = p14) := by omega
          have n16 : ¬ (t = p16) := by omega
          clear h3 h8 h14 h16
          go_wp2
          go_region_held3 (fun w' => w'.cell? ⟨w.heap.size + 2, p3, none⟩ = some (.int .u32 ((nthW (wl1 bl t) p3).toNat : Int)) ∧ w'.cell? ⟨w.heap.size + 2, p8, none⟩ = some (.int .u32 ((nthW (wl1 bl t) p8).toNat : Int)) ∧ w'.cell? ⟨w.heap.size + 2, p14, none⟩ = some (.int .u32 ((nthW (wl1 bl t) p14).toNat : Int)) ∧ w'.cell? ⟨w.heap.size + 2, p16, none⟩ = some (.int .u32 ((nthW (wl1 bl t) p16).toNat : Int)))
            (first | exact ⟨keepc c3 (addr_ne n3), keepc c8 (addr_ne n8), keepc c14 (addr_ne n14), keepc c16 (addr_ne n16)⟩ | go_keep)
            ((go_at_call 42; refine (rotLposI _ _ (by decide) (by decide) _).mono ?_; rintro e w' ⟨rfl, hww⟩; rw [hww]; clear hww w'))
          clear q3 q8 q14 q16
          go_wp2
          go_roundw
          case rel => exact ⟨t + 1, by omega, by omega, by go_num, H1.out.other _ _ (by show w.heap.size + 1 ≠ w.heap.size + 2; omega), by have := HS.out _ rfl; rw [HN.out] at this; exact this, hbel.drew.setCell (by show w.heap.size ≤ w.heap.size + 2; omega) _⟩
          case measure => simp [intOf]; omega
        · have hs2 : Hid ((Try.prog.info? 64).map (·.size) = some (wv (wfill1 bl t)).toArray.size) := by unfold Hid; rw [infoA80, List.size_toArray, wv_length, wfill1_length bl t ht']
          have hs3 : Hid ((wv (List.replicate 80 0)).toArray.size = (wv (wfill1 bl t)).toArray.size) := by unfold Hid; rw [List.size_toArray, List.size_toArray, wv_length, wv_length, wfill1_length bl t ht', List.length_replicate]
          have HF : Hid (wfill1 bl t = wl1 bl 80) := by
            have e : t = 80 := by omega
            unfold Hid wfill1; rw [e]; simp
          have hge : ¬ ((t : Int) - 16 < 64) := by omega
          go_wp2_with (first | (refine wpList_load_row rfl _ _ rfl _ rfl _ _ _ _ b2 Try.underlying64 rfl hs2.out ?_) | (refine wpList_store_row rfl _ _ _ rfl _ _ rfl rfl _ _ b1 hs2.out hs3.out (wv_all _) ?_))
          refine bodyPost_ret (v := .agg (wv (wfill1 bl t)).toArray) ?_ rfl ⟨by rw [HF.out], bel_row hbel (by omega) _⟩
          exact results_cell_row Try.results41 _ _ _ _ _ _ _ rfl (b1.row (wv (wfill1 bl t))) Try.underlying64 rfl hs2.out
end Go.Proofs.Ytmgflcglmakceaa
