/- What mix256 answers. -/
import Derived.Test.YtbclhaleibjkgaaB21
namespace Go.Proofs.Ytbclhaleibjkgaa
open Go.RowKit
attribute [local go_sem] w_add w_addw w_xor w_and w_not w_notm w_shr3 w_shr10

theorem infoA8w : (Try.prog.info? 70).map (·.size) = some 8 := by kernel_rfl

set_option maxRecDepth 20000 in
set_option maxHeartbeats 2000000 in
theorem digMix256 (s : S8) (bl : List UInt8) (hl : bl.length = 64) (w : World) :
    Calls Try.prog 68 #[.agg (wv s.list).toArray, .agg (bv bl).toArray] w fun e w' => e = .returned (.agg (wv (mixS s bl).list).toArray) ∧ Below w.heap.size w w' := by
  have HL : Hid (bl.length = 64) := hl
  have hsz : Hid ((Try.prog.info? 93).map (·.size) = some (bv bl).toArray.size) := by unfold Hid; rw [infoA8, List.size_toArray, bv_length, hl]
  have hs64 : Hid ((Try.prog.info? 102).map (·.size) = some (wv (wl bl 64)).toArray.size) := by unfold Hid; rw [infoA32, List.size_toArray, wv_length, wl_length]
  have hs65 : Hid ((wv (List.replicate 64 0)).toArray.size = (wv (wl bl 64)).toArray.size) := by unfold Hid; rw [List.size_toArray, List.size_toArray, wv_length, wv_length, wl_length, List.length_replicate]
  clear hl
  go_enter Try.func68, Try.ntmps68
  go_wp2_with fail
  refine (digRounds _).mono ?_
  rintro e w1 ⟨rfl, bel1⟩
  have Bs : Blk w1 w.heap.size 70 (wv s.list) := (((Blk.newAt w _ _ _ (wv s.list) rfl rfl).alloc _).alloc _).below bel1 (by simp; omega)
  have Bb : Blk w1 (w.heap.size + 1) 93 (bv bl) := ((Blk.newAt _ _ _ _ (bv bl) (by simp) rfl).alloc _).below bel1 (by simp)
  have Br : Blk w1 (w.heap.size + 2) 70 (wv (List.replicate 8 0)) := (Blk.newAt _ _ _ _ (wv (List.replicate 8 0)) (by simp) rfl).below bel1 (by simp)
  have hbel : Below w.heap.size w w1 := ((((Below.refl _ _).alloc (Nat.le_refl _) _).alloc (by simp) _).alloc (by simp; omega) _).trans (bel1.mono (by simp; omega))
  clear bel1
  have z1 : w.heap.size + 2 < w1.heap.size := Br.lt
  have Bk0 : Blk (w1.alloc (.cells (wv (List.replicate 64 0)).toArray 102)) w1.heap.size 102 (wv (List.replicate 64 0)) := Blk.new w1 _ _
  have n1 : w.heap.size + 1 ≠ w1.heap.size := by omega
  go_wp2_with (first | (refine wpList_store_row rfl _ _ _ rfl _ (wv kL).toArray rfl rfl _ _ Bk0 infoA32 rfl (wv_all _) ?_) | (refine wpList_load_row rfl _ _ rfl _ rfl _ _ _ _ ((Bb.alloc _).rowOther _ _ n1) Try.underlying93 rfl hsz.out ?_))
  refine (digSched bl HL.out _).mono ?_
  rintro e w3 ⟨rfl, bel3⟩
  have n0 : w.heap.size ≠ w1.heap.size := by omega
  have n2 : w.heap.size + 2 ≠ w1.heap.size := by omega
  have Bs3 : Blk w3 _ _ _ := ((Bs.alloc _).rowOther _ _ n0).on bel3
  have Br3 : Blk w3 _ _ _ := ((Br.alloc _).rowOther _ _ n2).on bel3
  have Bk3 : Blk w3 _ _ _ := (Bk0.row (wv kL)).on bel3
  have hbel3 : Below w.heap.size w w3 := (bel_row (hbel.alloc hbel.size _) (g := w1.heap.size) (by omega) (wv kL).toArray).trans (bel3.mono (by simp [World.setRow]; omega))
  clear bel3 Bs Bb Br Bk0 hbel n0 n1 n2
  have m0 : w.heap.size ≠ w3.heap.size := by have := Bs3.lt; omega
  have m2 : w.heap.size + 2 ≠ w3.heap.size := by have := Br3.lt; omega
  have m1 : w1.heap.size ≠ w3.heap.size := by have := Bk3.lt; omega
  have Bw0 : Blk (w3.alloc (.cells (wv (List.replicate 64 0)).toArray 102)) w3.heap.size 102 (wv (List.replicate 64 0)) := Blk.new w3 _ _
  go_wp2_with (refine wpList_store_row rfl _ _ _ rfl _ (wv (wl bl 64)).toArray rfl rfl _ _ Bw0 hs64.out hs65.out (wv_all _) ?_)
  refine wp_named (fun w4 => Blk w4 w.heap.size 70 (wv s.list) ∧ Blk w4 (w.heap.size + 2) 70 (wv (List.replicate 8 0)) ∧ Blk w4 w1.heap.size 102 (wv kL) ∧ Blk w4 w3.heap.size 102 (wv (wl bl 64)) ∧ Below w.heap.size w w4)
    ⟨(Bs3.alloc _).rowOther _ _ m0, (Br3.alloc _).rowOther _ _ m2, (Bk3.alloc _).rowOther _ _ m1, Bw0.row (wv (wl bl 64)), bel_row (hbel3.alloc hbel3.size _) (by have := hbel3.size; omega) _⟩ ?_
  clear Bs3 Br3 Bk3 Bw0 hbel3
  rintro w4 ⟨Bs, Br, Bk, Bw, hbel⟩
  generalize hg3 : w3.heap.size = g3 at *
  clear hg3 hs65
  have c0 : w4.cell? ⟨w.heap.size, 0, none⟩ = some (.int .u32 (s.a.toNat : Int)) := Bs.cell 0
  have c1 : w4.cell? ⟨w.heap.size, 1, none⟩ = some (.int .u32 (s.b.toNat : Int)) := Bs.cell 1
  have c2 : w4.cell? ⟨w.heap.size, 2, none⟩ = some (.int .u32 (s.c.toNat : Int)) := Bs.cell 2
  have c3 : w4.cell? ⟨w.heap.size, 3, none⟩ = some (.int .u32 (s.d.toNat : Int)) := Bs.cell 3
  go_quiet (fail)
  have Bs : Blk (w4.drewN nq) _ _ _ := Bs
  have Br : Blk (w4.drewN nq) _ _ _ := Br
  have Bk : Blk (w4.drewN nq) _ _ _ := Bk
  have Bw : Blk (w4.drewN nq) _ _ _ := Bw
  have hbel : Below _ _ (w4.drewN nq) := bel_drewN hbel nq
  clear c0 c1 c2 c3
  generalize w4.drewN nq = w5 at *
  have c4 : w5.cell? ⟨w.heap.size, 4, none⟩ = some (.int .u32 (s.e.toNat : Int)) := Bs.cell 4
  have c5 : w5.cell? ⟨w.heap.size, 5, none⟩ = some (.int .u32 (s.f.toNat : Int)) := Bs.cell 5
  have c6 : w5.cell? ⟨w.heap.size, 6, none⟩ = some (.int .u32 (s.g.toNat : Int)) := Bs.cell 6
  have c7 : w5.cell? ⟨w.heap.size, 7, none⟩ = some (.int .u32 (s.h.toNat : Int)) := Bs.cell 7
  go_wp2
  go_quiet (fail)
  have Bs : Blk (w5.drewN nq) _ _ _ := Bs
  have Br : Blk (w5.drewN nq) _ _ _ := Br
  have Bk : Blk (w5.drewN nq) _ _ _ := Bk
  have Bw : Blk (w5.drewN nq) _ _ _ := Bw
  have hbel : Below _ _ (w5.drewN nq) := bel_drewN hbel nq
  clear c4 c5 c6 c7
  generalize w5.drewN nq = w6 at *
  go_wp2
  go_loopw [7, 8, 9, 10, 11, 12, 13, 14, 41] (fun a b c d e f g h i wr => ∃ t : Nat, t ≤ 64 ∧ i = .int .i64 t ∧ a = .int .u32 ((runS s (wl bl 64) t).a.toNat : Int) ∧ b = .int .u32 ((runS s (wl bl 64) t).b.toNat : Int) ∧ c = .int .u32 ((runS s (wl bl 64) t).c.toNat : Int) ∧ d = .int .u32 ((runS s (wl bl 64) t).d.toNat : Int) ∧ e = .int .u32 ((runS s (wl bl 64) t).e.toNat : Int) ∧ f = .int .u32 ((runS s (wl bl 64) t).f.toNat : Int) ∧ g = .int .u32 ((runS s (wl bl 64) t).g.toNat : Int) ∧ h = .int .u32 ((runS s (wl bl 64) t).h.toNat : Int) ∧ Blk wr w.heap.size 70 (wv s.list) ∧ Blk wr (w.heap.size + 2) 70 (wv (List.replicate 8 0)) ∧ Blk wr w1.heap.size 102 (wv kL) ∧ Blk wr g3 102 (wv (wl bl 64)) ∧ Below w.heap.size w wr)
    (fun _ _ _ _ _ _ _ _ i _ => 64 - (intOf i).toNat)
  case atStart => exact ⟨0, by omega, rfl, rfl, rfl, rfl, rfl, rfl, rfl, rfl, rfl, Bs, Br, Bk, Bw, hbel⟩
  case round =>
    clear Bs Br Bk Bw hbel
    obtain ⟨t, ht, rfl, rfl, rfl, rfl, rfl, rfl, rfl, rfl, rfl, Bs, Br, Bk, Bw, hbel⟩ := hrel
    by_cases hlt : t < 64
    · have HR : Hid (runS s (wl bl 64) (t + 1) = stepS (runS s (wl bl 64) t) (nthW kL t) (nthW (wl bl 64) t)) := runS_succ _ _ _
      generalize runS s (wl bl 64) t = r at *
      have ck := (Bk.cell t).trans (wv_at kL t hlt)
      have cw := (Bw.cell t).trans (wv_at (wl bl 64) t (by rw [wl_length]; exact hlt))
      have hlt' : (t : Int) < 64 := by omega
      go_wp2_with (go_at_call 78; refine (digRightI _ _ (by decide) (by decide) _).mono ?_; rintro e w' ⟨rfl, hww⟩; rw [hww]; clear hww w')
      go_quiet (fail)
      have Bs : Blk (wr.drewN nq) _ _ _ := Bs
      have Br : Blk (wr.drewN nq) _ _ _ := Br
      have Bk : Blk (wr.drewN nq) _ _ _ := Bk
      have Bw : Blk (wr.drewN nq) _ _ _ := Bw
      have hbel : Below _ _ (wr.drewN nq) := bel_drewN hbel nq
      clear ck cw
      generalize wr.drewN nq = w7 at *
      go_wp2_with (go_at_call 78; refine (digRightI _ _ (by decide) (by decide) _).mono ?_; rintro e w' ⟨rfl, hww⟩; rw [hww]; clear hww w')
      go_roundw
      case rel => exact ⟨t + 1, by omega, by go_num, by rw [HR.out]; rfl, by rw [HR.out]; rfl, by rw [HR.out]; rfl, by rw [HR.out]; rfl, by rw [HR.out]; rfl, by rw [HR.out]; rfl, by rw [HR.out]; rfl, by rw [HR.out]; rfl, Bs, Br, Bk, Bw, hbel⟩
      case measure => simp [intOf]; omega
    · have HM : Hid (mixS s bl = addS s (runS s (wl bl 64) t)) := by
        have e : t = 64 := by omega
        unfold Hid mixS; rw [e]
      have hge : ¬ ((t : Int) < 64) := by omega
      generalize runS s (wl bl 64) t = r at *
      have c0 : wr.cell? ⟨w.heap.size, 0, none⟩ = some (.int .u32 (s.a.toNat : Int)) := Bs.cell 0
      have c1 : wr.cell? ⟨w.heap.size, 1, none⟩ = some (.int .u32 (s.b.toNat : Int)) := Bs.cell 1
      have c2 : wr.cell? ⟨w.heap.size, 2, none⟩ = some (.int .u32 (s.c.toNat : Int)) := Bs.cell 2
      have c3 : wr.cell? ⟨w.heap.size, 3, none⟩ = some (.int .u32 (s.d.toNat : Int)) := Bs.cell 3
      have c4 : wr.cell? ⟨w.heap.size, 4, none⟩ = some (.int .u32 (s.e.toNat : Int)) := Bs.cell 4
      have c5 : wr.cell? ⟨w.heap.size, 5, none⟩ = some (.int .u32 (s.f.toNat : Int)) := Bs.cell 5
      have c6 : wr.cell? ⟨w.heap.size, 6, none⟩ = some (.int .u32 (s.g.toNat : Int)) := Bs.cell 6
      have c7 : wr.cell? ⟨w.heap.size, 7, none⟩ = some (.int .u32 (s.h.toNat : Int)) := Bs.cell 7
      go_wp2_with (refine wpList_store_row rfl _ _ _ rfl _ (wv (addS s r).list).toArray rfl rfl _ _ Br infoA8w rfl (wv_all _) ?_)
      refine bodyPost_ret (v := .agg (wv (addS s r).list).toArray) ?_ rfl ⟨by rw [HM.out], bel_row hbel (by omega) _⟩
      exact results_cell_row Try.results68 _ _ _ _ _ _ _ rfl (Br.row (wv (addS s r).list)) Try.underlying70 rfl infoA8w
end Go.Proofs.Ytbclhaleibjkgaa
