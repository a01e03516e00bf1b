/- What mix1 answers. -/
import Derived.Test.YtmgflcglmakceaaSched1
import Derived.Test.YtmgflcglmakceaaSpec256
namespace Go.Proofs.Ytmgflcglmakceaa
open Go.RowKit
attribute [local go_sem] w_add w_addw w_xor w_and w_or w_not w_notm
attribute [local go_sem ↓] zv80

theorem infoA8x : (Try.prog.info? 50).map (·.size) = some 8 := by kernel_rfl
def S8.five (s : S8) : S5 := ⟨s.a, s.b, s.c, s.d, s.e⟩

theorem w_add5 (a b c d e : UInt32) : ((a.toNat : Int) + (b.toNat : Int) + (c.toNat : Int) + (d.toNat : Int) + (e.toNat : Int)) % 4294967296 = ((add32 (add32 (add32 (add32 a b) c) d) e).toNat : Int) := by
  unfold add32
  rw [UInt32.toNat_add, UInt32.toNat_add, UInt32.toNat_add, UInt32.toNat_add]
  omega
theorem w_add4x (x y k v : UInt32) : ((x.toNat : Int) + (y.toNat : Int) + (k.toNat : Int) + (v.toNat : Int)) % 4294967296 = ((add32 (add32 (add32 x y) k) v).toNat : Int) := by
  unfold add32
  rw [UInt32.toNat_add, UInt32.toNat_add, UInt32.toNat_add]
  omega

set_option maxRecDepth 20000 in
set_option maxHeartbeats 2000000 in
theorem digMix1 (s : S8) (bl : List UInt8) (hl : bl.length = 64) (w : World) :
    Calls Try.prog 34 #[.agg (wv s.list).toArray, .agg (bv bl).toArray] w fun e w' => e = .returned (.agg (wv (mix1S s.five bl).list8).toArray) ∧ Below w.heap.size w w' := by
  have HL : Hid (bl.length = 64) := hl
  have hsz : Hid ((Try.prog.info? 57).map (·.size) = some (bv bl).toArray.size) := by unfold Hid; rw [infoA8, List.size_toArray, bv_length, hl]
  have hs80 : Hid ((Try.prog.info? 64).map (·.size) = some (wv (wl1 bl 80)).toArray.size) := by unfold Hid; rw [infoA80, List.size_toArray, wv_length, wl1_length]
  have hs81 : Hid ((wv (List.replicate 80 0)).toArray.size = (wv (wl1 bl 80)).toArray.size) := by unfold Hid; rw [List.size_toArray, List.size_toArray, wv_length, wv_length, wl1_length, List.length_replicate]
  clear hl
  go_enter Try.func34, Try.ntmps34
  go_wp2_with fail
  refine (digRounds1 _).mono ?_
  rintro e w1 ⟨rfl, bel1⟩
  have Bs : Blk w1 w.heap.size 50 (wv s.list) := (((Blk.newAt w _ _ _ (wv s.list) rfl rfl).alloc _).alloc _).below bel1 (by simp; omega)
  have Bb : Blk w1 (w.heap.size + 1) 57 (bv bl) := ((Blk.newAt _ _ _ _ (bv bl) (by simp) rfl).alloc _).below bel1 (by simp)
  have Br : Blk w1 (w.heap.size + 2) 50 (wv (List.replicate 8 0)) := (Blk.newAt _ _ _ _ (wv (List.replicate 8 0)) (by simp) rfl).below bel1 (by simp)
  have hbel : Below w.heap.size w w1 := ((((Below.refl _ _).alloc (Nat.le_refl _) _).alloc (by simp) _).alloc (by simp; omega) _).trans (bel1.mono (by simp; omega))
  clear bel1
  have z1 : w.heap.size + 2 < w1.heap.size := Br.lt
  have Bk0 : Blk (w1.alloc (.cells (wv (List.replicate 4 0)).toArray 62)) w1.heap.size 62 (wv (List.replicate 4 0)) := Blk.new w1 _ _
  have n1 : w.heap.size + 1 ≠ w1.heap.size := by omega
  go_wp2_with (first | (refine wpList_store_row rfl _ _ _ rfl _ (wv k1L).toArray rfl rfl _ _ Bk0 infoA4 rfl (wv_all _) ?_) | (refine wpList_load_row rfl _ _ rfl _ rfl _ _ _ _ ((Bb.alloc _).rowOther _ _ n1) Try.underlying57 rfl hsz.out ?_))
  refine (digSched1 bl HL.out _).mono ?_
  rintro e w3 ⟨rfl, bel3⟩
  have n0 : w.heap.size ≠ w1.heap.size := by omega
  have n2 : w.heap.size + 2 ≠ w1.heap.size := by omega
  have Bs3 : Blk w3 _ _ _ := ((Bs.alloc _).rowOther _ _ n0).on bel3
  have Br3 : Blk w3 _ _ _ := ((Br.alloc _).rowOther _ _ n2).on bel3
  have Bk3 : Blk w3 _ _ _ := (Bk0.row (wv k1L)).on bel3
  have hbel3 : Below w.heap.size w w3 := (bel_row (hbel.alloc hbel.size _) (g := w1.heap.size) (by omega) (wv k1L).toArray).trans (bel3.mono (by simp [World.setRow]; omega))
  clear bel3 Bs Bb Br Bk0 hbel n0 n1 n2
  have m0 : w.heap.size ≠ w3.heap.size := by have := Bs3.lt; omega
  have m2 : w.heap.size + 2 ≠ w3.heap.size := by have := Br3.lt; omega
  have m1 : w1.heap.size ≠ w3.heap.size := by have := Bk3.lt; omega
  have Bw0 : Blk (w3.alloc (.cells (wv (List.replicate 80 0)).toArray 64)) w3.heap.size 64 (wv (List.replicate 80 0)) := Blk.new w3 _ _
  go_wp2_with (refine wpList_store_row rfl _ _ _ rfl _ (wv (wl1 bl 80)).toArray rfl rfl _ _ Bw0 hs80.out hs81.out (wv_all _) ?_)
  refine wp_named (fun w4 => Blk w4 w.heap.size 50 (wv s.list) ∧ Blk w4 (w.heap.size + 2) 50 (wv (List.replicate 8 0)) ∧ Blk w4 w1.heap.size 62 (wv k1L) ∧ Blk w4 w3.heap.size 64 (wv (wl1 bl 80)) ∧ Below w.heap.size w w4)
    ⟨(Bs3.alloc _).rowOther _ _ m0, (Br3.alloc _).rowOther _ _ m2, (Bk3.alloc _).rowOther _ _ m1, Bw0.row (wv (wl1 bl 80)), bel_row (hbel3.alloc hbel3.size _) (by have := hbel3.size; omega) _⟩ ?_
  clear Bs3 Br3 Bk3 Bw0 hbel3
  rintro w4 ⟨Bs, Br, Bk, Bw, hbel⟩
  generalize hg3 : w3.heap.size = g3 at *
  clear hg3 hs81
  have c0 : w4.cell? ⟨w.heap.size, 0, none⟩ = some (.int .u32 (s.a.toNat : Int)) := Bs.cell 0
  have c1 : w4.cell? ⟨w.heap.size, 1, none⟩ = some (.int .u32 (s.b.toNat : Int)) := Bs.cell 1
  have c2 : w4.cell? ⟨w.heap.size, 2, none⟩ = some (.int .u32 (s.c.toNat : Int)) := Bs.cell 2
  have c3 : w4.cell? ⟨w.heap.size, 3, none⟩ = some (.int .u32 (s.d.toNat : Int)) := Bs.cell 3
  have c4 : w4.cell? ⟨w.heap.size, 4, none⟩ = some (.int .u32 (s.e.toNat : Int)) := Bs.cell 4
  go_quiet (fail)
  have Bs : Blk (w4.drewN nq) _ _ _ := Bs
  have Br : Blk (w4.drewN nq) _ _ _ := Br
  have Bk : Blk (w4.drewN nq) _ _ _ := Bk
  have Bw : Blk (w4.drewN nq) _ _ _ := Bw
  have hbel : Below _ _ (w4.drewN nq) := bel_drewN hbel nq
  clear c0 c1 c2 c3 c4
  generalize w4.drewN nq = w5 at *
  go_wp2
  go_loopw [7, 8, 9, 10, 11, 27] (fun a b c d e i wr => ∃ t : Nat, t ≤ 80 ∧ i = .int .i64 t ∧ a = .int .u32 ((run1 s.five (wl1 bl 80) t).a.toNat : Int) ∧ b = .int .u32 ((run1 s.five (wl1 bl 80) t).b.toNat : Int) ∧ c = .int .u32 ((run1 s.five (wl1 bl 80) t).c.toNat : Int) ∧ d = .int .u32 ((run1 s.five (wl1 bl 80) t).d.toNat : Int) ∧ e = .int .u32 ((run1 s.five (wl1 bl 80) t).e.toNat : Int) ∧ Blk wr w.heap.size 50 (wv s.list) ∧ Blk wr (w.heap.size + 2) 50 (wv (List.replicate 8 0)) ∧ Blk wr w1.heap.size 62 (wv k1L) ∧ Blk wr g3 64 (wv (wl1 bl 80)) ∧ Below w.heap.size w wr)
    (fun _ _ _ _ _ i _ => 80 - (intOf i).toNat)
  case atStart => exact ⟨0, by omega, rfl, rfl, rfl, rfl, rfl, rfl, Bs, Br, Bk, Bw, hbel⟩
  case round =>
    clear Bs Br Bk Bw hbel
    obtain ⟨t, ht, rfl, rfl, rfl, rfl, rfl, rfl, Bs, Br, Bk, Bw, hbel⟩ := hrel
    by_cases hlt : t < 80
    · obtain ⟨q, hq⟩ : ∃ q, t / 20 = q := ⟨_, rfl⟩
      have hq4 : q < 4 := by omega
      have HR : Hid (run1 s.five (wl1 bl 80) (t + 1) = step1 (run1 s.five (wl1 bl 80) t) t (nthW (wl1 bl 80) t)) := run1_succ _ _ _
      have HST : Hid (∀ r : S5, step1 r t (nthW (wl1 bl 80) t) = ⟨add32 (add32 (add32 (add32 (rot r.a 27) (blendW q r.b r.c r.d)) r.e) (nthW k1L q)) (nthW (wl1 bl 80) t), r.a, rot r.b 2, r.c, r.d⟩) := fun r => by unfold step1; rw [hq]
      generalize run1 s.five (wl1 bl 80) t = r at *
      have ck := (Bk.cell q).trans (wv_at k1L q hq4)
      have cw := (Bw.cell t).trans (wv_at (wl1 bl 80) t (by rw [wl1_length]; exact hlt))
      have hlt' : (t : Int) < 80 := by omega
      have hq1 : (t : Int).tdiv 20 = (q : Int) := by rw [Int.tdiv_eq_ediv_of_nonneg (by omega)]; omega
      have hq2 : (t : Int) / 20 = (q : Int) := by omega
      have hq5 : (q : Int) < 4 := by omega
      clear hq
      go_wp2
      go_quiet (first | (go_at_call 42; exact Calls.quiet_of_same (rotLposI _ _ (by decide) (by decide) _)) | (go_at_call 43; exact Calls.quiet_of_same (digBlend q _ _ _ hq4 _)))
      have Bs : Blk (wr.drewN nq) _ _ _ := Bs
      have Br : Blk (wr.drewN nq) _ _ _ := Br
      have Bk : Blk (wr.drewN nq) _ _ _ := Bk
      have Bw : Blk (wr.drewN nq) _ _ _ := Bw
      have hbel : Below _ _ (wr.drewN nq) := bel_drewN hbel nq
      clear ck cw hq1 hq2
      generalize wr.drewN nq = w7 at *
      go_wp2_with (go_at_call 42; refine (rotLposI _ _ (by decide) (by decide) _).mono ?_; rintro e w' ⟨rfl, hww⟩; rw [hww]; clear hww w')
      go_roundw
      case rel =>
        refine ⟨t + 1, by omega, by go_num, ?_, by rw [HR.out, HST.out], by rw [HR.out, HST.out], by rw [HR.out, HST.out], by rw [HR.out, HST.out], Bs, Br, Bk, Bw, hbel⟩
        rw [HR.out, HST.out]
      case measure => simp [intOf]; omega
    · have HM : Hid (mix1S s.five bl = add1 s.five (run1 s.five (wl1 bl 80) t)) := by
        have e : t = 80 := by omega
        unfold Hid mix1S; rw [e]
      have hge : ¬ ((t : Int) < 80) := by omega
      generalize run1 s.five (wl1 bl 80) t = r at *
      have c0 : wr.cell? ⟨w.heap.size, 0, none⟩ = some (.int .u32 (s.a.toNat : Int)) := Bs.cell 0
      have c1 : wr.cell? ⟨w.heap.size, 1, none⟩ = some (.int .u32 (s.b.toNat : Int)) := Bs.cell 1
      have c2 : wr.cell? ⟨w.heap.size, 2, none⟩ = some (.int .u32 (s.c.toNat : Int)) := Bs.cell 2
      have c3 : wr.cell? ⟨w.heap.size, 3, none⟩ = some (.int .u32 (s.d.toNat : Int)) := Bs.cell 3
      have c4 : wr.cell? ⟨w.heap.size, 4, none⟩ = some (.int .u32 (s.e.toNat : Int)) := Bs.cell 4
      go_wp2_with (refine wpList_store_row rfl _ _ _ rfl _ (wv (add1 s.five r).list8).toArray rfl rfl _ _ Br infoA8x rfl (wv_all _) ?_)
      refine bodyPost_ret (v := .agg (wv (add1 s.five r).list8).toArray) ?_ rfl ⟨by rw [HM.out], bel_row hbel (by omega) _⟩
      exact results_cell_row Try.results34 _ _ _ _ _ _ _ rfl (Br.row (wv (add1 s.five r).list8)) Try.underlying50 rfl infoA8x
end Go.Proofs.Ytmgflcglmakceaa
