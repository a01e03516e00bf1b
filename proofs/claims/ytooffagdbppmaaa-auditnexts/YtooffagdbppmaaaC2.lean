/- AuditShows: the walk. · AuditNexts: how it stands on its way. · AuditNexts: one way of the walk. -/
import Derived.Test.YtooffagdbppmaaaC1
namespace Go.Proofs.Ytooffagdbppmaaa
open Go.RowKit

theorem three_rl14 {w : World} {X : Nat} {r s t : Rc} {q p u : RcA} (hk : Blk w X 26 (rcc r q ++ (rcc s p ++ rcc t u))) (h1 : IsRec w r q) (h2 : IsRec w s p) (h3 : IsRec w t u) : IsRl w (some ⟨X, 0, none⟩) 3 [(r, q), (s, p), (t, u)] :=
  ⟨rfl, fun _ => ⟨X, 0, rfl, fun k x hx j v hv => by
    have hj : j < 10 := by have := (List.getElem?_eq_some_iff.1 hv).1; rw [rcc_len14] at this; exact this
    rw [hk.cell]
    match k, hx with
    | 0, hx =>
      obtain rfl := Option.some.inj hx
      rw [Nat.zero_mul, Nat.zero_add, List.getElem?_append_left (by rw [rcc_len14]; exact hj)]
      exact hv
    | 1, hx =>
      obtain rfl := Option.some.inj hx
      rw [List.getElem?_append_right (by rw [rcc_len14]; omega), rcc_len14, show 0 + 1 * 10 + j - 10 = j by omega, List.getElem?_append_left (by rw [rcc_len14]; exact hj)]
      exact hv
    | 2, hx =>
      obtain rfl := Option.some.inj hx
      rw [List.getElem?_append_right (by rw [rcc_len14]; omega), rcc_len14, List.getElem?_append_right (by rw [rcc_len14]; omega), rcc_len14, show 0 + 2 * 10 + j - 10 - 10 = j by omega]
      exact hv
    | k + 3, hx => cases hx⟩, fun x hx => by
    simp only [List.mem_cons, List.not_mem_nil, or_false] at hx
    rcases hx with rfl | rfl | rfl
    · exact h1
    · exact h2
    · exact h3⟩
/-- how AuditShows stands -/
structure ShAt (w W : World) (c1 c2 c3 : List Value) : Prop where
  s : Blk W w.heap.size 26 c1 ∧ Blk W (w.heap.size + 1) 26 c2 ∧ Blk W (w.heap.size + 1 + 1) 26 c3
  b : Below w.heap.size w W
theorem ShAt.on {w W W' : World} {c1 c2 c3 : List Value} (h : ShAt w W c1 c2 c3) (hb : Below W.heap.size W W') : ShAt w W' c1 c2 c3 := ⟨⟨h.s.1.on hb, h.s.2.1.on hb, h.s.2.2.on hb⟩, h.b.trans (hb.mono h.b.size)⟩
theorem refSameB14 (v1 v2 : Value) (l : List UInt8) (w : World) (h1 : IsV w v1 l) (h2 : IsV w v2 l) : Calls Try.prog 10 #[v1, v2] w fun e w' => e = .returned (.bool true) ∧ Below w.heap.size w w' := by
  refine Calls.mono (refSameV v1 v2 l l w h1 h2) ?_
  rintro e w' ⟨rfl, n, rfl⟩
  exact ⟨by unfold eqB; simp, bel_drewN (Below.refl _ _) n⟩
set_option maxRecDepth 20000 in
set_option maxHeartbeats 4000000 in
theorem shows14 (r s t : Rc) (q p u : RcA) (w : World) (hr : IsRec w r q) (hs : IsRec w s p) (ht : IsRec w t u) (zr : RcZ r) (zs : RcZ s) (zt : RcZ t) :
    Calls Try.prog 3 #[.agg (rcc r q).toArray, .agg (rcc s p).toArray, .agg (rcc t u).toArray] w fun e w' => e = .returned (.bool true) ∧ Below w.heap.size w w' := by
  have HLt := fun X W (hb : Below w.heap.size w W) (hk : Blk W X 26 (rcc r q ++ (rcc s p ++ rcc t u))) => lawLight14 (some ⟨X, 0, none⟩) 3 3 [(r, q), (s, p), (t, u)] W (three_rl14 hk (hr.below hb) (hs.below hb) (ht.below hb)) (fun x hx => by
    simp only [List.mem_cons, List.not_mem_nil, or_false] at hx
    rcases hx with rfl | rfl | rfl
    · exact zr
    · exact zs
    · exact zt) (by omega)
  have HLo : lightR ([(r, q), (s, p), (t, u)].map Prod.fst) = true → rcLen r ≤ 5000 := fun h => (light_len h).1 r (by simp)
  have HA := fun W (hW : Below w.heap.size w W) hl => codShow14 r q W (hr.below hW) hl
  have HB := fun W (hW : Below w.heap.size w W) hl => refShow14 r q W (hr.below hW) hl
  have HC := fun W (hW : Below w.heap.size w W) hl => codDigest14 r q W (hr.below hW) hl
  have HD := fun W (hW : Below w.heap.size w W) hl => refDigest14 r q W (hr.below hW) hl
  have HE := fun W (hW : Below w.heap.size w W) => codSame14 s t p u W (hs.below hW) (ht.below hW)
  have HF := fun W (hW : Below w.heap.size w W) => refSame14 s t p u W (hs.below hW) (ht.below hW)
  clear hr hs ht zr zs zt
  generalize lightR ([(r, q), (s, p), (t, u)].map Prod.fst) = LT at *
  generalize sameRc s t = SB at *
  obtain ⟨rseq, rclk, rwho, rkind, rbkt, rkey, rver, rerr, rsum, rprev⟩ := r
  obtain ⟨sseq, sclk, swho, skind, sbkt, skey, sver, serr, ssum, sprev⟩ := s
  obtain ⟨tseq, tclk, twho, tkind, tbkt, tkey, tver, terr, tsum, tprev⟩ := t
  obtain ⟨qa, qc, qb, qd⟩ := q
  obtain ⟨pa, pc, pb, pd⟩ := p
  obtain ⟨ua, uc, ub, ud⟩ := u
  simp only [rcc, List.cons_append, List.nil_append] at HLt HA HB HC HD HE HF ⊢
  have Sy : Hid (ShAt w (((w.alloc (.cells #[.int .u64 (rseq : Int), .int .u64 (rclk : Int), .string rwho, .int .i64 rkind, .string rbkt, .string rkey, .int .u64 (rver : Int), .int .i64 rerr, .slice qa rsum.length qc, .slice qb rprev.length qd] 26)).alloc (.cells #[.int .u64 (sseq : Int), .int .u64 (sclk : Int), .string swho, .int .i64 skind, .string sbkt, .string skey, .int .u64 (sver : Int), .int .i64 serr, .slice pa ssum.length pc, .slice pb sprev.length pd] 26)).alloc (.cells #[.int .u64 (tseq : Int), .int .u64 (tclk : Int), .string twho, .int .i64 tkind, .string tbkt, .string tkey, .int .u64 (tver : Int), .int .i64 terr, .slice ua tsum.length uc, .slice ub tprev.length ud] 26)) [.int .u64 (rseq : Int), .int .u64 (rclk : Int), .string rwho, .int .i64 rkind, .string rbkt, .string rkey, .int .u64 (rver : Int), .int .i64 rerr, .slice qa rsum.length qc, .slice qb rprev.length qd] [.int .u64 (sseq : Int), .int .u64 (sclk : Int), .string swho, .int .i64 skind, .string sbkt, .string skey, .int .u64 (sver : Int), .int .i64 serr, .slice pa ssum.length pc, .slice pb sprev.length pd] [.int .u64 (tseq : Int), .int .u64 (tclk : Int), .string twho, .int .i64 tkind, .string tbkt, .string tkey, .int .u64 (tver : Int), .int .i64 terr, .slice ua tsum.length uc, .slice ub tprev.length ud]) :=
    ⟨⟨((Blk.new w 26 [.int .u64 (rseq : Int), .int .u64 (rclk : Int), .string rwho, .int .i64 rkind, .string rbkt, .string rkey, .int .u64 (rver : Int), .int .i64 rerr, .slice qa rsum.length qc, .slice qb rprev.length qd]).alloc _).alloc _, (Blk.newAt (w.alloc (.cells #[.int .u64 (rseq : Int), .int .u64 (rclk : Int), .string rwho, .int .i64 rkind, .string rbkt, .string rkey, .int .u64 (rver : Int), .int .i64 rerr, .slice qa rsum.length qc, .slice qb rprev.length qd] 26)) (w.heap.size + 1) 26 _ [.int .u64 (sseq : Int), .int .u64 (sclk : Int), .string swho, .int .i64 skind, .string sbkt, .string skey, .int .u64 (sver : Int), .int .i64 serr, .slice pa ssum.length pc, .slice pb sprev.length pd] (World.size_alloc _ _) rfl).alloc _, Blk.newAt _ (w.heap.size + 1 + 1) 26 _ [.int .u64 (tseq : Int), .int .u64 (tclk : Int), .string twho, .int .i64 tkind, .string tbkt, .string tkey, .int .u64 (tver : Int), .int .i64 terr, .slice ua tsum.length uc, .slice ub tprev.length ud] (by rw [World.size_alloc, World.size_alloc]) rfl⟩, (((Below.refl _ w).alloc (Nat.le_refl _) _).alloc (by simp) _).alloc (by simp; omega) _⟩
  go_enter Try.func3, Try.ntmps3
  go_upto_region 1 with fail
  generalize World.alloc _ _ = y at *
  have Sy0 := mkHid (Sy.out.on (bel_drewN (Below.refl _ y) 1))
  refine wp_region_held_drew (S := fun w' => Blk w' w.heap.size 26 [.int .u64 (rseq : Int), .int .u64 (rclk : Int), .string rwho, .int .i64 rkind, .string rbkt, .string rkey, .int .u64 (rver : Int), .int .i64 rerr, .slice qa rsum.length qc, .slice qb rprev.length qd] ∧ Blk w' (w.heap.size + 1) 26 [.int .u64 (sseq : Int), .int .u64 (sclk : Int), .string swho, .int .i64 skind, .string sbkt, .string skey, .int .u64 (sver : Int), .int .i64 serr, .slice pa ssum.length pc, .slice pb sprev.length pd] ∧ Blk w' (w.heap.size + 1 + 1) 26 [.int .u64 (tseq : Int), .int .u64 (tclk : Int), .string twho, .int .i64 tkind, .string tbkt, .string tkey, .int .u64 (tver : Int), .int .i64 terr, .slice ua tsum.length uc, .slice ub tprev.length ud]) (by kernel_rfl) Sy0.out.s (fun hHeld => ?_)
  refine takeH (some 7) (i := 0) (v := .agg #[.int .u64 (rseq : Int), .int .u64 (rclk : Int), .string rwho, .int .i64 rkind, .string rbkt, .string rkey, .int .u64 (rver : Int), .int .i64 rerr, .slice qa rsum.length qc, .slice qb rprev.length qd]) rfl (by kernel_rfl) (by kernel_rfl) (by kernel_rfl) (fun _ _ _ h => h) (yieldsIf_load_mid (by rfl) 26 (.tmp 3) (by rfl) (w.heap.size) 0 (by rfl) [.int .u64 (rseq : Int), .int .u64 (rclk : Int), .string rwho, .int .i64 rkind, .string rbkt, .string rkey, .int .u64 (rver : Int), .int .i64 rerr, .slice qa rsum.length qc, .slice qb rprev.length qd] _ (fun w1 hw1 => Blk.whole14 hw1.1) Try.underlying26 rfl (by kernel_rfl)) hHeld rfl ?_
  (try simp only [Act.put, List.setIfInBounds_toArray, List.set_cons_zero, List.set_cons_succ])
  refine takeH (some 8) (i := 1) (v := .agg #[.int .u64 (sseq : Int), .int .u64 (sclk : Int), .string swho, .int .i64 skind, .string sbkt, .string skey, .int .u64 (sver : Int), .int .i64 serr, .slice pa ssum.length pc, .slice pb sprev.length pd]) rfl (by kernel_rfl) (by kernel_rfl) (by kernel_rfl) (fun _ _ _ h => h) (yieldsIf_load_mid (by rfl) 26 (.tmp 4) (by rfl) (w.heap.size + 1) 0 (by rfl) [.int .u64 (sseq : Int), .int .u64 (sclk : Int), .string swho, .int .i64 skind, .string sbkt, .string skey, .int .u64 (sver : Int), .int .i64 serr, .slice pa ssum.length pc, .slice pb sprev.length pd] _ (fun w1 hw1 => Blk.whole14 hw1.2.1) Try.underlying26 rfl (by kernel_rfl)) hHeld rfl ?_
  (try simp only [Act.put, List.setIfInBounds_toArray, List.set_cons_zero, List.set_cons_succ])
  refine takeH (some 9) (i := 2) (v := .agg #[.int .u64 (tseq : Int), .int .u64 (tclk : Int), .string twho, .int .i64 tkind, .string tbkt, .string tkey, .int .u64 (tver : Int), .int .i64 terr, .slice ua tsum.length uc, .slice ub tprev.length ud]) rfl (by kernel_rfl) (by kernel_rfl) (by kernel_rfl) (fun _ _ _ h => h) (yieldsIf_load_mid (by rfl) 26 (.tmp 5) (by rfl) (w.heap.size + 1 + 1) 0 (by rfl) [.int .u64 (tseq : Int), .int .u64 (tclk : Int), .string twho, .int .i64 tkind, .string tbkt, .string tkey, .int .u64 (tver : Int), .int .i64 terr, .slice ua tsum.length uc, .slice ub tprev.length ud] _ (fun w1 hw1 => Blk.whole14 hw1.2.2) Try.underlying26 rfl (by kernel_rfl)) hHeld rfl ?_
  (try simp only [Act.put, List.setIfInBounds_toArray, List.set_cons_zero, List.set_cons_succ])
  refine wpAnyH_ready (rs := [3]) (by kernel_rfl) (by simp) (AllReadyH.cons rfl (fun K hK => ?_) AllReadyH.nil)
  go_simp
  have hbA : Below y.heap.size y (y.alloc (.cells #[.int .u64 (rseq : Int), .int .u64 (rclk : Int), .string rwho, .int .i64 rkind, .string rbkt, .string rkey, .int .u64 (rver : Int), .int .i64 rerr, .slice qa rsum.length qc, .slice qb rprev.length qd, .int .u64 (sseq : Int), .int .u64 (sclk : Int), .string swho, .int .i64 skind, .string sbkt, .string skey, .int .u64 (sver : Int), .int .i64 serr, .slice pa ssum.length pc, .slice pb sprev.length pd, .int .u64 (tseq : Int), .int .u64 (tclk : Int), .string twho, .int .i64 tkind, .string tbkt, .string tkey, .int .u64 (tver : Int), .int .i64 terr, .slice ua tsum.length uc, .slice ub tprev.length ud] 26)).drew := ((Below.refl _ y).alloc (Nat.le_refl _) _).drew
  have Sy1 : Hid (ShAt w (y.alloc (.cells #[.int .u64 (rseq : Int), .int .u64 (rclk : Int), .string rwho, .int .i64 rkind, .string rbkt, .string rkey, .int .u64 (rver : Int), .int .i64 rerr, .slice qa rsum.length qc, .slice qb rprev.length qd, .int .u64 (sseq : Int), .int .u64 (sclk : Int), .string swho, .int .i64 skind, .string sbkt, .string skey, .int .u64 (sver : Int), .int .i64 serr, .slice pa ssum.length pc, .slice pb sprev.length pd, .int .u64 (tseq : Int), .int .u64 (tclk : Int), .string twho, .int .i64 tkind, .string tbkt, .string tkey, .int .u64 (tver : Int), .int .i64 terr, .slice ua tsum.length uc, .slice ub tprev.length ud] 26)).drew [.int .u64 (rseq : Int), .int .u64 (rclk : Int), .string rwho, .int .i64 rkind, .string rbkt, .string rkey, .int .u64 (rver : Int), .int .i64 rerr, .slice qa rsum.length qc, .slice qb rprev.length qd] [.int .u64 (sseq : Int), .int .u64 (sclk : Int), .string swho, .int .i64 skind, .string sbkt, .string skey, .int .u64 (sver : Int), .int .i64 serr, .slice pa ssum.length pc, .slice pb sprev.length pd] [.int .u64 (tseq : Int), .int .u64 (tclk : Int), .string twho, .int .i64 tkind, .string tbkt, .string tkey, .int .u64 (tver : Int), .int .i64 terr, .slice ua tsum.length uc, .slice ub tprev.length ud]) := Sy.out.on hbA
  have HX1 : Hid (Blk (y.alloc (.cells #[.int .u64 (rseq : Int), .int .u64 (rclk : Int), .string rwho, .int .i64 rkind, .string rbkt, .string rkey, .int .u64 (rver : Int), .int .i64 rerr, .slice qa rsum.length qc, .slice qb rprev.length qd, .int .u64 (sseq : Int), .int .u64 (sclk : Int), .string swho, .int .i64 skind, .string sbkt, .string skey, .int .u64 (sver : Int), .int .i64 serr, .slice pa ssum.length pc, .slice pb sprev.length pd, .int .u64 (tseq : Int), .int .u64 (tclk : Int), .string twho, .int .i64 tkind, .string tbkt, .string tkey, .int .u64 (tver : Int), .int .i64 terr, .slice ua tsum.length uc, .slice ub tprev.length ud] 26)).drew y.heap.size 26 [.int .u64 (rseq : Int), .int .u64 (rclk : Int), .string rwho, .int .i64 rkind, .string rbkt, .string rkey, .int .u64 (rver : Int), .int .i64 rerr, .slice qa rsum.length qc, .slice qb rprev.length qd, .int .u64 (sseq : Int), .int .u64 (sclk : Int), .string swho, .int .i64 skind, .string sbkt, .string skey, .int .u64 (sver : Int), .int .i64 serr, .slice pa ssum.length pc, .slice pb sprev.length pd, .int .u64 (tseq : Int), .int .u64 (tclk : Int), .string twho, .int .i64 tkind, .string tbkt, .string tkey, .int .u64 (tver : Int), .int .i64 terr, .slice ua tsum.length uc, .slice ub tprev.length ud]) := (Blk.new y 26 [.int .u64 (rseq : Int), .int .u64 (rclk : Int), .string rwho, .int .i64 rkind, .string rbkt, .string rkey, .int .u64 (rver : Int), .int .i64 rerr, .slice qa rsum.length qc, .slice qb rprev.length qd, .int .u64 (sseq : Int), .int .u64 (sclk : Int), .string swho, .int .i64 skind, .string sbkt, .string skey, .int .u64 (sver : Int), .int .i64 serr, .slice pa ssum.length pc, .slice pb sprev.length pd, .int .u64 (tseq : Int), .int .u64 (tclk : Int), .string twho, .int .i64 tkind, .string tbkt, .string tkey, .int .u64 (tver : Int), .int .i64 terr, .slice ua tsum.length uc, .slice ub tprev.length ud]).drewN 1
  refine hK.out _ _ Sy1.out.s (fun hHeld => ?_)
  (try simp only [Act.put, List.setIfInBounds_toArray, List.set_cons_zero, List.set_cons_succ])
  clear hK K hbA Sy0 Sy
  generalize (y.alloc (.cells #[.int .u64 (rseq : Int), .int .u64 (rclk : Int), .string rwho, .int .i64 rkind, .string rbkt, .string rkey, .int .u64 (rver : Int), .int .i64 rerr, .slice qa rsum.length qc, .slice qb rprev.length qd, .int .u64 (sseq : Int), .int .u64 (sclk : Int), .string swho, .int .i64 skind, .string sbkt, .string skey, .int .u64 (sver : Int), .int .i64 serr, .slice pa ssum.length pc, .slice pb sprev.length pd, .int .u64 (tseq : Int), .int .u64 (tclk : Int), .string twho, .int .i64 tkind, .string tbkt, .string tkey, .int .u64 (tver : Int), .int .i64 terr, .slice ua tsum.length uc, .slice ub tprev.length ud] 26)).drew = y1 at *
  generalize y.heap.size = X at *
  have hLt := HLt X y1 Sy1.out.b HX1.out
  clear HLt HX1
  refine wpAnyH_ready (rs := [4]) (by kernel_rfl) (by simp) (AllReadyH.cons rfl (fun K hK => ?_) AllReadyH.nil)
  go_simp
  go_wp2_with (go_at_call 9; refine (hLt).mono ?_; rintro e y2 ⟨rfl, hb⟩)
  have Sy2 := mkHid (Sy1.out.on hb)
  refine hK.out _ _ Sy2.out.s (fun hHeld => ?_)
  (try simp only [Act.put, List.setIfInBounds_toArray, List.set_cons_zero, List.set_cons_succ])
  clear hK K hb Sy1
  clear hLt
  cases LT with
  | false =>
    clear HLo HA HB HC HD HE HF
    refine takeH (some 12) (i := 5) (v := .bool true) rfl (by kernel_rfl) (by kernel_rfl) (by kernel_rfl) (fun _ _ _ h => h) (Or.inl ⟨by rfl, ?_⟩) hHeld rfl ?_
    · intro w1 hSw; go_simp
    (try simp only [Act.put, List.setIfInBounds_toArray, List.set_cons_zero, List.set_cons_succ])
    refine takeH (some 13) (i := 6) (v := .bool true) rfl (by kernel_rfl) (by kernel_rfl) (by kernel_rfl) (fun _ _ _ h => h) (Or.inl ⟨by rfl, ?_⟩) hHeld rfl ?_
    · intro w1 hSw; go_simp
    (try simp only [Act.put, List.setIfInBounds_toArray, List.set_cons_zero, List.set_cons_succ])
    refine takeH (some 14) (i := 7) (v := undef) rfl (by kernel_rfl) (by kernel_rfl) (by kernel_rfl) (fun _ _ _ h => h) (Or.inr ⟨by rfl, rfl⟩) hHeld rfl ?_
    (try simp only [Act.put, List.setIfInBounds_toArray, List.set_cons_zero, List.set_cons_succ])
    refine takeH (some 15) (i := 8) (v := undef) rfl (by kernel_rfl) (by kernel_rfl) (by kernel_rfl) (fun _ _ _ h => h) (Or.inr ⟨by rfl, rfl⟩) hHeld rfl ?_
    (try simp only [Act.put, List.setIfInBounds_toArray, List.set_cons_zero, List.set_cons_succ])
    refine takeH (some 16) (i := 9) (v := undef) rfl (by kernel_rfl) (by kernel_rfl) (by kernel_rfl) (fun _ _ _ h => h) (Or.inr ⟨by rfl, rfl⟩) hHeld rfl ?_
    (try simp only [Act.put, List.setIfInBounds_toArray, List.set_cons_zero, List.set_cons_succ])
    refine takeH (some 17) (i := 10) (v := undef) rfl (by kernel_rfl) (by kernel_rfl) (by kernel_rfl) (fun _ _ _ h => h) (Or.inr ⟨by rfl, rfl⟩) hHeld rfl ?_
    (try simp only [Act.put, List.setIfInBounds_toArray, List.set_cons_zero, List.set_cons_succ])
    refine takeH (some 18) (i := 11) (v := undef) rfl (by kernel_rfl) (by kernel_rfl) (by kernel_rfl) (fun _ _ _ h => h) (Or.inr ⟨by rfl, rfl⟩) hHeld rfl ?_
    (try simp only [Act.put, List.setIfInBounds_toArray, List.set_cons_zero, List.set_cons_succ])
    refine takeH (some 19) (i := 12) (v := undef) rfl (by kernel_rfl) (by kernel_rfl) (by kernel_rfl) (fun _ _ _ h => h) (Or.inr ⟨by rfl, rfl⟩) hHeld rfl ?_
    (try simp only [Act.put, List.setIfInBounds_toArray, List.set_cons_zero, List.set_cons_succ])
    refine takeH (some 20) (i := 13) (v := undef) rfl (by kernel_rfl) (by kernel_rfl) (by kernel_rfl) (fun _ _ _ h => h) (Or.inr ⟨by rfl, rfl⟩) hHeld rfl ?_
    (try simp only [Act.put, List.setIfInBounds_toArray, List.set_cons_zero, List.set_cons_succ])
    refine takeH (some 21) (i := 14) (v := undef) rfl (by kernel_rfl) (by kernel_rfl) (by kernel_rfl) (fun _ _ _ h => h) (Or.inr ⟨by rfl, rfl⟩) hHeld rfl ?_
    (try simp only [Act.put, List.setIfInBounds_toArray, List.set_cons_zero, List.set_cons_succ])
    refine takeH (some 22) (i := 15) (v := undef) rfl (by kernel_rfl) (by kernel_rfl) (by kernel_rfl) (fun _ _ _ h => h) (Or.inr ⟨by rfl, rfl⟩) hHeld rfl ?_
    (try simp only [Act.put, List.setIfInBounds_toArray, List.set_cons_zero, List.set_cons_succ])
    refine takeH (some 23) (i := 16) (v := undef) rfl (by kernel_rfl) (by kernel_rfl) (by kernel_rfl) (fun _ _ _ h => h) (Or.inr ⟨by rfl, rfl⟩) hHeld rfl ?_
    (try simp only [Act.put, List.setIfInBounds_toArray, List.set_cons_zero, List.set_cons_succ])
    refine takeH (some 24) (i := 17) (v := undef) rfl (by kernel_rfl) (by kernel_rfl) (by kernel_rfl) (fun _ _ _ h => h) (Or.inr ⟨by rfl, rfl⟩) hHeld rfl ?_
    (try simp only [Act.put, List.setIfInBounds_toArray, List.set_cons_zero, List.set_cons_succ])
    refine takeH (some 25) (i := 18) (v := undef) rfl (by kernel_rfl) (by kernel_rfl) (by kernel_rfl) (fun _ _ _ h => h) (Or.inr ⟨by rfl, rfl⟩) hHeld rfl ?_
    (try simp only [Act.put, List.setIfInBounds_toArray, List.set_cons_zero, List.set_cons_succ])
    refine takeH (some 26) (i := 19) (v := undef) rfl (by kernel_rfl) (by kernel_rfl) (by kernel_rfl) (fun _ _ _ h => h) (Or.inr ⟨by rfl, rfl⟩) hHeld rfl ?_
    (try simp only [Act.put, List.setIfInBounds_toArray, List.set_cons_zero, List.set_cons_succ])
    refine takeH (some 27) (i := 20) (v := undef) rfl (by kernel_rfl) (by kernel_rfl) (by kernel_rfl) (fun _ _ _ h => h) (Or.inr ⟨by rfl, rfl⟩) hHeld rfl ?_
    (try simp only [Act.put, List.setIfInBounds_toArray, List.set_cons_zero, List.set_cons_succ])
    refine takeH (some 28) (i := 21) (v := undef) rfl (by kernel_rfl) (by kernel_rfl) (by kernel_rfl) (fun _ _ _ h => h) (Or.inr ⟨by rfl, rfl⟩) hHeld rfl ?_
    (try simp only [Act.put, List.setIfInBounds_toArray, List.set_cons_zero, List.set_cons_succ])
    refine takeH (some 29) (i := 22) (v := undef) rfl (by kernel_rfl) (by kernel_rfl) (by kernel_rfl) (fun _ _ _ h => h) (Or.inr ⟨by rfl, rfl⟩) hHeld rfl ?_
    (try simp only [Act.put, List.setIfInBounds_toArray, List.set_cons_zero, List.set_cons_succ])
    refine takeH (some 30) (i := 23) (v := undef) rfl (by kernel_rfl) (by kernel_rfl) (by kernel_rfl) (fun _ _ _ h => h) (Or.inr ⟨by rfl, rfl⟩) hHeld rfl ?_
    (try simp only [Act.put, List.setIfInBounds_toArray, List.set_cons_zero, List.set_cons_succ])
    refine takeH (some 31) (i := 24) (v := undef) rfl (by kernel_rfl) (by kernel_rfl) (by kernel_rfl) (fun _ _ _ h => h) (Or.inr ⟨by rfl, rfl⟩) hHeld rfl ?_
    (try simp only [Act.put, List.setIfInBounds_toArray, List.set_cons_zero, List.set_cons_succ])
    refine takeH (some 32) (i := 25) (v := undef) rfl (by kernel_rfl) (by kernel_rfl) (by kernel_rfl) (fun _ _ _ h => h) (Or.inr ⟨by rfl, rfl⟩) hHeld rfl ?_
    (try simp only [Act.put, List.setIfInBounds_toArray, List.set_cons_zero, List.set_cons_succ])
    refine takeH (some 33) (i := 26) (v := undef) rfl (by kernel_rfl) (by kernel_rfl) (by kernel_rfl) (fun _ _ _ h => h) (Or.inr ⟨by rfl, rfl⟩) hHeld rfl ?_
    (try simp only [Act.put, List.setIfInBounds_toArray, List.set_cons_zero, List.set_cons_succ])
    refine takeH (some 34) (i := 27) (v := undef) rfl (by kernel_rfl) (by kernel_rfl) (by kernel_rfl) (fun _ _ _ h => h) (Or.inr ⟨by rfl, rfl⟩) hHeld rfl ?_
    (try simp only [Act.put, List.setIfInBounds_toArray, List.set_cons_zero, List.set_cons_succ])
    refine takeH (some 35) (i := 28) (v := undef) rfl (by kernel_rfl) (by kernel_rfl) (by kernel_rfl) (fun _ _ _ h => h) (Or.inr ⟨by rfl, rfl⟩) hHeld rfl ?_
    (try simp only [Act.put, List.setIfInBounds_toArray, List.set_cons_zero, List.set_cons_succ])
    refine takeH (some 36) (i := 29) (v := undef) rfl (by kernel_rfl) (by kernel_rfl) (by kernel_rfl) (fun _ _ _ h => h) (Or.inr ⟨by rfl, rfl⟩) hHeld rfl ?_
    (try simp only [Act.put, List.setIfInBounds_toArray, List.set_cons_zero, List.set_cons_succ])
    refine takeH (some 37) (i := 30) (v := undef) rfl (by kernel_rfl) (by kernel_rfl) (by kernel_rfl) (fun _ _ _ h => h) (Or.inr ⟨by rfl, rfl⟩) hHeld rfl ?_
    (try simp only [Act.put, List.setIfInBounds_toArray, List.set_cons_zero, List.set_cons_succ])
    refine takeH (some 38) (i := 31) (v := .bool true) rfl (by kernel_rfl) (by kernel_rfl) (by kernel_rfl) (fun _ _ _ h => h) (Or.inl ⟨by rfl, ?_⟩) hHeld rfl ?_
    · intro w1 hSw; go_simp
    (try simp only [Act.put, List.setIfInBounds_toArray, List.set_cons_zero, List.set_cons_succ])
    refine takeH (some 6) (i := 32) (v := .bool true) rfl (by kernel_rfl) (by kernel_rfl) (by kernel_rfl) (fun _ _ _ h => h) (Or.inl ⟨by rfl, ?_⟩) hHeld rfl ?_
    · intro w1 hSw; go_simp
    (try simp only [Act.put, List.setIfInBounds_toArray, List.set_cons_zero, List.set_cons_succ])
    refine wpAnyH_done (by kernel_rfl) ?_ _
    clear hHeld
    go_wp2_with fail
    go_ret
    exact ⟨rfl, Sy2.out.b⟩
  | true =>
    have hl := HLo rfl
    have HA2 := fun W hW => HA W hW hl
    have HB2 := fun W hW => HB W hW hl
    have HC2 := fun W hW => HC W hW hl
    have HD2 := fun W hW => HD W hW hl
    clear HLo HA HB HC HD hl
    generalize showRc ⟨rseq, rclk, rwho, rkind, rbkt, rkey, rver, rerr, rsum, rprev⟩ = SR at *
    generalize digRc ⟨rseq, rclk, rwho, rkind, rbkt, rkey, rver, rerr, rsum, rprev⟩ = DR at *
    refine takeH (some 12) (i := 5) (v := .bool false) rfl (by kernel_rfl) (by kernel_rfl) (by kernel_rfl) (fun _ _ _ h => h) (Or.inl ⟨by rfl, ?_⟩) hHeld rfl ?_
    · intro w1 hSw; go_simp
    (try simp only [Act.put, List.setIfInBounds_toArray, List.set_cons_zero, List.set_cons_succ])
    refine takeH (some 13) (i := 6) (v := .bool false) rfl (by kernel_rfl) (by kernel_rfl) (by kernel_rfl) (fun _ _ _ h => h) (Or.inl ⟨by rfl, ?_⟩) hHeld rfl ?_
    · intro w1 hSw; go_simp
    (try simp only [Act.put, List.setIfInBounds_toArray, List.set_cons_zero, List.set_cons_succ])
    refine takeH (some 14) (i := 7) (v := .agg #[.int .u64 (rseq : Int), .int .u64 (rclk : Int), .string rwho, .int .i64 rkind, .string rbkt, .string rkey, .int .u64 (rver : Int), .int .i64 rerr, .slice qa rsum.length qc, .slice qb rprev.length qd]) rfl (by kernel_rfl) (by kernel_rfl) (by kernel_rfl) (fun _ _ _ h => h) (yieldsIf_load_mid (by rfl) 26 (.tmp 3) (by rfl) (w.heap.size) 0 (by rfl) [.int .u64 (rseq : Int), .int .u64 (rclk : Int), .string rwho, .int .i64 rkind, .string rbkt, .string rkey, .int .u64 (rver : Int), .int .i64 rerr, .slice qa rsum.length qc, .slice qb rprev.length qd] _ (fun w1 hw1 => Blk.whole14 hw1.1) Try.underlying26 rfl (by kernel_rfl)) hHeld rfl ?_
    (try simp only [Act.put, List.setIfInBounds_toArray, List.set_cons_zero, List.set_cons_succ])
    refine takeH (some 16) (i := 9) (v := .agg #[.int .u64 (rseq : Int), .int .u64 (rclk : Int), .string rwho, .int .i64 rkind, .string rbkt, .string rkey, .int .u64 (rver : Int), .int .i64 rerr, .slice qa rsum.length qc, .slice qb rprev.length qd]) rfl (by kernel_rfl) (by kernel_rfl) (by kernel_rfl) (fun _ _ _ h => h) (yieldsIf_load_mid (by rfl) 26 (.tmp 3) (by rfl) (w.heap.size) 0 (by rfl) [.int .u64 (rseq : Int), .int .u64 (rclk : Int), .string rwho, .int .i64 rkind, .string rbkt, .string rkey, .int .u64 (rver : Int), .int .i64 rerr, .slice qa rsum.length qc, .slice qb rprev.length qd] _ (fun w1 hw1 => Blk.whole14 hw1.1) Try.underlying26 rfl (by kernel_rfl)) hHeld rfl ?_
    (try simp only [Act.put, List.setIfInBounds_toArray, List.set_cons_zero, List.set_cons_succ])
    refine wpAnyH_ready (rs := [8]) (by kernel_rfl) (by simp) (AllReadyH.cons rfl (fun K hK => ?_) AllReadyH.nil)
    go_simp
    go_wp2_with (go_at_call 11; refine (HA2 _ Sy2.out.b).mono ?_; rintro e y3 ⟨v3, rfl, ho, hb⟩)
    have Sy3 := mkHid (Sy2.out.on hb)
    have V3 := mkHid ho.isV
    clear ho
    refine hK.out _ _ Sy3.out.s (fun hHeld => ?_)
    (try simp only [Act.put, List.setIfInBounds_toArray, List.set_cons_zero, List.set_cons_succ])
    clear hK K hb Sy2
    clear HA2
    refine wpAnyH_ready (rs := [10]) (by kernel_rfl) (by simp) (AllReadyH.cons rfl (fun K hK => ?_) AllReadyH.nil)
    go_simp
    go_wp2_with (go_at_call 12; refine (HB2 _ Sy3.out.b).mono ?_; rintro e y4 ⟨v4, rfl, ho, hb⟩)
    have V3b := mkHid (V3.out.below hb rfl)
    have Sy4 := mkHid (Sy3.out.on hb)
    have V4 := mkHid ho.isV
    clear ho
    refine hK.out _ _ Sy4.out.s (fun hHeld => ?_)
    (try simp only [Act.put, List.setIfInBounds_toArray, List.set_cons_zero, List.set_cons_succ])
    clear hK K hb Sy3
    clear HB2 V3
    refine wpAnyH_ready (rs := [11]) (by kernel_rfl) (by simp) (AllReadyH.cons rfl (fun K hK => ?_) AllReadyH.nil)
    go_simp
    go_wp2_with (go_at_call 10; refine (refSameB14 v3 v4 SR _ V3b.out V4.out).mono ?_; rintro e y5 ⟨rfl, hb⟩)
    have Sy5 := mkHid (Sy4.out.on hb)
    refine hK.out _ _ Sy5.out.s (fun hHeld => ?_)
    (try simp only [Act.put, List.setIfInBounds_toArray, List.set_cons_zero, List.set_cons_succ])
    clear hK K hb Sy4
    clear V3b V4
    refine takeH (some 19) (i := 12) (v := .bool true) rfl (by kernel_rfl) (by kernel_rfl) (by kernel_rfl) (fun _ _ _ h => h) (Or.inl ⟨by rfl, ?_⟩) hHeld rfl ?_
    · intro w1 hSw; go_simp
    (try simp only [Act.put, List.setIfInBounds_toArray, List.set_cons_zero, List.set_cons_succ])
    refine takeH (some 20) (i := 13) (v := .agg #[.int .u64 (rseq : Int), .int .u64 (rclk : Int), .string rwho, .int .i64 rkind, .string rbkt, .string rkey, .int .u64 (rver : Int), .int .i64 rerr, .slice qa rsum.length qc, .slice qb rprev.length qd]) rfl (by kernel_rfl) (by kernel_rfl) (by kernel_rfl) (fun _ _ _ h => h) (yieldsIf_load_mid (by rfl) 26 (.tmp 3) (by rfl) (w.heap.size) 0 (by rfl) [.int .u64 (rseq : Int), .int .u64 (rclk : Int), .string rwho, .int .i64 rkind, .string rbkt, .string rkey, .int .u64 (rver : Int), .int .i64 rerr, .slice qa rsum.length qc, .slice qb rprev.length qd] _ (fun w1 hw1 => Blk.whole14 hw1.1) Try.underlying26 rfl (by kernel_rfl)) hHeld rfl ?_
    (try simp only [Act.put, List.setIfInBounds_toArray, List.set_cons_zero, List.set_cons_succ])
    refine takeH (some 22) (i := 15) (v := .agg #[.int .u64 (rseq : Int), .int .u64 (rclk : Int), .string rwho, .int .i64 rkind, .string rbkt, .string rkey, .int .u64 (rver : Int), .int .i64 rerr, .slice qa rsum.length qc, .slice qb rprev.length qd]) rfl (by kernel_rfl) (by kernel_rfl) (by kernel_rfl) (fun _ _ _ h => h) (yieldsIf_load_mid (by rfl) 26 (.tmp 3) (by rfl) (w.heap.size) 0 (by rfl) [.int .u64 (rseq : Int), .int .u64 (rclk : Int), .string rwho, .int .i64 rkind, .string rbkt, .string rkey, .int .u64 (rver : Int), .int .i64 rerr, .slice qa rsum.length qc, .slice qb rprev.length qd] _ (fun w1 hw1 => Blk.whole14 hw1.1) Try.underlying26 rfl (by kernel_rfl)) hHeld rfl ?_
    (try simp only [Act.put, List.setIfInBounds_toArray, List.set_cons_zero, List.set_cons_succ])
    refine wpAnyH_ready (rs := [14]) (by kernel_rfl) (by simp) (AllReadyH.cons rfl (fun K hK => ?_) AllReadyH.nil)
    go_simp
    go_wp2_with (go_at_call 13; refine (HC2 _ Sy5.out.b).mono ?_; rintro e y6 ⟨v6, rfl, ho, hb⟩)
    have Sy6 := mkHid (Sy5.out.on hb)
    have V6 := mkHid ho.isV
    clear ho
    refine hK.out _ _ Sy6.out.s (fun hHeld => ?_)
    (try simp only [Act.put, List.setIfInBounds_toArray, List.set_cons_zero, List.set_cons_succ])
    clear hK K hb Sy5
    clear HC2
    refine wpAnyH_ready (rs := [16]) (by kernel_rfl) (by simp) (AllReadyH.cons rfl (fun K hK => ?_) AllReadyH.nil)
    go_simp
    go_wp2_with (go_at_call 14; refine (HD2 _ Sy6.out.b).mono ?_; rintro e y7 ⟨v7, rfl, ho, hb⟩)
    have V6b := mkHid (V6.out.below hb rfl)
    have Sy7 := mkHid (Sy6.out.on hb)
    have V7 := mkHid ho.isV
    clear ho
    refine hK.out _ _ Sy7.out.s (fun hHeld => ?_)
    (try simp only [Act.put, List.setIfInBounds_toArray, List.set_cons_zero, List.set_cons_succ])
    clear hK K hb Sy6
    clear HD2 V6
    refine wpAnyH_ready (rs := [17]) (by kernel_rfl) (by simp) (AllReadyH.cons rfl (fun K hK => ?_) AllReadyH.nil)
    go_simp
    go_wp2_with (go_at_call 10; refine (refSameB14 v6 v7 DR _ V6b.out V7.out).mono ?_; rintro e y8 ⟨rfl, hb⟩)
    have Sy8 := mkHid (Sy7.out.on hb)
    refine hK.out _ _ Sy8.out.s (fun hHeld => ?_)
    (try simp only [Act.put, List.setIfInBounds_toArray, List.set_cons_zero, List.set_cons_succ])
    clear hK K hb Sy7
    clear V6b V7
    refine takeH (some 25) (i := 18) (v := .bool true) rfl (by kernel_rfl) (by kernel_rfl) (by kernel_rfl) (fun _ _ _ h => h) (Or.inl ⟨by rfl, ?_⟩) hHeld rfl ?_
    · intro w1 hSw; go_simp
    (try simp only [Act.put, List.setIfInBounds_toArray, List.set_cons_zero, List.set_cons_succ])
    refine takeH (some 26) (i := 19) (v := .bool true) rfl (by kernel_rfl) (by kernel_rfl) (by kernel_rfl) (fun _ _ _ h => h) (Or.inl ⟨by rfl, ?_⟩) hHeld rfl ?_
    · intro w1 hSw; go_simp
    (try simp only [Act.put, List.setIfInBounds_toArray, List.set_cons_zero, List.set_cons_succ])
    refine takeH (some 27) (i := 20) (v := .agg #[.int .u64 (sseq : Int), .int .u64 (sclk : Int), .string swho, .int .i64 skind, .string sbkt, .string skey, .int .u64 (sver : Int), .int .i64 serr, .slice pa ssum.length pc, .slice pb sprev.length pd]) rfl (by kernel_rfl) (by kernel_rfl) (by kernel_rfl) (fun _ _ _ h => h) (yieldsIf_load_mid (by rfl) 26 (.tmp 4) (by rfl) (w.heap.size + 1) 0 (by rfl) [.int .u64 (sseq : Int), .int .u64 (sclk : Int), .string swho, .int .i64 skind, .string sbkt, .string skey, .int .u64 (sver : Int), .int .i64 serr, .slice pa ssum.length pc, .slice pb sprev.length pd] _ (fun w1 hw1 => Blk.whole14 hw1.2.1) Try.underlying26 rfl (by kernel_rfl)) hHeld rfl ?_
    (try simp only [Act.put, List.setIfInBounds_toArray, List.set_cons_zero, List.set_cons_succ])
    refine takeH (some 28) (i := 21) (v := .agg #[.int .u64 (tseq : Int), .int .u64 (tclk : Int), .string twho, .int .i64 tkind, .string tbkt, .string tkey, .int .u64 (tver : Int), .int .i64 terr, .slice ua tsum.length uc, .slice ub tprev.length ud]) rfl (by kernel_rfl) (by kernel_rfl) (by kernel_rfl) (fun _ _ _ h => h) (yieldsIf_load_mid (by rfl) 26 (.tmp 5) (by rfl) (w.heap.size + 1 + 1) 0 (by rfl) [.int .u64 (tseq : Int), .int .u64 (tclk : Int), .string twho, .int .i64 tkind, .string tbkt, .string tkey, .int .u64 (tver : Int), .int .i64 terr, .slice ua tsum.length uc, .slice ub tprev.length ud] _ (fun w1 hw1 => Blk.whole14 hw1.2.2) Try.underlying26 rfl (by kernel_rfl)) hHeld rfl ?_
    (try simp only [Act.put, List.setIfInBounds_toArray, List.set_cons_zero, List.set_cons_succ])
    refine takeH (some 30) (i := 23) (v := .agg #[.int .u64 (sseq : Int), .int .u64 (sclk : Int), .string swho, .int .i64 skind, .string sbkt, .string skey, .int .u64 (sver : Int), .int .i64 serr, .slice pa ssum.length pc, .slice pb sprev.length pd]) rfl (by kernel_rfl) (by kernel_rfl) (by kernel_rfl) (fun _ _ _ h => h) (yieldsIf_load_mid (by rfl) 26 (.tmp 4) (by rfl) (w.heap.size + 1) 0 (by rfl) [.int .u64 (sseq : Int), .int .u64 (sclk : Int), .string swho, .int .i64 skind, .string sbkt, .string skey, .int .u64 (sver : Int), .int .i64 serr, .slice pa ssum.length pc, .slice pb sprev.length pd] _ (fun w1 hw1 => Blk.whole14 hw1.2.1) Try.underlying26 rfl (by kernel_rfl)) hHeld rfl ?_
    (try simp only [Act.put, List.setIfInBounds_toArray, List.set_cons_zero, List.set_cons_succ])
    refine takeH (some 31) (i := 24) (v := .agg #[.int .u64 (tseq : Int), .int .u64 (tclk : Int), .string twho, .int .i64 tkind, .string tbkt, .string tkey, .int .u64 (tver : Int), .int .i64 terr, .slice ua tsum.length uc, .slice ub tprev.length ud]) rfl (by kernel_rfl) (by kernel_rfl) (by kernel_rfl) (fun _ _ _ h => h) (yieldsIf_load_mid (by rfl) 26 (.tmp 5) (by rfl) (w.heap.size + 1 + 1) 0 (by rfl) [.int .u64 (tseq : Int), .int .u64 (tclk : Int), .string twho, .int .i64 tkind, .string tbkt, .string tkey, .int .u64 (tver : Int), .int .i64 terr, .slice ua tsum.length uc, .slice ub tprev.length ud] _ (fun w1 hw1 => Blk.whole14 hw1.2.2) Try.underlying26 rfl (by kernel_rfl)) hHeld rfl ?_
    (try simp only [Act.put, List.setIfInBounds_toArray, List.set_cons_zero, List.set_cons_succ])
    refine wpAnyH_ready (rs := [22]) (by kernel_rfl) (by simp) (AllReadyH.cons rfl (fun K hK => ?_) AllReadyH.nil)
    go_simp
    go_wp2_with (go_at_call 15; refine (HE _ Sy8.out.b).mono ?_; rintro e y9 ⟨rfl, hb⟩)
    have Sy9 := mkHid (Sy8.out.on hb)
    refine hK.out _ _ Sy9.out.s (fun hHeld => ?_)
    (try simp only [Act.put, List.setIfInBounds_toArray, List.set_cons_zero, List.set_cons_succ])
    clear hK K hb Sy8
    clear HE
    refine wpAnyH_ready (rs := [25]) (by kernel_rfl) (by simp) (AllReadyH.cons rfl (fun K hK => ?_) AllReadyH.nil)
    go_simp
    go_wp2_with (go_at_call 16; refine (HF _ Sy9.out.b).mono ?_; rintro e y10 ⟨rfl, hb⟩)
    have Sy10 := mkHid (Sy9.out.on hb)
    refine hK.out _ _ Sy10.out.s (fun hHeld => ?_)
    (try simp only [Act.put, List.setIfInBounds_toArray, List.set_cons_zero, List.set_cons_succ])
    clear hK K hb Sy9
    clear HF
    refine takeH (some 33) (i := 26) (v := .bool true) rfl (by kernel_rfl) (by kernel_rfl) (by kernel_rfl) (fun _ _ _ h => h) (Or.inl ⟨by rfl, ?_⟩) hHeld rfl ?_
    · intro w1 hSw; go_simp
    (try simp only [Act.put, List.setIfInBounds_toArray, List.set_cons_zero, List.set_cons_succ])
    refine takeH (some 34) (i := 27) (v := .bool true) rfl (by kernel_rfl) (by kernel_rfl) (by kernel_rfl) (fun _ _ _ h => h) (Or.inl ⟨by rfl, ?_⟩) hHeld rfl ?_
    · intro w1 hSw; go_simp
    (try simp only [Act.put, List.setIfInBounds_toArray, List.set_cons_zero, List.set_cons_succ])
    refine takeH (some 35) (i := 28) (v := .bool true) rfl (by kernel_rfl) (by kernel_rfl) (by kernel_rfl) (fun _ _ _ h => h) (Or.inl ⟨by rfl, ?_⟩) hHeld rfl ?_
    · intro w1 hSw; go_simp
    (try simp only [Act.put, List.setIfInBounds_toArray, List.set_cons_zero, List.set_cons_succ])
    refine wpAnyH_ready (rs := [29]) (by kernel_rfl) (by simp) (AllReadyH.cons rfl (fun K hK => ?_) AllReadyH.nil)
    go_simp
    go_wp2_with (go_at_call 17; refine (lawAlive14 _).mono ?_; rintro e y11 ⟨rfl, hb⟩)
    have Sy11 := mkHid (Sy10.out.on hb)
    refine hK.out _ _ Sy11.out.s (fun hHeld => ?_)
    (try simp only [Act.put, List.setIfInBounds_toArray, List.set_cons_zero, List.set_cons_succ])
    clear hK K hb Sy10
    refine takeH (some 37) (i := 30) (v := .bool true) rfl (by kernel_rfl) (by kernel_rfl) (by kernel_rfl) (fun _ _ _ h => h) (Or.inl ⟨by rfl, ?_⟩) hHeld rfl ?_
    · intro w1 hSw; go_simp
    (try simp only [Act.put, List.setIfInBounds_toArray, List.set_cons_zero, List.set_cons_succ])
    refine takeH (some 38) (i := 31) (v := .bool true) rfl (by kernel_rfl) (by kernel_rfl) (by kernel_rfl) (fun _ _ _ h => h) (Or.inl ⟨by rfl, ?_⟩) hHeld rfl ?_
    · intro w1 hSw; go_simp
    (try simp only [Act.put, List.setIfInBounds_toArray, List.set_cons_zero, List.set_cons_succ])
    refine takeH (some 6) (i := 32) (v := .bool true) rfl (by kernel_rfl) (by kernel_rfl) (by kernel_rfl) (fun _ _ _ h => h) (Or.inl ⟨by rfl, ?_⟩) hHeld rfl ?_
    · intro w1 hSw; go_simp
    (try simp only [Act.put, List.setIfInBounds_toArray, List.set_cons_zero, List.set_cons_succ])
    refine wpAnyH_done (by kernel_rfl) ?_ _
    clear hHeld
    go_wp2_with fail
    go_ret
    exact ⟨rfl, Sy11.out.b⟩
end Go.Proofs.Ytooffagdbppmaaa
namespace Go.Proofs.Ytooffagdbppmaaa
open Go.RowKit

/-- how AuditNexts stands -/
structure NxAt (w W : World) (c1 : List Value) : Prop where
  s : Blk W w.heap.size 26 c1
  b : Below w.heap.size w W
theorem NxAt.on {w W W' : World} {c1 : List Value} (h : NxAt w W c1) (hb : Below W.heap.size W W') : NxAt w W' c1 := ⟨h.s.on hb, h.b.trans (hb.mono h.b.size)⟩
theorem NxAt.lt {w W : World} {c1 : List Value} (h : NxAt w W c1) : w.heap.size + 1 ≤ W.heap.size := h.s.lt
theorem blk_grown14 {W W' : World} {X t : Nat} {cs : List Value} {o : Option Nat} (h : Blk W X t cs) (hg : W.grownBy W' o) (hne : o ≠ some X) : Blk W' X t cs := (hg.block X h.lt (fun e => hne e.symm)).trans h
theorem NxAt.grown {w W W' : World} {c1 : List Value} {v : Value} {l : List Rq14} (h : NxAt w W c1) (ho : OwnRc W (w.heap.size + 1) v l) (hg : W.grownBy W' v.ownBlock) : NxAt w W' c1 :=
  ⟨blk_grown14 h.s hg (fun e => by have := (World.ownsRow.lt ho _ e).1; omega), h.b.grown hg h.b.size (fun k e => by have := (World.ownsRow.lt ho k e).1; omega)⟩
theorem own_drewRc14 {w : World} {base : Nat} {v : Value} {l : List Rq14} (h : OwnRc w base v l) : OwnRc w.drew base v l := h.on (bel_drewN (Below.refl _ w) 1)
theorem HO5lt14 {w : World} {base g n c : Nat} {l : List Rq14} (h : OwnRc w base (.slice (some ⟨g, 0, none⟩) n c) l) : g < w.heap.size := (World.ownsRow.lt h g rfl).2
end Go.Proofs.Ytooffagdbppmaaa
namespace Go.Proofs.Ytooffagdbppmaaa
open Go.RowKit

set_option maxRecDepth 20000 in
set_option maxHeartbeats 20000000 in
theorem nexts14_F (a : Option Addr) (n cap : Nat) (l : List Rq14) (r : Rc) (q : RcA) (w : World) (h : IsRl w a n l) (hz : ∀ x ∈ l, RcZ x.1) (hn : n * 136 ≤ 140737488351232) (ha : a = none → n = 0 ∧ cap = 0) (hr : IsRec w r q) (zr : RcZ r) (hLT : lightR ((l ++ [(r, q)]).map Prod.fst) = false) :
    Calls Try.prog 5 #[.slice a n cap, .agg (rcc r q).toArray] w fun e w' => e = .returned (.bool true) ∧ Below w.heap.size w w' := by
  have HSrc : Hid (∀ W, Below w.heap.size w W → SrcRc W a n cap l) := fun W hW => (h.below hW).src ha
  have HLn := mkHid h.len
  have HLt : ∀ W va vn vc, Below w.heap.size w W → vn = (l ++ [(r, q)]).length → OwnRc W (w.heap.size + 1) (.slice va vn vc) (l ++ [(r, q)]) → Calls Try.prog 9 #[.slice va vn vc] W fun e w' => e = .returned (.bool (lightR ((l ++ [(r, q)]).map Prod.fst))) ∧ Below W.heap.size W w' := fun W va vn vc hW hvn ho =>
    lawLight14 va vn vc _ W (ho.isRl (fun x hx => by
      rcases List.mem_append.1 hx with hx | hx
      · exact (h.recs x hx).below hW
      · obtain rfl := List.mem_singleton.1 hx; exact hr.below hW)) (fun x hx => by
      rcases List.mem_append.1 hx with hx | hx
      · exact hz x hx
      · obtain rfl := List.mem_singleton.1 hx; exact zr) (by rw [hvn, List.length_append, h.len]; simp; omega)
  have HLo : lightR ((l ++ [(r, q)]).map Prod.fst) = true → (∀ x ∈ l, rcLen x.1 ≤ 5000) ∧ rcLen r ≤ 5000 ∧ n ≤ 1000000 := fun hl => by
    obtain ⟨h1, h2⟩ := light_of14 hl
    rw [List.length_append, h.len] at h2
    exact ⟨fun x hx => h1 x (List.mem_append_left _ hx), h1 (r, q) (by simp), by omega⟩
  have HNc := fun W (hW : Below w.heap.size w W) hs hrs (hm : n ≤ 1000000) => codNext14 a n cap l r q W (h.below hW) (hr.below hW) hs hrs hm
  have HNd := fun W (hW : Below w.heap.size w W) hs (hm : n ≤ 1000000) => refNext14 a n cap l r q W (h.below hW) (hr.below hW) hs hm
  have HSm := fun p p' W (h1 : IsRec W (nextRc (l.map Prod.fst) r) p) (h2 : IsRec W (nextRc (l.map Prod.fst) r) p') => refSame14 _ _ p p' W h1 h2
  rw [same_self14] at HSm
  have HCel : Hid (∀ m x, l[m]? = some x → ∃ B off, a = some ⟨B, off, none⟩ ∧ ∀ W, Below w.heap.size w W → W.cell? ⟨B, off + m * 10, none⟩ = some (.int .u64 (x.1.seq : Int))) := fun m x hx => by
    have hm := (List.getElem?_eq_some_iff.1 hx).1
    obtain ⟨B, off, e, hc⟩ := h.cells (by have := h.len; omega)
    exact ⟨B, off, e, fun W hW => range_below14 (hc m x hx) hW 0 _ rfl⟩
  have HNn := mkHid hn
  clear h hz ha hr zr hn
  unfold NxPost at HNc HNd
  generalize nextRc (l.map Prod.fst) r = NR at *
  obtain ⟨rseq, rclk, rwho, rkind, rbkt, rkey, rver, rerr, rsum, rprev⟩ := r
  obtain ⟨qa, qc, qb, qd⟩ := q
  generalize lightR ((l ++ [((⟨rseq, rclk, rwho, rkind, rbkt, rkey, rver, rerr, rsum, rprev⟩ : Rc), (⟨qa, qc, qb, qd⟩ : RcA))]).map Prod.fst) = LT at *
  have HNc2 := fun W hW hs hrs hm => HNc W hW hs hrs hm
  rw [show rcc ⟨rseq, rclk, rwho, rkind, rbkt, rkey, rver, rerr, rsum, rprev⟩ ⟨qa, qc, qb, qd⟩ = [.int .u64 (rseq : Int), .int .u64 (rclk : Int), .string rwho, .int .i64 rkind, .string rbkt, .string rkey, .int .u64 (rver : Int), .int .i64 rerr, .slice qa rsum.length qc, .slice qb rprev.length qd] from rfl] at HNc2 HNd ⊢
  clear HNc
  have Ny : Hid (NxAt w (w.alloc (.cells #[.int .u64 (rseq : Int), .int .u64 (rclk : Int), .string rwho, .int .i64 rkind, .string rbkt, .string rkey, .int .u64 (rver : Int), .int .i64 rerr, .slice qa rsum.length qc, .slice qb rprev.length qd] 26)) [.int .u64 (rseq : Int), .int .u64 (rclk : Int), .string rwho, .int .i64 rkind, .string rbkt, .string rkey, .int .u64 (rver : Int), .int .i64 rerr, .slice qa rsum.length qc, .slice qb rprev.length qd]) := ⟨Blk.new w 26 [.int .u64 (rseq : Int), .int .u64 (rclk : Int), .string rwho, .int .i64 rkind, .string rbkt, .string rkey, .int .u64 (rver : Int), .int .i64 rerr, .slice qa rsum.length qc, .slice qb rprev.length qd], (Below.refl _ w).alloc (Nat.le_refl _) _⟩
  go_enter Try.func5, Try.ntmps5
  go_upto_region 1 with fail
  generalize w.alloc (.cells #[.int .u64 (rseq : Int), .int .u64 (rclk : Int), .string rwho, .int .i64 rkind, .string rbkt, .string rkey, .int .u64 (rver : Int), .int .i64 rerr, .slice qa rsum.length qc, .slice qb rprev.length qd] 26) = y at *
  subst hLT
  go_cut [27] from 5 to 27 (fun v wx => v = .bool true ∧ Hid (NxAt w wx [.int .u64 (rseq : Int), .int .u64 (rclk : Int), .string rwho, .int .i64 rkind, .string rbkt, .string rkey, .int .u64 (rver : Int), .int .i64 rerr, .slice qa rsum.length qc, .slice qb rprev.length qd]))
  case first =>
    clear HLo HNc2 HNd HSm HCel
    have Ny0 := mkHid (Ny.out.on (bel_drewN (Below.refl _ y) 1))
    refine wp_region_held_drew (S := fun w' => Blk w' w.heap.size 26 [.int .u64 (rseq : Int), .int .u64 (rclk : Int), .string rwho, .int .i64 rkind, .string rbkt, .string rkey, .int .u64 (rver : Int), .int .i64 rerr, .slice qa rsum.length qc, .slice qb rprev.length qd]) (by kernel_rfl) Ny0.out.s (fun hHeld => ?_)
    refine takeH (some 6) (i := 1) (v := .slice a n cap) rfl (by kernel_rfl) (by kernel_rfl) (by kernel_rfl) (fun _ _ _ h => h) (Or.inl ⟨by rfl, ?_⟩) hHeld rfl ?_
    · intro w1 hSw; go_simp
    (try simp only [Act.put, List.setIfInBounds_toArray, List.set_cons_zero, List.set_cons_succ])
    refine takeH (some 8) (i := 3) (v := .agg #[.int .u64 (rseq : Int), .int .u64 (rclk : Int), .string rwho, .int .i64 rkind, .string rbkt, .string rkey, .int .u64 (rver : Int), .int .i64 rerr, .slice qa rsum.length qc, .slice qb rprev.length qd]) rfl (by kernel_rfl) (by kernel_rfl) (by kernel_rfl) (fun _ _ _ h => h) (yieldsIf_load_mid (by rfl) 26 (.tmp 3) (by rfl) w.heap.size 0 (by rfl) [.int .u64 (rseq : Int), .int .u64 (rclk : Int), .string rwho, .int .i64 rkind, .string rbkt, .string rkey, .int .u64 (rver : Int), .int .i64 rerr, .slice qa rsum.length qc, .slice qb rprev.length qd] _ (fun w1 hw1 => Blk.whole14 hw1) Try.underlying26 rfl (by kernel_rfl)) hHeld rfl ?_
    (try simp only [Act.put, List.setIfInBounds_toArray, List.set_cons_zero, List.set_cons_succ])
    refine wpAnyH_ready (rs := [0, 4]) (by kernel_rfl) (by simp) ?_
    refine AllReadyH.cons rfl (fun K hK => ?_) (AllReadyH.cons rfl (fun K hK => ?_) AllReadyH.nil)
    · skip
      go_simp
      have hbA : Below y.heap.size y (y.alloc (.cells #[] 26)).drew := ((Below.refl _ y).alloc (Nat.le_refl _) _).drew
      have Ny1 := mkHid (Ny.out.on hbA)
      have HO5 : Hid (OwnRc (y.alloc (.cells #[] 26)).drew (w.heap.size + 1) (.slice (some ⟨y.heap.size, 0, none⟩) 0 0) []) := own_drewRc14 (OwnRc.empty y _ Ny.out.lt)
      refine hK.out _ _ Ny1.out.s (fun hHeld => ?_)
      (try simp only [Act.put, List.setIfInBounds_toArray, List.set_cons_zero, List.set_cons_succ])
      clear hK K hbA
      generalize (y.alloc (.cells #[] 26)).drew = y1 at *
      have HE5 : Hid (y.heap.size < y1.heap.size) := HO5lt14 HO5.out
      generalize y.heap.size = E5 at *
      refine wpAnyH_ready (rs := [2, 4]) (by kernel_rfl) (by simp) ?_
      refine AllReadyH.cons rfl (fun K hK => ?_) (AllReadyH.cons rfl (fun K hK => ?_) AllReadyH.nil)
      · skip
        refine step_appRcs y1 (by rfl) _ _ (by rfl) (w.heap.size + 1) _ [] (by rfl) HO5.out _ _ _ l (by rfl) (HSrc.out _ Ny1.out.b) (by have := HNn.out; simp only [List.length_nil]; omega) Ny1.out.lt 7 rfl ?_
        intro v7 y2 ho7 hg7
        rw [List.nil_append] at ho7
        have Ny2 := mkHid (Ny1.out.grown HO5.out hg7)
        have HO7 := mkHid ho7
        refine hK.out _ _ Ny2.out.s (fun hHeld => ?_)
        (try simp only [Act.put, List.setIfInBounds_toArray, List.set_cons_zero, List.set_cons_succ])
        clear hK K ho7 hg7 HO5
        refine wpAnyH_ready (rs := [4]) (by kernel_rfl) (by simp) (AllReadyH.cons rfl (fun K hK => ?_) AllReadyH.nil)
        go_simp
        have hbA : Below y2.heap.size y2 (y2.alloc (.cells #[.int .u64 (rseq : Int), .int .u64 (rclk : Int), .string rwho, .int .i64 rkind, .string rbkt, .string rkey, .int .u64 (rver : Int), .int .i64 rerr, .slice qa rsum.length qc, .slice qb rprev.length qd] 26)) := ((Below.refl _ y2).alloc (Nat.le_refl _) _)
        have Ny3 := mkHid (Ny2.out.on hbA)
        have HX1 : Hid (Blk (y2.alloc (.cells #[.int .u64 (rseq : Int), .int .u64 (rclk : Int), .string rwho, .int .i64 rkind, .string rbkt, .string rkey, .int .u64 (rver : Int), .int .i64 rerr, .slice qa rsum.length qc, .slice qb rprev.length qd] 26)) y2.heap.size 26 [.int .u64 (rseq : Int), .int .u64 (rclk : Int), .string rwho, .int .i64 rkind, .string rbkt, .string rkey, .int .u64 (rver : Int), .int .i64 rerr, .slice qa rsum.length qc, .slice qb rprev.length qd]) := (Blk.new y2 26 [.int .u64 (rseq : Int), .int .u64 (rclk : Int), .string rwho, .int .i64 rkind, .string rbkt, .string rkey, .int .u64 (rver : Int), .int .i64 rerr, .slice qa rsum.length qc, .slice qb rprev.length qd])
        have HO7b := mkHid (HO7.out.on hbA)
        refine hK.out _ _ Ny3.out.s (fun hHeld => ?_)
        (try simp only [Act.put, List.setIfInBounds_toArray, List.set_cons_zero, List.set_cons_succ])
        clear hK K hbA
        generalize (y2.alloc (.cells #[.int .u64 (rseq : Int), .int .u64 (rclk : Int), .string rwho, .int .i64 rkind, .string rbkt, .string rkey, .int .u64 (rver : Int), .int .i64 rerr, .slice qa rsum.length qc, .slice qb rprev.length qd] 26)) = y3 at *
        generalize y2.heap.size = X at *
        refine wpAnyH_ready (rs := [5]) (by kernel_rfl) (by simp) (AllReadyH.cons rfl (fun K hK => ?_) AllReadyH.nil)
        refine step_appRcs y3 (by rfl) _ _ (by rfl) (w.heap.size + 1) _ l (by rfl) HO7b.out (some ⟨X, 0, none⟩) 1 1 [(⟨rseq, rclk, rwho, rkind, rbkt, rkey, rver, rerr, rsum, rprev⟩, ⟨qa, qc, qb, qd⟩)] (by rfl) (Blk.srcRc (x := (⟨rseq, rclk, rwho, rkind, rbkt, rkey, rver, rerr, rsum, rprev⟩, ⟨qa, qc, qb, qd⟩)) HX1.out) (by have h1 := HNn.out; have h2 := HLn.out; omega) Ny3.out.lt 10 rfl ?_
        intro v10 z0 ho10 hg10
        have Nz0 := mkHid (Ny3.out.grown HO7b.out hg10)
        obtain ⟨va, vc, hve, -⟩ := ho10.form
        generalize hvn : (l ++ [((⟨rseq, rclk, rwho, rkind, rbkt, rkey, rver, rerr, rsum, rprev⟩ : Rc), (⟨qa, qc, qb, qd⟩ : RcA))]).length = vn at hve
        subst hve
        have hLt := HLt z0 va vn vc Nz0.out.b hvn.symm ho10
        clear hvn
        refine hK.out _ _ Nz0.out.s (fun hHeld => ?_)
        (try simp only [Act.put, List.setIfInBounds_toArray, List.set_cons_zero, List.set_cons_succ])
        clear hK K ho10 hg10 HO7b HX1 Ny3
        refine wpAnyH_ready (rs := [6]) (by kernel_rfl) (by simp) (AllReadyH.cons rfl (fun K hK => ?_) AllReadyH.nil)
        go_simp
        go_wp2_with (go_at_call 9; refine hLt.mono ?_; rintro e z1 ⟨rfl, hb⟩)
        have Nz1 := mkHid (Nz0.out.on hb)
        refine hK.out _ _ Nz1.out.s (fun hHeld => ?_)
        (try simp only [Act.put, List.setIfInBounds_toArray, List.set_cons_zero, List.set_cons_succ])
        clear hK K hb hLt Nz0
        refine takeH (some 12) (i := 7) (v := .bool true) rfl (by kernel_rfl) (by kernel_rfl) (by kernel_rfl) (fun _ _ _ h => h) (Or.inl ⟨by rfl, ?_⟩) hHeld rfl ?_
        · intro w1 hSw; go_simp
        (try simp only [Act.put, List.setIfInBounds_toArray, List.set_cons_zero, List.set_cons_succ])
        refine takeH (some 13) (i := 8) (v := .bool true) rfl (by kernel_rfl) (by kernel_rfl) (by kernel_rfl) (fun _ _ _ h => h) (Or.inl ⟨by rfl, ?_⟩) hHeld rfl ?_
        · intro w1 hSw; go_simp
        (try simp only [Act.put, List.setIfInBounds_toArray, List.set_cons_zero, List.set_cons_succ])
        refine takeH (some 14) (i := 9) (v := undef) rfl (by kernel_rfl) (by kernel_rfl) (by kernel_rfl) (fun _ _ _ h => h) (Or.inr ⟨by rfl, rfl⟩) hHeld rfl ?_
        (try simp only [Act.put, List.setIfInBounds_toArray, List.set_cons_zero, List.set_cons_succ])
        refine takeH (some 15) (i := 10) (v := undef) rfl (by kernel_rfl) (by kernel_rfl) (by kernel_rfl) (fun _ _ _ h => h) (Or.inr ⟨by rfl, rfl⟩) hHeld rfl ?_
        (try simp only [Act.put, List.setIfInBounds_toArray, List.set_cons_zero, List.set_cons_succ])
        refine takeH (some 16) (i := 11) (v := undef) rfl (by kernel_rfl) (by kernel_rfl) (by kernel_rfl) (fun _ _ _ h => h) (Or.inr ⟨by rfl, rfl⟩) hHeld rfl ?_
        (try simp only [Act.put, List.setIfInBounds_toArray, List.set_cons_zero, List.set_cons_succ])
        refine takeH (some 17) (i := 12) (v := undef) rfl (by kernel_rfl) (by kernel_rfl) (by kernel_rfl) (fun _ _ _ h => h) (Or.inr ⟨by rfl, rfl⟩) hHeld rfl ?_
        (try simp only [Act.put, List.setIfInBounds_toArray, List.set_cons_zero, List.set_cons_succ])
        refine takeH (some 18) (i := 13) (v := undef) rfl (by kernel_rfl) (by kernel_rfl) (by kernel_rfl) (fun _ _ _ h => h) (Or.inr ⟨by rfl, rfl⟩) hHeld rfl ?_
        (try simp only [Act.put, List.setIfInBounds_toArray, List.set_cons_zero, List.set_cons_succ])
        refine takeH (some 19) (i := 14) (v := undef) rfl (by kernel_rfl) (by kernel_rfl) (by kernel_rfl) (fun _ _ _ h => h) (Or.inr ⟨by rfl, rfl⟩) hHeld rfl ?_
        (try simp only [Act.put, List.setIfInBounds_toArray, List.set_cons_zero, List.set_cons_succ])
        refine takeH (some 20) (i := 15) (v := undef) rfl (by kernel_rfl) (by kernel_rfl) (by kernel_rfl) (fun _ _ _ h => h) (Or.inr ⟨by rfl, rfl⟩) hHeld rfl ?_
        (try simp only [Act.put, List.setIfInBounds_toArray, List.set_cons_zero, List.set_cons_succ])
        refine takeH (some 21) (i := 16) (v := undef) rfl (by kernel_rfl) (by kernel_rfl) (by kernel_rfl) (fun _ _ _ h => h) (Or.inr ⟨by rfl, rfl⟩) hHeld rfl ?_
        (try simp only [Act.put, List.setIfInBounds_toArray, List.set_cons_zero, List.set_cons_succ])
        refine takeH (some 22) (i := 17) (v := undef) rfl (by kernel_rfl) (by kernel_rfl) (by kernel_rfl) (fun _ _ _ h => h) (Or.inr ⟨by rfl, rfl⟩) hHeld rfl ?_
        (try simp only [Act.put, List.setIfInBounds_toArray, List.set_cons_zero, List.set_cons_succ])
        refine takeH (some 23) (i := 18) (v := undef) rfl (by kernel_rfl) (by kernel_rfl) (by kernel_rfl) (fun _ _ _ h => h) (Or.inr ⟨by rfl, rfl⟩) hHeld rfl ?_
        (try simp only [Act.put, List.setIfInBounds_toArray, List.set_cons_zero, List.set_cons_succ])
        refine takeH (some 24) (i := 19) (v := undef) rfl (by kernel_rfl) (by kernel_rfl) (by kernel_rfl) (fun _ _ _ h => h) (Or.inr ⟨by rfl, rfl⟩) hHeld rfl ?_
        (try simp only [Act.put, List.setIfInBounds_toArray, List.set_cons_zero, List.set_cons_succ])
        refine takeH (some 25) (i := 20) (v := undef) rfl (by kernel_rfl) (by kernel_rfl) (by kernel_rfl) (fun _ _ _ h => h) (Or.inr ⟨by rfl, rfl⟩) hHeld rfl ?_
        (try simp only [Act.put, List.setIfInBounds_toArray, List.set_cons_zero, List.set_cons_succ])
        refine takeH (some 26) (i := 21) (v := undef) rfl (by kernel_rfl) (by kernel_rfl) (by kernel_rfl) (fun _ _ _ h => h) (Or.inr ⟨by rfl, rfl⟩) hHeld rfl ?_
        (try simp only [Act.put, List.setIfInBounds_toArray, List.set_cons_zero, List.set_cons_succ])
        refine takeH (some 27) (i := 22) (v := .bool true) rfl (by kernel_rfl) (by kernel_rfl) (by kernel_rfl) (fun _ _ _ h => h) (Or.inl ⟨by rfl, ?_⟩) hHeld rfl ?_
        · intro w1 hSw; go_simp
        (try simp only [Act.put, List.setIfInBounds_toArray, List.set_cons_zero, List.set_cons_succ])
        refine wpAnyH_done (by kernel_rfl) ?_ _
        clear hHeld
        go_wp2_with fail
        go_meet
        case rel => exact ⟨rfl, Nz1⟩
      · skip
        go_simp
        have hbA : Below y1.heap.size y1 (y1.alloc (.cells #[.int .u64 (rseq : Int), .int .u64 (rclk : Int), .string rwho, .int .i64 rkind, .string rbkt, .string rkey, .int .u64 (rver : Int), .int .i64 rerr, .slice qa rsum.length qc, .slice qb rprev.length qd] 26)) := ((Below.refl _ y1).alloc (Nat.le_refl _) _)
        have Ny2 := mkHid (Ny1.out.on hbA)
        have HX1 : Hid (Blk (y1.alloc (.cells #[.int .u64 (rseq : Int), .int .u64 (rclk : Int), .string rwho, .int .i64 rkind, .string rbkt, .string rkey, .int .u64 (rver : Int), .int .i64 rerr, .slice qa rsum.length qc, .slice qb rprev.length qd] 26)) y1.heap.size 26 [.int .u64 (rseq : Int), .int .u64 (rclk : Int), .string rwho, .int .i64 rkind, .string rbkt, .string rkey, .int .u64 (rver : Int), .int .i64 rerr, .slice qa rsum.length qc, .slice qb rprev.length qd]) := (Blk.new y1 26 [.int .u64 (rseq : Int), .int .u64 (rclk : Int), .string rwho, .int .i64 rkind, .string rbkt, .string rkey, .int .u64 (rver : Int), .int .i64 rerr, .slice qa rsum.length qc, .slice qb rprev.length qd])
        have HO5b := mkHid (HO5.out.on hbA)
        have HXn : Hid (y1.heap.size ≠ E5) := fun e => by have := HE5.out; omega
        refine hK.out _ _ Ny2.out.s (fun hHeld => ?_)
        (try simp only [Act.put, List.setIfInBounds_toArray, List.set_cons_zero, List.set_cons_succ])
        clear hK K hbA
        generalize (y1.alloc (.cells #[.int .u64 (rseq : Int), .int .u64 (rclk : Int), .string rwho, .int .i64 rkind, .string rbkt, .string rkey, .int .u64 (rver : Int), .int .i64 rerr, .slice qa rsum.length qc, .slice qb rprev.length qd] 26)) = y2 at *
        generalize y1.heap.size = X at *
        have HX2 := HX1
        clear HO5
        have HO5 := HO5b
        refine wpAnyH_ready (rs := [2]) (by kernel_rfl) (by simp) (AllReadyH.cons rfl (fun K hK => ?_) AllReadyH.nil)
        refine step_appRcs y2 (by rfl) _ _ (by rfl) (w.heap.size + 1) _ [] (by rfl) HO5.out _ _ _ l (by rfl) (HSrc.out _ Ny2.out.b) (by have := HNn.out; simp only [List.length_nil]; omega) Ny2.out.lt 7 rfl ?_
        intro v7 y3 ho7 hg7
        rw [List.nil_append] at ho7
        have Ny3 := mkHid (Ny2.out.grown HO5.out hg7)
        have HO7 := mkHid ho7
        have HX3 : Hid (Blk y3 X 26 [.int .u64 (rseq : Int), .int .u64 (rclk : Int), .string rwho, .int .i64 rkind, .string rbkt, .string rkey, .int .u64 (rver : Int), .int .i64 rerr, .slice qa rsum.length qc, .slice qb rprev.length qd]) := blk_grown14 HX2.out hg7 (fun e => HXn.out (Option.some.inj e).symm)
        refine hK.out _ _ Ny3.out.s (fun hHeld => ?_)
        (try simp only [Act.put, List.setIfInBounds_toArray, List.set_cons_zero, List.set_cons_succ])
        clear hK K ho7 hg7 HO5
        refine wpAnyH_ready (rs := [5]) (by kernel_rfl) (by simp) (AllReadyH.cons rfl (fun K hK => ?_) AllReadyH.nil)
        refine step_appRcs y3 (by rfl) _ _ (by rfl) (w.heap.size + 1) _ l (by rfl) HO7.out (some ⟨X, 0, none⟩) 1 1 [(⟨rseq, rclk, rwho, rkind, rbkt, rkey, rver, rerr, rsum, rprev⟩, ⟨qa, qc, qb, qd⟩)] (by rfl) (Blk.srcRc (x := (⟨rseq, rclk, rwho, rkind, rbkt, rkey, rver, rerr, rsum, rprev⟩, ⟨qa, qc, qb, qd⟩)) HX3.out) (by have h1 := HNn.out; have h2 := HLn.out; omega) Ny3.out.lt 10 rfl ?_
        intro v10 z0 ho10 hg10
        have Nz0 := mkHid (Ny3.out.grown HO7.out hg10)
        obtain ⟨va, vc, hve, -⟩ := ho10.form
        generalize hvn : (l ++ [((⟨rseq, rclk, rwho, rkind, rbkt, rkey, rver, rerr, rsum, rprev⟩ : Rc), (⟨qa, qc, qb, qd⟩ : RcA))]).length = vn at hve
        subst hve
        have hLt := HLt z0 va vn vc Nz0.out.b hvn.symm ho10
        clear hvn
        refine hK.out _ _ Nz0.out.s (fun hHeld => ?_)
        (try simp only [Act.put, List.setIfInBounds_toArray, List.set_cons_zero, List.set_cons_succ])
        clear hK K ho10 hg10 HO7 HX3 Ny3
        refine wpAnyH_ready (rs := [6]) (by kernel_rfl) (by simp) (AllReadyH.cons rfl (fun K hK => ?_) AllReadyH.nil)
        go_simp
        go_wp2_with (go_at_call 9; refine hLt.mono ?_; rintro e z1 ⟨rfl, hb⟩)
        have Nz1 := mkHid (Nz0.out.on hb)
        refine hK.out _ _ Nz1.out.s (fun hHeld => ?_)
        (try simp only [Act.put, List.setIfInBounds_toArray, List.set_cons_zero, List.set_cons_succ])
        clear hK K hb hLt Nz0
        refine takeH (some 12) (i := 7) (v := .bool true) rfl (by kernel_rfl) (by kernel_rfl) (by kernel_rfl) (fun _ _ _ h => h) (Or.inl ⟨by rfl, ?_⟩) hHeld rfl ?_
        · intro w1 hSw; go_simp
        (try simp only [Act.put, List.setIfInBounds_toArray, List.set_cons_zero, List.set_cons_succ])
        refine takeH (some 13) (i := 8) (v := .bool true) rfl (by kernel_rfl) (by kernel_rfl) (by kernel_rfl) (fun _ _ _ h => h) (Or.inl ⟨by rfl, ?_⟩) hHeld rfl ?_
        · intro w1 hSw; go_simp
        (try simp only [Act.put, List.setIfInBounds_toArray, List.set_cons_zero, List.set_cons_succ])
        refine takeH (some 14) (i := 9) (v := undef) rfl (by kernel_rfl) (by kernel_rfl) (by kernel_rfl) (fun _ _ _ h => h) (Or.inr ⟨by rfl, rfl⟩) hHeld rfl ?_
        (try simp only [Act.put, List.setIfInBounds_toArray, List.set_cons_zero, List.set_cons_succ])
        refine takeH (some 15) (i := 10) (v := undef) rfl (by kernel_rfl) (by kernel_rfl) (by kernel_rfl) (fun _ _ _ h => h) (Or.inr ⟨by rfl, rfl⟩) hHeld rfl ?_
        (try simp only [Act.put, List.setIfInBounds_toArray, List.set_cons_zero, List.set_cons_succ])
        refine takeH (some 16) (i := 11) (v := undef) rfl (by kernel_rfl) (by kernel_rfl) (by kernel_rfl) (fun _ _ _ h => h) (Or.inr ⟨by rfl, rfl⟩) hHeld rfl ?_
        (try simp only [Act.put, List.setIfInBounds_toArray, List.set_cons_zero, List.set_cons_succ])
        refine takeH (some 17) (i := 12) (v := undef) rfl (by kernel_rfl) (by kernel_rfl) (by kernel_rfl) (fun _ _ _ h => h) (Or.inr ⟨by rfl, rfl⟩) hHeld rfl ?_
        (try simp only [Act.put, List.setIfInBounds_toArray, List.set_cons_zero, List.set_cons_succ])
        refine takeH (some 18) (i := 13) (v := undef) rfl (by kernel_rfl) (by kernel_rfl) (by kernel_rfl) (fun _ _ _ h => h) (Or.inr ⟨by rfl, rfl⟩) hHeld rfl ?_
        (try simp only [Act.put, List.setIfInBounds_toArray, List.set_cons_zero, List.set_cons_succ])
        refine takeH (some 19) (i := 14) (v := undef) rfl (by kernel_rfl) (by kernel_rfl) (by kernel_rfl) (fun _ _ _ h => h) (Or.inr ⟨by rfl, rfl⟩) hHeld rfl ?_
        (try simp only [Act.put, List.setIfInBounds_toArray, List.set_cons_zero, List.set_cons_succ])
        refine takeH (some 20) (i := 15) (v := undef) rfl (by kernel_rfl) (by kernel_rfl) (by kernel_rfl) (fun _ _ _ h => h) (Or.inr ⟨by rfl, rfl⟩) hHeld rfl ?_
        (try simp only [Act.put, List.setIfInBounds_toArray, List.set_cons_zero, List.set_cons_succ])
        refine takeH (some 21) (i := 16) (v := undef) rfl (by kernel_rfl) (by kernel_rfl) (by kernel_rfl) (fun _ _ _ h => h) (Or.inr ⟨by rfl, rfl⟩) hHeld rfl ?_
        (try simp only [Act.put, List.setIfInBounds_toArray, List.set_cons_zero, List.set_cons_succ])
        refine takeH (some 22) (i := 17) (v := undef) rfl (by kernel_rfl) (by kernel_rfl) (by kernel_rfl) (fun _ _ _ h => h) (Or.inr ⟨by rfl, rfl⟩) hHeld rfl ?_
        (try simp only [Act.put, List.setIfInBounds_toArray, List.set_cons_zero, List.set_cons_succ])
        refine takeH (some 23) (i := 18) (v := undef) rfl (by kernel_rfl) (by kernel_rfl) (by kernel_rfl) (fun _ _ _ h => h) (Or.inr ⟨by rfl, rfl⟩) hHeld rfl ?_
        (try simp only [Act.put, List.setIfInBounds_toArray, List.set_cons_zero, List.set_cons_succ])
        refine takeH (some 24) (i := 19) (v := undef) rfl (by kernel_rfl) (by kernel_rfl) (by kernel_rfl) (fun _ _ _ h => h) (Or.inr ⟨by rfl, rfl⟩) hHeld rfl ?_
        (try simp only [Act.put, List.setIfInBounds_toArray, List.set_cons_zero, List.set_cons_succ])
        refine takeH (some 25) (i := 20) (v := undef) rfl (by kernel_rfl) (by kernel_rfl) (by kernel_rfl) (fun _ _ _ h => h) (Or.inr ⟨by rfl, rfl⟩) hHeld rfl ?_
        (try simp only [Act.put, List.setIfInBounds_toArray, List.set_cons_zero, List.set_cons_succ])
        refine takeH (some 26) (i := 21) (v := undef) rfl (by kernel_rfl) (by kernel_rfl) (by kernel_rfl) (fun _ _ _ h => h) (Or.inr ⟨by rfl, rfl⟩) hHeld rfl ?_
        (try simp only [Act.put, List.setIfInBounds_toArray, List.set_cons_zero, List.set_cons_succ])
        refine takeH (some 27) (i := 22) (v := .bool true) rfl (by kernel_rfl) (by kernel_rfl) (by kernel_rfl) (fun _ _ _ h => h) (Or.inl ⟨by rfl, ?_⟩) hHeld rfl ?_
        · intro w1 hSw; go_simp
        (try simp only [Act.put, List.setIfInBounds_toArray, List.set_cons_zero, List.set_cons_succ])
        refine wpAnyH_done (by kernel_rfl) ?_ _
        clear hHeld
        go_wp2_with fail
        go_meet
        case rel => exact ⟨rfl, Nz1⟩
    · skip
      go_simp
      have hbA : Below y.heap.size y (y.alloc (.cells #[.int .u64 (rseq : Int), .int .u64 (rclk : Int), .string rwho, .int .i64 rkind, .string rbkt, .string rkey, .int .u64 (rver : Int), .int .i64 rerr, .slice qa rsum.length qc, .slice qb rprev.length qd] 26)).drew := ((Below.refl _ y).alloc (Nat.le_refl _) _).drew
      have Ny1 := mkHid (Ny.out.on hbA)
      have HX1 : Hid (Blk (y.alloc (.cells #[.int .u64 (rseq : Int), .int .u64 (rclk : Int), .string rwho, .int .i64 rkind, .string rbkt, .string rkey, .int .u64 (rver : Int), .int .i64 rerr, .slice qa rsum.length qc, .slice qb rprev.length qd] 26)).drew y.heap.size 26 [.int .u64 (rseq : Int), .int .u64 (rclk : Int), .string rwho, .int .i64 rkind, .string rbkt, .string rkey, .int .u64 (rver : Int), .int .i64 rerr, .slice qa rsum.length qc, .slice qb rprev.length qd]) := (Blk.new y 26 [.int .u64 (rseq : Int), .int .u64 (rclk : Int), .string rwho, .int .i64 rkind, .string rbkt, .string rkey, .int .u64 (rver : Int), .int .i64 rerr, .slice qa rsum.length qc, .slice qb rprev.length qd]).drewN 1
      refine hK.out _ _ Ny1.out.s (fun hHeld => ?_)
      (try simp only [Act.put, List.setIfInBounds_toArray, List.set_cons_zero, List.set_cons_succ])
      clear hK K hbA
      generalize (y.alloc (.cells #[.int .u64 (rseq : Int), .int .u64 (rclk : Int), .string rwho, .int .i64 rkind, .string rbkt, .string rkey, .int .u64 (rver : Int), .int .i64 rerr, .slice qa rsum.length qc, .slice qb rprev.length qd] 26)).drew = y1 at *
      generalize y.heap.size = X at *
      refine wpAnyH_ready (rs := [0]) (by kernel_rfl) (by simp) (AllReadyH.cons rfl (fun K hK => ?_) AllReadyH.nil)
      go_simp
      have hbA : Below y1.heap.size y1 (y1.alloc (.cells #[] 26)) := ((Below.refl _ y1).alloc (Nat.le_refl _) _)
      have Ny2 := mkHid (Ny1.out.on hbA)
      have HO5 : Hid (OwnRc (y1.alloc (.cells #[] 26)) (w.heap.size + 1) (.slice (some ⟨y1.heap.size, 0, none⟩) 0 0) []) := OwnRc.empty y1 _ Ny1.out.lt
      have HX12 := mkHid (HX1.out.on hbA)
      have HXn : Hid (X ≠ y1.heap.size) := Nat.ne_of_lt HX1.out.lt
      refine hK.out _ _ Ny2.out.s (fun hHeld => ?_)
      (try simp only [Act.put, List.setIfInBounds_toArray, List.set_cons_zero, List.set_cons_succ])
      clear hK K hbA
      generalize (y1.alloc (.cells #[] 26)) = y2 at *
      generalize y1.heap.size = E5 at *
      have HX2 := HX12
      refine wpAnyH_ready (rs := [2]) (by kernel_rfl) (by simp) (AllReadyH.cons rfl (fun K hK => ?_) AllReadyH.nil)
      refine step_appRcs y2 (by rfl) _ _ (by rfl) (w.heap.size + 1) _ [] (by rfl) HO5.out _ _ _ l (by rfl) (HSrc.out _ Ny2.out.b) (by have := HNn.out; simp only [List.length_nil]; omega) Ny2.out.lt 7 rfl ?_
      intro v7 y3 ho7 hg7
      rw [List.nil_append] at ho7
      have Ny3 := mkHid (Ny2.out.grown HO5.out hg7)
      have HO7 := mkHid ho7
      have HX3 : Hid (Blk y3 X 26 [.int .u64 (rseq : Int), .int .u64 (rclk : Int), .string rwho, .int .i64 rkind, .string rbkt, .string rkey, .int .u64 (rver : Int), .int .i64 rerr, .slice qa rsum.length qc, .slice qb rprev.length qd]) := blk_grown14 HX2.out hg7 (fun e => HXn.out (Option.some.inj e).symm)
      refine hK.out _ _ Ny3.out.s (fun hHeld => ?_)
      (try simp only [Act.put, List.setIfInBounds_toArray, List.set_cons_zero, List.set_cons_succ])
      clear hK K ho7 hg7 HO5
      refine wpAnyH_ready (rs := [5]) (by kernel_rfl) (by simp) (AllReadyH.cons rfl (fun K hK => ?_) AllReadyH.nil)
      refine step_appRcs y3 (by rfl) _ _ (by rfl) (w.heap.size + 1) _ l (by rfl) HO7.out (some ⟨X, 0, none⟩) 1 1 [(⟨rseq, rclk, rwho, rkind, rbkt, rkey, rver, rerr, rsum, rprev⟩, ⟨qa, qc, qb, qd⟩)] (by rfl) (Blk.srcRc (x := (⟨rseq, rclk, rwho, rkind, rbkt, rkey, rver, rerr, rsum, rprev⟩, ⟨qa, qc, qb, qd⟩)) HX3.out) (by have h1 := HNn.out; have h2 := HLn.out; omega) Ny3.out.lt 10 rfl ?_
      intro v10 z0 ho10 hg10
      have Nz0 := mkHid (Ny3.out.grown HO7.out hg10)
      obtain ⟨va, vc, hve, -⟩ := ho10.form
      generalize hvn : (l ++ [((⟨rseq, rclk, rwho, rkind, rbkt, rkey, rver, rerr, rsum, rprev⟩ : Rc), (⟨qa, qc, qb, qd⟩ : RcA))]).length = vn at hve
      subst hve
      have hLt := HLt z0 va vn vc Nz0.out.b hvn.symm ho10
      clear hvn
      refine hK.out _ _ Nz0.out.s (fun hHeld => ?_)
      (try simp only [Act.put, List.setIfInBounds_toArray, List.set_cons_zero, List.set_cons_succ])
      clear hK K ho10 hg10 HO7 HX3 Ny3
      refine wpAnyH_ready (rs := [6]) (by kernel_rfl) (by simp) (AllReadyH.cons rfl (fun K hK => ?_) AllReadyH.nil)
      go_simp
      go_wp2_with (go_at_call 9; refine hLt.mono ?_; rintro e z1 ⟨rfl, hb⟩)
      have Nz1 := mkHid (Nz0.out.on hb)
      refine hK.out _ _ Nz1.out.s (fun hHeld => ?_)
      (try simp only [Act.put, List.setIfInBounds_toArray, List.set_cons_zero, List.set_cons_succ])
      clear hK K hb hLt Nz0
      refine takeH (some 12) (i := 7) (v := .bool true) rfl (by kernel_rfl) (by kernel_rfl) (by kernel_rfl) (fun _ _ _ h => h) (Or.inl ⟨by rfl, ?_⟩) hHeld rfl ?_
      · intro w1 hSw; go_simp
      (try simp only [Act.put, List.setIfInBounds_toArray, List.set_cons_zero, List.set_cons_succ])
      refine takeH (some 13) (i := 8) (v := .bool true) rfl (by kernel_rfl) (by kernel_rfl) (by kernel_rfl) (fun _ _ _ h => h) (Or.inl ⟨by rfl, ?_⟩) hHeld rfl ?_
      · intro w1 hSw; go_simp
      (try simp only [Act.put, List.setIfInBounds_toArray, List.set_cons_zero, List.set_cons_succ])
      refine takeH (some 14) (i := 9) (v := undef) rfl (by kernel_rfl) (by kernel_rfl) (by kernel_rfl) (fun _ _ _ h => h) (Or.inr ⟨by rfl, rfl⟩) hHeld rfl ?_
      (try simp only [Act.put, List.setIfInBounds_toArray, List.set_cons_zero, List.set_cons_succ])
      refine takeH (some 15) (i := 10) (v := undef) rfl (by kernel_rfl) (by kernel_rfl) (by kernel_rfl) (fun _ _ _ h => h) (Or.inr ⟨by rfl, rfl⟩) hHeld rfl ?_
      (try simp only [Act.put, List.setIfInBounds_toArray, List.set_cons_zero, List.set_cons_succ])
      refine takeH (some 16) (i := 11) (v := undef) rfl (by kernel_rfl) (by kernel_rfl) (by kernel_rfl) (fun _ _ _ h => h) (Or.inr ⟨by rfl, rfl⟩) hHeld rfl ?_
      (try simp only [Act.put, List.setIfInBounds_toArray, List.set_cons_zero, List.set_cons_succ])
      refine takeH (some 17) (i := 12) (v := undef) rfl (by kernel_rfl) (by kernel_rfl) (by kernel_rfl) (fun _ _ _ h => h) (Or.inr ⟨by rfl, rfl⟩) hHeld rfl ?_
      (try simp only [Act.put, List.setIfInBounds_toArray, List.set_cons_zero, List.set_cons_succ])
      refine takeH (some 18) (i := 13) (v := undef) rfl (by kernel_rfl) (by kernel_rfl) (by kernel_rfl) (fun _ _ _ h => h) (Or.inr ⟨by rfl, rfl⟩) hHeld rfl ?_
      (try simp only [Act.put, List.setIfInBounds_toArray, List.set_cons_zero, List.set_cons_succ])
      refine takeH (some 19) (i := 14) (v := undef) rfl (by kernel_rfl) (by kernel_rfl) (by kernel_rfl) (fun _ _ _ h => h) (Or.inr ⟨by rfl, rfl⟩) hHeld rfl ?_
      (try simp only [Act.put, List.setIfInBounds_toArray, List.set_cons_zero, List.set_cons_succ])
      refine takeH (some 20) (i := 15) (v := undef) rfl (by kernel_rfl) (by kernel_rfl) (by kernel_rfl) (fun _ _ _ h => h) (Or.inr ⟨by rfl, rfl⟩) hHeld rfl ?_
      (try simp only [Act.put, List.setIfInBounds_toArray, List.set_cons_zero, List.set_cons_succ])
      refine takeH (some 21) (i := 16) (v := undef) rfl (by kernel_rfl) (by kernel_rfl) (by kernel_rfl) (fun _ _ _ h => h) (Or.inr ⟨by rfl, rfl⟩) hHeld rfl ?_
      (try simp only [Act.put, List.setIfInBounds_toArray, List.set_cons_zero, List.set_cons_succ])
      refine takeH (some 22) (i := 17) (v := undef) rfl (by kernel_rfl) (by kernel_rfl) (by kernel_rfl) (fun _ _ _ h => h) (Or.inr ⟨by rfl, rfl⟩) hHeld rfl ?_
      (try simp only [Act.put, List.setIfInBounds_toArray, List.set_cons_zero, List.set_cons_succ])
      refine takeH (some 23) (i := 18) (v := undef) rfl (by kernel_rfl) (by kernel_rfl) (by kernel_rfl) (fun _ _ _ h => h) (Or.inr ⟨by rfl, rfl⟩) hHeld rfl ?_
      (try simp only [Act.put, List.setIfInBounds_toArray, List.set_cons_zero, List.set_cons_succ])
      refine takeH (some 24) (i := 19) (v := undef) rfl (by kernel_rfl) (by kernel_rfl) (by kernel_rfl) (fun _ _ _ h => h) (Or.inr ⟨by rfl, rfl⟩) hHeld rfl ?_
      (try simp only [Act.put, List.setIfInBounds_toArray, List.set_cons_zero, List.set_cons_succ])
      refine takeH (some 25) (i := 20) (v := undef) rfl (by kernel_rfl) (by kernel_rfl) (by kernel_rfl) (fun _ _ _ h => h) (Or.inr ⟨by rfl, rfl⟩) hHeld rfl ?_
      (try simp only [Act.put, List.setIfInBounds_toArray, List.set_cons_zero, List.set_cons_succ])
      refine takeH (some 26) (i := 21) (v := undef) rfl (by kernel_rfl) (by kernel_rfl) (by kernel_rfl) (fun _ _ _ h => h) (Or.inr ⟨by rfl, rfl⟩) hHeld rfl ?_
      (try simp only [Act.put, List.setIfInBounds_toArray, List.set_cons_zero, List.set_cons_succ])
      refine takeH (some 27) (i := 22) (v := .bool true) rfl (by kernel_rfl) (by kernel_rfl) (by kernel_rfl) (fun _ _ _ h => h) (Or.inl ⟨by rfl, ?_⟩) hHeld rfl ?_
      · intro w1 hSw; go_simp
      (try simp only [Act.put, List.setIfInBounds_toArray, List.set_cons_zero, List.set_cons_succ])
      refine wpAnyH_done (by kernel_rfl) ?_ _
      clear hHeld
      go_wp2_with fail
      go_meet
      case rel => exact ⟨rfl, Nz1⟩
  case rest =>
    obtain ⟨rfl, HN⟩ := hcut
    clear Ny HCel HLt HSrc HLo HNc2 HNd HSm
    go_wp2_with fail
    refine (lawAlive14 wc).mono ?_
    rintro e la ⟨rfl, hla⟩
    have HLa := mkHid (HN.out.b.trans (hla.mono HN.out.b.size))
    clear hla
    go_wp2_with fail
    go_ret
    exact ⟨rfl, HLa.out⟩
end Go.Proofs.Ytooffagdbppmaaa
