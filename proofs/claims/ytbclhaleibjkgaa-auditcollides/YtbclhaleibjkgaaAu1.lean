/- What Show of both sides gives. -/
import Derived.Test.YtbclhaleibjkgaaAu0
namespace Go.Proofs.Ytbclhaleibjkgaa
open Go.RowKit

theorem codShown14 (n : Int) (w : World) (h0 : -9223372036854775808 ≤ n) (h1 : n ≤ 9223372036854775807) :
    Calls Try.prog 29 #[.int .i64 n] w fun e w' => e = .returned (.int .u64 (((max n 0).toNat : Nat) : Int)) ∧ w' = w := by
  obtain ⟨m, hm⟩ : ∃ m : Nat, m = (max n 0).toNat := ⟨_, rfl⟩
  have hm1 : max n 0 = (m : Int) := by omega
  have hw : IntKind.u64.wrap (m : Int) = (m : Int) := wrap64_nat m (by omega)
  rw [← hm]
  clear hm
  go_enter Try.func29, Try.ntmps29
  go_wp2_with fail
  go_ret
  exact ⟨rfl, rfl⟩
set_option maxRecDepth 20000 in
set_option maxHeartbeats 2000000 in
theorem codShow14 (r : Rc) (q : RcA) (w : World) (h : IsRec w r q) (hs : rcLen r ≤ 20000) :
    Calls Try.prog 11 #[.agg (rcc r q).toArray] w fun e w' => ∃ v, e = .returned v ∧ OwnB w' w.heap.size v (showRc r) ∧ Below w.heap.size w w' := by
  have HH := mkHid h
  have HN := mkHid h.num
  have HS0 : Hid (showRc r = bytesL (bytesL (uintL (uintL (textL (textL (uintL (textL (uintL (uintL [] r.seq) r.clk) (sL r.who)) (max r.kind 0).toNat) (sL r.bkt)) (sL r.key)) r.ver) (max r.err 0).toNat) r.sum) r.prev) := rfl
  have HK := fun W => codShown14 r.kind W h.num.kind0 h.num.kind1
  have HE := fun W => codShown14 r.err W h.num.err0 h.num.err1
  have hk0 := h.num.kind0
  have hk1 := h.num.kind1
  have he0 := h.num.err0
  have he1 := h.num.err1
  obtain ⟨rseq, rclk, rwho, rkind, rbkt, rkey, rver, rerr, rsum, rprev⟩ := r
  obtain ⟨qa, qc, qb, qd⟩ := q
  obtain ⟨mk, hmk⟩ : ∃ m : Nat, m = (max rkind 0).toNat := ⟨_, rfl⟩
  obtain ⟨me, hme⟩ : ∃ m : Nat, m = (max rerr 0).toNat := ⟨_, rfl⟩
  change -9223372036854775808 ≤ rkind at hk0
  change rkind ≤ 9223372036854775807 at hk1
  change -9223372036854775808 ≤ rerr at he0
  change rerr ≤ 9223372036854775807 at he1
  have hmk1 : max rkind 0 = (mk : Int) := by omega
  have hme1 : max rerr 0 = (me : Int) := by omega
  have hwk : IntKind.u64.wrap (mk : Int) = (mk : Int) := wrap64_nat mk (by omega)
  have hwe : IntKind.u64.wrap (me : Int) = (me : Int) := wrap64_nat me (by omega)
  simp only [] at HS0
  rw [← hmk, ← hme] at HS0
  simp only [] at HK HE
  rw [← hmk] at HK
  rw [← hme] at HE
  clear hmk1 hme1 hwk hwe
  unfold rcLen at hs
  simp only [] at hs
  have HL := mkHid hs
  clear h hmk hme hk0 hk1 he0 he1 hs
  simp only [rcc]
  generalize showRc ⟨rseq, rclk, rwho, rkind, rbkt, rkey, rver, rerr, rsum, rprev⟩ = SR at *
  have kA := Blk.new w 26 [.int .u64 (rseq : Int), .int .u64 (rclk : Int), .string rwho, .int .i64 rkind, .string rbkt, .string rkey, .int .u64 (rver : Int), .int .i64 rerr, .slice qa rsum.length qc, .slice qb rprev.length qd]
  have HBY : Hid (Below w.heap.size w (w.alloc (.cells #[.int .u64 (rseq : Int), .int .u64 (rclk : Int), .string rwho, .int .i64 rkind, .string rbkt, .string rkey, .int .u64 (rver : Int), .int .i64 rerr, .slice qa rsum.length qc, .slice qb rprev.length qd] 26))) := (Below.refl _ w).alloc (Nat.le_refl _) _
  have HKA := mkHid kA
  clear kA
  go_enter Try.func11, Try.ntmps11
  go_upto_region 1 with fail
  generalize w.alloc (.cells #[.int .u64 (rseq : Int), .int .u64 (rclk : Int), .string rwho, .int .i64 rkind, .string rbkt, .string rkey, .int .u64 (rver : Int), .int .i64 rerr, .slice qa rsum.length qc, .slice qb rprev.length qd] 26) = y0 at *
  have HV0 : Hid (IsV y0 (.slice none 0 0) []) := IsV.nil _
  have HB0 : Hid (Below y0.heap.size y0 y0) := Below.refl _ _
  have c0 : World.cell? y0 ⟨w.heap.size, 0, none⟩ = some (.int .u64 (rseq : Int)) := Blk.cell (Blk.on HKA.out HB0.out) 0
  go_wp2_with fail
  refine (canUintV (.slice none 0 0) _ rseq _ HV0.out (by simp)).mono ?_
  rintro e y1 ⟨v1, rfl, ho1, hb1⟩
  have HB1 : Hid (Below y0.heap.size y0 y1) := HB0.out.trans (hb1.mono HB0.out.size)
  have HV1 : Hid (IsV y1 v1 (uintL [] rseq)) := ho1.isV
  clear ho1 hb1 c0 HV0 HB0
  have c1 : World.cell? y1 ⟨w.heap.size, 1, none⟩ = some (.int .u64 (rclk : Int)) := Blk.cell (Blk.on HKA.out HB1.out) 1
  go_wp2_with fail
  refine (canUintV v1 _ rclk _ HV1.out (by have := HL.out; simp only [uint_len14, List.length_nil]; omega)).mono ?_
  rintro e y2 ⟨v2, rfl, ho2, hb2⟩
  have HB2 : Hid (Below y0.heap.size y0 y2) := HB1.out.trans (hb2.mono HB1.out.size)
  have HV2 : Hid (IsV y2 v2 (uintL (uintL [] rseq) rclk)) := ho2.isV
  clear ho2 hb2 c1 HV1 HB1
  have c2 : World.cell? y2 ⟨w.heap.size, 2, none⟩ = some (.string rwho) := Blk.cell (Blk.on HKA.out HB2.out) 2
  go_wp2_with fail
  refine (canTextV v2 _ rwho _ HV2.out (by have := HL.out; simp only [uint_len14, List.length_nil]; omega) (by have := HL.out; omega)).mono ?_
  rintro e y3 ⟨v3, rfl, ho3, hb3⟩
  have HB3 : Hid (Below y0.heap.size y0 y3) := HB2.out.trans (hb3.mono HB2.out.size)
  have HV3 : Hid (IsV y3 v3 (textL (uintL (uintL [] rseq) rclk) (sL rwho))) := ho3.isV
  clear ho3 hb3 c2 HV2 HB2
  have c3 : World.cell? y3 ⟨w.heap.size, 3, none⟩ = some (.int .i64 rkind) := Blk.cell (Blk.on HKA.out HB3.out) 3
  go_wp2_with fail
  refine (HK y3).mono ?_
  rintro e z3 ⟨rfl, rfl⟩
  clear HK
  go_wp2_with fail
  refine (canUintV v3 _ mk _ HV3.out (by have := HL.out; simp only [uint_len14, text_len14, sL_length, List.length_nil]; omega)).mono ?_
  rintro e y4 ⟨v4, rfl, ho4, hb4⟩
  have HB4 : Hid (Below y0.heap.size y0 y4) := HB3.out.trans (hb4.mono HB3.out.size)
  have HV4 : Hid (IsV y4 v4 (uintL (textL (uintL (uintL [] rseq) rclk) (sL rwho)) mk)) := ho4.isV
  clear ho4 hb4 c3 HV3 HB3
  have c4 : World.cell? y4 ⟨w.heap.size, 4, none⟩ = some (.string rbkt) := Blk.cell (Blk.on HKA.out HB4.out) 4
  go_wp2_with fail
  refine (canTextV v4 _ rbkt _ HV4.out (by have := HL.out; simp only [uint_len14, text_len14, sL_length, List.length_nil]; omega) (by have := HL.out; omega)).mono ?_
  rintro e y5 ⟨v5, rfl, ho5, hb5⟩
  have HB5 : Hid (Below y0.heap.size y0 y5) := HB4.out.trans (hb5.mono HB4.out.size)
  have HV5 : Hid (IsV y5 v5 (textL (uintL (textL (uintL (uintL [] rseq) rclk) (sL rwho)) mk) (sL rbkt))) := ho5.isV
  clear ho5 hb5 c4 HV4 HB4
  have c5 : World.cell? y5 ⟨w.heap.size, 5, none⟩ = some (.string rkey) := Blk.cell (Blk.on HKA.out HB5.out) 5
  go_wp2_with fail
  refine (canTextV v5 _ rkey _ HV5.out (by have := HL.out; simp only [uint_len14, text_len14, sL_length, List.length_nil]; omega) (by have := HL.out; omega)).mono ?_
  rintro e y6 ⟨v6, rfl, ho6, hb6⟩
  have HB6 : Hid (Below y0.heap.size y0 y6) := HB5.out.trans (hb6.mono HB5.out.size)
  have HV6 : Hid (IsV y6 v6 (textL (textL (uintL (textL (uintL (uintL [] rseq) rclk) (sL rwho)) mk) (sL rbkt)) (sL rkey))) := ho6.isV
  clear ho6 hb6 c5 HV5 HB5
  have c6 : World.cell? y6 ⟨w.heap.size, 6, none⟩ = some (.int .u64 (rver : Int)) := Blk.cell (Blk.on HKA.out HB6.out) 6
  go_wp2_with fail
  refine (canUintV v6 _ rver _ HV6.out (by have := HL.out; simp only [uint_len14, text_len14, sL_length, List.length_nil]; omega)).mono ?_
  rintro e y7 ⟨v7, rfl, ho7, hb7⟩
  have HB7 : Hid (Below y0.heap.size y0 y7) := HB6.out.trans (hb7.mono HB6.out.size)
  have HV7 : Hid (IsV y7 v7 (uintL (textL (textL (uintL (textL (uintL (uintL [] rseq) rclk) (sL rwho)) mk) (sL rbkt)) (sL rkey)) rver)) := ho7.isV
  clear ho7 hb7 c6 HV6 HB6
  have c7 : World.cell? y7 ⟨w.heap.size, 7, none⟩ = some (.int .i64 rerr) := Blk.cell (Blk.on HKA.out HB7.out) 7
  go_wp2_with fail
  refine (HE y7).mono ?_
  rintro e z7 ⟨rfl, rfl⟩
  clear HE
  go_wp2_with fail
  refine (canUintV v7 _ me _ HV7.out (by have := HL.out; simp only [uint_len14, text_len14, sL_length, List.length_nil]; omega)).mono ?_
  rintro e y8 ⟨v8, rfl, ho8, hb8⟩
  have HB8 : Hid (Below y0.heap.size y0 y8) := HB7.out.trans (hb8.mono HB7.out.size)
  have HV8 : Hid (IsV y8 v8 (uintL (uintL (textL (textL (uintL (textL (uintL (uintL [] rseq) rclk) (sL rwho)) mk) (sL rbkt)) (sL rkey)) rver) me)) := ho8.isV
  clear ho8 hb8 c7 HV7 HB7
  have c8 : World.cell? y8 ⟨w.heap.size, 8, none⟩ = some (.slice qa rsum.length qc) := Blk.cell (Blk.on HKA.out HB8.out) 8
  go_wp2_with fail
  have HF8 : Hid (IsV y8 (.slice qa rsum.length qc) rsum) := (HH.out.sum.below (HBY.out.trans (HB8.out.mono HBY.out.size)) rfl).isV
  refine (canBytesV v8 _ _ rsum _ HV8.out HF8.out (by have := HL.out; simp only [uint_len14, text_len14, sL_length, List.length_nil]; omega) (by have := HL.out; omega)).mono ?_
  rintro e y9 ⟨v9, rfl, ho9, hb9⟩
  have HB9 : Hid (Below y0.heap.size y0 y9) := HB8.out.trans (hb9.mono HB8.out.size)
  have HV9 : Hid (IsV y9 v9 (bytesL (uintL (uintL (textL (textL (uintL (textL (uintL (uintL [] rseq) rclk) (sL rwho)) mk) (sL rbkt)) (sL rkey)) rver) me) rsum)) := ho9.isV
  clear ho9 hb9 c8 HV8 HB8
  have c9 : World.cell? y9 ⟨w.heap.size, 9, none⟩ = some (.slice qb rprev.length qd) := Blk.cell (Blk.on HKA.out HB9.out) 9
  go_wp2_with fail
  have HF9 : Hid (IsV y9 (.slice qb rprev.length qd) rprev) := (HH.out.prev.below (HBY.out.trans (HB9.out.mono HBY.out.size)) rfl).isV
  refine (canBytesV v9 _ _ rprev _ HV9.out HF9.out (by have := HL.out; simp only [uint_len14, bytes_len14, text_len14, sL_length, List.length_nil]; omega) (by have := HL.out; omega)).mono ?_
  rintro e y10 ⟨v10, rfl, ho10, hb10⟩
  have HO : Hid (OwnB y10 w.heap.size v10 SR) := by
    unfold Hid; rw [HS0.out]; exact ho10.base (Nat.le_trans HBY.out.size HB9.out.size)
  have HB : Hid (Below w.heap.size w y10) := HBY.out.trans ((HB9.out.trans (hb10.mono HB9.out.size)).mono HBY.out.size)
  clear ho10 hb10 c9
  go_wp2_with fail
  go_ret
  exact ⟨_, rfl, HO.out, HB.out⟩
set_option maxRecDepth 20000 in
set_option maxHeartbeats 2000000 in
theorem refShow14 (r : Rc) (q : RcA) (w : World) (h : IsRec w r q) (hs : rcLen r ≤ 20000) :
    Calls Try.prog 12 #[.agg (rcc r q).toArray] w fun e w' => ∃ v, e = .returned v ∧ OwnB w' w.heap.size v (showRc r) ∧ Below w.heap.size w w' := by
  have HH := mkHid h
  have HN := mkHid h.num
  have HS0 : Hid (showRc r = bytesL (bytesL (uintL (uintL (textL (textL (uintL (textL (uintL (uintL [] r.seq) r.clk) (sL r.who)) (max r.kind 0).toNat) (sL r.bkt)) (sL r.key)) r.ver) (max r.err 0).toNat) r.sum) r.prev) := rfl
  have hk0 := h.num.kind0
  have hk1 := h.num.kind1
  have he0 := h.num.err0
  have he1 := h.num.err1
  obtain ⟨rseq, rclk, rwho, rkind, rbkt, rkey, rver, rerr, rsum, rprev⟩ := r
  obtain ⟨qa, qc, qb, qd⟩ := q
  obtain ⟨mk, hmk⟩ : ∃ m : Nat, m = (max rkind 0).toNat := ⟨_, rfl⟩
  obtain ⟨me, hme⟩ : ∃ m : Nat, m = (max rerr 0).toNat := ⟨_, rfl⟩
  change -9223372036854775808 ≤ rkind at hk0
  change rkind ≤ 9223372036854775807 at hk1
  change -9223372036854775808 ≤ rerr at he0
  change rerr ≤ 9223372036854775807 at he1
  have hmk1 : max rkind 0 = (mk : Int) := by omega
  have hme1 : max rerr 0 = (me : Int) := by omega
  have hwk : IntKind.u64.wrap (mk : Int) = (mk : Int) := wrap64_nat mk (by omega)
  have hwe : IntKind.u64.wrap (me : Int) = (me : Int) := wrap64_nat me (by omega)
  simp only [] at HS0
  rw [← hmk, ← hme] at HS0
  unfold rcLen at hs
  simp only [] at hs
  have HL := mkHid hs
  clear h hmk hme hk0 hk1 he0 he1 hs
  simp only [rcc]
  generalize showRc ⟨rseq, rclk, rwho, rkind, rbkt, rkey, rver, rerr, rsum, rprev⟩ = SR at *
  have kA := Blk.new w 26 [.int .u64 (rseq : Int), .int .u64 (rclk : Int), .string rwho, .int .i64 rkind, .string rbkt, .string rkey, .int .u64 (rver : Int), .int .i64 rerr, .slice qa rsum.length qc, .slice qb rprev.length qd]
  have HBY : Hid (Below w.heap.size w (w.alloc (.cells #[.int .u64 (rseq : Int), .int .u64 (rclk : Int), .string rwho, .int .i64 rkind, .string rbkt, .string rkey, .int .u64 (rver : Int), .int .i64 rerr, .slice qa rsum.length qc, .slice qb rprev.length qd] 26))) := (Below.refl _ w).alloc (Nat.le_refl _) _
  have HKA := mkHid kA
  clear kA
  go_enter Try.func12, Try.ntmps12
  go_upto_region 1 with fail
  generalize w.alloc (.cells #[.int .u64 (rseq : Int), .int .u64 (rclk : Int), .string rwho, .int .i64 rkind, .string rbkt, .string rkey, .int .u64 (rver : Int), .int .i64 rerr, .slice qa rsum.length qc, .slice qb rprev.length qd] 26) = y0 at *
  have HV0 : Hid (IsV y0 (.slice none 0 0) []) := IsV.nil _
  have HB0 : Hid (Below y0.heap.size y0 y0) := Below.refl _ _
  have c0 : World.cell? y0 ⟨w.heap.size, 0, none⟩ = some (.int .u64 (rseq : Int)) := Blk.cell (Blk.on HKA.out HB0.out) 0
  go_wp2_with fail
  refine (refUintV (.slice none 0 0) _ rseq _ HV0.out (by simp)).mono ?_
  rintro e y1 ⟨v1, rfl, ho1, hb1⟩
  have HB1 : Hid (Below y0.heap.size y0 y1) := HB0.out.trans (hb1.mono HB0.out.size)
  have HV1 : Hid (IsV y1 v1 (uintL [] rseq)) := ho1.isV
  clear ho1 hb1 c0 HV0 HB0
  have c1 : World.cell? y1 ⟨w.heap.size, 1, none⟩ = some (.int .u64 (rclk : Int)) := Blk.cell (Blk.on HKA.out HB1.out) 1
  go_wp2_with fail
  refine (refUintV v1 _ rclk _ HV1.out (by have := HL.out; simp only [uint_len14, List.length_nil]; omega)).mono ?_
  rintro e y2 ⟨v2, rfl, ho2, hb2⟩
  have HB2 : Hid (Below y0.heap.size y0 y2) := HB1.out.trans (hb2.mono HB1.out.size)
  have HV2 : Hid (IsV y2 v2 (uintL (uintL [] rseq) rclk)) := ho2.isV
  clear ho2 hb2 c1 HV1 HB1
  have c2 : World.cell? y2 ⟨w.heap.size, 2, none⟩ = some (.string rwho) := Blk.cell (Blk.on HKA.out HB2.out) 2
  go_wp2_with fail
  refine (refTextV v2 _ rwho _ HV2.out (by have := HL.out; simp only [uint_len14, List.length_nil]; omega) (by have := HL.out; omega)).mono ?_
  rintro e y3 ⟨v3, rfl, ho3, hb3⟩
  have HB3 : Hid (Below y0.heap.size y0 y3) := HB2.out.trans (hb3.mono HB2.out.size)
  have HV3 : Hid (IsV y3 v3 (textL (uintL (uintL [] rseq) rclk) (sL rwho))) := ho3.isV
  clear ho3 hb3 c2 HV2 HB2
  have c3 : World.cell? y3 ⟨w.heap.size, 3, none⟩ = some (.int .i64 rkind) := Blk.cell (Blk.on HKA.out HB3.out) 3
  go_wp2_with fail
  refine (refUintV v3 _ mk _ HV3.out (by have := HL.out; simp only [uint_len14, text_len14, sL_length, List.length_nil]; omega)).mono ?_
  rintro e y4 ⟨v4, rfl, ho4, hb4⟩
  have HB4 : Hid (Below y0.heap.size y0 y4) := HB3.out.trans (hb4.mono HB3.out.size)
  have HV4 : Hid (IsV y4 v4 (uintL (textL (uintL (uintL [] rseq) rclk) (sL rwho)) mk)) := ho4.isV
  clear ho4 hb4 c3 HV3 HB3
  have c4 : World.cell? y4 ⟨w.heap.size, 4, none⟩ = some (.string rbkt) := Blk.cell (Blk.on HKA.out HB4.out) 4
  go_wp2_with fail
  refine (refTextV v4 _ rbkt _ HV4.out (by have := HL.out; simp only [uint_len14, text_len14, sL_length, List.length_nil]; omega) (by have := HL.out; omega)).mono ?_
  rintro e y5 ⟨v5, rfl, ho5, hb5⟩
  have HB5 : Hid (Below y0.heap.size y0 y5) := HB4.out.trans (hb5.mono HB4.out.size)
  have HV5 : Hid (IsV y5 v5 (textL (uintL (textL (uintL (uintL [] rseq) rclk) (sL rwho)) mk) (sL rbkt))) := ho5.isV
  clear ho5 hb5 c4 HV4 HB4
  have c5 : World.cell? y5 ⟨w.heap.size, 5, none⟩ = some (.string rkey) := Blk.cell (Blk.on HKA.out HB5.out) 5
  go_wp2_with fail
  refine (refTextV v5 _ rkey _ HV5.out (by have := HL.out; simp only [uint_len14, text_len14, sL_length, List.length_nil]; omega) (by have := HL.out; omega)).mono ?_
  rintro e y6 ⟨v6, rfl, ho6, hb6⟩
  have HB6 : Hid (Below y0.heap.size y0 y6) := HB5.out.trans (hb6.mono HB5.out.size)
  have HV6 : Hid (IsV y6 v6 (textL (textL (uintL (textL (uintL (uintL [] rseq) rclk) (sL rwho)) mk) (sL rbkt)) (sL rkey))) := ho6.isV
  clear ho6 hb6 c5 HV5 HB5
  have c6 : World.cell? y6 ⟨w.heap.size, 6, none⟩ = some (.int .u64 (rver : Int)) := Blk.cell (Blk.on HKA.out HB6.out) 6
  go_wp2_with fail
  refine (refUintV v6 _ rver _ HV6.out (by have := HL.out; simp only [uint_len14, text_len14, sL_length, List.length_nil]; omega)).mono ?_
  rintro e y7 ⟨v7, rfl, ho7, hb7⟩
  have HB7 : Hid (Below y0.heap.size y0 y7) := HB6.out.trans (hb7.mono HB6.out.size)
  have HV7 : Hid (IsV y7 v7 (uintL (textL (textL (uintL (textL (uintL (uintL [] rseq) rclk) (sL rwho)) mk) (sL rbkt)) (sL rkey)) rver)) := ho7.isV
  clear ho7 hb7 c6 HV6 HB6
  have c7 : World.cell? y7 ⟨w.heap.size, 7, none⟩ = some (.int .i64 rerr) := Blk.cell (Blk.on HKA.out HB7.out) 7
  go_wp2_with fail
  refine (refUintV v7 _ me _ HV7.out (by have := HL.out; simp only [uint_len14, text_len14, sL_length, List.length_nil]; omega)).mono ?_
  rintro e y8 ⟨v8, rfl, ho8, hb8⟩
  have HB8 : Hid (Below y0.heap.size y0 y8) := HB7.out.trans (hb8.mono HB7.out.size)
  have HV8 : Hid (IsV y8 v8 (uintL (uintL (textL (textL (uintL (textL (uintL (uintL [] rseq) rclk) (sL rwho)) mk) (sL rbkt)) (sL rkey)) rver) me)) := ho8.isV
  clear ho8 hb8 c7 HV7 HB7
  have c8 : World.cell? y8 ⟨w.heap.size, 8, none⟩ = some (.slice qa rsum.length qc) := Blk.cell (Blk.on HKA.out HB8.out) 8
  go_wp2_with fail
  have HF8 : Hid (IsV y8 (.slice qa rsum.length qc) rsum) := (HH.out.sum.below (HBY.out.trans (HB8.out.mono HBY.out.size)) rfl).isV
  refine (refBytesV v8 _ _ rsum _ HV8.out HF8.out (by have := HL.out; simp only [uint_len14, text_len14, sL_length, List.length_nil]; omega) (by have := HL.out; omega)).mono ?_
  rintro e y9 ⟨v9, rfl, ho9, hb9⟩
  have HB9 : Hid (Below y0.heap.size y0 y9) := HB8.out.trans (hb9.mono HB8.out.size)
  have HV9 : Hid (IsV y9 v9 (bytesL (uintL (uintL (textL (textL (uintL (textL (uintL (uintL [] rseq) rclk) (sL rwho)) mk) (sL rbkt)) (sL rkey)) rver) me) rsum)) := ho9.isV
  clear ho9 hb9 c8 HV8 HB8
  have c9 : World.cell? y9 ⟨w.heap.size, 9, none⟩ = some (.slice qb rprev.length qd) := Blk.cell (Blk.on HKA.out HB9.out) 9
  go_wp2_with fail
  have HF9 : Hid (IsV y9 (.slice qb rprev.length qd) rprev) := (HH.out.prev.below (HBY.out.trans (HB9.out.mono HBY.out.size)) rfl).isV
  refine (refBytesV v9 _ _ rprev _ HV9.out HF9.out (by have := HL.out; simp only [uint_len14, bytes_len14, text_len14, sL_length, List.length_nil]; omega) (by have := HL.out; omega)).mono ?_
  rintro e y10 ⟨v10, rfl, ho10, hb10⟩
  have HO : Hid (OwnB y10 w.heap.size v10 SR) := by
    unfold Hid; rw [HS0.out]; exact ho10.base (Nat.le_trans HBY.out.size HB9.out.size)
  have HB : Hid (Below w.heap.size w y10) := HBY.out.trans ((HB9.out.trans (hb10.mono HB9.out.size)).mono HBY.out.size)
  clear ho10 hb10 c9
  go_wp2_with fail
  go_ret
  exact ⟨_, rfl, HO.out, HB.out⟩
end Go.Proofs.Ytbclhaleibjkgaa
