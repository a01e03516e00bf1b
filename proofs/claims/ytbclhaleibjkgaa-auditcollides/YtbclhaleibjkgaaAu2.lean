/- Which records are right, which are the same, their digests: both sides. -/
import Derived.Test.YtbclhaleibjkgaaB30
import Derived.Test.YtbclhaleibjkgaaB31
import Derived.Test.YtbclhaleibjkgaaAu2e
import Derived.Test.YtbclhaleibjkgaaB33
import Derived.Test.YtbclhaleibjkgaaB34
namespace Go.Proofs.Ytbclhaleibjkgaa
open Go.RowKit

theorem byte_eq14 (s t : ByteArray) : (s.toList == t.toList) = decide (s = t) := by
  have h : ∀ u : ByteArray, u.toList = u.data.toList := fun u => by cases u; exact ByteArray.toList_mk _
  rw [h, h, Bool.eq_iff_iff, beq_iff_eq, decide_eq_true_iff]
  constructor
  · intro e; cases s; cases t; simp only [Array.toList_inj] at e; rw [e]
  · rintro rfl; rfl
theorem int_ne14 {a b : Nat} (h : a ≠ b) : ((a : Int) == (b : Int)) = false := by rw [beq_eq_false_iff_ne]; omega
theorem codRight14 (r : Rc) (q : RcA) (w : World) :
    Calls Try.prog 43 #[.agg (rcc r q).toArray] w fun e w' => e = .returned (.bool (rightRc r)) ∧ Below w.heap.size w w' := by
  obtain ⟨rseq, rclk, rwho, rkind, rbkt, rkey, rver, rerr, rsum, rprev⟩ := r
  obtain ⟨qa, qc, qb, qd⟩ := q
  have HR : rightRc ⟨rseq, rclk, rwho, rkind, rbkt, rkey, rver, rerr, rsum, rprev⟩ = decide (0 ≤ rkind ∧ rkind ≤ 19 ∧ 0 ≤ rerr ∧ rerr ≤ 9999 ∧ rwho.size ≤ 16 ∧ rbkt.size ≤ 16 ∧ rkey.size ≤ 48 ∧ (rsum.length = 0 ∨ rsum.length = 32) ∧ (rprev.length = 32 ∧ 1 < rseq ∨ rprev.length = 0 ∧ rseq = 1)) := rfl
  rw [HR]
  clear HR
  simp only [rcc]
  generalize rsum.length = sl
  generalize rprev.length = pl
  by_cases hA : rseq = 0
  · rw [decide_eq_false (by omega)]; exact codRight14_A rseq rclk rwho rkind rbkt rkey rver rerr qa sl qc qb pl qd w hA
  have hA : 0 < rseq := by omega
  by_cases hB : rkind < 0
  · rw [decide_eq_false (by omega)]; exact codRight14_B rseq rclk rwho rkind rbkt rkey rver rerr qa sl qc qb pl qd w hA hB
  have hB : 0 ≤ rkind := by omega
  by_cases hC : 19 < rkind
  · rw [decide_eq_false (by omega)]; exact codRight14_C rseq rclk rwho rkind rbkt rkey rver rerr qa sl qc qb pl qd w hA hB hC
  have hC : rkind ≤ 19 := by omega
  by_cases hD : rerr < 0
  · rw [decide_eq_false (by omega)]; exact codRight14_D rseq rclk rwho rkind rbkt rkey rver rerr qa sl qc qb pl qd w hA hB hC hD
  have hD : 0 ≤ rerr := by omega
  by_cases hE : 9999 < rerr
  · rw [decide_eq_false (by omega)]; exact codRight14_E rseq rclk rwho rkind rbkt rkey rver rerr qa sl qc qb pl qd w hA hB hC hD hE
  have hE : rerr ≤ 9999 := by omega
  by_cases hF : 16 < rwho.size
  · rw [decide_eq_false (by omega)]; exact codRight14_F rseq rclk rwho rkind rbkt rkey rver rerr qa sl qc qb pl qd w hA hB hC hD hE hF
  have hF : rwho.size ≤ 16 := by omega
  by_cases hG : 16 < rbkt.size
  · rw [decide_eq_false (by omega)]; exact codRight14_G rseq rclk rwho rkind rbkt rkey rver rerr qa sl qc qb pl qd w hA hB hC hD hE hF hG
  have hG : rbkt.size ≤ 16 := by omega
  by_cases hH : 48 < rkey.size
  · rw [decide_eq_false (by omega)]; exact codRight14_H rseq rclk rwho rkind rbkt rkey rver rerr qa sl qc qb pl qd w hA hB hC hD hE hF hG hH
  have hH : rkey.size ≤ 48 := by omega
  by_cases hS : sl = 0
  · subst hS
    by_cases hP : pl = 0
    · subst hP
      have := codRight14_S0P0 rseq rclk rwho rkind rbkt rkey rver rerr qa qc qb qd w hA hB hC hD hE hF hG hH _ rfl
      rw [show decide (0 ≤ rkind ∧ rkind ≤ 19 ∧ 0 ≤ rerr ∧ rerr ≤ 9999 ∧ rwho.size ≤ 16 ∧ rbkt.size ≤ 16 ∧ rkey.size ≤ 48 ∧ ((0 : Nat) = 0 ∨ (0 : Nat) = 32) ∧ ((0 : Nat) = 32 ∧ 1 < rseq ∨ (0 : Nat) = 0 ∧ rseq = 1)) = ((rseq : Int) == 1) from by rw [Bool.eq_iff_iff, decide_eq_true_iff, beq_iff_eq]; omega]
      exact this
    by_cases hP2 : pl = 32
    · subst hP2
      have := codRight14_S0P32 rseq rclk rwho rkind rbkt rkey rver rerr qa qc qb qd w hA hB hC hD hE hF hG hH _ rfl
      rw [show decide (0 ≤ rkind ∧ rkind ≤ 19 ∧ 0 ≤ rerr ∧ rerr ≤ 9999 ∧ rwho.size ≤ 16 ∧ rbkt.size ≤ 16 ∧ rkey.size ≤ 48 ∧ ((0 : Nat) = 0 ∨ (0 : Nat) = 32) ∧ ((32 : Nat) = 32 ∧ 1 < rseq ∨ (32 : Nat) = 0 ∧ rseq = 1)) = !((rseq : Int) == 1) from by rw [Bool.eq_iff_iff, decide_eq_true_iff, Bool.not_eq_true', beq_eq_false_iff_ne]; omega]
      exact this
    rw [decide_eq_false (by omega)]; exact codRight14_S0 rseq rclk rwho rkind rbkt rkey rver rerr qa qc qb pl qd w hA hB hC hD hE hF hG hH (int_ne14 hP) (int_ne14 hP2)
  by_cases hS2 : sl = 32
  · subst hS2
    by_cases hP : pl = 0
    · subst hP
      have := codRight14_S32P0 rseq rclk rwho rkind rbkt rkey rver rerr qa qc qb qd w hA hB hC hD hE hF hG hH _ rfl
      rw [show decide (0 ≤ rkind ∧ rkind ≤ 19 ∧ 0 ≤ rerr ∧ rerr ≤ 9999 ∧ rwho.size ≤ 16 ∧ rbkt.size ≤ 16 ∧ rkey.size ≤ 48 ∧ ((32 : Nat) = 0 ∨ (32 : Nat) = 32) ∧ ((0 : Nat) = 32 ∧ 1 < rseq ∨ (0 : Nat) = 0 ∧ rseq = 1)) = ((rseq : Int) == 1) from by rw [Bool.eq_iff_iff, decide_eq_true_iff, beq_iff_eq]; omega]
      exact this
    by_cases hP2 : pl = 32
    · subst hP2
      have := codRight14_S32P32 rseq rclk rwho rkind rbkt rkey rver rerr qa qc qb qd w hA hB hC hD hE hF hG hH _ rfl
      rw [show decide (0 ≤ rkind ∧ rkind ≤ 19 ∧ 0 ≤ rerr ∧ rerr ≤ 9999 ∧ rwho.size ≤ 16 ∧ rbkt.size ≤ 16 ∧ rkey.size ≤ 48 ∧ ((32 : Nat) = 0 ∨ (32 : Nat) = 32) ∧ ((32 : Nat) = 32 ∧ 1 < rseq ∨ (32 : Nat) = 0 ∧ rseq = 1)) = !((rseq : Int) == 1) from by rw [Bool.eq_iff_iff, decide_eq_true_iff, Bool.not_eq_true', beq_eq_false_iff_ne]; omega]
      exact this
    rw [decide_eq_false (by omega)]; exact codRight14_S32 rseq rclk rwho rkind rbkt rkey rver rerr qa qc qb pl qd w hA hB hC hD hE hF hG hH (int_ne14 hP) (int_ne14 hP2)
  rw [decide_eq_false (by omega)]; exact codRight14_S rseq rclk rwho rkind rbkt rkey rver rerr qa sl qc qb pl qd w hA hB hC hD hE hF hG hH (int_ne14 hS) (int_ne14 hS2)
theorem refRight14 (r : Rc) (q : RcA) (w : World) :
    Calls Try.prog 26 #[.agg (rcc r q).toArray] w fun e w' => e = .returned (.bool (rightRc r)) ∧ Below w.heap.size w w' := by
  rw [right_parts14]
  obtain ⟨rseq, rclk, rwho, rkind, rbkt, rkey, rver, rerr, rsum, rprev⟩ := r
  obtain ⟨qa, qc, qb, qd⟩ := q
  exact refRightP14 rseq rclk rwho rkind rbkt rkey rver rerr qa rsum.length qc qb rprev.length qd w
theorem same_no14 {r s : Rc} (h : r ≠ s) : sameRc r s = false := by
  cases e : sameRc r s with
  | false => rfl
  | true => exact absurd ((sameRc_iff r s).1 e) h
theorem codSame14 (r s : Rc) (q p : RcA) (w : World) (h : IsRec w r q) (g : IsRec w s p) :
    Calls Try.prog 15 #[.agg (rcc r q).toArray, .agg (rcc s p).toArray] w fun e w' => e = .returned (.bool (sameRc r s)) ∧ Below w.heap.size w w' := by
  have h1 := h.sum
  have h2 := h.prev
  have g1 := g.sum
  have g2 := g.prev
  clear h g
  obtain ⟨rseq, rclk, rwho, rkind, rbkt, rkey, rver, rerr, rsum, rprev⟩ := r
  obtain ⟨sseq, sclk, swho, skind, sbkt, skey, sver, serr, ssum, sprev⟩ := s
  obtain ⟨qa, qc, qb, qd⟩ := q
  obtain ⟨pa, pc, pb, pd⟩ := p
  simp only [rcc]
  by_cases hx : rseq = sseq
  rotate_left
  · rw [same_no14 (fun e => hx (congrArg Rc.seq e))]; exact codSame14_seq rseq rclk rwho rkind rbkt rkey rver rerr qa rsum.length qc qb rprev.length qd sseq sclk swho skind sbkt skey sver serr pa ssum.length pc pb sprev.length pd w (int_ne14 hx)
  subst hx
  by_cases hx : rclk = sclk
  rotate_left
  · rw [same_no14 (fun e => hx (congrArg Rc.clk e))]; exact codSame14_clk rseq rclk rwho rkind rbkt rkey rver rerr qa rsum.length qc qb rprev.length qd sclk swho skind sbkt skey sver serr pa ssum.length pc pb sprev.length pd w (int_ne14 hx)
  subst hx
  by_cases hx : rwho = swho
  rotate_left
  · rw [same_no14 (fun e => hx (congrArg Rc.who e))]; exact codSame14_who rseq rclk rwho rkind rbkt rkey rver rerr qa rsum.length qc qb rprev.length qd swho skind sbkt skey sver serr pa ssum.length pc pb sprev.length pd w (by rw [byte_eq14, decide_eq_false hx])
  subst hx
  by_cases hx : rkind = skind
  rotate_left
  · rw [same_no14 (fun e => hx (congrArg Rc.kind e))]; exact codSame14_kind rseq rclk rwho rkind rbkt rkey rver rerr qa rsum.length qc qb rprev.length qd skind sbkt skey sver serr pa ssum.length pc pb sprev.length pd w (beq_eq_false_iff_ne.2 hx)
  subst hx
  by_cases hx : rbkt = sbkt
  rotate_left
  · rw [same_no14 (fun e => hx (congrArg Rc.bkt e))]; exact codSame14_bkt rseq rclk rwho rkind rbkt rkey rver rerr qa rsum.length qc qb rprev.length qd sbkt skey sver serr pa ssum.length pc pb sprev.length pd w (by rw [byte_eq14, decide_eq_false hx])
  subst hx
  by_cases hx : rkey = skey
  rotate_left
  · rw [same_no14 (fun e => hx (congrArg Rc.key e))]; exact codSame14_key rseq rclk rwho rkind rbkt rkey rver rerr qa rsum.length qc qb rprev.length qd skey sver serr pa ssum.length pc pb sprev.length pd w (by rw [byte_eq14, decide_eq_false hx])
  subst hx
  by_cases hx : rver = sver
  rotate_left
  · rw [same_no14 (fun e => hx (congrArg Rc.ver e))]; exact codSame14_ver rseq rclk rwho rkind rbkt rkey rver rerr qa rsum.length qc qb rprev.length qd sver serr pa ssum.length pc pb sprev.length pd w (int_ne14 hx)
  subst hx
  by_cases hx : rerr = serr
  rotate_left
  · rw [same_no14 (fun e => hx (congrArg Rc.err e))]; exact codSame14_err rseq rclk rwho rkind rbkt rkey rver rerr qa rsum.length qc qb rprev.length qd serr pa ssum.length pc pb sprev.length pd w (beq_eq_false_iff_ne.2 hx)
  subst hx
  have := codSame14_all rseq rclk rwho rkind rbkt rkey rver rerr qa rsum.length qc qb rprev.length qd pa ssum.length pc pb sprev.length pd rsum ssum rprev sprev w h1 g1 h2 g2
  rw [show sameRc ⟨rseq, rclk, rwho, rkind, rbkt, rkey, rver, rerr, rsum, rprev⟩ ⟨rseq, rclk, rwho, rkind, rbkt, rkey, rver, rerr, ssum, sprev⟩ = (eqB rsum ssum && eqB rprev sprev) from by
    rw [Bool.eq_iff_iff, sameRc_iff, Bool.and_eq_true]
    unfold eqB
    rw [beq_iff_eq, beq_iff_eq]
    constructor
    · intro e; exact ⟨congrArg Rc.sum e, congrArg Rc.prev e⟩
    · rintro ⟨rfl, rfl⟩; rfl]
  exact this
theorem refSame14 (r s : Rc) (q p : RcA) (w : World) (h : IsRec w r q) (g : IsRec w s p) :
    Calls Try.prog 16 #[.agg (rcc r q).toArray, .agg (rcc s p).toArray] w fun e w' => e = .returned (.bool (sameRc r s)) ∧ Below w.heap.size w w' := by
  have h1 := h.sum
  have h2 := h.prev
  have g1 := g.sum
  have g2 := g.prev
  clear h g
  obtain ⟨rseq, rclk, rwho, rkind, rbkt, rkey, rver, rerr, rsum, rprev⟩ := r
  obtain ⟨sseq, sclk, swho, skind, sbkt, skey, sver, serr, ssum, sprev⟩ := s
  obtain ⟨qa, qc, qb, qd⟩ := q
  obtain ⟨pa, pc, pb, pd⟩ := p
  simp only [rcc]
  by_cases hx : rseq = sseq
  rotate_left
  · rw [same_no14 (fun e => hx (congrArg Rc.seq e))]; exact refSame14_seq rseq rclk rwho rkind rbkt rkey rver rerr qa rsum.length qc qb rprev.length qd sseq sclk swho skind sbkt skey sver serr pa ssum.length pc pb sprev.length pd w (int_ne14 hx)
  subst hx
  by_cases hx : rclk = sclk
  rotate_left
  · rw [same_no14 (fun e => hx (congrArg Rc.clk e))]; exact refSame14_clk rseq rclk rwho rkind rbkt rkey rver rerr qa rsum.length qc qb rprev.length qd sclk swho skind sbkt skey sver serr pa ssum.length pc pb sprev.length pd w (int_ne14 hx)
  subst hx
  by_cases hx : rwho = swho
  rotate_left
  · rw [same_no14 (fun e => hx (congrArg Rc.who e))]; exact refSame14_who rseq rclk rwho rkind rbkt rkey rver rerr qa rsum.length qc qb rprev.length qd swho skind sbkt skey sver serr pa ssum.length pc pb sprev.length pd w (by rw [byte_eq14, decide_eq_false hx])
  subst hx
  by_cases hx : rkind = skind
  rotate_left
  · rw [same_no14 (fun e => hx (congrArg Rc.kind e))]; exact refSame14_kind rseq rclk rwho rkind rbkt rkey rver rerr qa rsum.length qc qb rprev.length qd skind sbkt skey sver serr pa ssum.length pc pb sprev.length pd w (beq_eq_false_iff_ne.2 hx)
  subst hx
  by_cases hx : rbkt = sbkt
  rotate_left
  · rw [same_no14 (fun e => hx (congrArg Rc.bkt e))]; exact refSame14_bkt rseq rclk rwho rkind rbkt rkey rver rerr qa rsum.length qc qb rprev.length qd sbkt skey sver serr pa ssum.length pc pb sprev.length pd w (by rw [byte_eq14, decide_eq_false hx])
  subst hx
  by_cases hx : rkey = skey
  rotate_left
  · rw [same_no14 (fun e => hx (congrArg Rc.key e))]; exact refSame14_key rseq rclk rwho rkind rbkt rkey rver rerr qa rsum.length qc qb rprev.length qd skey sver serr pa ssum.length pc pb sprev.length pd w (by rw [byte_eq14, decide_eq_false hx])
  subst hx
  by_cases hx : rver = sver
  rotate_left
  · rw [same_no14 (fun e => hx (congrArg Rc.ver e))]; exact refSame14_ver rseq rclk rwho rkind rbkt rkey rver rerr qa rsum.length qc qb rprev.length qd sver serr pa ssum.length pc pb sprev.length pd w (int_ne14 hx)
  subst hx
  by_cases hx : rerr = serr
  rotate_left
  · rw [same_no14 (fun e => hx (congrArg Rc.err e))]; exact refSame14_err rseq rclk rwho rkind rbkt rkey rver rerr qa rsum.length qc qb rprev.length qd serr pa ssum.length pc pb sprev.length pd w (beq_eq_false_iff_ne.2 hx)
  subst hx
  have := refSame14_all rseq rclk rwho rkind rbkt rkey rver rerr qa rsum.length qc qb rprev.length qd pa ssum.length pc pb sprev.length pd rsum ssum rprev sprev w h1 g1 h2 g2
  rw [show sameRc ⟨rseq, rclk, rwho, rkind, rbkt, rkey, rver, rerr, rsum, rprev⟩ ⟨rseq, rclk, rwho, rkind, rbkt, rkey, rver, rerr, ssum, sprev⟩ = (eqB rsum ssum && eqB rprev sprev) from by
    rw [Bool.eq_iff_iff, sameRc_iff, Bool.and_eq_true]
    unfold eqB
    rw [beq_iff_eq, beq_iff_eq]
    constructor
    · intro e; exact ⟨congrArg Rc.sum e, congrArg Rc.prev e⟩
    · rintro ⟨rfl, rfl⟩; rfl]
  exact this
set_option maxRecDepth 20000 in
set_option maxHeartbeats 2000000 in
theorem codDigest14 (r : Rc) (q : RcA) (w : World) (h : IsRec w r q) (hs : rcLen r ≤ 20000) :
    Calls Try.prog 13 #[.agg (rcc r q).toArray] w fun e w' => ∃ v, e = .returned v ∧ OwnB w' w.heap.size v (digRc r) ∧ Below w.heap.size w w' := by
  have HS := fun W hW => codShow14 r q W (h.below hW) hs
  have HL : Hid ((showRc r).length < 4294967296) := by unfold Hid; rw [showRc_len]; omega
  have HD : Hid (digRc r = sha256L (showRc r)) := rfl
  have kb := mkHid (Blk.new w 26 (rcc r q))
  have HI : (Try.prog.info? 26).map (·.size) = some (rcc r q).toArray.size := by
    rw [show (rcc r q).toArray.size = 10 from rfl]; kernel_rfl
  have HB0 := mkHid (((Below.refl _ w).alloc (Nat.le_refl _) (.cells (rcc r q).toArray 26)))
  have HSz : Hid (w.heap.size ≤ (w.alloc (.cells (rcc r q).toArray 26)).heap.size) := by unfold Hid; simp
  clear h hs
  generalize showRc r = S at *
  generalize digRc r = D at *
  generalize (rcc r q) = C at *
  go_enter Try.func13, Try.ntmps13
  go_wp2_with (first | (refine wpList_load_row rfl 26 _ rfl _ rfl _ _ _ _ kb.out Try.underlying26 rfl HI ?_))
  refine (HS _ HB0.out).mono ?_
  rintro e y1 ⟨v1, rfl, ho1, hb1⟩
  have HB1 := mkHid (HB0.out.trans (hb1.mono HSz.out))
  have HV1 := mkHid ho1.isV
  clear ho1 hb1 HS HI kb
  go_wp2_with fail
  refine (digSha256V v1 S y1 HV1.out HL.out).mono ?_
  rintro e y2 ⟨v2, rfl, ho2, hb2⟩
  have HB2 := mkHid (HB1.out.trans (hb2.mono HB1.out.size))
  have HO2 : Hid (OwnB y2 w.heap.size v2 D) := by unfold Hid; rw [HD.out]; exact ho2.base HB1.out.size
  clear ho2 hb2
  go_wp2_with fail
  go_ret
  exact ⟨_, rfl, HO2.out, HB2.out⟩
set_option maxRecDepth 20000 in
set_option maxHeartbeats 2000000 in
theorem refDigest14 (r : Rc) (q : RcA) (w : World) (h : IsRec w r q) (hs : rcLen r ≤ 20000) :
    Calls Try.prog 14 #[.agg (rcc r q).toArray] w fun e w' => ∃ v, e = .returned v ∧ OwnB w' w.heap.size v (digRc r) ∧ Below w.heap.size w w' := by
  have HS := fun W hW => refShow14 r q W (h.below hW) hs
  have HL : Hid ((showRc r).length < 4294967296) := by unfold Hid; rw [showRc_len]; omega
  have HD : Hid (digRc r = sha256L (showRc r)) := rfl
  have kb := mkHid (Blk.new w 26 (rcc r q))
  have HI : (Try.prog.info? 26).map (·.size) = some (rcc r q).toArray.size := by
    rw [show (rcc r q).toArray.size = 10 from rfl]; kernel_rfl
  have HB0 := mkHid (((Below.refl _ w).alloc (Nat.le_refl _) (.cells (rcc r q).toArray 26)))
  have HSz : Hid (w.heap.size ≤ (w.alloc (.cells (rcc r q).toArray 26)).heap.size) := by unfold Hid; simp
  clear h hs
  generalize showRc r = S at *
  generalize digRc r = D at *
  generalize (rcc r q) = C at *
  go_enter Try.func14, Try.ntmps14
  go_wp2_with (first | (refine wpList_load_row rfl 26 _ rfl _ rfl _ _ _ _ kb.out Try.underlying26 rfl HI ?_))
  refine (HS _ HB0.out).mono ?_
  rintro e y1 ⟨v1, rfl, ho1, hb1⟩
  have HB1 := mkHid (HB0.out.trans (hb1.mono HSz.out))
  have HV1 := mkHid ho1.isV
  clear ho1 hb1 HS HI kb
  go_wp2_with fail
  refine (refSha256V v1 S y1 HV1.out HL.out).mono ?_
  rintro e y2 ⟨v2, rfl, ho2, hb2⟩
  have HB2 := mkHid (HB1.out.trans (hb2.mono HB1.out.size))
  have HO2 : Hid (OwnB y2 w.heap.size v2 D) := by unfold Hid; rw [HD.out]; exact ho2.base HB1.out.size
  clear ho2 hb2
  go_wp2_with fail
  go_ret
  exact ⟨_, rfl, HO2.out, HB2.out⟩
end Go.Proofs.Ytbclhaleibjkgaa
