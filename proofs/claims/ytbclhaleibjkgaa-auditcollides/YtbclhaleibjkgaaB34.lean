/- Which records are right: ways through the program's test. · Which records are right: ways through the program's test. -/
import Derived.Test.YtbclhaleibjkgaaAu1
namespace Go.Proofs.Ytbclhaleibjkgaa
open Go.RowKit
attribute [local go_sem] undef
set_option maxRecDepth 20000 in
set_option maxHeartbeats 2000000 in
theorem refSame14_seq (rseq rclk : Nat) (rwho : ByteArray) (rkind : Int) (rbkt rkey : ByteArray) (rver : Nat) (rerr : Int) (qa : Option Addr) (rsl qc : Nat) (qb : Option Addr) (rpl qd : Nat) (sseq sclk : Nat) (swho : ByteArray) (skind : Int) (sbkt skey : ByteArray) (sver : Nat) (serr : Int) (pa : Option Addr) (ssl pc : Nat) (pb : Option Addr) (spl pd : Nat) (w : World) (h : ((rseq : Int) == (sseq : Int)) = false) :
    Calls Try.prog 16 #[.agg #[.int .u64 (rseq : Int), .int .u64 (rclk : Int), .string rwho, .int .i64 rkind, .string rbkt, .string rkey, .int .u64 (rver : Int), .int .i64 rerr, .slice qa rsl qc, .slice qb rpl qd], .agg #[.int .u64 (sseq : Int), .int .u64 (sclk : Int), .string swho, .int .i64 skind, .string sbkt, .string skey, .int .u64 (sver : Int), .int .i64 serr, .slice pa ssl pc, .slice pb spl pd]] w fun e w' => e = .returned (.bool false) ∧ Below w.heap.size w w' := by
  have HY : Hid (Below w.heap.size w ((w.alloc (.cells #[.int .u64 (rseq : Int), .int .u64 (rclk : Int), .string rwho, .int .i64 rkind, .string rbkt, .string rkey, .int .u64 (rver : Int), .int .i64 rerr, .slice qa rsl qc, .slice qb rpl qd] 26)).alloc (.cells #[.int .u64 (sseq : Int), .int .u64 (sclk : Int), .string swho, .int .i64 skind, .string sbkt, .string skey, .int .u64 (sver : Int), .int .i64 serr, .slice pa ssl pc, .slice pb spl pd] 26))) := ((Below.refl _ w).alloc (Nat.le_refl _) _).alloc (by simp) _
  go_enter Try.func16, Try.ntmps16
  go_wp2_with fail
  go_ret
  exact ⟨rfl, HY.out⟩
set_option maxRecDepth 20000 in
set_option maxHeartbeats 2000000 in
theorem refSame14_clk (rseq rclk : Nat) (rwho : ByteArray) (rkind : Int) (rbkt rkey : ByteArray) (rver : Nat) (rerr : Int) (qa : Option Addr) (rsl qc : Nat) (qb : Option Addr) (rpl qd : Nat) (sclk : Nat) (swho : ByteArray) (skind : Int) (sbkt skey : ByteArray) (sver : Nat) (serr : Int) (pa : Option Addr) (ssl pc : Nat) (pb : Option Addr) (spl pd : Nat) (w : World) (h : ((rclk : Int) == (sclk : Int)) = false) :
    Calls Try.prog 16 #[.agg #[.int .u64 (rseq : Int), .int .u64 (rclk : Int), .string rwho, .int .i64 rkind, .string rbkt, .string rkey, .int .u64 (rver : Int), .int .i64 rerr, .slice qa rsl qc, .slice qb rpl qd], .agg #[.int .u64 (rseq : Int), .int .u64 (sclk : Int), .string swho, .int .i64 skind, .string sbkt, .string skey, .int .u64 (sver : Int), .int .i64 serr, .slice pa ssl pc, .slice pb spl pd]] w fun e w' => e = .returned (.bool false) ∧ Below w.heap.size w w' := by
  have HY : Hid (Below w.heap.size w ((w.alloc (.cells #[.int .u64 (rseq : Int), .int .u64 (rclk : Int), .string rwho, .int .i64 rkind, .string rbkt, .string rkey, .int .u64 (rver : Int), .int .i64 rerr, .slice qa rsl qc, .slice qb rpl qd] 26)).alloc (.cells #[.int .u64 (rseq : Int), .int .u64 (sclk : Int), .string swho, .int .i64 skind, .string sbkt, .string skey, .int .u64 (sver : Int), .int .i64 serr, .slice pa ssl pc, .slice pb spl pd] 26))) := ((Below.refl _ w).alloc (Nat.le_refl _) _).alloc (by simp) _
  go_enter Try.func16, Try.ntmps16
  go_wp2_with fail
  go_ret
  exact ⟨rfl, HY.out⟩
set_option maxRecDepth 20000 in
set_option maxHeartbeats 2000000 in
theorem refSame14_who (rseq rclk : Nat) (rwho : ByteArray) (rkind : Int) (rbkt rkey : ByteArray) (rver : Nat) (rerr : Int) (qa : Option Addr) (rsl qc : Nat) (qb : Option Addr) (rpl qd : Nat) (swho : ByteArray) (skind : Int) (sbkt skey : ByteArray) (sver : Nat) (serr : Int) (pa : Option Addr) (ssl pc : Nat) (pb : Option Addr) (spl pd : Nat) (w : World) (h : (rwho.toList == swho.toList) = false) :
    Calls Try.prog 16 #[.agg #[.int .u64 (rseq : Int), .int .u64 (rclk : Int), .string rwho, .int .i64 rkind, .string rbkt, .string rkey, .int .u64 (rver : Int), .int .i64 rerr, .slice qa rsl qc, .slice qb rpl qd], .agg #[.int .u64 (rseq : Int), .int .u64 (rclk : Int), .string swho, .int .i64 skind, .string sbkt, .string skey, .int .u64 (sver : Int), .int .i64 serr, .slice pa ssl pc, .slice pb spl pd]] w fun e w' => e = .returned (.bool false) ∧ Below w.heap.size w w' := by
  have HY : Hid (Below w.heap.size w ((w.alloc (.cells #[.int .u64 (rseq : Int), .int .u64 (rclk : Int), .string rwho, .int .i64 rkind, .string rbkt, .string rkey, .int .u64 (rver : Int), .int .i64 rerr, .slice qa rsl qc, .slice qb rpl qd] 26)).alloc (.cells #[.int .u64 (rseq : Int), .int .u64 (rclk : Int), .string swho, .int .i64 skind, .string sbkt, .string skey, .int .u64 (sver : Int), .int .i64 serr, .slice pa ssl pc, .slice pb spl pd] 26))) := ((Below.refl _ w).alloc (Nat.le_refl _) _).alloc (by simp) _
  go_enter Try.func16, Try.ntmps16
  go_wp2_with fail
  go_ret
  exact ⟨rfl, HY.out⟩
set_option maxRecDepth 20000 in
set_option maxHeartbeats 2000000 in
theorem refSame14_kind (rseq rclk : Nat) (rwho : ByteArray) (rkind : Int) (rbkt rkey : ByteArray) (rver : Nat) (rerr : Int) (qa : Option Addr) (rsl qc : Nat) (qb : Option Addr) (rpl qd : Nat) (skind : Int) (sbkt skey : ByteArray) (sver : Nat) (serr : Int) (pa : Option Addr) (ssl pc : Nat) (pb : Option Addr) (spl pd : Nat) (w : World) (h : (rkind == skind) = false) :
    Calls Try.prog 16 #[.agg #[.int .u64 (rseq : Int), .int .u64 (rclk : Int), .string rwho, .int .i64 rkind, .string rbkt, .string rkey, .int .u64 (rver : Int), .int .i64 rerr, .slice qa rsl qc, .slice qb rpl qd], .agg #[.int .u64 (rseq : Int), .int .u64 (rclk : Int), .string rwho, .int .i64 skind, .string sbkt, .string skey, .int .u64 (sver : Int), .int .i64 serr, .slice pa ssl pc, .slice pb spl pd]] w fun e w' => e = .returned (.bool false) ∧ Below w.heap.size w w' := by
  have HY : Hid (Below w.heap.size w ((w.alloc (.cells #[.int .u64 (rseq : Int), .int .u64 (rclk : Int), .string rwho, .int .i64 rkind, .string rbkt, .string rkey, .int .u64 (rver : Int), .int .i64 rerr, .slice qa rsl qc, .slice qb rpl qd] 26)).alloc (.cells #[.int .u64 (rseq : Int), .int .u64 (rclk : Int), .string rwho, .int .i64 skind, .string sbkt, .string skey, .int .u64 (sver : Int), .int .i64 serr, .slice pa ssl pc, .slice pb spl pd] 26))) := ((Below.refl _ w).alloc (Nat.le_refl _) _).alloc (by simp) _
  go_enter Try.func16, Try.ntmps16
  go_wp2_with fail
  go_ret
  exact ⟨rfl, HY.out⟩
end Go.Proofs.Ytbclhaleibjkgaa
namespace Go.Proofs.Ytbclhaleibjkgaa
open Go.RowKit
attribute [local go_sem] undef
set_option maxRecDepth 20000 in
set_option maxHeartbeats 2000000 in
theorem refSame14_bkt (rseq rclk : Nat) (rwho : ByteArray) (rkind : Int) (rbkt rkey : ByteArray) (rver : Nat) (rerr : Int) (qa : Option Addr) (rsl qc : Nat) (qb : Option Addr) (rpl qd : Nat) (sbkt skey : ByteArray) (sver : Nat) (serr : Int) (pa : Option Addr) (ssl pc : Nat) (pb : Option Addr) (spl pd : Nat) (w : World) (h : (rbkt.toList == sbkt.toList) = false) :
    Calls Try.prog 16 #[.agg #[.int .u64 (rseq : Int), .int .u64 (rclk : Int), .string rwho, .int .i64 rkind, .string rbkt, .string rkey, .int .u64 (rver : Int), .int .i64 rerr, .slice qa rsl qc, .slice qb rpl qd], .agg #[.int .u64 (rseq : Int), .int .u64 (rclk : Int), .string rwho, .int .i64 rkind, .string sbkt, .string skey, .int .u64 (sver : Int), .int .i64 serr, .slice pa ssl pc, .slice pb spl pd]] w fun e w' => e = .returned (.bool false) ∧ Below w.heap.size w w' := by
  have HY : Hid (Below w.heap.size w ((w.alloc (.cells #[.int .u64 (rseq : Int), .int .u64 (rclk : Int), .string rwho, .int .i64 rkind, .string rbkt, .string rkey, .int .u64 (rver : Int), .int .i64 rerr, .slice qa rsl qc, .slice qb rpl qd] 26)).alloc (.cells #[.int .u64 (rseq : Int), .int .u64 (rclk : Int), .string rwho, .int .i64 rkind, .string sbkt, .string skey, .int .u64 (sver : Int), .int .i64 serr, .slice pa ssl pc, .slice pb spl pd] 26))) := ((Below.refl _ w).alloc (Nat.le_refl _) _).alloc (by simp) _
  go_enter Try.func16, Try.ntmps16
  go_wp2_with fail
  go_ret
  exact ⟨rfl, HY.out⟩
set_option maxRecDepth 20000 in
set_option maxHeartbeats 2000000 in
theorem refSame14_key (rseq rclk : Nat) (rwho : ByteArray) (rkind : Int) (rbkt rkey : ByteArray) (rver : Nat) (rerr : Int) (qa : Option Addr) (rsl qc : Nat) (qb : Option Addr) (rpl qd : Nat) (skey : ByteArray) (sver : Nat) (serr : Int) (pa : Option Addr) (ssl pc : Nat) (pb : Option Addr) (spl pd : Nat) (w : World) (h : (rkey.toList == skey.toList) = false) :
    Calls Try.prog 16 #[.agg #[.int .u64 (rseq : Int), .int .u64 (rclk : Int), .string rwho, .int .i64 rkind, .string rbkt, .string rkey, .int .u64 (rver : Int), .int .i64 rerr, .slice qa rsl qc, .slice qb rpl qd], .agg #[.int .u64 (rseq : Int), .int .u64 (rclk : Int), .string rwho, .int .i64 rkind, .string rbkt, .string skey, .int .u64 (sver : Int), .int .i64 serr, .slice pa ssl pc, .slice pb spl pd]] w fun e w' => e = .returned (.bool false) ∧ Below w.heap.size w w' := by
  have HY : Hid (Below w.heap.size w ((w.alloc (.cells #[.int .u64 (rseq : Int), .int .u64 (rclk : Int), .string rwho, .int .i64 rkind, .string rbkt, .string rkey, .int .u64 (rver : Int), .int .i64 rerr, .slice qa rsl qc, .slice qb rpl qd] 26)).alloc (.cells #[.int .u64 (rseq : Int), .int .u64 (rclk : Int), .string rwho, .int .i64 rkind, .string rbkt, .string skey, .int .u64 (sver : Int), .int .i64 serr, .slice pa ssl pc, .slice pb spl pd] 26))) := ((Below.refl _ w).alloc (Nat.le_refl _) _).alloc (by simp) _
  go_enter Try.func16, Try.ntmps16
  go_wp2_with fail
  go_ret
  exact ⟨rfl, HY.out⟩
set_option maxRecDepth 20000 in
set_option maxHeartbeats 2000000 in
theorem refSame14_ver (rseq rclk : Nat) (rwho : ByteArray) (rkind : Int) (rbkt rkey : ByteArray) (rver : Nat) (rerr : Int) (qa : Option Addr) (rsl qc : Nat) (qb : Option Addr) (rpl qd : Nat) (sver : Nat) (serr : Int) (pa : Option Addr) (ssl pc : Nat) (pb : Option Addr) (spl pd : Nat) (w : World) (h : ((rver : Int) == (sver : Int)) = false) :
    Calls Try.prog 16 #[.agg #[.int .u64 (rseq : Int), .int .u64 (rclk : Int), .string rwho, .int .i64 rkind, .string rbkt, .string rkey, .int .u64 (rver : Int), .int .i64 rerr, .slice qa rsl qc, .slice qb rpl qd], .agg #[.int .u64 (rseq : Int), .int .u64 (rclk : Int), .string rwho, .int .i64 rkind, .string rbkt, .string rkey, .int .u64 (sver : Int), .int .i64 serr, .slice pa ssl pc, .slice pb spl pd]] w fun e w' => e = .returned (.bool false) ∧ Below w.heap.size w w' := by
  have HY : Hid (Below w.heap.size w ((w.alloc (.cells #[.int .u64 (rseq : Int), .int .u64 (rclk : Int), .string rwho, .int .i64 rkind, .string rbkt, .string rkey, .int .u64 (rver : Int), .int .i64 rerr, .slice qa rsl qc, .slice qb rpl qd] 26)).alloc (.cells #[.int .u64 (rseq : Int), .int .u64 (rclk : Int), .string rwho, .int .i64 rkind, .string rbkt, .string rkey, .int .u64 (sver : Int), .int .i64 serr, .slice pa ssl pc, .slice pb spl pd] 26))) := ((Below.refl _ w).alloc (Nat.le_refl _) _).alloc (by simp) _
  go_enter Try.func16, Try.ntmps16
  go_wp2_with fail
  go_ret
  exact ⟨rfl, HY.out⟩
set_option maxRecDepth 20000 in
set_option maxHeartbeats 2000000 in
theorem refSame14_err (rseq rclk : Nat) (rwho : ByteArray) (rkind : Int) (rbkt rkey : ByteArray) (rver : Nat) (rerr : Int) (qa : Option Addr) (rsl qc : Nat) (qb : Option Addr) (rpl qd : Nat) (serr : Int) (pa : Option Addr) (ssl pc : Nat) (pb : Option Addr) (spl pd : Nat) (w : World) (h : (rerr == serr) = false) :
    Calls Try.prog 16 #[.agg #[.int .u64 (rseq : Int), .int .u64 (rclk : Int), .string rwho, .int .i64 rkind, .string rbkt, .string rkey, .int .u64 (rver : Int), .int .i64 rerr, .slice qa rsl qc, .slice qb rpl qd], .agg #[.int .u64 (rseq : Int), .int .u64 (rclk : Int), .string rwho, .int .i64 rkind, .string rbkt, .string rkey, .int .u64 (rver : Int), .int .i64 serr, .slice pa ssl pc, .slice pb spl pd]] w fun e w' => e = .returned (.bool false) ∧ Below w.heap.size w w' := by
  have HY : Hid (Below w.heap.size w ((w.alloc (.cells #[.int .u64 (rseq : Int), .int .u64 (rclk : Int), .string rwho, .int .i64 rkind, .string rbkt, .string rkey, .int .u64 (rver : Int), .int .i64 rerr, .slice qa rsl qc, .slice qb rpl qd] 26)).alloc (.cells #[.int .u64 (rseq : Int), .int .u64 (rclk : Int), .string rwho, .int .i64 rkind, .string rbkt, .string rkey, .int .u64 (rver : Int), .int .i64 serr, .slice pa ssl pc, .slice pb spl pd] 26))) := ((Below.refl _ w).alloc (Nat.le_refl _) _).alloc (by simp) _
  go_enter Try.func16, Try.ntmps16
  go_wp2_with fail
  go_ret
  exact ⟨rfl, HY.out⟩
set_option maxRecDepth 20000 in
set_option maxHeartbeats 4000000 in
theorem refSame14_all (rseq rclk : Nat) (rwho : ByteArray) (rkind : Int) (rbkt rkey : ByteArray) (rver : Nat) (rerr : Int) (qa : Option Addr) (rsl qc : Nat) (qb : Option Addr) (rpl qd : Nat) (pa : Option Addr) (ssl pc : Nat) (pb : Option Addr) (spl pd : Nat) (l1 m1 l2 m2 : List UInt8) (w : World) (h1 : IsB w qa rsl qc l1) (h2 : IsB w pa ssl pc m1) (h3 : IsB w qb rpl qd l2) (h4 : IsB w pb spl pd m2) :
    Calls Try.prog 16 #[.agg #[.int .u64 (rseq : Int), .int .u64 (rclk : Int), .string rwho, .int .i64 rkind, .string rbkt, .string rkey, .int .u64 (rver : Int), .int .i64 rerr, .slice qa rsl qc, .slice qb rpl qd], .agg #[.int .u64 (rseq : Int), .int .u64 (rclk : Int), .string rwho, .int .i64 rkind, .string rbkt, .string rkey, .int .u64 (rver : Int), .int .i64 rerr, .slice pa ssl pc, .slice pb spl pd]] w fun e w' => e = .returned (.bool (eqB l1 m1 && eqB l2 m2)) ∧ Below w.heap.size w w' := by
  have HY : Hid (Below w.heap.size w ((w.alloc (.cells #[.int .u64 (rseq : Int), .int .u64 (rclk : Int), .string rwho, .int .i64 rkind, .string rbkt, .string rkey, .int .u64 (rver : Int), .int .i64 rerr, .slice qa rsl qc, .slice qb rpl qd] 26)).alloc (.cells #[.int .u64 (rseq : Int), .int .u64 (rclk : Int), .string rwho, .int .i64 rkind, .string rbkt, .string rkey, .int .u64 (rver : Int), .int .i64 rerr, .slice pa ssl pc, .slice pb spl pd] 26))) := ((Below.refl _ w).alloc (Nat.le_refl _) _).alloc (by simp) _
  have H1 := mkHid (h1.below HY.out rfl).isV
  have H2 := mkHid (h2.below HY.out rfl).isV
  have H3 := mkHid (h3.below HY.out rfl).isV
  have H4 := mkHid (h4.below HY.out rfl).isV
  clear h1 h2 h3 h4
  have C1 := refSameV _ _ _ _ _ H1.out H2.out
  have C2 := fun n => refSameV _ _ _ _ _ (H3.out.below (bel_drewN (Below.refl _ _) n) rfl) (H4.out.below (bel_drewN (Below.refl _ _) n) rfl)
  generalize eqB l1 m1 = b1 at *
  generalize eqB l2 m2 = b2 at *
  cases b1
  · go_enter Try.func16, Try.ntmps16
    go_wp2_with fail
    refine C1.mono ?_
    rintro e y1 ⟨rfl, n1, rfl⟩
    go_wp2_with fail
    go_ret
    exact ⟨rfl, bel_drewN HY.out _⟩
  · go_enter Try.func16, Try.ntmps16
    go_wp2_with fail
    refine C1.mono ?_
    rintro e y1 ⟨rfl, n1, rfl⟩
    go_wp2_with fail
    refine (C2 _).mono ?_
    rintro e y2 ⟨rfl, n2, rfl⟩
    go_wp2_with fail
    go_ret
    exact ⟨rfl, bel_drewN HY.out _⟩
end Go.Proofs.Ytbclhaleibjkgaa
