/- Which records are right: ways through the program's test. -/
import Derived.Test.YtbclhaleibjkgabAu1
namespace Go.Proofs.Ytbclhaleibjkgab
open Go.RowKit
attribute [local go_sem] undef
set_option maxRecDepth 20000 in
set_option maxHeartbeats 2000000 in
theorem refSame14_seq (rseq rclk : Nat) (rwho : ByteArray) (rkind : Int) (rbkt rkey : ByteArray) (rver : Nat) (rerr : Int) (qa : Option Addr) (rsl qc : Nat) (qb : Option Addr) (rpl qd : Nat) (sseq sclk : Nat) (swho : ByteArray) (skind : Int) (sbkt skey : ByteArray) (sver : Nat) (serr : Int) (pa : Option Addr) (ssl pc : Nat) (pb : Option Addr) (spl pd : Nat) (w : World) (h : ((rseq : Int) == (sseq : Int)) = false) :
    Calls Try.prog 12 #[.agg #[.int .u64 (rseq : Int), .int .u64 (rclk : Int), .string rwho, .int .i64 rkind, .string rbkt, .string rkey, .int .u64 (rver : Int), .int .i64 rerr, .slice qa rsl qc, .slice qb rpl qd], .agg #[.int .u64 (sseq : Int), .int .u64 (sclk : Int), .string swho, .int .i64 skind, .string sbkt, .string skey, .int .u64 (sver : Int), .int .i64 serr, .slice pa ssl pc, .slice pb spl pd]] w fun e w' => e = .returned (.bool false) ∧ Below w.heap.size w w' := by
  have HY : Hid (Below w.heap.size w ((w.alloc (.cells #[.int .u64 (rseq : Int), .int .u64 (rclk : Int), .string rwho, .int .i64 rkind, .string rbkt, .string rkey, .int .u64 (rver : Int), .int .i64 rerr, .slice qa rsl qc, .slice qb rpl qd] 29)).alloc (.cells #[.int .u64 (sseq : Int), .int .u64 (sclk : Int), .string swho, .int .i64 skind, .string sbkt, .string skey, .int .u64 (sver : Int), .int .i64 serr, .slice pa ssl pc, .slice pb spl pd] 29))) := ((Below.refl _ w).alloc (Nat.le_refl _) _).alloc (by simp) _
  go_enter Try.func12, Try.ntmps12
  go_wp2_with fail
  go_ret
  exact ⟨rfl, HY.out⟩
set_option maxRecDepth 20000 in
set_option maxHeartbeats 2000000 in
theorem refSame14_clk (rseq rclk : Nat) (rwho : ByteArray) (rkind : Int) (rbkt rkey : ByteArray) (rver : Nat) (rerr : Int) (qa : Option Addr) (rsl qc : Nat) (qb : Option Addr) (rpl qd : Nat) (sclk : Nat) (swho : ByteArray) (skind : Int) (sbkt skey : ByteArray) (sver : Nat) (serr : Int) (pa : Option Addr) (ssl pc : Nat) (pb : Option Addr) (spl pd : Nat) (w : World) (h : ((rclk : Int) == (sclk : Int)) = false) :
    Calls Try.prog 12 #[.agg #[.int .u64 (rseq : Int), .int .u64 (rclk : Int), .string rwho, .int .i64 rkind, .string rbkt, .string rkey, .int .u64 (rver : Int), .int .i64 rerr, .slice qa rsl qc, .slice qb rpl qd], .agg #[.int .u64 (rseq : Int), .int .u64 (sclk : Int), .string swho, .int .i64 skind, .string sbkt, .string skey, .int .u64 (sver : Int), .int .i64 serr, .slice pa ssl pc, .slice pb spl pd]] w fun e w' => e = .returned (.bool false) ∧ Below w.heap.size w w' := by
  have HY : Hid (Below w.heap.size w ((w.alloc (.cells #[.int .u64 (rseq : Int), .int .u64 (rclk : Int), .string rwho, .int .i64 rkind, .string rbkt, .string rkey, .int .u64 (rver : Int), .int .i64 rerr, .slice qa rsl qc, .slice qb rpl qd] 29)).alloc (.cells #[.int .u64 (rseq : Int), .int .u64 (sclk : Int), .string swho, .int .i64 skind, .string sbkt, .string skey, .int .u64 (sver : Int), .int .i64 serr, .slice pa ssl pc, .slice pb spl pd] 29))) := ((Below.refl _ w).alloc (Nat.le_refl _) _).alloc (by simp) _
  go_enter Try.func12, Try.ntmps12
  go_wp2_with fail
  go_ret
  exact ⟨rfl, HY.out⟩
set_option maxRecDepth 20000 in
set_option maxHeartbeats 2000000 in
theorem refSame14_who (rseq rclk : Nat) (rwho : ByteArray) (rkind : Int) (rbkt rkey : ByteArray) (rver : Nat) (rerr : Int) (qa : Option Addr) (rsl qc : Nat) (qb : Option Addr) (rpl qd : Nat) (swho : ByteArray) (skind : Int) (sbkt skey : ByteArray) (sver : Nat) (serr : Int) (pa : Option Addr) (ssl pc : Nat) (pb : Option Addr) (spl pd : Nat) (w : World) (h : (rwho.toList == swho.toList) = false) :
    Calls Try.prog 12 #[.agg #[.int .u64 (rseq : Int), .int .u64 (rclk : Int), .string rwho, .int .i64 rkind, .string rbkt, .string rkey, .int .u64 (rver : Int), .int .i64 rerr, .slice qa rsl qc, .slice qb rpl qd], .agg #[.int .u64 (rseq : Int), .int .u64 (rclk : Int), .string swho, .int .i64 skind, .string sbkt, .string skey, .int .u64 (sver : Int), .int .i64 serr, .slice pa ssl pc, .slice pb spl pd]] w fun e w' => e = .returned (.bool false) ∧ Below w.heap.size w w' := by
  have HY : Hid (Below w.heap.size w ((w.alloc (.cells #[.int .u64 (rseq : Int), .int .u64 (rclk : Int), .string rwho, .int .i64 rkind, .string rbkt, .string rkey, .int .u64 (rver : Int), .int .i64 rerr, .slice qa rsl qc, .slice qb rpl qd] 29)).alloc (.cells #[.int .u64 (rseq : Int), .int .u64 (rclk : Int), .string swho, .int .i64 skind, .string sbkt, .string skey, .int .u64 (sver : Int), .int .i64 serr, .slice pa ssl pc, .slice pb spl pd] 29))) := ((Below.refl _ w).alloc (Nat.le_refl _) _).alloc (by simp) _
  go_enter Try.func12, Try.ntmps12
  go_wp2_with fail
  go_ret
  exact ⟨rfl, HY.out⟩
set_option maxRecDepth 20000 in
set_option maxHeartbeats 2000000 in
theorem refSame14_kind (rseq rclk : Nat) (rwho : ByteArray) (rkind : Int) (rbkt rkey : ByteArray) (rver : Nat) (rerr : Int) (qa : Option Addr) (rsl qc : Nat) (qb : Option Addr) (rpl qd : Nat) (skind : Int) (sbkt skey : ByteArray) (sver : Nat) (serr : Int) (pa : Option Addr) (ssl pc : Nat) (pb : Option Addr) (spl pd : Nat) (w : World) (h : (rkind == skind) = false) :
    Calls Try.prog 12 #[.agg #[.int .u64 (rseq : Int), .int .u64 (rclk : Int), .string rwho, .int .i64 rkind, .string rbkt, .string rkey, .int .u64 (rver : Int), .int .i64 rerr, .slice qa rsl qc, .slice qb rpl qd], .agg #[.int .u64 (rseq : Int), .int .u64 (rclk : Int), .string rwho, .int .i64 skind, .string sbkt, .string skey, .int .u64 (sver : Int), .int .i64 serr, .slice pa ssl pc, .slice pb spl pd]] w fun e w' => e = .returned (.bool false) ∧ Below w.heap.size w w' := by
  have HY : Hid (Below w.heap.size w ((w.alloc (.cells #[.int .u64 (rseq : Int), .int .u64 (rclk : Int), .string rwho, .int .i64 rkind, .string rbkt, .string rkey, .int .u64 (rver : Int), .int .i64 rerr, .slice qa rsl qc, .slice qb rpl qd] 29)).alloc (.cells #[.int .u64 (rseq : Int), .int .u64 (rclk : Int), .string rwho, .int .i64 skind, .string sbkt, .string skey, .int .u64 (sver : Int), .int .i64 serr, .slice pa ssl pc, .slice pb spl pd] 29))) := ((Below.refl _ w).alloc (Nat.le_refl _) _).alloc (by simp) _
  go_enter Try.func12, Try.ntmps12
  go_wp2_with fail
  go_ret
  exact ⟨rfl, HY.out⟩
end Go.Proofs.Ytbclhaleibjkgab
