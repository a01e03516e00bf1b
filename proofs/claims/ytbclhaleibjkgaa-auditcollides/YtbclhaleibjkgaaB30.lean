/- Which records are right: ways through the program's test. · Which records are right: ways through the program's test. -/
import Derived.Test.YtbclhaleibjkgaaAu1
namespace Go.Proofs.Ytbclhaleibjkgaa
open Go.RowKit
attribute [local go_sem] undef
set_option maxRecDepth 20000 in
set_option maxHeartbeats 2000000 in
theorem codRight14_A (rseq rclk : Nat) (rwho : ByteArray) (rkind : Int) (rbkt rkey : ByteArray) (rver : Nat) (rerr : Int) (qa : Option Addr) (rsl qc : Nat) (qb : Option Addr) (rpl qd : Nat) (w : World) (hA : rseq = 0) :
    Calls Try.prog 43 #[.agg #[.int .u64 (rseq : Int), .int .u64 (rclk : Int), .string rwho, .int .i64 rkind, .string rbkt, .string rkey, .int .u64 (rver : Int), .int .i64 rerr, .slice qa rsl qc, .slice qb rpl qd]] w fun e w' => e = .returned (.bool false) ∧ Below w.heap.size w w' := by
  have HY : Hid (Below w.heap.size w (w.alloc (.cells #[.int .u64 (rseq : Int), .int .u64 (rclk : Int), .string rwho, .int .i64 rkind, .string rbkt, .string rkey, .int .u64 (rver : Int), .int .i64 rerr, .slice qa rsl qc, .slice qb rpl qd] 26))) := (Below.refl _ w).alloc (Nat.le_refl _) _
  subst hA
  go_enter Try.func43, Try.ntmps43
  go_wp2_with fail
  go_ret
  exact ⟨rfl, HY.out⟩
set_option maxRecDepth 20000 in
set_option maxHeartbeats 2000000 in
theorem codRight14_B (rseq rclk : Nat) (rwho : ByteArray) (rkind : Int) (rbkt rkey : ByteArray) (rver : Nat) (rerr : Int) (qa : Option Addr) (rsl qc : Nat) (qb : Option Addr) (rpl qd : Nat) (w : World) (hA : 0 < rseq) (hB : rkind < 0) :
    Calls Try.prog 43 #[.agg #[.int .u64 (rseq : Int), .int .u64 (rclk : Int), .string rwho, .int .i64 rkind, .string rbkt, .string rkey, .int .u64 (rver : Int), .int .i64 rerr, .slice qa rsl qc, .slice qb rpl qd]] w fun e w' => e = .returned (.bool false) ∧ Below w.heap.size w w' := by
  have hA1 : (0 : Int) < (rseq : Int) := by omega
  have hB1 : ¬ (0 : Int) ≤ rkind := by omega
  have HY : Hid (Below w.heap.size w (w.alloc (.cells #[.int .u64 (rseq : Int), .int .u64 (rclk : Int), .string rwho, .int .i64 rkind, .string rbkt, .string rkey, .int .u64 (rver : Int), .int .i64 rerr, .slice qa rsl qc, .slice qb rpl qd] 26))) := (Below.refl _ w).alloc (Nat.le_refl _) _
  go_enter Try.func43, Try.ntmps43
  go_wp2_with fail
  go_ret
  exact ⟨rfl, HY.out⟩
set_option maxRecDepth 20000 in
set_option maxHeartbeats 2000000 in
theorem codRight14_C (rseq rclk : Nat) (rwho : ByteArray) (rkind : Int) (rbkt rkey : ByteArray) (rver : Nat) (rerr : Int) (qa : Option Addr) (rsl qc : Nat) (qb : Option Addr) (rpl qd : Nat) (w : World) (hA : 0 < rseq) (hB : 0 ≤ rkind) (hC : 19 < rkind) :
    Calls Try.prog 43 #[.agg #[.int .u64 (rseq : Int), .int .u64 (rclk : Int), .string rwho, .int .i64 rkind, .string rbkt, .string rkey, .int .u64 (rver : Int), .int .i64 rerr, .slice qa rsl qc, .slice qb rpl qd]] w fun e w' => e = .returned (.bool false) ∧ Below w.heap.size w w' := by
  have hA1 : (0 : Int) < (rseq : Int) := by omega
  have hC1 : ¬ rkind ≤ 19 := by omega
  have HY : Hid (Below w.heap.size w (w.alloc (.cells #[.int .u64 (rseq : Int), .int .u64 (rclk : Int), .string rwho, .int .i64 rkind, .string rbkt, .string rkey, .int .u64 (rver : Int), .int .i64 rerr, .slice qa rsl qc, .slice qb rpl qd] 26))) := (Below.refl _ w).alloc (Nat.le_refl _) _
  go_enter Try.func43, Try.ntmps43
  go_wp2_with fail
  go_ret
  exact ⟨rfl, HY.out⟩
set_option maxRecDepth 20000 in
set_option maxHeartbeats 2000000 in
theorem codRight14_D (rseq rclk : Nat) (rwho : ByteArray) (rkind : Int) (rbkt rkey : ByteArray) (rver : Nat) (rerr : Int) (qa : Option Addr) (rsl qc : Nat) (qb : Option Addr) (rpl qd : Nat) (w : World) (hA : 0 < rseq) (hB : 0 ≤ rkind) (hC : rkind ≤ 19) (hD : rerr < 0) :
    Calls Try.prog 43 #[.agg #[.int .u64 (rseq : Int), .int .u64 (rclk : Int), .string rwho, .int .i64 rkind, .string rbkt, .string rkey, .int .u64 (rver : Int), .int .i64 rerr, .slice qa rsl qc, .slice qb rpl qd]] w fun e w' => e = .returned (.bool false) ∧ Below w.heap.size w w' := by
  have hA1 : (0 : Int) < (rseq : Int) := by omega
  have hD1 : ¬ (0 : Int) ≤ rerr := by omega
  have HY : Hid (Below w.heap.size w (w.alloc (.cells #[.int .u64 (rseq : Int), .int .u64 (rclk : Int), .string rwho, .int .i64 rkind, .string rbkt, .string rkey, .int .u64 (rver : Int), .int .i64 rerr, .slice qa rsl qc, .slice qb rpl qd] 26))) := (Below.refl _ w).alloc (Nat.le_refl _) _
  go_enter Try.func43, Try.ntmps43
  go_wp2_with fail
  go_ret
  exact ⟨rfl, HY.out⟩
end Go.Proofs.Ytbclhaleibjkgaa
namespace Go.Proofs.Ytbclhaleibjkgaa
open Go.RowKit
attribute [local go_sem] undef
set_option maxRecDepth 20000 in
set_option maxHeartbeats 2000000 in
theorem codRight14_E (rseq rclk : Nat) (rwho : ByteArray) (rkind : Int) (rbkt rkey : ByteArray) (rver : Nat) (rerr : Int) (qa : Option Addr) (rsl qc : Nat) (qb : Option Addr) (rpl qd : Nat) (w : World) (hA : 0 < rseq) (hB : 0 ≤ rkind) (hC : rkind ≤ 19) (hD : 0 ≤ rerr) (hE : 9999 < rerr) :
    Calls Try.prog 43 #[.agg #[.int .u64 (rseq : Int), .int .u64 (rclk : Int), .string rwho, .int .i64 rkind, .string rbkt, .string rkey, .int .u64 (rver : Int), .int .i64 rerr, .slice qa rsl qc, .slice qb rpl qd]] w fun e w' => e = .returned (.bool false) ∧ Below w.heap.size w w' := by
  have hA1 : (0 : Int) < (rseq : Int) := by omega
  have hE1 : ¬ rerr ≤ 9999 := by omega
  have HY : Hid (Below w.heap.size w (w.alloc (.cells #[.int .u64 (rseq : Int), .int .u64 (rclk : Int), .string rwho, .int .i64 rkind, .string rbkt, .string rkey, .int .u64 (rver : Int), .int .i64 rerr, .slice qa rsl qc, .slice qb rpl qd] 26))) := (Below.refl _ w).alloc (Nat.le_refl _) _
  go_enter Try.func43, Try.ntmps43
  go_wp2_with fail
  go_ret
  exact ⟨rfl, HY.out⟩
set_option maxRecDepth 20000 in
set_option maxHeartbeats 2000000 in
theorem codRight14_F (rseq rclk : Nat) (rwho : ByteArray) (rkind : Int) (rbkt rkey : ByteArray) (rver : Nat) (rerr : Int) (qa : Option Addr) (rsl qc : Nat) (qb : Option Addr) (rpl qd : Nat) (w : World) (hA : 0 < rseq) (hB : 0 ≤ rkind) (hC : rkind ≤ 19) (hD : 0 ≤ rerr) (hE : rerr ≤ 9999) (hF : 16 < rwho.size) :
    Calls Try.prog 43 #[.agg #[.int .u64 (rseq : Int), .int .u64 (rclk : Int), .string rwho, .int .i64 rkind, .string rbkt, .string rkey, .int .u64 (rver : Int), .int .i64 rerr, .slice qa rsl qc, .slice qb rpl qd]] w fun e w' => e = .returned (.bool false) ∧ Below w.heap.size w w' := by
  have hA1 : (0 : Int) < (rseq : Int) := by omega
  have hF1 : ¬ (rwho.size : Int) ≤ 16 := by omega
  have HY : Hid (Below w.heap.size w (w.alloc (.cells #[.int .u64 (rseq : Int), .int .u64 (rclk : Int), .string rwho, .int .i64 rkind, .string rbkt, .string rkey, .int .u64 (rver : Int), .int .i64 rerr, .slice qa rsl qc, .slice qb rpl qd] 26))) := (Below.refl _ w).alloc (Nat.le_refl _) _
  go_enter Try.func43, Try.ntmps43
  go_wp2_with fail
  go_ret
  exact ⟨rfl, HY.out⟩
set_option maxRecDepth 20000 in
set_option maxHeartbeats 2000000 in
theorem codRight14_G (rseq rclk : Nat) (rwho : ByteArray) (rkind : Int) (rbkt rkey : ByteArray) (rver : Nat) (rerr : Int) (qa : Option Addr) (rsl qc : Nat) (qb : Option Addr) (rpl qd : Nat) (w : World) (hA : 0 < rseq) (hB : 0 ≤ rkind) (hC : rkind ≤ 19) (hD : 0 ≤ rerr) (hE : rerr ≤ 9999) (hF : rwho.size ≤ 16) (hG : 16 < rbkt.size) :
    Calls Try.prog 43 #[.agg #[.int .u64 (rseq : Int), .int .u64 (rclk : Int), .string rwho, .int .i64 rkind, .string rbkt, .string rkey, .int .u64 (rver : Int), .int .i64 rerr, .slice qa rsl qc, .slice qb rpl qd]] w fun e w' => e = .returned (.bool false) ∧ Below w.heap.size w w' := by
  have hA1 : (0 : Int) < (rseq : Int) := by omega
  have hF1 : (rwho.size : Int) ≤ 16 := by omega
  have hG1 : ¬ (rbkt.size : Int) ≤ 16 := by omega
  have HY : Hid (Below w.heap.size w (w.alloc (.cells #[.int .u64 (rseq : Int), .int .u64 (rclk : Int), .string rwho, .int .i64 rkind, .string rbkt, .string rkey, .int .u64 (rver : Int), .int .i64 rerr, .slice qa rsl qc, .slice qb rpl qd] 26))) := (Below.refl _ w).alloc (Nat.le_refl _) _
  go_enter Try.func43, Try.ntmps43
  go_wp2_with fail
  go_ret
  exact ⟨rfl, HY.out⟩
set_option maxRecDepth 20000 in
set_option maxHeartbeats 2000000 in
theorem codRight14_H (rseq rclk : Nat) (rwho : ByteArray) (rkind : Int) (rbkt rkey : ByteArray) (rver : Nat) (rerr : Int) (qa : Option Addr) (rsl qc : Nat) (qb : Option Addr) (rpl qd : Nat) (w : World) (hA : 0 < rseq) (hB : 0 ≤ rkind) (hC : rkind ≤ 19) (hD : 0 ≤ rerr) (hE : rerr ≤ 9999) (hF : rwho.size ≤ 16) (hG : rbkt.size ≤ 16) (hH : 48 < rkey.size) :
    Calls Try.prog 43 #[.agg #[.int .u64 (rseq : Int), .int .u64 (rclk : Int), .string rwho, .int .i64 rkind, .string rbkt, .string rkey, .int .u64 (rver : Int), .int .i64 rerr, .slice qa rsl qc, .slice qb rpl qd]] w fun e w' => e = .returned (.bool false) ∧ Below w.heap.size w w' := by
  have hA1 : (0 : Int) < (rseq : Int) := by omega
  have hF1 : (rwho.size : Int) ≤ 16 := by omega
  have hG1 : (rbkt.size : Int) ≤ 16 := by omega
  have hH1 : ¬ (rkey.size : Int) ≤ 48 := by omega
  have HY : Hid (Below w.heap.size w (w.alloc (.cells #[.int .u64 (rseq : Int), .int .u64 (rclk : Int), .string rwho, .int .i64 rkind, .string rbkt, .string rkey, .int .u64 (rver : Int), .int .i64 rerr, .slice qa rsl qc, .slice qb rpl qd] 26))) := (Below.refl _ w).alloc (Nat.le_refl _) _
  go_enter Try.func43, Try.ntmps43
  go_wp2_with fail
  go_ret
  exact ⟨rfl, HY.out⟩
end Go.Proofs.Ytbclhaleibjkgaa
