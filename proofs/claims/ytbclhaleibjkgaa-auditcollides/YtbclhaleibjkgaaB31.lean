/- Which records are right: ways through the program's test. · Which records are right: ways through the program's test. -/
import Derived.Test.YtbclhaleibjkgaaAu1
namespace Go.Proofs.Ytbclhaleibjkgaa
open Go.RowKit
attribute [local go_sem] undef
set_option maxRecDepth 20000 in
set_option maxHeartbeats 2000000 in
theorem codRight14_S (rseq rclk : Nat) (rwho : ByteArray) (rkind : Int) (rbkt rkey : ByteArray) (rver : Nat) (rerr : Int) (qa : Option Addr) (rsl qc : Nat) (qb : Option Addr) (rpl qd : Nat) (w : World) (hA : 0 < rseq) (hB : 0 ≤ rkind) (hC : rkind ≤ 19) (hD : 0 ≤ rerr) (hE : rerr ≤ 9999) (hF : rwho.size ≤ 16) (hG : rbkt.size ≤ 16) (hH : rkey.size ≤ 48) (hS : ((rsl : Int) == 0) = false) (hS2 : ((rsl : Int) == 32) = false) :
    Calls Try.prog 43 #[.agg #[.int .u64 (rseq : Int), .int .u64 (rclk : Int), .string rwho, .int .i64 rkind, .string rbkt, .string rkey, .int .u64 (rver : Int), .int .i64 rerr, .slice qa rsl qc, .slice qb rpl qd]] w fun e w' => e = .returned (.bool false) ∧ Below w.heap.size w w' := by
  have hA1 : (0 : Int) < (rseq : Int) := by omega
  have hF1 : (rwho.size : Int) ≤ 16 := by omega
  have hG1 : (rbkt.size : Int) ≤ 16 := by omega
  have hH1 : (rkey.size : Int) ≤ 48 := by omega
  have HY : Hid (Below w.heap.size w (w.alloc (.cells #[.int .u64 (rseq : Int), .int .u64 (rclk : Int), .string rwho, .int .i64 rkind, .string rbkt, .string rkey, .int .u64 (rver : Int), .int .i64 rerr, .slice qa rsl qc, .slice qb rpl qd] 26))) := (Below.refl _ w).alloc (Nat.le_refl _) _
  go_enter Try.func43, Try.ntmps43
  go_wp2_with fail
  go_ret
  exact ⟨rfl, HY.out⟩
set_option maxRecDepth 20000 in
set_option maxHeartbeats 2000000 in
theorem codRight14_S0 (rseq rclk : Nat) (rwho : ByteArray) (rkind : Int) (rbkt rkey : ByteArray) (rver : Nat) (rerr : Int) (qa : Option Addr) (qc : Nat) (qb : Option Addr) (rpl qd : Nat) (w : World) (hA : 0 < rseq) (hB : 0 ≤ rkind) (hC : rkind ≤ 19) (hD : 0 ≤ rerr) (hE : rerr ≤ 9999) (hF : rwho.size ≤ 16) (hG : rbkt.size ≤ 16) (hH : rkey.size ≤ 48) (hP : ((rpl : Int) == 0) = false) (hP2 : ((rpl : Int) == 32) = false) :
    Calls Try.prog 43 #[.agg #[.int .u64 (rseq : Int), .int .u64 (rclk : Int), .string rwho, .int .i64 rkind, .string rbkt, .string rkey, .int .u64 (rver : Int), .int .i64 rerr, .slice qa 0 qc, .slice qb rpl qd]] w fun e w' => e = .returned (.bool false) ∧ Below w.heap.size w w' := by
  have hA1 : (0 : Int) < (rseq : Int) := by omega
  have hF1 : (rwho.size : Int) ≤ 16 := by omega
  have hG1 : (rbkt.size : Int) ≤ 16 := by omega
  have hH1 : (rkey.size : Int) ≤ 48 := by omega
  have HY : Hid (Below w.heap.size w (w.alloc (.cells #[.int .u64 (rseq : Int), .int .u64 (rclk : Int), .string rwho, .int .i64 rkind, .string rbkt, .string rkey, .int .u64 (rver : Int), .int .i64 rerr, .slice qa 0 qc, .slice qb rpl qd] 26))) := (Below.refl _ w).alloc (Nat.le_refl _) _
  go_enter Try.func43, Try.ntmps43
  go_wp2_with fail
  go_ret
  exact ⟨rfl, HY.out⟩
set_option maxRecDepth 20000 in
set_option maxHeartbeats 2000000 in
theorem codRight14_S0P0 (rseq rclk : Nat) (rwho : ByteArray) (rkind : Int) (rbkt rkey : ByteArray) (rver : Nat) (rerr : Int) (qa : Option Addr) (qc : Nat) (qb : Option Addr) (qd : Nat) (w : World) (hA : 0 < rseq) (hB : 0 ≤ rkind) (hC : rkind ≤ 19) (hD : 0 ≤ rerr) (hE : rerr ≤ 9999) (hF : rwho.size ≤ 16) (hG : rbkt.size ≤ 16) (hH : rkey.size ≤ 48) (bq : Bool) (hQ : ((rseq : Int) == 1) = bq) :
    Calls Try.prog 43 #[.agg #[.int .u64 (rseq : Int), .int .u64 (rclk : Int), .string rwho, .int .i64 rkind, .string rbkt, .string rkey, .int .u64 (rver : Int), .int .i64 rerr, .slice qa 0 qc, .slice qb 0 qd]] w fun e w' => e = .returned (.bool bq) ∧ Below w.heap.size w w' := by
  have hA1 : (0 : Int) < (rseq : Int) := by omega
  have hF1 : (rwho.size : Int) ≤ 16 := by omega
  have hG1 : (rbkt.size : Int) ≤ 16 := by omega
  have hH1 : (rkey.size : Int) ≤ 48 := by omega
  have HY : Hid (Below w.heap.size w (w.alloc (.cells #[.int .u64 (rseq : Int), .int .u64 (rclk : Int), .string rwho, .int .i64 rkind, .string rbkt, .string rkey, .int .u64 (rver : Int), .int .i64 rerr, .slice qa 0 qc, .slice qb 0 qd] 26))) := (Below.refl _ w).alloc (Nat.le_refl _) _
  cases bq
  all_goals
    go_enter Try.func43, Try.ntmps43
    go_wp2_with fail
    go_ret
    exact ⟨rfl, HY.out⟩
set_option maxRecDepth 20000 in
set_option maxHeartbeats 2000000 in
theorem codRight14_S0P32 (rseq rclk : Nat) (rwho : ByteArray) (rkind : Int) (rbkt rkey : ByteArray) (rver : Nat) (rerr : Int) (qa : Option Addr) (qc : Nat) (qb : Option Addr) (qd : Nat) (w : World) (hA : 0 < rseq) (hB : 0 ≤ rkind) (hC : rkind ≤ 19) (hD : 0 ≤ rerr) (hE : rerr ≤ 9999) (hF : rwho.size ≤ 16) (hG : rbkt.size ≤ 16) (hH : rkey.size ≤ 48) (bq : Bool) (hQ : ((rseq : Int) == 1) = bq) :
    Calls Try.prog 43 #[.agg #[.int .u64 (rseq : Int), .int .u64 (rclk : Int), .string rwho, .int .i64 rkind, .string rbkt, .string rkey, .int .u64 (rver : Int), .int .i64 rerr, .slice qa 0 qc, .slice qb 32 qd]] w fun e w' => e = .returned (.bool (!bq)) ∧ Below w.heap.size w w' := by
  have hA1 : (0 : Int) < (rseq : Int) := by omega
  have hF1 : (rwho.size : Int) ≤ 16 := by omega
  have hG1 : (rbkt.size : Int) ≤ 16 := by omega
  have hH1 : (rkey.size : Int) ≤ 48 := by omega
  have HY : Hid (Below w.heap.size w (w.alloc (.cells #[.int .u64 (rseq : Int), .int .u64 (rclk : Int), .string rwho, .int .i64 rkind, .string rbkt, .string rkey, .int .u64 (rver : Int), .int .i64 rerr, .slice qa 0 qc, .slice qb 32 qd] 26))) := (Below.refl _ w).alloc (Nat.le_refl _) _
  cases bq
  all_goals
    go_enter Try.func43, Try.ntmps43
    go_wp2_with fail
    go_ret
    exact ⟨rfl, HY.out⟩
end Go.Proofs.Ytbclhaleibjkgaa
namespace Go.Proofs.Ytbclhaleibjkgaa
open Go.RowKit
attribute [local go_sem] undef
set_option maxRecDepth 20000 in
set_option maxHeartbeats 2000000 in
theorem codRight14_S32 (rseq rclk : Nat) (rwho : ByteArray) (rkind : Int) (rbkt rkey : ByteArray) (rver : Nat) (rerr : Int) (qa : Option Addr) (qc : Nat) (qb : Option Addr) (rpl qd : Nat) (w : World) (hA : 0 < rseq) (hB : 0 ≤ rkind) (hC : rkind ≤ 19) (hD : 0 ≤ rerr) (hE : rerr ≤ 9999) (hF : rwho.size ≤ 16) (hG : rbkt.size ≤ 16) (hH : rkey.size ≤ 48) (hP : ((rpl : Int) == 0) = false) (hP2 : ((rpl : Int) == 32) = false) :
    Calls Try.prog 43 #[.agg #[.int .u64 (rseq : Int), .int .u64 (rclk : Int), .string rwho, .int .i64 rkind, .string rbkt, .string rkey, .int .u64 (rver : Int), .int .i64 rerr, .slice qa 32 qc, .slice qb rpl qd]] w fun e w' => e = .returned (.bool false) ∧ Below w.heap.size w w' := by
  have hA1 : (0 : Int) < (rseq : Int) := by omega
  have hF1 : (rwho.size : Int) ≤ 16 := by omega
  have hG1 : (rbkt.size : Int) ≤ 16 := by omega
  have hH1 : (rkey.size : Int) ≤ 48 := by omega
  have HY : Hid (Below w.heap.size w (w.alloc (.cells #[.int .u64 (rseq : Int), .int .u64 (rclk : Int), .string rwho, .int .i64 rkind, .string rbkt, .string rkey, .int .u64 (rver : Int), .int .i64 rerr, .slice qa 32 qc, .slice qb rpl qd] 26))) := (Below.refl _ w).alloc (Nat.le_refl _) _
  go_enter Try.func43, Try.ntmps43
  go_wp2_with fail
  go_ret
  exact ⟨rfl, HY.out⟩
set_option maxRecDepth 20000 in
set_option maxHeartbeats 2000000 in
theorem codRight14_S32P0 (rseq rclk : Nat) (rwho : ByteArray) (rkind : Int) (rbkt rkey : ByteArray) (rver : Nat) (rerr : Int) (qa : Option Addr) (qc : Nat) (qb : Option Addr) (qd : Nat) (w : World) (hA : 0 < rseq) (hB : 0 ≤ rkind) (hC : rkind ≤ 19) (hD : 0 ≤ rerr) (hE : rerr ≤ 9999) (hF : rwho.size ≤ 16) (hG : rbkt.size ≤ 16) (hH : rkey.size ≤ 48) (bq : Bool) (hQ : ((rseq : Int) == 1) = bq) :
    Calls Try.prog 43 #[.agg #[.int .u64 (rseq : Int), .int .u64 (rclk : Int), .string rwho, .int .i64 rkind, .string rbkt, .string rkey, .int .u64 (rver : Int), .int .i64 rerr, .slice qa 32 qc, .slice qb 0 qd]] w fun e w' => e = .returned (.bool bq) ∧ Below w.heap.size w w' := by
  have hA1 : (0 : Int) < (rseq : Int) := by omega
  have hF1 : (rwho.size : Int) ≤ 16 := by omega
  have hG1 : (rbkt.size : Int) ≤ 16 := by omega
  have hH1 : (rkey.size : Int) ≤ 48 := by omega
  have HY : Hid (Below w.heap.size w (w.alloc (.cells #[.int .u64 (rseq : Int), .int .u64 (rclk : Int), .string rwho, .int .i64 rkind, .string rbkt, .string rkey, .int .u64 (rver : Int), .int .i64 rerr, .slice qa 32 qc, .slice qb 0 qd] 26))) := (Below.refl _ w).alloc (Nat.le_refl _) _
  cases bq
  all_goals
    go_enter Try.func43, Try.ntmps43
    go_wp2_with fail
    go_ret
    exact ⟨rfl, HY.out⟩
set_option maxRecDepth 20000 in
set_option maxHeartbeats 2000000 in
theorem codRight14_S32P32 (rseq rclk : Nat) (rwho : ByteArray) (rkind : Int) (rbkt rkey : ByteArray) (rver : Nat) (rerr : Int) (qa : Option Addr) (qc : Nat) (qb : Option Addr) (qd : Nat) (w : World) (hA : 0 < rseq) (hB : 0 ≤ rkind) (hC : rkind ≤ 19) (hD : 0 ≤ rerr) (hE : rerr ≤ 9999) (hF : rwho.size ≤ 16) (hG : rbkt.size ≤ 16) (hH : rkey.size ≤ 48) (bq : Bool) (hQ : ((rseq : Int) == 1) = bq) :
    Calls Try.prog 43 #[.agg #[.int .u64 (rseq : Int), .int .u64 (rclk : Int), .string rwho, .int .i64 rkind, .string rbkt, .string rkey, .int .u64 (rver : Int), .int .i64 rerr, .slice qa 32 qc, .slice qb 32 qd]] w fun e w' => e = .returned (.bool (!bq)) ∧ Below w.heap.size w w' := by
  have hA1 : (0 : Int) < (rseq : Int) := by omega
  have hF1 : (rwho.size : Int) ≤ 16 := by omega
  have hG1 : (rbkt.size : Int) ≤ 16 := by omega
  have hH1 : (rkey.size : Int) ≤ 48 := by omega
  have HY : Hid (Below w.heap.size w (w.alloc (.cells #[.int .u64 (rseq : Int), .int .u64 (rclk : Int), .string rwho, .int .i64 rkind, .string rbkt, .string rkey, .int .u64 (rver : Int), .int .i64 rerr, .slice qa 32 qc, .slice qb 32 qd] 26))) := (Below.refl _ w).alloc (Nat.le_refl _) _
  cases bq
  all_goals
    go_enter Try.func43, Try.ntmps43
    go_wp2_with fail
    go_ret
    exact ⟨rfl, HY.out⟩
end Go.Proofs.Ytbclhaleibjkgaa
