/- Which records are right: the document's test. -/
import Derived.Test.YtbclhaleibjkgaaAu1
import Derived.Deep.CutRange
namespace Go.Proofs.Ytbclhaleibjkgaa
open Go.RowKit
attribute [local go_sem] undef

def sumOk14 (n : Nat) : Bool := decide (n = 0 ∨ n = 32)
def prevOk14 (n s : Nat) : Bool := decide (n = 32 ∧ 1 < s ∨ n = 0 ∧ s = 1)
def restOk14 (kind err : Int) (a b c : Nat) : Bool := decide (0 ≤ kind ∧ kind ≤ 19 ∧ 0 ≤ err ∧ err ≤ 9999 ∧ a ≤ 16 ∧ b ≤ 16 ∧ c ≤ 48)
theorem right_parts14 (r : Rc) : rightRc r = (restOk14 r.kind r.err r.who.size r.bkt.size r.key.size && (sumOk14 r.sum.length && prevOk14 r.prev.length r.seq)) := by
  unfold rightRc restOk14 sumOk14 prevOk14
  rw [← Bool.decide_and, ← Bool.decide_and, decide_eq_decide]
  constructor
  · rintro ⟨h1, h2, h3, h4, h5, h6, h7, h8, h9⟩; exact ⟨⟨h1, h2, h3, h4, h5, h6, h7⟩, h8, h9⟩
  · rintro ⟨⟨h1, h2, h3, h4, h5, h6, h7⟩, h8, h9⟩; exact ⟨h1, h2, h3, h4, h5, h6, h7, h8, h9⟩
set_option maxRecDepth 20000 in
set_option maxHeartbeats 8000000 in
theorem refRightP14 (rseq rclk : Nat) (rwho : ByteArray) (rkind : Int) (rbkt rkey : ByteArray) (rver : Nat) (rerr : Int) (qa : Option Addr) (rsl qc : Nat) (qb : Option Addr) (rpl qd : Nat) (w : World) :
    Calls Try.prog 26 #[.agg #[.int .u64 (rseq : Int), .int .u64 (rclk : Int), .string rwho, .int .i64 rkind, .string rbkt, .string rkey, .int .u64 (rver : Int), .int .i64 rerr, .slice qa rsl qc, .slice qb rpl qd]] w fun e w' => e = .returned (.bool (restOk14 rkind rerr rwho.size rbkt.size rkey.size && (sumOk14 rsl && prevOk14 rpl rseq))) ∧ Below w.heap.size w w' := by
  have HY : Hid (Below w.heap.size w (w.alloc (.cells #[.int .u64 (rseq : Int), .int .u64 (rclk : Int), .string rwho, .int .i64 rkind, .string rbkt, .string rkey, .int .u64 (rver : Int), .int .i64 rerr, .slice qa rsl qc, .slice qb rpl qd] 26))) := (Below.refl _ w).alloc (Nat.le_refl _) _
  have kb := Blk.new w 26 [.int .u64 (rseq : Int), .int .u64 (rclk : Int), .string rwho, .int .i64 rkind, .string rbkt, .string rkey, .int .u64 (rver : Int), .int .i64 rerr, .slice qa rsl qc, .slice qb rpl qd]
  have c0 : (w.alloc (.cells #[.int .u64 (rseq : Int), .int .u64 (rclk : Int), .string rwho, .int .i64 rkind, .string rbkt, .string rkey, .int .u64 (rver : Int), .int .i64 rerr, .slice qa rsl qc, .slice qb rpl qd] 26)).cell? ⟨w.heap.size, 0, none⟩ = some (.int .u64 (rseq : Int)) := kb.cell 0
  have c2 : (w.alloc (.cells #[.int .u64 (rseq : Int), .int .u64 (rclk : Int), .string rwho, .int .i64 rkind, .string rbkt, .string rkey, .int .u64 (rver : Int), .int .i64 rerr, .slice qa rsl qc, .slice qb rpl qd] 26)).cell? ⟨w.heap.size, 2, none⟩ = some (.string rwho) := kb.cell 2
  have c3 : (w.alloc (.cells #[.int .u64 (rseq : Int), .int .u64 (rclk : Int), .string rwho, .int .i64 rkind, .string rbkt, .string rkey, .int .u64 (rver : Int), .int .i64 rerr, .slice qa rsl qc, .slice qb rpl qd] 26)).cell? ⟨w.heap.size, 3, none⟩ = some (.int .i64 rkind) := kb.cell 3
  have c4 : (w.alloc (.cells #[.int .u64 (rseq : Int), .int .u64 (rclk : Int), .string rwho, .int .i64 rkind, .string rbkt, .string rkey, .int .u64 (rver : Int), .int .i64 rerr, .slice qa rsl qc, .slice qb rpl qd] 26)).cell? ⟨w.heap.size, 4, none⟩ = some (.string rbkt) := kb.cell 4
  have c5 : (w.alloc (.cells #[.int .u64 (rseq : Int), .int .u64 (rclk : Int), .string rwho, .int .i64 rkind, .string rbkt, .string rkey, .int .u64 (rver : Int), .int .i64 rerr, .slice qa rsl qc, .slice qb rpl qd] 26)).cell? ⟨w.heap.size, 5, none⟩ = some (.string rkey) := kb.cell 5
  have c7 : (w.alloc (.cells #[.int .u64 (rseq : Int), .int .u64 (rclk : Int), .string rwho, .int .i64 rkind, .string rbkt, .string rkey, .int .u64 (rver : Int), .int .i64 rerr, .slice qa rsl qc, .slice qb rpl qd] 26)).cell? ⟨w.heap.size, 7, none⟩ = some (.int .i64 rerr) := kb.cell 7
  have c8 : (w.alloc (.cells #[.int .u64 (rseq : Int), .int .u64 (rclk : Int), .string rwho, .int .i64 rkind, .string rbkt, .string rkey, .int .u64 (rver : Int), .int .i64 rerr, .slice qa rsl qc, .slice qb rpl qd] 26)).cell? ⟨w.heap.size, 8, none⟩ = some (.slice qa rsl qc) := kb.cell 8
  have c9 : (w.alloc (.cells #[.int .u64 (rseq : Int), .int .u64 (rclk : Int), .string rwho, .int .i64 rkind, .string rbkt, .string rkey, .int .u64 (rver : Int), .int .i64 rerr, .slice qa rsl qc, .slice qb rpl qd] 26)).cell? ⟨w.heap.size, 9, none⟩ = some (.slice qb rpl qd) := kb.cell 9
  clear kb
  have HSum : Hid (sumOk14 rsl = decide (rsl = 0 ∨ rsl = 32)) := rfl
  have HPrev : Hid (prevOk14 rpl rseq = decide (rpl = 32 ∧ 1 < rseq ∨ rpl = 0 ∧ rseq = 1)) := rfl
  have HRest : Hid (restOk14 rkind rerr rwho.size rbkt.size rkey.size = decide (0 ≤ rkind ∧ rkind ≤ 19 ∧ 0 ≤ rerr ∧ rerr ≤ 9999 ∧ rwho.size ≤ 16 ∧ rbkt.size ≤ 16 ∧ rkey.size ≤ 48)) := rfl
  generalize sumOk14 rsl = sb at *
  generalize prevOk14 rpl rseq = pb at *
  generalize restOk14 rkind rerr rwho.size rbkt.size rkey.size = RB at *
  go_enter Try.func26, Try.ntmps26
  go_upto_region 1 with fail
  generalize w.alloc (.cells #[.int .u64 (rseq : Int), .int .u64 (rclk : Int), .string rwho, .int .i64 rkind, .string rbkt, .string rkey, .int .u64 (rver : Int), .int .i64 rerr, .slice qa rsl qc, .slice qb rpl qd] 26) = Y at *
  go_cut [3] from 5 to 14 (fun v wx => v = .bool sb ∧ wx = Y)
  case first =>
    obtain hS | hS | ⟨hS, hS2⟩ : rsl = 0 ∨ rsl = 32 ∨ (rsl ≠ 0 ∧ rsl ≠ 32) := by omega
    · have HV : Hid (true = sb) := by unfold Hid; rw [HSum.out]; exact (decide_eq_true (by omega)).symm
      subst hS
      go_wp2_with fail
      go_meet
      case rel => exact ⟨congrArg Value.bool HV.out, rfl⟩
    · have HV : Hid (true = sb) := by unfold Hid; rw [HSum.out]; exact (decide_eq_true (by omega)).symm
      subst hS
      go_wp2_with fail
      go_meet
      case rel => exact ⟨congrArg Value.bool HV.out, rfl⟩
    · have HV : Hid (false = sb) := by unfold Hid; rw [HSum.out]; exact (decide_eq_false (by omega)).symm
      have hS1 : ((rsl : Int) == 0) = false := by simp; omega
      have hS3 : ((rsl : Int) == 32) = false := by simp; omega
      go_wp2_with fail
      go_meet
      case rel => exact ⟨congrArg Value.bool HV.out, rfl⟩
  case rest =>
    obtain ⟨rfl, rfl⟩ := hcut
    go_upto_region 2 with fail
    go_cut [4] from 15 to 34 (fun v wx => v = .bool pb ∧ wx = wc)
    case first =>
      obtain hP | hP | ⟨hP, hP2⟩ : rpl = 0 ∨ rpl = 32 ∨ (rpl ≠ 0 ∧ rpl ≠ 32) := by omega
      · subst hP
        obtain hQ | hQ | hQ : rseq = 1 ∨ 1 < rseq ∨ rseq = 0 := by omega
        · have HV : Hid (true = pb) := by unfold Hid; rw [HPrev.out]; exact (decide_eq_true (by omega)).symm
          have hQ1 : ((rseq : Int) == 1) = true := by simp; omega
          have hQ2 : ¬ (1 : Int) < (rseq : Int) := by omega
          clear hQ
          go_wp2_with fail
          go_meet
          case rel => exact ⟨congrArg Value.bool HV.out, rfl⟩
        · have HV : Hid (false = pb) := by unfold Hid; rw [HPrev.out]; exact (decide_eq_false (by omega)).symm
          have hQ1 : ((rseq : Int) == 1) = false := by simp; omega
          have hQ2 : (1 : Int) < (rseq : Int) := by omega
          clear hQ
          go_wp2_with fail
          go_meet
          case rel => exact ⟨congrArg Value.bool HV.out, rfl⟩
        · have HV : Hid (false = pb) := by unfold Hid; rw [HPrev.out]; exact (decide_eq_false (by omega)).symm
          have hQ1 : ((rseq : Int) == 1) = false := by simp; omega
          have hQ2 : ¬ (1 : Int) < (rseq : Int) := by omega
          clear hQ
          go_wp2_with fail
          go_meet
          case rel => exact ⟨congrArg Value.bool HV.out, rfl⟩
      · subst hP
        obtain hQ | hQ | hQ : rseq = 1 ∨ 1 < rseq ∨ rseq = 0 := by omega
        · have HV : Hid (false = pb) := by unfold Hid; rw [HPrev.out]; exact (decide_eq_false (by omega)).symm
          have hQ1 : ((rseq : Int) == 1) = true := by simp; omega
          have hQ2 : ¬ (1 : Int) < (rseq : Int) := by omega
          clear hQ
          go_wp2_with fail
          go_meet
          case rel => exact ⟨congrArg Value.bool HV.out, rfl⟩
        · have HV : Hid (true = pb) := by unfold Hid; rw [HPrev.out]; exact (decide_eq_true (by omega)).symm
          have hQ1 : ((rseq : Int) == 1) = false := by simp; omega
          have hQ2 : (1 : Int) < (rseq : Int) := by omega
          clear hQ
          go_wp2_with fail
          go_meet
          case rel => exact ⟨congrArg Value.bool HV.out, rfl⟩
        · have HV : Hid (false = pb) := by unfold Hid; rw [HPrev.out]; exact (decide_eq_false (by omega)).symm
          have hQ1 : ((rseq : Int) == 1) = false := by simp; omega
          have hQ2 : ¬ (1 : Int) < (rseq : Int) := by omega
          clear hQ
          go_wp2_with fail
          go_meet
          case rel => exact ⟨congrArg Value.bool HV.out, rfl⟩
      · have HV : Hid (false = pb) := by unfold Hid; rw [HPrev.out]; exact (decide_eq_false (by omega)).symm
        have hP1 : ((rpl : Int) == 0) = false := by simp; omega
        have hP3 : ((rpl : Int) == 32) = false := by simp; omega
        go_wp2_with fail
        go_meet
        case rel => exact ⟨congrArg Value.bool HV.out, rfl⟩
    case rest =>
      obtain ⟨rfl, rfl⟩ := hcut
      by_cases g0 : rkind < 0
      · have HV : Hid (RB = false) := by unfold Hid; rw [HRest.out]; exact decide_eq_false (by omega)
        have n0 : ¬ (0 : Int) ≤ rkind := by omega
        go_wp2_with fail
        go_ret
        exact ⟨by rw [HV.out]; rfl, HY.out⟩
      have n0 : (0 : Int) ≤ rkind := by omega
      clear g0
      by_cases g1 : 19 < rkind
      · have HV : Hid (RB = false) := by unfold Hid; rw [HRest.out]; exact decide_eq_false (by omega)
        have n1 : ¬ rkind ≤ 19 := by omega
        go_wp2_with fail
        go_ret
        exact ⟨by rw [HV.out]; rfl, HY.out⟩
      have n1 : rkind ≤ 19 := by omega
      clear g1
      by_cases g2 : rerr < 0
      · have HV : Hid (RB = false) := by unfold Hid; rw [HRest.out]; exact decide_eq_false (by omega)
        have n2 : ¬ (0 : Int) ≤ rerr := by omega
        go_wp2_with fail
        go_ret
        exact ⟨by rw [HV.out]; rfl, HY.out⟩
      have n2 : (0 : Int) ≤ rerr := by omega
      clear g2
      by_cases g3 : 9999 < rerr
      · have HV : Hid (RB = false) := by unfold Hid; rw [HRest.out]; exact decide_eq_false (by omega)
        have n3 : ¬ rerr ≤ 9999 := by omega
        go_wp2_with fail
        go_ret
        exact ⟨by rw [HV.out]; rfl, HY.out⟩
      have n3 : rerr ≤ 9999 := by omega
      clear g3
      by_cases g4 : 16 < rwho.size
      · have HV : Hid (RB = false) := by unfold Hid; rw [HRest.out]; exact decide_eq_false (by omega)
        have n4 : ¬ (rwho.size : Int) ≤ 16 := by omega
        go_wp2_with fail
        go_ret
        exact ⟨by rw [HV.out]; rfl, HY.out⟩
      have n4 : (rwho.size : Int) ≤ 16 := by omega
      clear g4
      by_cases g5 : 16 < rbkt.size
      · have HV : Hid (RB = false) := by unfold Hid; rw [HRest.out]; exact decide_eq_false (by omega)
        have n5 : ¬ (rbkt.size : Int) ≤ 16 := by omega
        go_wp2_with fail
        go_ret
        exact ⟨by rw [HV.out]; rfl, HY.out⟩
      have n5 : (rbkt.size : Int) ≤ 16 := by omega
      clear g5
      by_cases g6 : 48 < rkey.size
      · have HV : Hid (RB = false) := by unfold Hid; rw [HRest.out]; exact decide_eq_false (by omega)
        have n6 : ¬ (rkey.size : Int) ≤ 48 := by omega
        go_wp2_with fail
        go_ret
        exact ⟨by rw [HV.out]; rfl, HY.out⟩
      have n6 : (rkey.size : Int) ≤ 48 := by omega
      clear g6
      have HV : Hid (RB = true) := by unfold Hid; rw [HRest.out]; exact decide_eq_true (by omega)
      cases sb
      · go_wp2_with fail
        go_ret
        exact ⟨by rw [HV.out]; rfl, HY.out⟩
      · go_wp2_with fail
        go_ret
        exact ⟨by rw [HV.out]; rfl, HY.out⟩
end Go.Proofs.Ytbclhaleibjkgaa
