/- What uri.unreserved answers. -/
import Derived.Test.YtabhifhmhojpbabUri0
import Derived.Test.YtabhifhmhojpbabOwnS
import Derived.Test.YtabhifhmhojpbabStrb
import Derived.Test.YtabhifhmhojpbabConvOwn
import Derived.Test.YtabhifhmhojpbabRet
namespace Go.Proofs.Ytabhifhmhojpbab
open Go.RowKit

set_option maxHeartbeats 1000000 in
theorem codPlain (c : UInt8) (w : World) :
    Calls Try.prog 23 #[.int .u8 (c.toNat : Int)] w fun e w' => e = .returned (.bool (plainB c)) ∧ w' = w := by
  obtain ⟨n, hn⟩ : ∃ n, n = c.toNat := ⟨_, rfl⟩
  have H : Hid (plainB c = plainN n) := by unfold Hid plainB; rw [hn]
  have h256 : n < 256 := by rw [hn]; exact c.toNat_lt
  rw [← hn]
  clear hn
  by_cases c1 : n < 45
  · have i1 : (n : Int) < 45 := by omega
    clear c1
    go_enter Try.func23, Try.ntmps23
    go_wp2
    go_ret
    exact ⟨ret_b (by rw [H.out]; unfold plainN; rw [Bool.eq_iff_iff]; simp <;> omega), rfl⟩
  by_cases c2 : n = 45
  · subst c2
    clear c1
    go_enter Try.func23, Try.ntmps23
    go_wp2
    go_ret
    exact ⟨ret_b (by rw [H.out]; unfold plainN; rw [Bool.eq_iff_iff]; simp <;> omega), rfl⟩
  by_cases c3 : n = 46
  · subst c3
    clear c1 c2
    go_enter Try.func23, Try.ntmps23
    go_wp2
    go_ret
    exact ⟨ret_b (by rw [H.out]; unfold plainN; rw [Bool.eq_iff_iff]; simp <;> omega), rfl⟩
  by_cases c4 : n = 47
  · subst c4
    clear c1 c2 c3
    go_enter Try.func23, Try.ntmps23
    go_wp2
    go_ret
    exact ⟨ret_b (by rw [H.out]; unfold plainN; rw [Bool.eq_iff_iff]; simp <;> omega), rfl⟩
  by_cases c5 : n ≤ 57
  · have i1 : (48 : Int) ≤ (n : Int) := by omega
    have i2 : (n : Int) ≤ 57 := by omega
    clear c1 c2 c3 c4 c5
    go_enter Try.func23, Try.ntmps23
    go_wp2
    go_ret
    exact ⟨ret_b (by rw [H.out]; unfold plainN; rw [Bool.eq_iff_iff]; simp <;> omega), rfl⟩
  by_cases c6 : n < 65
  · have i1 : (57 : Int) < (n : Int) := by omega
    have i2 : (n : Int) < 65 := by omega
    clear c1 c2 c3 c4 c5 c6
    go_enter Try.func23, Try.ntmps23
    go_wp2
    go_ret
    exact ⟨ret_b (by rw [H.out]; unfold plainN; rw [Bool.eq_iff_iff]; simp <;> omega), rfl⟩
  by_cases c7 : n ≤ 90
  · have i1 : (65 : Int) ≤ (n : Int) := by omega
    have i2 : (n : Int) ≤ 90 := by omega
    clear c1 c2 c3 c4 c5 c6 c7
    go_enter Try.func23, Try.ntmps23
    go_wp2
    go_ret
    exact ⟨ret_b (by rw [H.out]; unfold plainN; rw [Bool.eq_iff_iff]; simp <;> omega), rfl⟩
  by_cases c8 : n = 95
  · subst c8
    clear c1 c2 c3 c4 c5 c6 c7
    go_enter Try.func23, Try.ntmps23
    go_wp2
    go_ret
    exact ⟨ret_b (by rw [H.out]; unfold plainN; rw [Bool.eq_iff_iff]; simp <;> omega), rfl⟩
  by_cases c9 : n < 97
  · have i1 : (90 : Int) < (n : Int) := by omega
    have i2 : (n : Int) < 97 := by omega
    have i3 : ¬ (n : Int) = 95 := by omega
    clear c1 c2 c3 c4 c5 c6 c7 c8 c9
    go_enter Try.func23, Try.ntmps23
    go_wp2
    go_ret
    exact ⟨ret_b (by rw [H.out]; unfold plainN; rw [Bool.eq_iff_iff]; simp <;> omega), rfl⟩
  by_cases c10 : n ≤ 122
  · have i1 : (97 : Int) ≤ (n : Int) := by omega
    have i2 : (n : Int) ≤ 122 := by omega
    clear c1 c2 c3 c4 c5 c6 c7 c8 c9 c10
    go_enter Try.func23, Try.ntmps23
    go_wp2
    go_ret
    exact ⟨ret_b (by rw [H.out]; unfold plainN; rw [Bool.eq_iff_iff]; simp <;> omega), rfl⟩
  by_cases c11 : n = 126
  · subst c11
    clear c1 c2 c3 c4 c5 c6 c7 c8 c9 c10
    go_enter Try.func23, Try.ntmps23
    go_wp2
    go_ret
    exact ⟨ret_b (by rw [H.out]; unfold plainN; rw [Bool.eq_iff_iff]; simp <;> omega), rfl⟩
  have i1 : (122 : Int) < (n : Int) := by omega
  have i3 : ¬ (n : Int) = 126 := by omega
  clear c1 c2 c3 c4 c5 c6 c7 c8 c9 c10 c11
  go_enter Try.func23, Try.ntmps23
  go_wp2
  go_ret
  exact ⟨ret_b (by rw [H.out]; unfold plainN; rw [Bool.eq_iff_iff]; simp <;> omega), rfl⟩
end Go.Proofs.Ytabhifhmhojpbab
