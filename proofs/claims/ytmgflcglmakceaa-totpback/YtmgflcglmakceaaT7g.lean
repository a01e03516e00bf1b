/- Base 32, plain: there and back. -/
import Derived.Test.YtmgflcglmakceaaB32M
namespace Go.Proofs.Ytmgflcglmakceaa
theorem un7_res (l : List UInt8) : unRes (b32L l) = l := by
  unfold unRes unOk; rw [allV_b32, end_b32, un_b32]; rfl
theorem un7_err (l : List UInt8) : unErr (b32L l) = 0 := by
  unfold unErr unOk; rw [allV_b32, end_b32]; rfl
theorem unErr_cases (s : List UInt8) : unErr s = 0 ∨ unErr s = 4 := by unfold unErr; split <;> simp
theorem unRes_le (s : List UInt8) : (unRes s).length ≤ s.length := by
  unfold unRes; split
  · rw [unB_length]; omega
  · simp
theorem un7_back (s : List UInt8) (h : unErr s = 0) : b32L (unRes s) = s := by
  unfold unErr at h
  by_cases hk : unOk s = true
  · have hk' := hk
    unfold unOk at hk'
    rw [Bool.and_eq_true] at hk'
    unfold unRes; rw [if_pos hk]
    exact (un_iff s hk'.1).2 hk'.2
  · rw [if_neg hk] at h; omega
end Go.Proofs.Ytmgflcglmakceaa
