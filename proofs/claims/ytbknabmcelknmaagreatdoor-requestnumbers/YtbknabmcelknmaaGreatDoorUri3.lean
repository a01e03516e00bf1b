/- Plain facts: the parts between a sign. -/
import Derived.Test.YtbknabmcelknmaaGreatDoorOwnT
namespace Go.Proofs.YtbknabmcelknmaaGreatDoor

/-- one sign more -/
def cutStep (c : UInt8) (acc : List (List UInt8)) (x : UInt8) : List (List UInt8) := if x = c then acc ++ [[]] else acc.set (acc.length - 1) (nthT acc (acc.length - 1) ++ [x])
def cutL (c : UInt8) (l : List UInt8) : List (List UInt8) := l.foldl (cutStep c) [[]]
theorem cutStep_pos (c : UInt8) (acc : List (List UInt8)) (x : UInt8) (h : 0 < acc.length) : 0 < (cutStep c acc x).length := by
  unfold cutStep; split
  · simp
  · rw [List.length_set]; exact h
theorem cutL_snoc (c : UInt8) (l : List UInt8) (x : UInt8) : cutL c (l ++ [x]) = cutStep c (cutL c l) x := by unfold cutL; rw [List.foldl_append]; rfl
theorem cutL_take (c : UInt8) (l : List UInt8) (k : Nat) (h : k < l.length) : cutL c (l.take (k + 1)) = cutStep c (cutL c (l.take k)) (nth l k) := by
  rw [take_nth l k h, cutL_snoc]
theorem snoc_ind {P : List UInt8 → Prop} (h0 : P []) (h1 : ∀ l x, P l → P (l ++ [x])) (l : List UInt8) : P l := by
  have key : ∀ n, ∀ l : List UInt8, l.length = n → P l := by
    intro n
    induction n with
    | zero => intro l hl; rw [List.length_eq_zero_iff.1 hl]; exact h0
    | succ n ih =>
      intro l hl
      have hn : l ≠ [] := by rintro rfl; simp at hl
      rw [← List.dropLast_concat_getLast hn]
      exact h1 _ _ (ih _ (by rw [List.length_dropLast, hl]; rfl))
  exact key l.length l rfl
theorem cutL_pos (c : UInt8) (l : List UInt8) : 0 < (cutL c l).length := by
  induction l using snoc_ind with
  | h0 => exact Nat.zero_lt_one
  | h1 l x ih => rw [cutL_snoc]; exact cutStep_pos c _ x ih
theorem cutL_len (c : UInt8) (l : List UInt8) : (cutL c l).length ≤ l.length + 1 := by
  induction l using snoc_ind with
  | h0 => exact Nat.le_refl _
  | h1 l x ih =>
    rw [cutL_snoc]; unfold cutStep; split
    · simp; omega
    · rw [List.length_set]; simp; omega
/-- no part is longer than the whole -/
theorem cutL_part (c : UInt8) (l : List UInt8) : ∀ p ∈ cutL c l, p.length ≤ l.length := by
  induction l using snoc_ind with
  | h0 => intro p hp; rw [show cutL c [] = [[]] from rfl, List.mem_singleton] at hp; rw [hp]; exact Nat.le_refl _
  | h1 l x ih =>
    intro p hp
    have hpos := cutL_pos c l
    rw [cutL_snoc] at hp; unfold cutStep at hp
    rw [List.length_append]
    split at hp
    · rcases List.mem_append.1 hp with h | h
      · have := ih p h; omega
      · rw [List.mem_singleton.1 h]; simp
    · rcases List.mem_or_eq_of_mem_set hp with h | h
      · have := ih p h; omega
      · rw [h, List.length_append, nthT_eq _ _ (by omega)]
        have := ih _ (List.getElem_mem (l := cutL c l) (n := (cutL c l).length - 1) (by omega))
        simp; omega
theorem cutL_last (c : UInt8) (l : List UInt8) : (nthT (cutL c l) ((cutL c l).length - 1)).length ≤ l.length := by
  have hpos := cutL_pos c l
  rw [nthT_eq _ _ (by omega)]
  exact cutL_part c l _ (List.getElem_mem _)
end Go.Proofs.YtbknabmcelknmaaGreatDoor
