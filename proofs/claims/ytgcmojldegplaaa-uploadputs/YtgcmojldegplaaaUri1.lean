/- Plain facts: a text cut at a sign. -/
import Derived.Test.YtgcmojldegplaaaUri0
namespace Go.Proofs.Ytgcmojldegplaaa

/-- a text of these bytes -/
def str (l : List UInt8) : ByteArray := ByteArray.mk l.toArray
theorem str_list (l : List UInt8) : (str l).data.toList = l := by simp [str]
theorem str_of (s : ByteArray) : str s.data.toList = s := by simp [str]
theorem str_size (l : List UInt8) : (str l).size = l.length := by simp [str, ByteArray.size]
theorem str_inj {l m : List UInt8} (h : str l = str m) : l = m := by rw [← str_list l, h, str_list]
theorem ext_take (s : ByteArray) (k : Nat) : s.extract 0 k = str (s.data.toList.take k) := by
  apply ByteArray.ext
  apply Array.toList_inj.1
  simp [str, ByteArray.data_extract]
theorem ext_drop (s : ByteArray) (k : Nat) : s.extract k s.size = str (s.data.toList.drop k) := by
  apply ByteArray.ext
  apply Array.toList_inj.1
  have e : s.size = s.data.size := rfl
  rw [ByteArray.data_extract, e]
  simp [str]
  refine List.take_of_length_le ?_
  rw [List.length_drop, Array.length_toList]
  exact Nat.le_refl _

/-- ahead of the first such sign, and behind it -/
def headL (c : UInt8) (l : List UInt8) : List UInt8 := l.takeWhile (· != c)
def tailL (c : UInt8) (l : List UInt8) : List UInt8 := (l.dropWhile (· != c)).drop 1
theorem head_at (c : UInt8) (l : List UInt8) (k : Nat) (hk : k < l.length) (h : ∀ i, i < k → ¬ nth l i = c) (hc : nth l k = c) : headL c l = l.take k ∧ tailL c l = l.drop (k + 1) := by
  induction l generalizing k with
  | nil => simp at hk
  | cons x l ih =>
    cases k with
    | zero =>
      have e : x = c := hc
      subst e
      simp [headL, tailL]
    | succ k =>
      have hx : ¬ x = c := h 0 (by omega)
      have := ih k (by simpa using hk) (fun i hi => h (i + 1) (by omega)) hc
      unfold headL tailL at this ⊢
      rw [List.takeWhile_cons_of_pos (by simpa using hx), List.dropWhile_cons_of_pos (by simpa using hx), this.1, this.2]
      simp
theorem head_none (c : UInt8) (l : List UInt8) (h : ∀ i, i < l.length → ¬ nth l i = c) : headL c l = l ∧ tailL c l = [] := by
  induction l with
  | nil => exact ⟨rfl, rfl⟩
  | cons x l ih =>
    have hx : ¬ x = c := h 0 (by simp)
    have := ih (fun i hi => h (i + 1) (by simp; omega))
    unfold headL tailL at this ⊢
    rw [List.takeWhile_cons_of_pos (by simpa using hx), List.dropWhile_cons_of_pos (by simpa using hx), this.1, this.2]
    exact ⟨rfl, rfl⟩
theorem headL_length (c : UInt8) (l : List UInt8) : (headL c l).length ≤ l.length := List.Sublist.length_le (List.takeWhile_sublist _)
theorem tailL_length (c : UInt8) (l : List UInt8) : (tailL c l).length ≤ l.length := by
  unfold tailL; rw [List.length_drop]
  have := List.Sublist.length_le (List.dropWhile_sublist (p := fun x => x != c) (l := l))
  omega
/-- is the sign there? -/
def hasL (c : UInt8) (l : List UInt8) : Bool := decide (c ∈ l)
theorem has_at (c : UInt8) (l : List UInt8) (k : Nat) (hk : k < l.length) (hc : nth l k = c) : hasL c l = true := by
  unfold hasL; rw [decide_eq_true_eq, ← hc, nth_eq l k hk]; exact List.getElem_mem _
theorem has_none (c : UInt8) (l : List UInt8) (h : ∀ i, i < l.length → ¬ nth l i = c) : hasL c l = false := by
  unfold hasL; rw [decide_eq_false_iff_not]
  intro hm
  obtain ⟨i, hi, e⟩ := List.getElem_of_mem hm
  exact h i hi (by rw [nth_eq l i hi]; exact e)
end Go.Proofs.Ytgcmojldegplaaa
