/- Plain facts: texts of pairs, joined. -/
import Derived.Test.YtabhifhmhojpbabUri6
import Derived.Lib.Join
namespace Go.Proofs.Ytabhifhmhojpbab

theorem str_append (x y : List UInt8) : str x ++ str y = str (x ++ y) := by unfold str; rw [ByteArray.mk_append_mk]
theorem joinK_length (out : List Pr) (n : Nat) (h : ∀ i, i < n → (nthP out i).1.length ≤ 60000 ∧ (nthP out i).2.length ≤ 60000) (k : Nat) (hk : k ≤ n) : (joinK out k).length ≤ k * 120002 := by
  induction k with
  | zero => exact Nat.zero_le _
  | succ k ih =>
    have := ih (by omega)
    have := h k (by omega)
    rw [joinK]
    simp only [List.length_append, List.length_cons, List.length_nil]
    split <;> simp <;> omega
theorem joinK_tail (x : Pr) (r : List Pr) (k : Nat) (hk : k ≤ r.length) : joinK (x :: r) (k + 1) = pt x ++ Lib.joinTail [38] ((r.map pt).take k) := by
  induction k with
  | zero => simp [joinK, pt, nthP, Lib.joinTail]
  | succ k ih =>
    have e : (r.map pt)[k]? = some (pt (nthP r k)) := by rw [List.getElem?_map, List.getElem?_eq_getElem (by omega), nthP_eq _ _ (by omega)]; rfl
    rw [joinK, ih (by omega), Lib.joinTail_take_succ _ _ _ _ e, if_pos (by omega)]
    have e2 : nthP (x :: r) (k + 1) = nthP r k := rfl
    rw [e2]
    simp [pt]
theorem join_pt (out : List Pr) : Lib.join (out.map pt) [38] = joinL out := by
  cases out with
  | nil => rfl
  | cons x r =>
    rw [List.map_cons, Lib.join_cons]
    unfold joinL
    rw [List.length_cons, joinK_tail x r r.length (Nat.le_refl _)]
    rw [List.take_of_length_le (by simp)]
theorem cat3 (x y : List UInt8) : str x ++ ByteArray.mk #[61] ++ str y = str (x ++ [61] ++ y) := by
  have e2 : ByteArray.mk #[61] = str [61] := rfl
  rw [e2, str_append, str_append]
end Go.Proofs.Ytabhifhmhojpbab
