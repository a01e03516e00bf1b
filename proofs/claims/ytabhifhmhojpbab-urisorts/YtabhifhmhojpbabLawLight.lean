/- What light answers. -/
import Derived.Test.YtabhifhmhojpbabUri1
import Derived.Test.YtabhifhmhojpbabRet
import Derived.Test.YtabhifhmhojpbabOwnS
namespace Go.Proofs.Ytabhifhmhojpbab
open Go.RowKit

def nthS (l : List ByteArray) (i : Nat) : ByteArray := l.getD i ByteArray.empty
theorem nthS_eq (l : List ByteArray) (i : Nat) (h : i < l.length) : nthS l i = l[i] := by
  unfold nthS; rw [List.getD_eq_getElem?_getD, List.getElem?_eq_getElem h]; rfl
/-- how long texts are together -/
def sumS : List ByteArray → Nat
  | [] => 0
  | s :: l => s.size + sumS l
theorem sumS_append (l m : List ByteArray) : sumS (l ++ m) = sumS l + sumS m := by
  induction l with
  | nil => simp [sumS]
  | cons x l ih => simp only [List.cons_append, sumS, ih]; omega
theorem sumS_take (l : List ByteArray) (k : Nat) (h : k < l.length) : sumS (l.take (k + 1)) = sumS (l.take k) + (nthS l k).size := by
  rw [nthS_eq l k h, ← List.take_append_getElem h, sumS_append]; simp [sumS]

theorem sumS_le (l : List ByteArray) (k : Nat) : sumS (l.take k) ≤ sumS l := by
  have := sumS_append (l.take k) (l.drop k)
  rw [List.take_append_drop] at this
  omega

set_option maxHeartbeats 1000000 in
theorem lawLight (B : Nat) (ss : List ByteArray) (w : World) (hl : ss.length ≤ 8) (hz : sumS ss ≤ 9223372036854775807)
    (hc : ∀ i, i < ss.length → w.cell? ⟨B, i, none⟩ = some (.string (nthS ss i))) :
    Calls Try.prog 4 #[.slice (some ⟨B, 0, none⟩) ss.length ss.length] w fun e w' => e = .returned (.bool (decide (sumS ss ≤ 20000))) ∧ w' = w := by
  obtain ⟨n, hn⟩ : ∃ n, ss.length = n := ⟨_, rfl⟩
  rw [hn] at hl hc ⊢
  have HN : Hid (ss.length = n) := hn
  have HC : Hid (∀ i, i < n → w.cell? ⟨B, i, none⟩ = some (.string (nthS ss i))) := hc
  have HZ : Hid (∀ k, sumS (ss.take k) ≤ 9223372036854775807) := fun k => Nat.le_trans (sumS_le ss k) hz
  clear hn hc hz
  go_enter Try.func4, Try.ntmps4
  go_wp2
  go_loopw [3, 4] (fun v i wr => ∃ (k m : Nat), k ≤ n ∧ v = .int .i64 (m : Int) ∧ i = .int .i64 k ∧ Hid (m = sumS (ss.take k)) ∧ wr = w) (fun _ i _ => n - (intOf i).toNat)
  case atStart => exact ⟨0, 0, Nat.zero_le _, rfl, rfl, rfl, rfl⟩
  case round =>
    obtain ⟨k, m, hk, rfl, rfl, HM, rfl⟩ := hrel
    by_cases hlt : k < n
    · have c1 := HC.out k hlt
      have HS := sumS_take ss k (by rw [HN.out]; exact hlt)
      rw [← HM.out] at HS
      have hb0 : (0 : Int) ≤ (k : Int) := by omega
      have hb1 : (k : Int) < (n : Int) := by omega
      have z1 := HZ.out (k + 1)
      rw [HS] at z1
      generalize nthS ss k = s at *
      have HS' : Hid (sumS (ss.take (k + 1)) = m + s.size) := HS
      clear HS
      go_wp2
      go_roundw
      case rel => exact ⟨k + 1, m + s.size, by omega, by go_num, by go_num, HS'.out.symm, by first | rfl | trivial⟩
      case measure => simp [intOf]; omega
    · have : k = n := by omega
      have HF : Hid (m = sumS ss) := by unfold Hid; rw [HM.out, List.take_of_length_le (by rw [HN.out]; omega)]
      clear HM
      go_wp2
      go_ret
      exact ⟨ret_b (by rw [← HF.out, decide_eq_decide]; omega), by first | rfl | trivial⟩
end Go.Proofs.Ytabhifhmhojpbab
