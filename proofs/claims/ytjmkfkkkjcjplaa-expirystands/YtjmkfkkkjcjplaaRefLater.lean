/- What the document's Later and Near answer. -/
import Derived.Test.YtjmkfkkkjcjplaaRefCal
namespace Go.Proofs.Ytjmkfkkkjcjplaa
open Go.RowKit

set_option maxHeartbeats 400000 in
theorem refLater (t : Nat) (n : Int) (w : World) (ht : t < 18446744073709551616) (hn : n ≤ 9223372036854775807) :
    Calls Try.prog 17 #[.int .u64 (t : Int), .int .i64 n] w fun e w' => e = .returned (.int .u64 (laterN t n : Int)) ∧ w' = w := by
  by_cases h1 : n ≤ 0
  · have H : Hid (laterN t n = t) := by unfold Hid laterN; rw [if_pos (.inl h1)]
    go_enter Try.func17, Try.ntmps17
    go_wp2
    go_ret
    exact ⟨ret_u (by rw [H.out]), rfl⟩
  obtain ⟨k, rfl⟩ : ∃ k : Nat, n = k := ⟨n.toNat, by omega⟩
  have k1 : 1 ≤ k := by omega
  have k2 : ¬ (k : Int) ≤ 0 := by omega
  clear h1
  by_cases h2 : 253402300799 ≤ t
  · have H : Hid (laterN t k = t) := by unfold Hid laterN; rw [if_pos (.inr h2)]
    have h2' : (253402300799 : Int) ≤ (t : Int) := by omega
    clear h2
    go_enter Try.func17, Try.ntmps17
    go_wp2
    go_ret
    exact ⟨ret_u (by rw [H.out]), rfl⟩
  by_cases h3 : (253402300799 - t) / 86400 < k
  · have H : Hid (laterN t k = 253402300799) := by unfold Hid laterN; rw [if_neg (by omega), if_pos (by rw [Int.toNat_natCast]; exact h3)]
    have h3' : (253402300799 - (t : Int)) / 86400 < (k : Int) := by omega
    have h2' : ¬ (253402300799 : Int) ≤ (t : Int) := by omega
    clear h3 h2
    go_enter Try.func17, Try.ntmps17
    go_wp2
    go_ret
    exact ⟨ret_u (by rw [H.out]; rfl), rfl⟩
  · have H : Hid (laterN t k = t + k * 86400) := by unfold Hid laterN; rw [if_neg (by omega), if_neg (by rw [Int.toNat_natCast]; exact h3), Int.toNat_natCast]
    have h3' : ¬ (253402300799 - (t : Int)) / 86400 < (k : Int) := by omega
    have h4 : t + k * 86400 ≤ 253402300799 := by omega
    have h2' : ¬ (253402300799 : Int) ≤ (t : Int) := by omega
    clear h3 h2
    go_enter Try.func17, Try.ntmps17
    go_wp2
    go_ret
    exact ⟨ret_u (by rw [H.out]; omega), rfl⟩

end Go.Proofs.Ytjmkfkkkjcjplaa
