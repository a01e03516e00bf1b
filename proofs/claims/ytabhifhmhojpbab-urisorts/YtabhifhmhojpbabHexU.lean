/- Digits of a byte that is encoded. -/
import Derived.Test.YtabhifhmhojpbabUri0
import Derived.Test.YtabhifhmhojpbabOwnS
namespace Go.Proofs.Ytabhifhmhojpbab
open Go.RowKit

theorem hexU_at (n : Nat) (h : n < 16) (hp : n < (ByteArray.mk #[48, 49, 50, 51, 52, 53, 54, 55, 56, 57, 65, 66, 67, 68, 69, 70]).size) : (ByteArray.mk #[48, 49, 50, 51, 52, 53, 54, 55, 56, 57, 65, 66, 67, 68, 69, 70])[n]'hp = hexU n := by
  have : n = 0 ∨ n = 1 ∨ n = 2 ∨ n = 3 ∨ n = 4 ∨ n = 5 ∨ n = 6 ∨ n = 7 ∨ n = 8 ∨ n = 9 ∨ n = 10 ∨ n = 11 ∨ n = 12 ∨ n = 13 ∨ n = 14 ∨ n = 15 := by omega
  rcases this with rfl | rfl | rfl | rfl | rfl | rfl | rfl | rfl | rfl | rfl | rfl | rfl | rfl | rfl | rfl | rfl <;> rfl
theorem ixU (k : IntKind) (n : Nat) (h : n < 16) (u : World) : (Instr.index 9 (.string (ByteArray.mk #[48, 49, 50, 51, 52, 53, 54, 55, 56, 57, 65, 66, 67, 68, 69, 70])) (.int k (n : Int))).run Try.prog u = .ok (.int .u8 ((hexU n).toNat : Int)) u := by
  have hs : (ByteArray.mk #[48, 49, 50, 51, 52, 53, 54, 55, 56, 57, 65, 66, 67, 68, 69, 70]).size = 16 := rfl
  rw [run_index_string u 9 _ k (n : Int) Try.underlying9]
  rw [dif_pos ⟨by omega, by rw [hs]; omega⟩]
  have := hexU_at n h (by rw [hs]; exact h)
  simp only [Int.toNat_natCast, this]
/-- one more byte, encoded -/
theorem enc_kept (s : Bool) (l : List UInt8) (k : Nat) (c : UInt8) (hk : k < l.length) (hc : nth l k = c) (h : keptB s c = true) : encL s (l.take (k + 1)) = encL s (l.take k) ++ [c] := by
  rw [encL_take s l k hk, hc, enc1, if_pos h]
theorem enc_hex (s : Bool) (l : List UInt8) (k : Nat) (c : UInt8) (hk : k < l.length) (hc : nth l k = c) (h : keptB s c = false) : encL s (l.take (k + 1)) = encL s (l.take k) ++ [37, hexU (c.toNat / 16), hexU (c.toNat % 16)] := by
  rw [encL_take s l k hk, hc, enc1, if_neg (by rw [h]; simp)]
end Go.Proofs.Ytabhifhmhojpbab
