/- Codes, plain: what is cut out of a digest, its digits. -/
import Derived.Test.YtmgflcglmakceaaB32
import Derived.Test.YtmgflcglmakceaaPlain3
namespace Go.Proofs.Ytmgflcglmakceaa

/-- the number that is cut out of a digest -/
def offN (h : List UInt8) : Nat := nb h 19 % 16
def cutN (h : List UInt8) : Nat := nb h (offN h) % 128 * 16777216 + nb h (offN h + 1) * 65536 + nb h (offN h + 2) * 256 + nb h (offN h + 3)
theorem cutN_lt (h : List UInt8) : cutN h < 2147483648 := by
  unfold cutN
  have := nb_lt h (offN h + 1); have := nb_lt h (offN h + 2); have := nb_lt h (offN h + 3)
  omega
/-- the first j bytes from the place on -/
def cutTo (h : List UInt8) : Nat → Nat
  | 0 => 0
  | j + 1 => cutTo h j * 256 + nb h (offN h + j)
theorem cutTo_lt (h : List UInt8) : ∀ j, cutTo h j < 256 ^ j
  | 0 => by simp [cutTo]
  | j + 1 => by have := cutTo_lt h j; have := nb_lt h (offN h + j); rw [Nat.pow_succ]; unfold cutTo; omega
theorem cutTo_four (h : List UInt8) : cutTo h 4 % 2147483648 = cutN h := by
  have := nb_lt h (offN h); have := nb_lt h (offN h + 1); have := nb_lt h (offN h + 2); have := nb_lt h (offN h + 3)
  simp only [cutTo, cutN, Nat.add_zero]
  omega

theorem dgt_mod (n m : Nat) (h : m % 10 = 0) : dgt (n % m) = dgt n := by
  unfold dgt
  rw [Nat.mod_mod_of_dvd n (Nat.dvd_of_mod_eq_zero h)]
theorem dgs_mod (k n : Nat) : dgs k (n % 10 ^ k) = dgs k n := by
  induction k generalizing n with
  | zero => rfl
  | succ k ih =>
    show dgs k (n % 10 ^ (k + 1) / 10) ++ [dgt (n % 10 ^ (k + 1))] = dgs k (n / 10) ++ [dgt n]
    have h1 : n % 10 ^ (k + 1) / 10 = n / 10 % 10 ^ k := by
      rw [Nat.pow_succ, Nat.mul_comm, Nat.mod_mul_right_div_self]
    have h2 : dgt (n % 10 ^ (k + 1)) = dgt n := dgt_mod _ _ (by rw [Nat.pow_succ]; exact Nat.mul_mod_left _ _)
    rw [h1, h2, ih]
/-- a code -/
def codeL (h : List UInt8) : List UInt8 := dgs 6 (cutN h)
theorem codeL_mod (h : List UInt8) : dgs 6 (cutN h % 1000000) = codeL h := dgs_mod 6 (cutN h)
theorem codeL_length (h : List UInt8) : (codeL h).length = 6 := dgs_length _ _

/-- the six digits from behind -/
def dgFill (n j : Nat) : List UInt8 := List.replicate (6 - j) 0 ++ dgs j n
theorem dgFill_length (n j : Nat) (h : j ≤ 6) : (dgFill n j).length = 6 := by
  unfold dgFill; rw [List.length_append, List.length_replicate, dgs_length]; omega
theorem dgFill_set (n j : Nat) (h : j < 6) : (dgFill n j).set (5 - j) (dgt (n / 10 ^ j)) = dgFill n (j + 1) := by
  unfold dgFill
  rw [dgs_cons]
  obtain ⟨m, hm⟩ : ∃ m, 6 - j = m + 1 := ⟨5 - j, by omega⟩
  rw [hm, show 6 - (j + 1) = m by omega, show 5 - j = m by omega, List.replicate_succ', List.append_assoc, List.set_append_right _ _ (by simp)]
  simp
end Go.Proofs.Ytmgflcglmakceaa
