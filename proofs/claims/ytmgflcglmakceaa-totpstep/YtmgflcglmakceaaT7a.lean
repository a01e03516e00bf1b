/- What totp's sign and signValue, and the document's sign, answer. -/
import Derived.Test.YtmgflcglmakceaaB32
import Derived.Test.YtmgflcglmakceaaOwn
import Derived.Test.YtmgflcglmakceaaRet
namespace Go.Proofs.Ytmgflcglmakceaa
open Go.RowKit

theorem wrap16_nat (n : Nat) (h : n < 65536) : IntKind.u16.wrap (n : Int) = n := by
  simp [IntKind.wrap, IntKind.signed, IntKind.bits]; omega
theorem bits_and16 (a b : Nat) (ha : a < 65536) (hb : b < 65536) : bits .and .u16 (a : Int) (b : Int) = ((a &&& b : Nat) : Int) := by
  show IntKind.u16.wrap ((BitVec.ofInt 16 (a : Int) &&& BitVec.ofInt 16 (b : Int)).toNat : Int) = _
  rw [BitVec.ofInt_natCast, BitVec.ofInt_natCast, BitVec.toNat_and, BitVec.toNat_ofNat, BitVec.toNat_ofNat, Nat.mod_eq_of_lt ha, Nat.mod_eq_of_lt hb]
  exact wrap16_nat _ (Nat.lt_of_le_of_lt Nat.and_le_left ha)
theorem bits_or16 (a b : Nat) (ha : a < 65536) (hb : b < 65536) : bits .or .u16 (a : Int) (b : Int) = ((a ||| b : Nat) : Int) := by
  show IntKind.u16.wrap ((BitVec.ofInt 16 (a : Int) ||| BitVec.ofInt 16 (b : Int)).toNat : Int) = _
  rw [BitVec.ofInt_natCast, BitVec.ofInt_natCast, BitVec.toNat_or, BitVec.toNat_ofNat, BitVec.toNat_ofNat, Nat.mod_eq_of_lt ha, Nat.mod_eq_of_lt hb]
  exact wrap16_nat _ (Nat.or_lt_two_pow (n := 16) ha hb)
theorem and16_31 (n : Nat) (h : n < 65536) : bits .and .u16 (n : Int) 31 = ((n % 32 : Nat) : Int) := by
  have e := bits_and16 n 31 h (by omega)
  rw [show (n &&& 31) = n % 32 from Nat.and_two_pow_sub_one_eq_mod n 5] at e
  exact e

def sgB : ByteArray := ByteArray.mk #[65, 66, 67, 68, 69, 70, 71, 72, 73, 74, 75, 76, 77, 78, 79, 80, 81, 82, 83, 84, 85, 86, 87, 88, 89, 90, 50, 51, 52, 53, 54, 55]
theorem sg_at : ∀ n : Fin 32, (ByteArray.mk #[65, 66, 67, 68, 69, 70, 71, 72, 73, 74, 75, 76, 77, 78, 79, 80, 81, 82, 83, 84, 85, 86, 87, 88, 89, 90, 50, 51, 52, 53, 54, 55])[n.1]'(Nat.lt_of_lt_of_eq n.2 rfl) = sgn n.1 := by decide
theorem ixS (k : IntKind) (n : Nat) (h : n < 32) (u : World) : (Instr.index 9 (.string (ByteArray.mk #[65, 66, 67, 68, 69, 70, 71, 72, 73, 74, 75, 76, 77, 78, 79, 80, 81, 82, 83, 84, 85, 86, 87, 88, 89, 90, 50, 51, 52, 53, 54, 55])) (.int k (n : Int))).run Try.prog u = .ok (.int .u8 ((sgn n).toNat : Int)) u := by
  have hs : (ByteArray.mk #[65, 66, 67, 68, 69, 70, 71, 72, 73, 74, 75, 76, 77, 78, 79, 80, 81, 82, 83, 84, 85, 86, 87, 88, 89, 90, 50, 51, 52, 53, 54, 55]).size = 32 := rfl
  rw [run_index_string u 9 _ k (n : Int) Try.underlying9]
  rw [dif_pos ⟨by omega, by rw [hs]; omega⟩]
  have := sg_at ⟨n, h⟩
  simp only [Int.toNat_natCast, this]
attribute [local go_sem ↓] ixS

set_option maxHeartbeats 400000 in
theorem codSgn (n : Nat) (h : n < 65536) (w : World) :
    Calls Try.prog 27 #[.int .u16 (n : Int)] w fun e w' => e = .returned (.int .u8 ((sgn (n % 32)).toNat : Int)) ∧ w' = w := by
  have ha := and16_31 n h
  have hm : n % 32 < 32 := Nat.mod_lt _ (by omega)
  generalize n % 32 = m at *
  have hi := fun u => ixS .u16 m hm u
  go_enter Try.func27, Try.ntmps27
  go_wp2
  go_ret
  exact ⟨rfl, rfl⟩

def sgK (c : UInt8) : Bool := decide (sgv c < 32)
def sgV (c : UInt8) : Nat := if sgv c < 32 then sgv c else 0
theorem ret_sg {c : UInt8} {v : Int} {b : Bool} (hv : v = (sgV c : Int)) (hb : b = sgK c) :
    Ending.returned (.tuple #[.int .u16 v, .bool b]) = .returned (.tuple #[.int .u16 (sgV c : Int), .bool (sgK c)]) := by rw [hv, hb]

set_option maxHeartbeats 1000000 in
theorem codSignValue (c : UInt8) (w : World) :
    Calls Try.prog 25 #[.int .u8 (c.toNat : Int)] w fun e w' => e = .returned (.tuple #[.int .u16 (sgV c : Int), .bool (sgK c)]) ∧ w' = w := by
  obtain ⟨n, hn⟩ : ∃ n, n = c.toNat := ⟨_, rfl⟩
  have H : Hid (sgv c = if 65 ≤ n ∧ n ≤ 90 then n - 65 else if 50 ≤ n ∧ n ≤ 55 then n - 24 else 32) := by unfold Hid sgv; rw [hn]
  have h256 : n < 256 := by rw [hn]; exact c.toNat_lt
  rw [← hn]
  clear hn
  by_cases c1 : n < 50
  · have i1 : (n : Int) < 50 := by omega
    have D : Hid (sgv c = 32) := by unfold Hid; rw [H.out, if_neg (by omega), if_neg (by omega)]
    go_enter Try.func25, Try.ntmps25
    go_wp2
    go_ret2
    exact ⟨ret_sg (by unfold sgV; rw [D.out]; rfl) (by unfold sgK; rw [D.out]; rfl), rfl⟩
  by_cases c2 : n ≤ 55
  · have i1 : (50 : Int) ≤ (n : Int) := by omega
    have i2 : (n : Int) ≤ 55 := by omega
    obtain ⟨m, hm⟩ : ∃ m : Nat, m = n - 50 := ⟨_, rfl⟩
    have hw : IntKind.u8.wrap ((n : Int) - 50) = (m : Int) := by rw [← wrap8_nat m (by omega)]; congr 1; omega
    have D : Hid (sgv c = m + 26) := by unfold Hid; rw [H.out, if_neg (by omega), if_pos (by omega)]; omega
    have HR : m < 6 := by omega
    clear hm
    go_enter Try.func25, Try.ntmps25
    go_wp2
    go_ret2
    exact ⟨ret_sg (by unfold sgV; rw [D.out, if_pos (by omega)]; go_num) (by unfold sgK; rw [D.out]; simp; omega), rfl⟩
  by_cases c3 : n < 65
  · have i1 : (55 : Int) < (n : Int) := by omega
    have i2 : (n : Int) < 65 := by omega
    have D : Hid (sgv c = 32) := by unfold Hid; rw [H.out, if_neg (by omega), if_neg (by omega)]
    go_enter Try.func25, Try.ntmps25
    go_wp2
    go_ret2
    exact ⟨ret_sg (by unfold sgV; rw [D.out]; rfl) (by unfold sgK; rw [D.out]; rfl), rfl⟩
  by_cases c4 : n ≤ 90
  · have i1 : (65 : Int) ≤ (n : Int) := by omega
    have i2 : (n : Int) ≤ 90 := by omega
    obtain ⟨m, hm⟩ : ∃ m : Nat, m = n - 65 := ⟨_, rfl⟩
    have hw : IntKind.u8.wrap ((n : Int) - 65) = (m : Int) := by rw [← wrap8_nat m (by omega)]; congr 1; omega
    have D : Hid (sgv c = m) := by unfold Hid; rw [H.out, if_pos (by omega)]; omega
    have HR : m < 26 := by omega
    clear hm
    go_enter Try.func25, Try.ntmps25
    go_wp2
    go_ret2
    exact ⟨ret_sg (by unfold sgV; rw [D.out, if_pos (by omega)]) (by unfold sgK; rw [D.out]; simp; omega), rfl⟩
  · have i1 : (90 : Int) < (n : Int) := by omega
    have D : Hid (sgv c = 32) := by unfold Hid; rw [H.out, if_neg (by omega), if_neg (by omega)]
    go_enter Try.func25, Try.ntmps25
    go_wp2
    go_ret2
    exact ⟨ret_sg (by unfold sgV; rw [D.out]; rfl) (by unfold sgK; rw [D.out]; rfl), rfl⟩

/-- the document's number of a sign: -1 for none -/
def sgI (c : UInt8) : Int := if sgv c < 32 then (sgv c : Int) else -1
theorem sgI_yes {c : UInt8} (h : sgv c < 32) : sgI c = (sgv c : Int) := by unfold sgI; rw [if_pos h]
theorem sgI_no {c : UInt8} (h : ¬ sgv c < 32) : sgI c = -1 := by unfold sgI; rw [if_neg h]
theorem ret_i64 {a b : Int} (h : a = b) : Ending.returned (.int .i64 a) = .returned (.int .i64 b) := by rw [h]

set_option maxHeartbeats 1000000 in
theorem refSgn (c : UInt8) (w : World) :
    Calls Try.prog 26 #[.int .u8 (c.toNat : Int)] w fun e w' => e = .returned (.int .i64 (sgI c)) ∧ w' = w := by
  go_enter Try.func26, Try.ntmps26
  go_wp2
  go_loopw [3] (fun i wr => ∃ k : Nat, k ≤ 32 ∧ i = .int .i64 (k : Int) ∧ Hid (∀ j, j < k → sgn j ≠ c) ∧ wr = w) (fun i _ => 32 - (intOf i).toNat)
  case atStart => exact ⟨0, by omega, rfl, fun j hj => absurd hj (Nat.not_lt_zero _), rfl⟩
  case round =>
    obtain ⟨k, hk, rfl, hno, rfl⟩ := hrel
    by_cases hlt : k < 32
    · have hi := fun u => ixS .i64 k hlt u
      have hlt' : (k : Int) < 32 := by omega
      by_cases he : sgn k = c
      · have e1 : (((sgn k).toNat : Int) == (c.toNat : Int)) = true := by rw [he]; simp
        have HV : Hid (sgv c = k) := by unfold Hid; rw [← he]; exact sgv_sgn k hlt
        have e2 : ((sgn k).toNat : Int) = (c.toNat : Int) := by rw [he]
        go_wp2
        go_ret
        exact ⟨ret_i64 (by rw [sgI_yes (by rw [HV.out]; exact hlt), HV.out]), rfl⟩
      · have e1 : (((sgn k).toNat : Int) == (c.toNat : Int)) = false := by
          rw [beq_eq_false_iff_ne]; intro h; exact he ((toNat8_inj _ _).1 h)
        have e2 : ¬ ((sgn k).toNat : Int) = (c.toNat : Int) := fun h => he ((toNat8_inj _ _).1 h)
        have HN : Hid (∀ j, j < k + 1 → sgn j ≠ c) := fun j hj => by
          by_cases h : j = k
          · rw [h]; exact he
          · exact hno.out j (by omega)
        go_wp2
        go_roundw
        case rel => exact ⟨k + 1, by omega, by go_num, HN.out, by first | rfl | trivial⟩
        case measure => simp [intOf]; omega
    · have hk32 : k = 32 := by omega
      have hno' : ¬ sgv c < 32 := fun h => hno.out (sgv c) (by omega) (sgn_sgv c h)
      have HI : Hid (sgI c = -1) := sgI_no hno'
      go_wp2
      go_ret
      exact ⟨ret_i64 (by rw [HI.out]), rfl⟩
end Go.Proofs.Ytmgflcglmakceaa
