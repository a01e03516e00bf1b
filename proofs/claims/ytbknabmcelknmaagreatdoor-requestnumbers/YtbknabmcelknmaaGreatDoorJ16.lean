/- A text of bytes that the call owns. What uri.digit answers. -/
import Derived.Test.YtbknabmcelknmaaGreatDoorOwnS
import Derived.Laws.IdiomStrings
import Derived.Test.YtbknabmcelknmaaGreatDoorUri0
import Derived.Test.YtbknabmcelknmaaGreatDoorJ8
namespace Go.Proofs.YtbknabmcelknmaaGreatDoor
open Go.RowKit

theorem conv_own (w : World) (base : Nat) (v : Value) (l : List UInt8) (h : OwnB w base v l) : (convert 22 9 v).run Tryz.prog w = .ok (.string ⟨l.toArray⟩) w := by
  obtain ⟨a, cap, rfl, hb⟩ := h.isB
  by_cases hl : 0 < l.length
  · obtain ⟨b, off, rfl, hc⟩ := hb.cells hl
    refine run_convert_bytes_back w 22 9 5 ⟨b, off, none⟩ cap l Tryz.underlying22 Tryz.underlying5 Tryz.underlying9 fun j hj => ?_
    rw [Addr.add_lit, hc j hj, nth_eq l j hj]
  · have : l = [] := List.eq_nil_of_length_eq_zero (by omega)
    subst this
    cases a with
    | none => exact run_convert_bytes_nil w 22 5 Tryz.underlying22 Tryz.underlying5 _ _ _ Tryz.underlying9
    | some x => exact run_convert_bytes_back w 22 9 5 x cap [] Tryz.underlying22 Tryz.underlying5 Tryz.underlying9 fun j hj => absurd hj (Nat.not_lt_zero _)

theorem ret_str {a b : List UInt8} (h : a = b) : Ending.returned (.string ⟨a.toArray⟩) = .returned (.string ⟨b.toArray⟩) := by rw [h]

end Go.Proofs.YtbknabmcelknmaaGreatDoor
namespace Go.Proofs.YtbknabmcelknmaaGreatDoor
open Go.RowKit
attribute [local go_sem ↓] ixs

/-- the number of a digit, or nought -/
def digV (c : UInt8) : Nat := if digB c < 16 then digB c else 0
def digK (c : UInt8) : Bool := decide (digB c < 16)
theorem digV_lt (c : UInt8) : digV c < 16 := by unfold digV; split <;> omega
theorem digV_yes {c : UInt8} (h : digB c < 16) : digV c = digB c := by unfold digV; rw [if_pos h]
theorem ret_dk {c : UInt8} {n : Nat} {v : Int} {b : Bool} (H : digB c = digN n) (hv : digN n < 16 → v = (digN n : Int)) (hz : ¬ digN n < 16 → v = 0) (hb : b = decide (digN n < 16)) :
    Ending.returned (.tuple #[.int .u8 v, .bool b]) = .returned (.tuple #[.int .u8 (digV c : Int), .bool (digK c)]) := by
  have e1 : v = (digV c : Int) := by
    unfold digV; rw [H]
    by_cases h : digN n < 16
    · rw [if_pos h, hv h]
    · rw [if_neg h, hz h]; rfl
  have e2 : b = digK c := by unfold digK; rw [H, hb]
  rw [e1, e2]

set_option maxHeartbeats 1000000 in
theorem codDigit (c : UInt8) (w : World) :
    Calls Tryz.prog 143 #[.int .u8 (c.toNat : Int)] w fun e w' => e = .returned (.tuple #[.int .u8 (digV c : Int), .bool (digK c)]) ∧ w' = w := by
  obtain ⟨n, hn⟩ : ∃ n, n = c.toNat := ⟨_, rfl⟩
  have H : Hid (digB c = digN n) := by unfold Hid digB; rw [hn]
  have h256 : n < 256 := by rw [hn]; exact c.toNat_lt
  rw [← hn]
  clear hn
  by_cases c1 : n < 48
  · have i1 : (n : Int) < 48 := by omega
    have D : Hid (digN n = 16) := by unfold Hid digN; rw [if_neg (by omega), if_neg (by omega), if_neg (by omega)]
    go_enter Tryz.func143, Tryz.ntmps143
    go_wp2
    go_ret2
    exact ⟨ret_dk H.out (fun h => absurd h (by rw [D.out]; omega)) (fun _ => rfl) (by rw [D.out]; rfl), rfl⟩
  by_cases c2 : n ≤ 57
  · have i1 : (48 : Int) ≤ (n : Int) := by omega
    have i2 : (n : Int) ≤ 57 := by omega
    obtain ⟨m, hm⟩ : ∃ m : Nat, m = n - 48 := ⟨_, rfl⟩
    have hw : IntKind.u8.wrap ((n : Int) - 48) = (m : Int) := by rw [← wrap8_nat m (by omega)]; congr 1; omega
    have D : Hid (digN n = m) := by unfold Hid digN; rw [if_pos (by omega)]; omega
    have HR : Hid (m < 16) := by unfold Hid; omega
    clear hm
    go_enter Tryz.func143, Tryz.ntmps143
    go_wp2
    go_ret2
    exact ⟨ret_dk H.out (fun _ => by rw [D.out]) (fun h => absurd (by rw [D.out]; exact HR.out) h) (by rw [D.out]; simp [HR.out]), rfl⟩
  by_cases c3 : n < 65
  · have i1 : (57 : Int) < (n : Int) := by omega
    have i2 : (n : Int) < 65 := by omega
    have D : Hid (digN n = 16) := by unfold Hid digN; rw [if_neg (by omega), if_neg (by omega), if_neg (by omega)]
    go_enter Tryz.func143, Tryz.ntmps143
    go_wp2
    go_ret2
    exact ⟨ret_dk H.out (fun h => absurd h (by rw [D.out]; omega)) (fun _ => rfl) (by rw [D.out]; rfl), rfl⟩
  by_cases c4 : n ≤ 70
  · have i1 : (65 : Int) ≤ (n : Int) := by omega
    have i2 : (n : Int) ≤ 70 := by omega
    obtain ⟨m, hm⟩ : ∃ m : Nat, m = n - 65 := ⟨_, rfl⟩
    have hw : IntKind.u8.wrap ((n : Int) - 65) = (m : Int) := by rw [← wrap8_nat m (by omega)]; congr 1; omega
    obtain ⟨q, hq⟩ : ∃ q : Nat, q = m + 10 := ⟨_, rfl⟩
    have hw2 : IntKind.u8.wrap ((m : Int) + 10) = (q : Int) := by rw [← wrap8_nat q (by omega)]; congr 1; omega
    have D : Hid (digN n = q) := by unfold Hid digN; rw [if_neg (by omega), if_neg (by omega), if_pos (by omega)]; omega
    have HR : Hid (q < 16) := by unfold Hid; omega
    clear hm hq
    go_enter Tryz.func143, Tryz.ntmps143
    go_wp2
    go_ret2
    exact ⟨ret_dk H.out (fun _ => by rw [D.out]) (fun h => absurd (by rw [D.out]; exact HR.out) h) (by rw [D.out]; simp [HR.out]), rfl⟩
  by_cases c5 : n < 97
  · have i1 : (70 : Int) < (n : Int) := by omega
    have i2 : (n : Int) < 97 := by omega
    have D : Hid (digN n = 16) := by unfold Hid digN; rw [if_neg (by omega), if_neg (by omega), if_neg (by omega)]
    go_enter Tryz.func143, Tryz.ntmps143
    go_wp2
    go_ret2
    exact ⟨ret_dk H.out (fun h => absurd h (by rw [D.out]; omega)) (fun _ => rfl) (by rw [D.out]; rfl), rfl⟩
  by_cases c6 : n ≤ 102
  · have i1 : (97 : Int) ≤ (n : Int) := by omega
    have i2 : (n : Int) ≤ 102 := by omega
    obtain ⟨m, hm⟩ : ∃ m : Nat, m = n - 97 := ⟨_, rfl⟩
    have hw : IntKind.u8.wrap ((n : Int) - 97) = (m : Int) := by rw [← wrap8_nat m (by omega)]; congr 1; omega
    obtain ⟨q, hq⟩ : ∃ q : Nat, q = m + 10 := ⟨_, rfl⟩
    have hw2 : IntKind.u8.wrap ((m : Int) + 10) = (q : Int) := by rw [← wrap8_nat q (by omega)]; congr 1; omega
    have D : Hid (digN n = q) := by unfold Hid digN; rw [if_neg (by omega), if_pos (by omega)]; omega
    have HR : Hid (q < 16) := by unfold Hid; omega
    clear hm hq
    go_enter Tryz.func143, Tryz.ntmps143
    go_wp2
    go_ret2
    exact ⟨ret_dk H.out (fun _ => by rw [D.out]) (fun h => absurd (by rw [D.out]; exact HR.out) h) (by rw [D.out]; simp [HR.out]), rfl⟩
  have i1 : (102 : Int) < (n : Int) := by omega
  have D : Hid (digN n = 16) := by unfold Hid digN; rw [if_neg (by omega), if_neg (by omega), if_neg (by omega)]
  go_enter Tryz.func143, Tryz.ntmps143
  go_wp2
  go_ret2
  exact ⟨ret_dk H.out (fun h => absurd h (by rw [D.out]; omega)) (fun _ => rfl) (by rw [D.out]; rfl), rfl⟩
end Go.Proofs.YtbknabmcelknmaaGreatDoor
