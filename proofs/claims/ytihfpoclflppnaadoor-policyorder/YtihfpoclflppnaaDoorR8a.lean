/- steleref08.word. -/
import Derived.Test.YtihfpoclflppnaaDoorPol1
import Derived.Test.YtihfpoclflppnaaDoorB9
namespace Go.Proofs.YtihfpoclflppnaaDoor
open Go.RowKit

def wordN (n : Nat) : Bool := decide (33 ≤ n ∧ n ≤ 126 ∧ n ≠ 59)

set_option maxRecDepth 20000 in
set_option maxHeartbeats 4000000 in
theorem refWord8 (l : List UInt8) (w : World) (hl : l.length ≤ 140737488351232) :
    Calls Tryd.prog 27 #[.string (str l)] w fun e w' => e = .returned (.bool (wordL l)) ∧ w' = w := by
  have HZ : Hid ((str l).size = l.length) := str_size l
  have HS : Hid ((str l).data.toList = l) := str_list l
  generalize str l = s at *
  have hsz : s.size ≤ 140737488351232 := by rw [HZ.out]; exact hl
  go_enter Tryd.func27, Tryd.ntmps27
  go_wp2
  go_loopw [3] (fun i wr => ∃ (k : Nat), k ≤ s.size ∧ i = .int .i64 k ∧ Hid ((l.take k).all wordC = true) ∧ wr = w) (fun i _ => s.size - (intOf i).toNat)
  case atStart => exact ⟨0, Nat.zero_le _, rfl, rfl, rfl⟩
  case round =>
    obtain ⟨k, hk, rfl, HD, rfl⟩ := hrel
    by_cases hlt : k < s.size
    · have hb0 : (0 : Int) ≤ (k : Int) := by omega
      have hb1 : (k : Int) < (s.size : Int) := by omega
      have hkl : k < l.length := by rw [← HZ.out]; exact hlt
      have hcn : nth l k = sb s (k : Int) := by unfold sb; rw [HS.out]; rfl
      have hx0 := ixs s (k : Int) hb0 hb1
      have HT : Hid (wordC (nth l k) = true → (l.take (k + 1)).all wordC = true) := fun h => all_take hkl HD.out h
      have HF : Hid (wordC (nth l k) = false → wordL l = false) := fun h => by unfold wordL; rw [all_nth hkl h]; rfl
      rw [hcn] at HT HF
      generalize sb s (k : Int) = c at *
      clear hkl hcn HD
      have HTN : Hid (wordN c.toNat = true → (l.take (k + 1)).all wordC = true) := HT.out
      have HFN : Hid (wordN c.toNat = false → wordL l = false) := HF.out
      have h256 := c.toNat_lt
      clear HT HF
      generalize c.toNat = n at *
      by_cases c0 : n ≤ 32
      · have i1 : (0 : Int) ≤ (n : Int) := by omega
        have i2 : (n : Int) ≤ 32 := by omega
        have e59 : ((n : Int) == 59) = false := by rw [beq_eq_false_iff_ne]; omega
        have f59 : ¬ (n : Int) = 59 := by omega
        have d33 : decide ((n : Int) < 33) = true := decide_eq_true (by omega)
        have d126 : decide ((126 : Int) < (n : Int)) = false := decide_eq_false (by omega)
        have HR : Hid (wordL l = false) := HFN.out (by unfold wordN; exact decide_eq_false (by omega))
        clear HTN HFN
        go_wp2
        go_ret
        exact ⟨ret_b HR.out.symm, by first | rfl | trivial⟩
      by_cases c1 : n ≤ 58
      · have i1 : (33 : Int) ≤ (n : Int) := by omega
        have i2 : (n : Int) ≤ 58 := by omega
        have e59 : ((n : Int) == 59) = false := by rw [beq_eq_false_iff_ne]; omega
        have f59 : ¬ (n : Int) = 59 := by omega
        have d33 : decide ((n : Int) < 33) = false := decide_eq_false (by omega)
        have d126 : decide ((126 : Int) < (n : Int)) = false := decide_eq_false (by omega)
        have HR : Hid ((l.take (k + 1)).all wordC = true) := HTN.out (by unfold wordN; exact decide_eq_true (by omega))
        clear HTN HFN
        go_wp2
        go_roundw
        case rel => exact ⟨k + 1, by omega, by go_num, HR, by first | rfl | trivial⟩
        case measure => simp [intOf]; omega
      by_cases c2 : n = 59
      · subst c2
        have HR : Hid (wordL l = false) := HFN.out (by unfold wordN; exact decide_eq_false (by omega))
        clear HTN HFN
        go_wp2
        go_ret
        exact ⟨ret_b HR.out.symm, by first | rfl | trivial⟩
      by_cases c3 : n ≤ 126
      · have i1 : (60 : Int) ≤ (n : Int) := by omega
        have i2 : (n : Int) ≤ 126 := by omega
        have e59 : ((n : Int) == 59) = false := by rw [beq_eq_false_iff_ne]; omega
        have f59 : ¬ (n : Int) = 59 := by omega
        have d33 : decide ((n : Int) < 33) = false := decide_eq_false (by omega)
        have d126 : decide ((126 : Int) < (n : Int)) = false := decide_eq_false (by omega)
        have HR : Hid ((l.take (k + 1)).all wordC = true) := HTN.out (by unfold wordN; exact decide_eq_true (by omega))
        clear HTN HFN
        go_wp2
        go_roundw
        case rel => exact ⟨k + 1, by omega, by go_num, HR, by first | rfl | trivial⟩
        case measure => simp [intOf]; omega
      have i1 : (127 : Int) ≤ (n : Int) := by omega
      have e59 : ((n : Int) == 59) = false := by rw [beq_eq_false_iff_ne]; omega
      have f59 : ¬ (n : Int) = 59 := by omega
      have d33 : decide ((n : Int) < 33) = false := decide_eq_false (by omega)
      have d126 : decide ((126 : Int) < (n : Int)) = true := decide_eq_true (by omega)
      have HR : Hid (wordL l = false) := HFN.out (by unfold wordN; exact decide_eq_false (by omega))
      clear HTN HFN
      go_wp2
      go_ret
      exact ⟨ret_b HR.out.symm, by first | rfl | trivial⟩
    · have hge : ¬ (k : Int) < (s.size : Int) := by omega
      have HR : Hid (wordL l = decide (1 ≤ s.size ∧ s.size ≤ 64)) := by
        have := HD.out
        rw [List.take_of_length_le (by rw [← HZ.out]; omega)] at this
        unfold Hid wordL; rw [this, HZ.out]; rfl
      by_cases h1 : 1 ≤ s.size
      · by_cases h2 : s.size ≤ 64
        · have h1' : (1 : Int) ≤ (s.size : Int) := by omega
          have h2' : (s.size : Int) ≤ 64 := by omega
          have HV : Hid (wordL l = true) := by unfold Hid; rw [HR.out]; exact decide_eq_true ⟨h1, h2⟩
          go_wp2
          go_ret
          exact ⟨ret_b HV.out.symm, by first | rfl | trivial⟩
        · have h1' : (1 : Int) ≤ (s.size : Int) := by omega
          have h2' : ¬ (s.size : Int) ≤ 64 := by omega
          have HV : Hid (wordL l = false) := by unfold Hid; rw [HR.out]; exact decide_eq_false (fun h => h2 h.2)
          go_wp2
          go_ret
          exact ⟨ret_b HV.out.symm, by first | rfl | trivial⟩
      · have h1' : ¬ (1 : Int) ≤ (s.size : Int) := by omega
        have HV : Hid (wordL l = false) := by unfold Hid; rw [HR.out]; exact decide_eq_false (fun h => h1 h.1)
        go_wp2
        go_ret
        exact ⟨ret_b HV.out.symm, by first | rfl | trivial⟩
end Go.Proofs.YtihfpoclflppnaaDoor
