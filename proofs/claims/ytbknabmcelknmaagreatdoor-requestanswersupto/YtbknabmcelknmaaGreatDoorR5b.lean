/- request: tokens, methods, values. -/
import Derived.Test.YtbknabmcelknmaaGreatDoorJ6
import Derived.Test.YtbknabmcelknmaaGreatDoorShelf1
namespace Go.Proofs.YtbknabmcelknmaaGreatDoor
open Go.RowKit

set_option maxHeartbeats 1000000 in
theorem codInToken (c : UInt8) (w : World) :
    Calls Tryz.prog 74 #[.int .u8 (c.toNat : Int)] w fun e w' => e = .returned (.bool (tokB c)) ∧ w' = w := by
  have HT : Hid (tokB c = tokN c.toNat) := rfl
  rw [HT.out]
  clear HT
  generalize c.toNat = n
  by_cases c0 : n ≤ 44
  · have HV : Hid (tokN n = false) := by unfold Hid tokN; simp <;> omega
    rw [HV.out]
    clear HV
    have g97 : decide ((97 : Int) ≤ (n : Int)) = false := decide_eq_false (by omega)
    have G97 : ¬ (97 : Int) ≤ (n : Int) := by omega
    have g65 : decide ((65 : Int) ≤ (n : Int)) = false := decide_eq_false (by omega)
    have G65 : ¬ (65 : Int) ≤ (n : Int) := by omega
    have g48 : decide ((48 : Int) ≤ (n : Int)) = false := decide_eq_false (by omega)
    have G48 : ¬ (48 : Int) ≤ (n : Int) := by omega
    have d122 : decide ((n : Int) ≤ 122) = true := decide_eq_true (by omega)
    have D122 : (n : Int) ≤ 122 := by omega
    have d90 : decide ((n : Int) ≤ 90) = true := decide_eq_true (by omega)
    have D90 : (n : Int) ≤ 90 := by omega
    have d57 : decide ((n : Int) ≤ 57) = true := decide_eq_true (by omega)
    have D57 : (n : Int) ≤ 57 := by omega
    have e45 : ((n : Int) == 45) = false := by rw [beq_eq_false_iff_ne]; omega
    have E45 : ¬ (n : Int) = 45 := by omega
    have e95 : ((n : Int) == 95) = false := by rw [beq_eq_false_iff_ne]; omega
    have E95 : ¬ (n : Int) = 95 := by omega
    go_enter Tryz.func74, Tryz.ntmps74
    go_wp2
    go_ret
    exact ⟨by first | rfl | simp [*], rfl⟩
  by_cases c1 : n ≤ 45
  · have HV : Hid (tokN n = true) := by unfold Hid tokN; simp <;> omega
    rw [HV.out]
    clear HV
    have g97 : decide ((97 : Int) ≤ (n : Int)) = false := decide_eq_false (by omega)
    have G97 : ¬ (97 : Int) ≤ (n : Int) := by omega
    have g65 : decide ((65 : Int) ≤ (n : Int)) = false := decide_eq_false (by omega)
    have G65 : ¬ (65 : Int) ≤ (n : Int) := by omega
    have g48 : decide ((48 : Int) ≤ (n : Int)) = false := decide_eq_false (by omega)
    have G48 : ¬ (48 : Int) ≤ (n : Int) := by omega
    have d122 : decide ((n : Int) ≤ 122) = true := decide_eq_true (by omega)
    have D122 : (n : Int) ≤ 122 := by omega
    have d90 : decide ((n : Int) ≤ 90) = true := decide_eq_true (by omega)
    have D90 : (n : Int) ≤ 90 := by omega
    have d57 : decide ((n : Int) ≤ 57) = true := decide_eq_true (by omega)
    have D57 : (n : Int) ≤ 57 := by omega
    have e45 : ((n : Int) == 45) = true := by rw [beq_iff_eq]; omega
    have E45 : (n : Int) = 45 := by omega
    have e95 : ((n : Int) == 95) = false := by rw [beq_eq_false_iff_ne]; omega
    have E95 : ¬ (n : Int) = 95 := by omega
    go_enter Tryz.func74, Tryz.ntmps74
    go_wp2
    go_ret
    exact ⟨by first | rfl | simp [*], rfl⟩
  by_cases c2 : n ≤ 47
  · have HV : Hid (tokN n = false) := by unfold Hid tokN; simp <;> omega
    rw [HV.out]
    clear HV
    have g97 : decide ((97 : Int) ≤ (n : Int)) = false := decide_eq_false (by omega)
    have G97 : ¬ (97 : Int) ≤ (n : Int) := by omega
    have g65 : decide ((65 : Int) ≤ (n : Int)) = false := decide_eq_false (by omega)
    have G65 : ¬ (65 : Int) ≤ (n : Int) := by omega
    have g48 : decide ((48 : Int) ≤ (n : Int)) = false := decide_eq_false (by omega)
    have G48 : ¬ (48 : Int) ≤ (n : Int) := by omega
    have d122 : decide ((n : Int) ≤ 122) = true := decide_eq_true (by omega)
    have D122 : (n : Int) ≤ 122 := by omega
    have d90 : decide ((n : Int) ≤ 90) = true := decide_eq_true (by omega)
    have D90 : (n : Int) ≤ 90 := by omega
    have d57 : decide ((n : Int) ≤ 57) = true := decide_eq_true (by omega)
    have D57 : (n : Int) ≤ 57 := by omega
    have e45 : ((n : Int) == 45) = false := by rw [beq_eq_false_iff_ne]; omega
    have E45 : ¬ (n : Int) = 45 := by omega
    have e95 : ((n : Int) == 95) = false := by rw [beq_eq_false_iff_ne]; omega
    have E95 : ¬ (n : Int) = 95 := by omega
    go_enter Tryz.func74, Tryz.ntmps74
    go_wp2
    go_ret
    exact ⟨by first | rfl | simp [*], rfl⟩
  by_cases c3 : n ≤ 57
  · have HV : Hid (tokN n = true) := by unfold Hid tokN; simp <;> omega
    rw [HV.out]
    clear HV
    have g97 : decide ((97 : Int) ≤ (n : Int)) = false := decide_eq_false (by omega)
    have G97 : ¬ (97 : Int) ≤ (n : Int) := by omega
    have g65 : decide ((65 : Int) ≤ (n : Int)) = false := decide_eq_false (by omega)
    have G65 : ¬ (65 : Int) ≤ (n : Int) := by omega
    have g48 : decide ((48 : Int) ≤ (n : Int)) = true := decide_eq_true (by omega)
    have G48 : (48 : Int) ≤ (n : Int) := by omega
    have d122 : decide ((n : Int) ≤ 122) = true := decide_eq_true (by omega)
    have D122 : (n : Int) ≤ 122 := by omega
    have d90 : decide ((n : Int) ≤ 90) = true := decide_eq_true (by omega)
    have D90 : (n : Int) ≤ 90 := by omega
    have d57 : decide ((n : Int) ≤ 57) = true := decide_eq_true (by omega)
    have D57 : (n : Int) ≤ 57 := by omega
    have e45 : ((n : Int) == 45) = false := by rw [beq_eq_false_iff_ne]; omega
    have E45 : ¬ (n : Int) = 45 := by omega
    have e95 : ((n : Int) == 95) = false := by rw [beq_eq_false_iff_ne]; omega
    have E95 : ¬ (n : Int) = 95 := by omega
    go_enter Tryz.func74, Tryz.ntmps74
    go_wp2
    go_ret
    exact ⟨by first | rfl | simp [*], rfl⟩
  by_cases c4 : n ≤ 64
  · have HV : Hid (tokN n = false) := by unfold Hid tokN; simp <;> omega
    rw [HV.out]
    clear HV
    have g97 : decide ((97 : Int) ≤ (n : Int)) = false := decide_eq_false (by omega)
    have G97 : ¬ (97 : Int) ≤ (n : Int) := by omega
    have g65 : decide ((65 : Int) ≤ (n : Int)) = false := decide_eq_false (by omega)
    have G65 : ¬ (65 : Int) ≤ (n : Int) := by omega
    have g48 : decide ((48 : Int) ≤ (n : Int)) = true := decide_eq_true (by omega)
    have G48 : (48 : Int) ≤ (n : Int) := by omega
    have d122 : decide ((n : Int) ≤ 122) = true := decide_eq_true (by omega)
    have D122 : (n : Int) ≤ 122 := by omega
    have d90 : decide ((n : Int) ≤ 90) = true := decide_eq_true (by omega)
    have D90 : (n : Int) ≤ 90 := by omega
    have d57 : decide ((n : Int) ≤ 57) = false := decide_eq_false (by omega)
    have D57 : ¬ (n : Int) ≤ 57 := by omega
    have e45 : ((n : Int) == 45) = false := by rw [beq_eq_false_iff_ne]; omega
    have E45 : ¬ (n : Int) = 45 := by omega
    have e95 : ((n : Int) == 95) = false := by rw [beq_eq_false_iff_ne]; omega
    have E95 : ¬ (n : Int) = 95 := by omega
    go_enter Tryz.func74, Tryz.ntmps74
    go_wp2
    go_ret
    exact ⟨by first | rfl | simp [*], rfl⟩
  by_cases c5 : n ≤ 90
  · have HV : Hid (tokN n = true) := by unfold Hid tokN; simp <;> omega
    rw [HV.out]
    clear HV
    have g97 : decide ((97 : Int) ≤ (n : Int)) = false := decide_eq_false (by omega)
    have G97 : ¬ (97 : Int) ≤ (n : Int) := by omega
    have g65 : decide ((65 : Int) ≤ (n : Int)) = true := decide_eq_true (by omega)
    have G65 : (65 : Int) ≤ (n : Int) := by omega
    have g48 : decide ((48 : Int) ≤ (n : Int)) = true := decide_eq_true (by omega)
    have G48 : (48 : Int) ≤ (n : Int) := by omega
    have d122 : decide ((n : Int) ≤ 122) = true := decide_eq_true (by omega)
    have D122 : (n : Int) ≤ 122 := by omega
    have d90 : decide ((n : Int) ≤ 90) = true := decide_eq_true (by omega)
    have D90 : (n : Int) ≤ 90 := by omega
    have d57 : decide ((n : Int) ≤ 57) = false := decide_eq_false (by omega)
    have D57 : ¬ (n : Int) ≤ 57 := by omega
    have e45 : ((n : Int) == 45) = false := by rw [beq_eq_false_iff_ne]; omega
    have E45 : ¬ (n : Int) = 45 := by omega
    have e95 : ((n : Int) == 95) = false := by rw [beq_eq_false_iff_ne]; omega
    have E95 : ¬ (n : Int) = 95 := by omega
    go_enter Tryz.func74, Tryz.ntmps74
    go_wp2
    go_ret
    exact ⟨by first | rfl | simp [*], rfl⟩
  by_cases c6 : n ≤ 94
  · have HV : Hid (tokN n = false) := by unfold Hid tokN; simp <;> omega
    rw [HV.out]
    clear HV
    have g97 : decide ((97 : Int) ≤ (n : Int)) = false := decide_eq_false (by omega)
    have G97 : ¬ (97 : Int) ≤ (n : Int) := by omega
    have g65 : decide ((65 : Int) ≤ (n : Int)) = true := decide_eq_true (by omega)
    have G65 : (65 : Int) ≤ (n : Int) := by omega
    have g48 : decide ((48 : Int) ≤ (n : Int)) = true := decide_eq_true (by omega)
    have G48 : (48 : Int) ≤ (n : Int) := by omega
    have d122 : decide ((n : Int) ≤ 122) = true := decide_eq_true (by omega)
    have D122 : (n : Int) ≤ 122 := by omega
    have d90 : decide ((n : Int) ≤ 90) = false := decide_eq_false (by omega)
    have D90 : ¬ (n : Int) ≤ 90 := by omega
    have d57 : decide ((n : Int) ≤ 57) = false := decide_eq_false (by omega)
    have D57 : ¬ (n : Int) ≤ 57 := by omega
    have e45 : ((n : Int) == 45) = false := by rw [beq_eq_false_iff_ne]; omega
    have E45 : ¬ (n : Int) = 45 := by omega
    have e95 : ((n : Int) == 95) = false := by rw [beq_eq_false_iff_ne]; omega
    have E95 : ¬ (n : Int) = 95 := by omega
    go_enter Tryz.func74, Tryz.ntmps74
    go_wp2
    go_ret
    exact ⟨by first | rfl | simp [*], rfl⟩
  by_cases c7 : n ≤ 95
  · have HV : Hid (tokN n = true) := by unfold Hid tokN; simp <;> omega
    rw [HV.out]
    clear HV
    have g97 : decide ((97 : Int) ≤ (n : Int)) = false := decide_eq_false (by omega)
    have G97 : ¬ (97 : Int) ≤ (n : Int) := by omega
    have g65 : decide ((65 : Int) ≤ (n : Int)) = true := decide_eq_true (by omega)
    have G65 : (65 : Int) ≤ (n : Int) := by omega
    have g48 : decide ((48 : Int) ≤ (n : Int)) = true := decide_eq_true (by omega)
    have G48 : (48 : Int) ≤ (n : Int) := by omega
    have d122 : decide ((n : Int) ≤ 122) = true := decide_eq_true (by omega)
    have D122 : (n : Int) ≤ 122 := by omega
    have d90 : decide ((n : Int) ≤ 90) = false := decide_eq_false (by omega)
    have D90 : ¬ (n : Int) ≤ 90 := by omega
    have d57 : decide ((n : Int) ≤ 57) = false := decide_eq_false (by omega)
    have D57 : ¬ (n : Int) ≤ 57 := by omega
    have e45 : ((n : Int) == 45) = false := by rw [beq_eq_false_iff_ne]; omega
    have E45 : ¬ (n : Int) = 45 := by omega
    have e95 : ((n : Int) == 95) = true := by rw [beq_iff_eq]; omega
    have E95 : (n : Int) = 95 := by omega
    go_enter Tryz.func74, Tryz.ntmps74
    go_wp2
    go_ret
    exact ⟨by first | rfl | simp [*], rfl⟩
  by_cases c8 : n ≤ 96
  · have HV : Hid (tokN n = false) := by unfold Hid tokN; simp <;> omega
    rw [HV.out]
    clear HV
    have g97 : decide ((97 : Int) ≤ (n : Int)) = false := decide_eq_false (by omega)
    have G97 : ¬ (97 : Int) ≤ (n : Int) := by omega
    have g65 : decide ((65 : Int) ≤ (n : Int)) = true := decide_eq_true (by omega)
    have G65 : (65 : Int) ≤ (n : Int) := by omega
    have g48 : decide ((48 : Int) ≤ (n : Int)) = true := decide_eq_true (by omega)
    have G48 : (48 : Int) ≤ (n : Int) := by omega
    have d122 : decide ((n : Int) ≤ 122) = true := decide_eq_true (by omega)
    have D122 : (n : Int) ≤ 122 := by omega
    have d90 : decide ((n : Int) ≤ 90) = false := decide_eq_false (by omega)
    have D90 : ¬ (n : Int) ≤ 90 := by omega
    have d57 : decide ((n : Int) ≤ 57) = false := decide_eq_false (by omega)
    have D57 : ¬ (n : Int) ≤ 57 := by omega
    have e45 : ((n : Int) == 45) = false := by rw [beq_eq_false_iff_ne]; omega
    have E45 : ¬ (n : Int) = 45 := by omega
    have e95 : ((n : Int) == 95) = false := by rw [beq_eq_false_iff_ne]; omega
    have E95 : ¬ (n : Int) = 95 := by omega
    go_enter Tryz.func74, Tryz.ntmps74
    go_wp2
    go_ret
    exact ⟨by first | rfl | simp [*], rfl⟩
  by_cases c9 : n ≤ 122
  · have HV : Hid (tokN n = true) := by unfold Hid tokN; simp <;> omega
    rw [HV.out]
    clear HV
    have g97 : decide ((97 : Int) ≤ (n : Int)) = true := decide_eq_true (by omega)
    have G97 : (97 : Int) ≤ (n : Int) := by omega
    have g65 : decide ((65 : Int) ≤ (n : Int)) = true := decide_eq_true (by omega)
    have G65 : (65 : Int) ≤ (n : Int) := by omega
    have g48 : decide ((48 : Int) ≤ (n : Int)) = true := decide_eq_true (by omega)
    have G48 : (48 : Int) ≤ (n : Int) := by omega
    have d122 : decide ((n : Int) ≤ 122) = true := decide_eq_true (by omega)
    have D122 : (n : Int) ≤ 122 := by omega
    have d90 : decide ((n : Int) ≤ 90) = false := decide_eq_false (by omega)
    have D90 : ¬ (n : Int) ≤ 90 := by omega
    have d57 : decide ((n : Int) ≤ 57) = false := decide_eq_false (by omega)
    have D57 : ¬ (n : Int) ≤ 57 := by omega
    have e45 : ((n : Int) == 45) = false := by rw [beq_eq_false_iff_ne]; omega
    have E45 : ¬ (n : Int) = 45 := by omega
    have e95 : ((n : Int) == 95) = false := by rw [beq_eq_false_iff_ne]; omega
    have E95 : ¬ (n : Int) = 95 := by omega
    go_enter Tryz.func74, Tryz.ntmps74
    go_wp2
    go_ret
    exact ⟨by first | rfl | simp [*], rfl⟩
  have HV : Hid (tokN n = false) := by unfold Hid tokN; simp <;> omega
  rw [HV.out]
  clear HV
  have g97 : decide ((97 : Int) ≤ (n : Int)) = true := decide_eq_true (by omega)
  have G97 : (97 : Int) ≤ (n : Int) := by omega
  have g65 : decide ((65 : Int) ≤ (n : Int)) = true := decide_eq_true (by omega)
  have G65 : (65 : Int) ≤ (n : Int) := by omega
  have g48 : decide ((48 : Int) ≤ (n : Int)) = true := decide_eq_true (by omega)
  have G48 : (48 : Int) ≤ (n : Int) := by omega
  have d122 : decide ((n : Int) ≤ 122) = false := decide_eq_false (by omega)
  have D122 : ¬ (n : Int) ≤ 122 := by omega
  have d90 : decide ((n : Int) ≤ 90) = false := decide_eq_false (by omega)
  have D90 : ¬ (n : Int) ≤ 90 := by omega
  have d57 : decide ((n : Int) ≤ 57) = false := decide_eq_false (by omega)
  have D57 : ¬ (n : Int) ≤ 57 := by omega
  have e45 : ((n : Int) == 45) = false := by rw [beq_eq_false_iff_ne]; omega
  have E45 : ¬ (n : Int) = 45 := by omega
  have e95 : ((n : Int) == 95) = false := by rw [beq_eq_false_iff_ne]; omega
  have E95 : ¬ (n : Int) = 95 := by omega
  go_enter Tryz.func74, Tryz.ntmps74
  go_wp2
  go_ret
  exact ⟨by first | rfl | simp [*], rfl⟩

set_option maxHeartbeats 1000000 in
theorem codToken (l : List UInt8) (w : World) (hl : l.length ≤ 140737488351232) :
    Calls Tryz.prog 57 #[.string (str l)] w fun e w' => e = .returned (.bool (tokenL l)) ∧ w' = w := by
  have HZ : Hid ((str l).size = l.length) := str_size l
  have HS : Hid ((str l).data.toList = l) := str_list l
  generalize str l = s at *
  have hsz : s.size ≤ 140737488351232 := by rw [HZ.out]; exact hl
  go_enter Tryz.func57, Tryz.ntmps57
  go_wp2_with (fail)
  go_loopw [6] (fun i wr => ∃ (k : Nat), k ≤ s.size ∧ i = .int .i64 k ∧ Hid ((l.take k).all tokB = true) ∧ wr = w) (fun i _ => s.size - (intOf i).toNat)
  case atStart => exact ⟨0, Nat.zero_le _, rfl, rfl, rfl⟩
  case round =>
    obtain ⟨k, hk, rfl, HD, rfl⟩ := hrel
    by_cases hlt : k < s.size
    · have hb0 : (0 : Int) ≤ (k : Int) := by omega
      have hb1 : (k : Int) < (s.size : Int) := by omega
      have hkl : k < l.length := by rw [← HZ.out]; exact hlt
      have hcn : nth l k = sb s (k : Int) := by unfold sb; rw [HS.out]; rfl
      have hx0 := ixs s (k : Int) hb0 hb1
      have HT : Hid (tokB (nth l k) = true → (l.take (k + 1)).all tokB = true) := fun h => all_take hkl HD.out h
      have HF : Hid (tokB (nth l k) = false → tokenL l = false) := fun h => by unfold tokenL; rw [all_nth hkl h]; rfl
      rw [hcn] at HT HF
      generalize sb s (k : Int) = c at *
      have HC := fun w => codInToken c w
      clear hkl hcn HD
      generalize tokB c = b at *
      cases b
      · have HR : Hid (tokenL l = false) := HF.out rfl
        clear HT HF
        go_wp2_with (go_at_call 74; refine (HC _).mono ?_; rintro e w' ⟨rfl, hww⟩; rw [hww]; clear hww w')
        go_ret
        exact ⟨ret_b HR.out.symm, by first | rfl | trivial⟩
      · have HR : Hid ((l.take (k + 1)).all tokB = true) := HT.out rfl
        clear HT HF
        go_wp2_with (go_at_call 74; refine (HC _).mono ?_; rintro e w' ⟨rfl, hww⟩; rw [hww]; clear hww w')
        go_roundw
        case rel => exact ⟨k + 1, by omega, by go_num, HR, by first | rfl | trivial⟩
        case measure => simp [intOf]; omega
    · have hge : ¬ (k : Int) < (s.size : Int) := by omega
      have HR : Hid (tokenL l = decide (1 ≤ s.size ∧ s.size ≤ 64)) := by
        have := HD.out
        rw [List.take_of_length_le (by rw [← HZ.out]; omega)] at this
        unfold Hid tokenL; rw [this, HZ.out]; rfl
      by_cases h1 : 1 ≤ s.size
      · by_cases h2 : s.size ≤ 64
        · have h1' : (1 : Int) ≤ (s.size : Int) := by omega
          have h2' : (s.size : Int) ≤ 64 := by omega
          have HV : Hid (tokenL l = true) := by unfold Hid; rw [HR.out]; exact decide_eq_true ⟨h1, h2⟩
          go_wp2
          go_ret
          exact ⟨ret_b HV.out.symm, by first | rfl | trivial⟩
        · have h1' : (1 : Int) ≤ (s.size : Int) := by omega
          have h2' : ¬ (s.size : Int) ≤ 64 := by omega
          have HV : Hid (tokenL l = false) := by unfold Hid; rw [HR.out]; exact decide_eq_false (fun h => h2 h.2)
          go_wp2
          go_ret
          exact ⟨ret_b HV.out.symm, by first | rfl | trivial⟩
      · have h1' : ¬ (1 : Int) ≤ (s.size : Int) := by omega
        have HV : Hid (tokenL l = false) := by unfold Hid; rw [HR.out]; exact decide_eq_false (fun h => h1 h.1)
        go_wp2
        go_ret
        exact ⟨ret_b HV.out.symm, by first | rfl | trivial⟩

theorem beq_dec (l m : List UInt8) : (l == m) = decide (l = m) := by by_cases h : l = m <;> simp [h]
theorem beq_no {l m : List UInt8} (h : ¬ l = m) : ((str l).toList == m) = false := by rw [str_toList, beq_eq_false_iff_ne]; exact h
theorem beq_no2 {l m : List UInt8} (h : ¬ l = m) : ((str l).toList == (ByteArray.mk m.toArray).toList) = false := by
  have := str_beq l m
  unfold str at this ⊢
  rw [this, beq_eq_false_iff_ne]; exact h

set_option maxHeartbeats 1000000 in
theorem codMethod (l : List UInt8) (w : World) :
    Calls Tryz.prog 54 #[.string (str l)] w fun e w' => e = .returned (.bool (methodL l)) ∧ w' = w := by
  by_cases h : l = [71, 69, 84] ∨ l = [80, 85, 84] ∨ l = [80, 79, 83, 84] ∨ l = [68, 69, 76, 69, 84, 69] ∨ l = [72, 69, 65, 68]
  · have HR : Hid (methodL l = true) := decide_eq_true h
    have key : ∀ s : ByteArray, s = str l → Calls Tryz.prog 54 #[.string s] w fun e w' => e = .returned (.bool true) ∧ w' = w := by
      intro s hs
      rcases h with rfl | rfl | rfl | rfl | rfl
      all_goals
        unfold str at hs
        subst hs
        go_enter Tryz.func54, Tryz.ntmps54
        go_wp2
        go_ret
        exact ⟨rfl, rfl⟩
    rw [HR.out]
    exact key _ rfl
  · have HR : Hid (methodL l = false) := decide_eq_false h
    have n1 : ¬ l = [71, 69, 84] := fun e => h (.inl e)
    have n2 : ¬ l = [80, 85, 84] := fun e => h (.inr (.inl e))
    have n3 : ¬ l = [80, 79, 83, 84] := fun e => h (.inr (.inr (.inl e)))
    have n4 : ¬ l = [68, 69, 76, 69, 84, 69] := fun e => h (.inr (.inr (.inr (.inl e))))
    have n5 : ¬ l = [72, 69, 65, 68] := fun e => h (.inr (.inr (.inr (.inr e))))
    have b1 := beq_no n1
    have b2 := beq_no n2
    have b3 := beq_no n3
    have b4 := beq_no n4
    have b5 := beq_no n5
    have c1 := beq_no2 n1
    have c2 := beq_no2 n2
    have c3 := beq_no2 n3
    have c4 := beq_no2 n4
    have c5 := beq_no2 n5
    clear h n1 n2 n3 n4 n5
    rw [HR.out]
    clear HR
    generalize str l = s at *
    go_enter Tryz.func54, Tryz.ntmps54
    go_wp2
    go_ret
    exact ⟨rfl, rfl⟩

/-- as the code trims; what it takes for a value -/
def trimC (l : List UInt8) : List UInt8 := Lib.trimB l 32
def valC (l : List UInt8) : Bool := decide (l.length ≤ 1024) && l.all (betwB 32 126) && decide (l = trimC l)
theorem trimC_len (l : List UInt8) : (trimC l).length ≤ l.length := by
  unfold trimC Lib.trimB Lib.trimLeftB Lib.trimRightB
  refine Nat.le_trans (List.Sublist.length_le (List.dropWhile_sublist _)) ?_
  rw [List.length_reverse]
  refine Nat.le_trans (List.Sublist.length_le (List.dropWhile_sublist _)) ?_
  rw [List.length_reverse]
  exact Nat.le_refl _

theorem codTrim (l : List UInt8) (w : World) (hl : l.length ≤ 140737488351232) :
    Calls Tryz.prog 81 #[.string (str l), .string ⟨#[32]⟩] w fun e w' => e = .returned (.string (str (trimC l))) ∧ Below w.heap.size w w' := by
  refine (Tryz.strings_Trim_one (str l) 32 (by decide) w (by rw [str_size]; omega)).mono ?_
  rintro e w' ⟨rfl, hw⟩
  rw [str_list]
  refine ⟨rfl, ?_⟩
  rcases hw with rfl | rfl
  · exact Below.refl _ _
  · exact (Below.refl _ _).drew

set_option maxHeartbeats 1000000 in
theorem codValue (l : List UInt8) (w : World) (hl : l.length ≤ 140737488351232) :
    Calls Tryz.prog 59 #[.string (str l)] w fun e w' => e = .returned (.bool (valC l)) ∧ Below w.heap.size w w' := by
  have HC := fun w => codWithin l 32 126 w hl
  have HT := fun w => codTrim l w hl
  have HZ : (str l).size = l.length := str_size l
  have HB : Hid (valC l = (decide (l.length ≤ 1024) && l.all (betwB 32 126) && decide (l = trimC l))) := rfl
  have HQ : ((str l).toList == (str (trimC l)).toList) = decide (l = trimC l) := by rw [str_beq, beq_dec]
  generalize l.all (betwB 32 126) = b at *
  generalize decide (l = trimC l) = d at *
  by_cases h : l.length ≤ 1024
  · have h' : ((str l).size : Int) ≤ 1024 := by omega
    have HV : Hid (valC l = (b && d)) := by unfold Hid; rw [HB.out, decide_eq_true h, Bool.true_and]
    rw [HV.out]
    clear HB HV h HZ hl
    generalize str l = s at *
    generalize str (trimC l) = t at *
    cases b
    · go_enter Tryz.func59, Tryz.ntmps59
      go_wp2_with (first | (go_at_call 73; refine (HC _).mono ?_; rintro e w' ⟨rfl, hww⟩; rw [hww]; clear hww w') | (go_at_call 81; refine (HT _).mono ?_; rintro e w1 ⟨rfl, hb⟩))
      go_ret
      exact ⟨rfl, Below.refl _ _⟩
    · go_enter Tryz.func59, Tryz.ntmps59
      go_wp2_with (first | (go_at_call 73; refine (HC _).mono ?_; rintro e w' ⟨rfl, hww⟩; rw [hww]; clear hww w') | (go_at_call 81; refine (HT _).mono ?_; rintro e w1 ⟨rfl, hb⟩))
      go_ret
      exact ⟨by first | rfl | simp [HQ], hb⟩
  · have h' : ¬ ((str l).size : Int) ≤ 1024 := by omega
    have HV : Hid (valC l = false) := by unfold Hid; rw [HB.out, decide_eq_false h]; rfl
    rw [HV.out]
    clear HB HV h HZ hl
    generalize str l = s at *
    generalize str (trimC l) = t at *
    go_enter Tryz.func59, Tryz.ntmps59
    go_wp2_with (first | (go_at_call 73; refine (HC _).mono ?_; rintro e w' ⟨rfl, hww⟩; rw [hww]; clear hww w') | (go_at_call 81; refine (HT _).mono ?_; rintro e w1 ⟨rfl, hb⟩))
    go_ret
    exact ⟨rfl, Below.refl _ _⟩
end Go.Proofs.YtbknabmcelknmaaGreatDoor
