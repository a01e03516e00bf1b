/- What the document's days and Civil answer. -/
import Derived.Test.YthinnmfhjikobaaRefCal
import Derived.OwnWalk
namespace Go.Proofs.Ythinnmfhjikobaa
open Go.RowKit

set_option maxHeartbeats 400000 in
theorem refDays (y m : Nat) (w : World) (hy : y ≤ 10000) :
    Calls Try.prog 26 #[.int .i64 (y : Int), .int .i64 (m : Int)] w fun e w' => e = .returned (.int .i64 (dim y m : Int)) ∧ w' = w := by
  by_cases h2 : m = 2
  · subst h2
    have H : Hid (dim y 2 = 28 + lday y) := dim_feb y
    cases hl : leapY y with
    | true =>
      have H2 : Hid (lday y = 1) := by unfold Hid lday; rw [hl]; rfl
      go_enter Try.func26, Try.ntmps26
      go_wp2_with (go_at_call 33; refine (refLeap y _ hy).mono ?_; rintro e w' ⟨rfl, hww⟩; rw [hww, hl]; clear hww w')
      go_ret
      exact ⟨ret_i (by rw [H.out, H2.out]; rfl), rfl⟩
    | false =>
      have H2 : Hid (lday y = 0) := by unfold Hid lday; rw [hl]; rfl
      go_enter Try.func26, Try.ntmps26
      go_wp2_with (go_at_call 33; refine (refLeap y _ hy).mono ?_; rintro e w' ⟨rfl, hww⟩; rw [hww, hl]; clear hww w')
      go_ret
      exact ⟨ret_i (by rw [H.out, H2.out]; rfl), rfl⟩
  · by_cases h30 : m = 4 ∨ m = 6 ∨ m = 9 ∨ m = 11
    · have H : Hid (dim y m = 30) := dim_30 y m h30
      clear h2
      rcases h30 with rfl | rfl | rfl | rfl
      all_goals
        go_enter Try.func26, Try.ntmps26
        go_wp2
        go_ret
        exact ⟨ret_i (by rw [H.out]; rfl), rfl⟩
    · have H : Hid (dim y m = 31) := dim_31 y m (by omega)
      have e2 : ¬ (m : Int) = 2 := by omega
      have e4 : ¬ (m : Int) = 4 := by omega
      have e6 : ¬ (m : Int) = 6 := by omega
      have e9 : ¬ (m : Int) = 9 := by omega
      have e11 : ¬ (m : Int) = 11 := by omega
      clear h2 h30
      go_enter Try.func26, Try.ntmps26
      go_wp2
      go_ret
      exact ⟨ret_i (by rw [H.out]; rfl), rfl⟩

set_option maxHeartbeats 400000 in
theorem refCivil_out (day : Int) (w : World) (h : day < -719162 ∨ 2932896 < day) :
    Calls Try.prog 10 #[.int .i64 day] w fun e w' => e = .returned (.tuple #[.int .i64 0, .int .i64 0, .int .i64 0]) ∧ ∃ q, w' = w.drewN q := by
  by_cases h1 : day < -719162
  · clear h
    go_enter Try.func10, Try.ntmps10
    go_wp2
    go_ret3
    exact ⟨rfl, 0, rfl⟩
  · have h2 : 2932896 < day := by omega
    clear h
    go_enter Try.func10, Try.ntmps10
    go_wp2
    go_ret3
    exact ⟨rfl, 0, rfl⟩

set_option maxHeartbeats 1000000 in
theorem refCivil_in (n y m d : Nat) (w : World) (h : IsDate n y m d) :
    Calls Try.prog 10 #[.int .i64 ((n : Int) - 719162)] w fun e w' => e = .returned (.tuple #[.int .i64 (y : Int), .int .i64 (m : Int), .int .i64 (d : Int)]) ∧ ∃ q, w' = w.drewN q := by
  have hn : n ≤ 3652058 := h.le
  have H : Hid (IsDate n y m d) := h
  have y1 := h.y1
  have y2 := h.y2
  clear h
  go_enter Try.func10, Try.ntmps10
  go_wp2
  go_loopw [6, 7] (fun lo hi w' => ∃ a b q : Nat, 1 ≤ a ∧ a ≤ y ∧ y ≤ b ∧ b ≤ 9999 ∧ lo = .int .i64 (a : Int) ∧ hi = .int .i64 (b : Int) ∧ w' = w.drewN q) (fun lo hi _ => (intOf hi).toNat - (intOf lo).toNat)
  case atStart => exact ⟨1, 9999, 0, by omega, by omega, by omega, by omega, rfl, rfl, rfl⟩
  case round =>
    obtain ⟨a, b, q, a1, a2, b1, b2, rfl, rfl, rfl⟩ := hrel
    by_cases hab : a < b
    · obtain ⟨k, hk⟩ : ∃ k : Nat, k = (a + b + 1) / 2 := ⟨_, rfl⟩
      have hk' : ((a : Int) + (b : Int) + 1) / 2 = (k : Int) := by omega
      have k1 : a < k := by omega
      have k2 : k ≤ b := by omega
      clear hk
      by_cases hle : aheadY k ≤ n
      · have hy : k ≤ y := (year_le H.out (by omega)).1 hle
        go_wp2_with (go_at_call 25; (try rw [hk']); refine (refAhead k _ (by omega) (by omega)).mono ?_; rintro e w' ⟨rfl, hww⟩; rw [hww]; clear hww w')
        go_roundw
        case rel => exact ⟨k, b, _, by omega, by omega, by omega, by omega, by go_num, rfl, rfl⟩
        case measure => simp [intOf]; omega
      · have hy : ¬ k ≤ y := fun e => hle ((year_le H.out (by omega)).2 e)
        go_wp2_with (go_at_call 25; (try rw [hk']); refine (refAhead k _ (by omega) (by omega)).mono ?_; rintro e w' ⟨rfl, hww⟩; rw [hww]; clear hww w')
        go_roundw
        case rel => exact ⟨a, k - 1, _, by omega, by omega, by omega, by omega, rfl, by go_num, rfl⟩
        case measure => simp [intOf]; omega
    · have e1 : a = y := by omega
      subst e1
      have hah : aheadY a ≤ n := H.out.inYear.1
      have hah2 : (n : Int) - (aheadY a : Int) = ((n - aheadY a : Nat) : Int) := by omega
      go_wp2_with (go_at_call 25; refine (refAhead a _ (by omega) (by omega)).mono ?_; rintro e w' ⟨rfl, hww⟩; rw [hww]; clear hww w')
      go_loopw [5, 9] (fun nn mm w' => ∃ k j q : Nat, 1 ≤ j ∧ j ≤ m ∧ k ≤ 366 ∧ Hid (k + cumM a j + aheadY a = n) ∧ nn = .int .i64 (k : Int) ∧ mm = .int .i64 (j : Int) ∧ w' = w.drewN q) (fun nn _ _ => (intOf nn).toNat)
      case atStart => exact ⟨n - aheadY a, 1, _, by omega, H.out.m1, by have := H.out.inYear.2; have := lday_le a; omega, by unfold Hid; rw [cumM_one]; omega, by rw [← hah2], rfl, rfl⟩
      case round =>
        obtain ⟨k, j, q2, j1, j2, k2, he, rfl, rfl, rfl⟩ := hrel
        have hd28 := dim_pos a j
        have hd31 := dim_le a j
        have m2 := H.out.m2
        by_cases hj : j < m
        · have hge : dim a j ≤ k := by
            have h1 := cumM_lt a j m j1 hj
            have h2 := H.out.eq
            have h3 := H.out.d1
            have h4 := he.out
            omega
          have he2 : Hid (k - dim a j + cumM a (j + 1) + aheadY a = n) := by unfold Hid; rw [cumM_succ a j j1]; have := he.out; omega
          clear hah hah2
          go_wp2_with (go_at_call 26; refine (refDays a j _ (by omega)).mono ?_; rintro e w' ⟨rfl, hww⟩; rw [hww]; clear hww w')
          go_roundw
          case rel => exact ⟨k - dim a j, j + 1, _, by omega, by omega, by omega, he2, by go_num, by go_num, rfl⟩
          case measure => simp [intOf]; omega
        · have hjm : j = m := by omega
          subst hjm
          have hlt : k < dim a j := by
            have h2 := H.out.eq
            have h3 := H.out.d2
            have h4 := he.out
            omega
          have hd : Hid (k + 1 = d) := by
            have h2 := H.out.eq
            have h4 := he.out
            unfold Hid
            omega
          clear hah hah2
          go_wp2_with (go_at_call 26; refine (refDays a j _ (by omega)).mono ?_; rintro e w' ⟨rfl, hww⟩; rw [hww]; clear hww w')
          go_ret3
          exact ⟨ret3 rfl rfl (by rw [← hd.out]; omega), _, rfl⟩
end Go.Proofs.Ythinnmfhjikobaa
