/- What the document's Day answers. -/
import Derived.Test.YthinnmfhjikobaaRefCiv
namespace Go.Proofs.Ythinnmfhjikobaa
open Go.RowKit

set_option maxHeartbeats 1000000 in
theorem refDay_out (y m d : Int) (w : World) (h : NoDate y m d) :
    Calls Try.prog 12 #[.int .i64 y, .int .i64 m, .int .i64 d] w fun e w' => e = .returned (.tuple #[.int .i64 0, .int .i64 6]) ∧ ∃ q, w' = w.drewN q := by
  have H : Hid (NoDate y m d) := h
  clear h
  by_cases c1 : y < 1
  · go_enter Try.func12, Try.ntmps12
    go_wp2
    go_ret2
    exact ⟨rfl, 0, rfl⟩
  by_cases c2 : 9999 < y
  · go_enter Try.func12, Try.ntmps12
    go_wp2
    go_ret2
    exact ⟨rfl, 0, rfl⟩
  by_cases c3 : m < 1
  · go_enter Try.func12, Try.ntmps12
    go_wp2
    go_ret2
    exact ⟨rfl, 0, rfl⟩
  by_cases c4 : 12 < m
  · go_enter Try.func12, Try.ntmps12
    go_wp2
    go_ret2
    exact ⟨rfl, 0, rfl⟩
  by_cases c5 : d < 1
  · go_enter Try.func12, Try.ntmps12
    go_wp2
    go_ret2
    exact ⟨rfl, 0, rfl⟩
  obtain ⟨Y, rfl⟩ : ∃ Y : Nat, y = Y := ⟨y.toNat, by omega⟩
  obtain ⟨M, rfl⟩ : ∃ M : Nat, m = M := ⟨m.toNat, by omega⟩
  have c6 : (dim Y M : Int) < d := by
    have := H.out
    unfold NoDate at this
    rw [Int.toNat_natCast, Int.toNat_natCast] at this
    omega
  go_enter Try.func12, Try.ntmps12
  go_wp2_with (go_at_call 26; refine (refDays Y M _ (by omega)).mono ?_; rintro e w' ⟨rfl, hww⟩; rw [hww]; clear hww w')
  go_ret2
  exact ⟨rfl, 0, rfl⟩

set_option maxHeartbeats 1000000 in
theorem refDay_in (n y m d : Nat) (w : World) (h : IsDate n y m d) :
    Calls Try.prog 12 #[.int .i64 (y : Int), .int .i64 (m : Int), .int .i64 (d : Int)] w fun e w' => e = .returned (.tuple #[.int .i64 ((n : Int) - 719162), .int .i64 0]) ∧ ∃ q, w' = w.drewN q := by
  have H : Hid (IsDate n y m d) := h
  have y1 := h.y1
  have y2 := h.y2
  have m1 := h.m1
  have m2 := h.m2
  have d1 := h.d1
  have d2 := h.d2
  have d3 := dim_le y m
  have a1 : aheadY y ≤ 3652058 := by have := h.inYear.1; have := h.le; omega
  clear h
  go_enter Try.func12, Try.ntmps12
  go_wp2_with (first | (go_at_call 26; refine (refDays y m _ (by omega)).mono ?_; rintro e w' ⟨rfl, hww⟩; rw [hww]; clear hww w') | (go_at_call 25; refine (refAhead y _ (by omega) (by omega)).mono ?_; rintro e w' ⟨rfl, hww⟩; rw [hww]; clear hww w'))
  go_loopw [8, 9] (fun nn kk w' => ∃ k q : Nat, 1 ≤ k ∧ k ≤ m ∧ cumM y k ≤ 366 ∧ nn = .int .i64 ((aheadY y + cumM y k : Nat) - 719162 : Int) ∧ kk = .int .i64 (k : Int) ∧ w' = w.drewN q) (fun _ kk _ => m - (intOf kk).toNat)
  case atStart => exact ⟨1, 0, by omega, by omega, by rw [cumM_one]; omega, by rw [cumM_one]; go_num, rfl, rfl⟩
  case round =>
    obtain ⟨k, q, k1, k2, hc, rfl, rfl, rfl⟩ := hrel
    by_cases hk : k < m
    · have hs := cumM_succ y k k1
      have hd31 := dim_le y k
      have hc' : cumM y (k + 1) ≤ 366 := by
        have h1 := cumM_mono y (k + 1) 13 (by omega) (by omega)
        rw [cumM_13] at h1
        have := lday_le y
        omega
      have Hs : Hid (cumM y (k + 1) = cumM y k + dim y k) := hs
      have Hc : Hid (cumM y (k + 1) ≤ 366) := hc'
      clear hs hc'
      go_wp2_with (go_at_call 26; refine (refDays y k _ (by omega)).mono ?_; rintro e w' ⟨rfl, hww⟩; rw [hww]; clear hww w')
      go_roundw
      case rel => exact ⟨k + 1, _, by omega, by omega, Hc.out, by rw [Hs.out]; go_num, by go_num, rfl⟩
      case measure => simp [intOf]; omega
    · have ek : k = m := by omega
      subst ek
      have he : Hid ((n : Int) + 1 = aheadY y + cumM y k + d) := by have := H.out.eq; unfold Hid; omega
      go_wp2
      go_ret2
      exact ⟨ret2 (by have := he.out; omega) rfl, _, rfl⟩
end Go.Proofs.Ythinnmfhjikobaa
