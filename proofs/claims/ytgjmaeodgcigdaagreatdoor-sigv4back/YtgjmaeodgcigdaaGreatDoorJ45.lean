/- What clock's leap, daysAhead and yearOf answer. What clock's monthDays and Civil answer. -/
import Derived.Test.YtgjmaeodgcigdaaGreatDoorJ27
import Derived.OwnWalk
namespace Go.Proofs.YtgjmaeodgcigdaaGreatDoor
open Go.RowKit

set_option maxHeartbeats 400000 in
theorem codLeap (y : Nat) (w : World) (hy : y ≤ 10000) :
    Calls Tryz.prog 165 #[.int .i64 (y : Int)] w fun e w' => e = .returned (.bool (leapY y)) ∧ w' = w := by
  by_cases h4 : y % 4 = 0
  · by_cases h100 : y % 100 = 0
    · by_cases h400 : y % 400 = 0
      · have H : Hid (leapY y = true) := leap_yes y ⟨h4, .inr h400⟩
        have e4 : (y : Int) % 4 = 0 := by omega
        have e100 : (y : Int) % 100 = 0 := by omega
        have e400 : (y : Int) % 400 = 0 := by omega
        clear h4 h100 h400
        go_enter Tryz.func165, Tryz.ntmps165
        go_wp2
        go_ret
        exact ⟨ret_b H.out.symm, rfl⟩
      · have H : Hid (leapY y = false) := leap_no y (by omega)
        have e4 : (y : Int) % 4 = 0 := by omega
        have e100 : (y : Int) % 100 = 0 := by omega
        have e400 : ¬ (y : Int) % 400 = 0 := by omega
        clear h4 h100 h400
        go_enter Tryz.func165, Tryz.ntmps165
        go_wp2
        go_ret
        exact ⟨ret_b (by rw [H.out]; simpa using e400), rfl⟩
    · have H : Hid (leapY y = true) := leap_yes y ⟨h4, .inl h100⟩
      have e4 : (y : Int) % 4 = 0 := by omega
      have e100 : ¬ (y : Int) % 100 = 0 := by omega
      clear h4 h100
      go_enter Tryz.func165, Tryz.ntmps165
      go_wp2
      go_ret
      exact ⟨ret_b H.out.symm, rfl⟩
  · have H : Hid (leapY y = false) := leap_no y (by omega)
    have e4 : ¬ (y : Int) % 4 = 0 := by omega
    clear h4
    go_enter Tryz.func165, Tryz.ntmps165
    go_wp2
    go_ret
    exact ⟨ret_b H.out.symm, rfl⟩

/-- the year that a day falls into, by four centuries, centuries, four years, years -/
theorem year_parts (a c q k r : Nat) (hc : c ≤ 3) (hq : q ≤ 24) (hk : k ≤ 3) (hr : r < 365 ∨ (k = 3 ∧ r = 365 ∧ (q < 24 ∨ c = 3))) :
    aheadY (1 + a * 400 + c * 100 + q * 4 + k) = a * 146097 + c * 36524 + q * 1461 + k * 365 ∧ r < 365 + lday (1 + a * 400 + c * 100 + q * 4 + k) := by
  constructor
  · unfold aheadY
    have e : 1 + a * 400 + c * 100 + q * 4 + k - 1 = a * 400 + c * 100 + q * 4 + k := by omega
    have e4 : (a * 400 + c * 100 + q * 4 + k) / 4 = a * 100 + c * 25 + q := by omega
    have e100 : (a * 400 + c * 100 + q * 4 + k) / 100 = a * 4 + c := by omega
    have e400 : (a * 400 + c * 100 + q * 4 + k) / 400 = a := by omega
    rw [e, e4, e100, e400]; omega
  · rcases hr with hr | ⟨rfl, rfl, h⟩
    · omega
    · have hl : leapY (1 + a * 400 + c * 100 + q * 4 + 3) = true := leap_yes _ (by omega)
      unfold lday; rw [hl]; decide
/-- a day is in one year alone -/
theorem year_one (n y z : Nat) (hy : 1 ≤ y) (hz : 1 ≤ z) (h1 : aheadY y ≤ n) (h2 : n < aheadY y + 365 + lday y) (h3 : aheadY z ≤ n) (h4 : n < aheadY z + 365 + lday z) : y = z := by
  rcases Nat.lt_trichotomy y z with h | h | h
  · have := aheadY_lt y z hy h; omega
  · exact h
  · have := aheadY_lt z y hz h; omega

theorem ret2i {a b a' b' : Int} (h1 : a = a') (h2 : b = b') :
    Ending.returned (.tuple #[.int .i64 a, .int .i64 b]) = .returned (.tuple #[.int .i64 a', .int .i64 b']) := by rw [h1, h2]

set_option maxHeartbeats 1000000 in
theorem codYear (n y : Nat) (w : World) (hn : n ≤ 3652058) (y1 : 1 ≤ y) (h1 : aheadY y ≤ n) (h2 : n < aheadY y + 365 + lday y) :
    Calls Tryz.prog 136 #[.int .i64 (n : Int)] w fun e w' => e = .returned (.tuple #[.int .i64 (y : Int), .int .i64 ((n - aheadY y : Nat) : Int)]) ∧ w' = w := by
  obtain ⟨a, ha⟩ : ∃ a : Nat, a = n / 146097 := ⟨_, rfl⟩
  obtain ⟨s, hs⟩ : ∃ s : Nat, s = n % 146097 := ⟨_, rfl⟩
  obtain ⟨c0, hc0⟩ : ∃ c : Nat, c = s / 36524 := ⟨_, rfl⟩
  obtain ⟨c, hc⟩ : ∃ c : Nat, c = min c0 3 := ⟨_, rfl⟩
  obtain ⟨u, hu⟩ : ∃ u : Nat, u = s - c * 36524 := ⟨_, rfl⟩
  obtain ⟨q, hq⟩ : ∃ q : Nat, q = u / 1461 := ⟨_, rfl⟩
  obtain ⟨v, hv⟩ : ∃ v : Nat, v = u % 1461 := ⟨_, rfl⟩
  obtain ⟨k0, hk0⟩ : ∃ k : Nat, k = v / 365 := ⟨_, rfl⟩
  obtain ⟨k, hk⟩ : ∃ k : Nat, k = min k0 3 := ⟨_, rfl⟩
  obtain ⟨r, hr⟩ : ∃ r : Nat, r = v - k * 365 := ⟨_, rfl⟩
  have P := year_parts a c q k r (by omega) (by omega) (by omega) (by omega)
  have E := year_one n y (1 + a * 400 + c * 100 + q * 4 + k) y1 (by omega) h1 h2 (by omega) (by omega)
  have HY : Hid ((y : Int) = 1 + a * 400 + c * 100 + q * 4 + k) := by unfold Hid; omega
  have HR : Hid (((n - aheadY y : Nat) : Int) = v - k * 365) := by unfold Hid; rw [E, P.1]; omega
  clear P E h1 h2
  have i1 : (n : Int) / 146097 = (a : Int) := by omega
  have i2 : (n : Int) % 146097 = (s : Int) := by omega
  have i3 : (s : Int) / 36524 = (c0 : Int) := by omega
  have i4 : (s : Int) - (c : Int) * 36524 = (u : Int) := by omega
  have i5 : (u : Int) / 1461 = (q : Int) := by omega
  have i6 : (u : Int) % 1461 = (v : Int) := by omega
  have i7 : (v : Int) / 365 = (k0 : Int) := by omega
  have b1 : a ≤ 100 := by omega
  have b2 : s < 146097 := by omega
  have b3 : c0 ≤ 4 := by omega
  have b4 : u < 146097 := by omega
  have b5 : q ≤ 100 := by omega
  have b6 : v < 1461 := by omega
  have b7 : k0 ≤ 4 := by omega
  have b8 : c ≤ 3 := by omega
  have b9 : k ≤ 3 := by omega
  clear ha hs hc0 hu hq hv hk0 hr
  by_cases c1 : (3 : Int) < (c0 : Int)
  · have hc' : c = 3 := by omega
    subst hc'
    clear hc
    by_cases c2 : (3 : Int) < (k0 : Int)
    · have hk' : k = 3 := by omega
      subst hk'
      clear hk
      go_enter Tryz.func136, Tryz.ntmps136
      go_wp2
      go_ret2
      exact ⟨ret2i (by have := HY.out; omega) (by have := HR.out; omega), rfl⟩
    · have hk' : k = k0 := by omega
      subst hk'
      clear hk
      go_enter Tryz.func136, Tryz.ntmps136
      go_wp2
      go_ret2
      exact ⟨ret2i (by have := HY.out; omega) (by have := HR.out; omega), rfl⟩
  · have hc' : c = c0 := by omega
    subst hc'
    clear hc
    by_cases c2 : (3 : Int) < (k0 : Int)
    · have hk' : k = 3 := by omega
      subst hk'
      clear hk
      go_enter Tryz.func136, Tryz.ntmps136
      go_wp2
      go_ret2
      exact ⟨ret2i (by have := HY.out; omega) (by have := HR.out; omega), rfl⟩
    · have hk' : k = k0 := by omega
      subst hk'
      clear hk
      go_enter Tryz.func136, Tryz.ntmps136
      go_wp2
      go_ret2
      exact ⟨ret2i (by have := HY.out; omega) (by have := HR.out; omega), rfl⟩
end Go.Proofs.YtgjmaeodgcigdaaGreatDoor
namespace Go.Proofs.YtgjmaeodgcigdaaGreatDoor
open Go.RowKit

/-- the days of the months, by the leap day -/
def mdV (k : Nat) : List Value := [.int .i64 31, .int .i64 (28 + k : Nat), .int .i64 31, .int .i64 30, .int .i64 31, .int .i64 30, .int .i64 31, .int .i64 31, .int .i64 30, .int .i64 31, .int .i64 30, .int .i64 31]
def mdAt (k j : Nat) : Nat := if j = 1 then 28 + k else if j = 3 ∨ j = 5 ∨ j = 8 ∨ j = 10 then 30 else 31
theorem mdAt_dim (y j : Nat) : mdAt (lday y) j = dim y (j + 1) := by
  by_cases h : j = 1
  · subst h; rfl
  · have h' : ¬ j + 1 = 2 := by omega
    by_cases h2 : j = 3 ∨ j = 5 ∨ j = 8 ∨ j = 10
    · have h2' : j + 1 = 4 ∨ j + 1 = 6 ∨ j + 1 = 9 ∨ j + 1 = 11 := by omega
      rw [mdAt, dim, if_neg h, if_pos h2, if_neg h', if_pos h2']
    · have h2' : ¬ (j + 1 = 4 ∨ j + 1 = 6 ∨ j + 1 = 9 ∨ j + 1 = 11) := by omega
      rw [mdAt, dim, if_neg h, if_neg h2, if_neg h', if_neg h2']
theorem mdV_at (k j : Nat) (h : j < 12) : (mdV k)[j]? = some (.int .i64 (mdAt k j : Int)) := by
  match j, h with
  | 0, _ => rfl
  | 1, _ => rfl
  | 2, _ => rfl
  | 3, _ => rfl
  | 4, _ => rfl
  | 5, _ => rfl
  | 6, _ => rfl
  | 7, _ => rfl
  | 8, _ => rfl
  | 9, _ => rfl
  | 10, _ => rfl
  | 11, _ => rfl
theorem info12 : (Tryz.prog.info? 183).map (·.size) = some 12 := by kernel_rfl

set_option maxHeartbeats 1000000 in
theorem codMonths (y : Nat) (w : World) (hy : y ≤ 10000) :
    Calls Tryz.prog 137 #[.int .i64 (y : Int)] w fun e w' => e = .returned (.agg (mdV (lday y)).toArray) ∧ Below w.heap.size w w' := by
  cases hl : leapY y with
  | true =>
    have H2 : Hid (lday y = 1) := by unfold Hid lday; rw [hl]; rfl
    go_enter Tryz.func137, Tryz.ntmps137
    go_wp2_with (go_at_call 165; refine (codLeap y _ hy).mono ?_; rintro e w' ⟨rfl, hww⟩; rw [hww, hl]; clear hww w')
    refine bodyPost_ret (v := .agg (mdV 1).toArray) ?_ rfl ⟨by rw [H2.out], ((Below.refl _ _).alloc (Nat.le_refl _) _).alloc (by simp) _⟩
    exact results_cell_row Tryz.results137 _ _ w.heap.size 183 (mdV 1).toArray (0, 0) _ rfl (by rw [Below.heap_alloc _ _ _ (by simp), heap_alloc_new]; rfl) Tryz.underlying183 rfl info12
  | false =>
    have H2 : Hid (lday y = 0) := by unfold Hid lday; rw [hl]; rfl
    go_enter Tryz.func137, Tryz.ntmps137
    go_wp2_with (go_at_call 165; refine (codLeap y _ hy).mono ?_; rintro e w' ⟨rfl, hww⟩; rw [hww, hl]; clear hww w')
    refine bodyPost_ret (v := .agg (mdV 0).toArray) ?_ rfl ⟨by rw [H2.out], ((Below.refl _ _).alloc (Nat.le_refl _) _).alloc (by simp) _⟩
    exact results_cell_row Tryz.results137 _ _ w.heap.size 183 (mdV 0).toArray (0, 0) _ rfl (by rw [Below.heap_alloc _ _ _ (by simp), heap_alloc_new]; rfl) Tryz.underlying183 rfl info12

theorem ixm (k j : Nat) (h : j < 12) (u : World) : (Instr.index 183 (.agg (mdV k).toArray) (.int .i64 (j : Int))).run Tryz.prog u = .ok (.int .i64 (mdAt k j : Int)) u := by
  obtain rfl | rfl | rfl | rfl | rfl | rfl | rfl | rfl | rfl | rfl | rfl | rfl : j = 0 ∨ j = 1 ∨ j = 2 ∨ j = 3 ∨ j = 4 ∨ j = 5 ∨ j = 6 ∨ j = 7 ∨ j = 8 ∨ j = 9 ∨ j = 10 ∨ j = 11 := by omega
  all_goals kernel_rfl

set_option maxHeartbeats 400000 in
theorem codCivil_out (day : Int) (w : World) (h : day < -719162 ∨ 2932896 < day) :
    Calls Tryz.prog 100 #[.int .i64 day] w fun e w' => e = .returned (.tuple #[.int .i64 0, .int .i64 0, .int .i64 0]) ∧ Below w.heap.size w w' := by
  by_cases h1 : day < -719162
  · clear h
    go_enter Tryz.func100, Tryz.ntmps100
    go_wp2
    go_ret3
    exact ⟨rfl, Below.refl _ _⟩
  · have h2 : 2932896 < day := by omega
    clear h
    go_enter Tryz.func100, Tryz.ntmps100
    go_wp2
    go_ret3
    exact ⟨rfl, Below.refl _ _⟩

set_option maxHeartbeats 1000000 in
theorem codCivil_in (n y m d : Nat) (w : World) (h : IsDate n y m d) :
    Calls Tryz.prog 100 #[.int .i64 ((n : Int) - 719162)] w fun e w' => e = .returned (.tuple #[.int .i64 (y : Int), .int .i64 (m : Int), .int .i64 (d : Int)]) ∧ Below w.heap.size w w' := by
  have hn : n ≤ 3652058 := h.le
  have H : Hid (IsDate n y m d) := h
  have y1 := h.y1
  have y2 := h.y2
  have hah : aheadY y ≤ n := h.inYear.1
  have Hu : Hid (n < aheadY y + 365 + lday y) := h.inYear.2
  clear h
  obtain ⟨r, hr⟩ : ∃ r : Nat, r = n - aheadY y := ⟨_, rfl⟩
  have Hr : Hid (r + aheadY y = n) := by unfold Hid; omega
  have Hr2 : Hid (n - aheadY y = r) := hr.symm
  have hr2 : r ≤ 366 := by have := Hu.out; have := lday_le y; omega
  have hah' : Hid (aheadY y ≤ n) := hah
  clear hr hah
  have e0 : (n : Int) - 719162 - -719162 = (n : Int) := by omega
  go_enter Tryz.func100, Tryz.ntmps100
  go_wp2_with (go_at_call 136; (try rw [e0]); refine (codYear n y _ hn y1 hah'.out Hu.out).mono ?_; rintro e w' ⟨rfl, hww⟩; rw [hww, Hr2.out]; clear hww w')
  refine (codMonths y w (by omega)).mono ?_
  rintro e x ⟨rfl, hbel⟩
  have ixm' := fun j (hj : j < 12) u => ixm (lday y) j hj u
  generalize hL : (mdV (lday y)).toArray = L at *
  clear hL
  go_wp2_with fail
  go_loopw [3, 5, 22] (fun mm nn jj w' => ∃ k j q : Nat, j + 1 ≤ m ∧ k ≤ 366 ∧ Hid (k + cumM y (j + 1) + aheadY y = n) ∧ mm = .int .i64 ((j + 1 : Nat) : Int) ∧ nn = .int .i64 (k : Int) ∧ jj = .int .i64 (j : Int) ∧ w' = x.drewN q) (fun nn _ _ _ => 13 - (intOf nn).toNat)
  case atStart => exact ⟨r, 0, 0, H.out.m1, hr2, by unfold Hid; rw [cumM_one]; exact Hr.out, rfl, rfl, rfl, rfl⟩
  case round =>
    obtain ⟨k, j, q, j2, k2, he, rfl, rfl, rfl, rfl⟩ := hrel
    have m2 := H.out.m2
    have hj12 : j < 12 := by omega
    have hm := mdAt_dim y j
    have hd28 := dim_pos y (j + 1)
    have hd31 := dim_le y (j + 1)
    rw [← hm] at hd28 hd31
    have Hm : Hid (mdAt (lday y) j = dim y (j + 1)) := hm
    clear hm
    have hix := ixm' j hj12
    clear ixm'
    by_cases hj : j + 1 < m
    · have hge : mdAt (lday y) j ≤ k := by
        rw [Hm.out]
        have h1 := cumM_lt y (j + 1) m (by omega) hj
        have h2 := H.out.eq
        have h3 := H.out.d1
        have h4 := he.out
        omega
      have he2 : Hid (k - mdAt (lday y) j + cumM y (j + 1 + 1) + aheadY y = n) := by unfold Hid; rw [cumM_succ y (j + 1) (by omega), ← Hm.out]; have := he.out; omega
      generalize mdAt (lday y) j = z at *
      go_wp2
      go_roundw
      case rel => exact ⟨k - z, j + 1, q, by omega, by omega, he2, by go_num, by go_num, by go_num, rfl⟩
      case measure => simp [intOf]; omega
    · have hjm : j + 1 = m := by omega
      have hlt : k < mdAt (lday y) j := by
        rw [Hm.out, hjm]
        have h2 := H.out.eq
        have h3 := H.out.d2
        have h4 := he.out
        rw [hjm] at h4
        omega
      have hd : Hid (k + 1 = d) := by
        have h2 := H.out.eq
        have h4 := he.out
        rw [hjm] at h4
        unfold Hid
        omega
      have Hjm : Hid (j + 1 = m) := hjm
      clear hjm
      generalize mdAt (lday y) j = z at *
      go_wp2
      go_ret3
      exact ⟨ret3 rfl (by rw [← Hjm.out]) (by rw [← hd.out]; omega), bel_drewN hbel q⟩
end Go.Proofs.YtgjmaeodgcigdaaGreatDoor
