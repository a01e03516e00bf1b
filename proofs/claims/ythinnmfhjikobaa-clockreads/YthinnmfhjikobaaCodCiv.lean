/- What clock's monthDays and Civil answer. -/
import Derived.Test.YthinnmfhjikobaaCodCal
namespace Go.Proofs.Ythinnmfhjikobaa
open Go.RowKit

/-- the days of the months, by the leap day -/
def mdV (k : Nat) : List Value := [.int .i64 31, .int .i64 (28 + k : Nat), .int .i64 31, .int .i64 30, .int .i64 31, .int .i64 30, .int .i64 31, .int .i64 31, .int .i64 30, .int .i64 31, .int .i64 30, .int .i64 31]
def mdAt (k j : Nat) : Nat := if j = 1 then 28 + k else if j = 3 ∨ j = 5 ∨ j = 8 ∨ j = 10 then 30 else 31
theorem mdAt_dim (y j : Nat) : mdAt (lday y) j = dim y (j + 1) := by
  by_cases h : j = 1
  · subst h; rfl
  · have h' : ¬ j + 1 = 2 := by omega
    by_cases h2 : j = 3 ∨ j = 5 ∨ j = 8 ∨ j = 10
    · have h2' : j + 1 = 4 ∨ j + 1 = 6 ∨ j + 1 = 9 ∨ j + 1 = 11 := by omega
      rw [mdAt, dim, if_neg h, if_pos h2, if_neg h', if_pos h2']
    · have h2' : ¬ (j + 1 = 4 ∨ j + 1 = 6 ∨ j + 1 = 9 ∨ j + 1 = 11) := by omega
      rw [mdAt, dim, if_neg h, if_neg h2, if_neg h', if_neg h2']
theorem mdV_at (k j : Nat) (h : j < 12) : (mdV k)[j]? = some (.int .i64 (mdAt k j : Int)) := by
  match j, h with
  | 0, _ => rfl
  | 1, _ => rfl
  | 2, _ => rfl
  | 3, _ => rfl
  | 4, _ => rfl
  | 5, _ => rfl
  | 6, _ => rfl
  | 7, _ => rfl
  | 8, _ => rfl
  | 9, _ => rfl
  | 10, _ => rfl
  | 11, _ => rfl
theorem info12 : (Try.prog.info? 42).map (·.size) = some 12 := by kernel_rfl

set_option maxHeartbeats 1000000 in
theorem codMonths (y : Nat) (w : World) (hy : y ≤ 10000) :
    Calls Try.prog 24 #[.int .i64 (y : Int)] w fun e w' => e = .returned (.agg (mdV (lday y)).toArray) ∧ Below w.heap.size w w' := by
  cases hl : leapY y with
  | true =>
    have H2 : Hid (lday y = 1) := by unfold Hid lday; rw [hl]; rfl
    go_enter Try.func24, Try.ntmps24
    go_wp2_with (go_at_call 32; refine (codLeap y _ hy).mono ?_; rintro e w' ⟨rfl, hww⟩; rw [hww, hl]; clear hww w')
    refine bodyPost_ret (v := .agg (mdV 1).toArray) ?_ rfl ⟨by rw [H2.out], ((Below.refl _ _).alloc (Nat.le_refl _) _).alloc (by simp) _⟩
    exact results_cell_row Try.results24 _ _ w.heap.size 42 (mdV 1).toArray (0, 0) _ rfl (by rw [Below.heap_alloc _ _ _ (by simp), heap_alloc_new]; rfl) Try.underlying42 rfl info12
  | false =>
    have H2 : Hid (lday y = 0) := by unfold Hid lday; rw [hl]; rfl
    go_enter Try.func24, Try.ntmps24
    go_wp2_with (go_at_call 32; refine (codLeap y _ hy).mono ?_; rintro e w' ⟨rfl, hww⟩; rw [hww, hl]; clear hww w')
    refine bodyPost_ret (v := .agg (mdV 0).toArray) ?_ rfl ⟨by rw [H2.out], ((Below.refl _ _).alloc (Nat.le_refl _) _).alloc (by simp) _⟩
    exact results_cell_row Try.results24 _ _ w.heap.size 42 (mdV 0).toArray (0, 0) _ rfl (by rw [Below.heap_alloc _ _ _ (by simp), heap_alloc_new]; rfl) Try.underlying42 rfl info12

theorem ixm (k j : Nat) (h : j < 12) (u : World) : (Instr.index 42 (.agg (mdV k).toArray) (.int .i64 (j : Int))).run Try.prog u = .ok (.int .i64 (mdAt k j : Int)) u := by
  obtain rfl | rfl | rfl | rfl | rfl | rfl | rfl | rfl | rfl | rfl | rfl | rfl : j = 0 ∨ j = 1 ∨ j = 2 ∨ j = 3 ∨ j = 4 ∨ j = 5 ∨ j = 6 ∨ j = 7 ∨ j = 8 ∨ j = 9 ∨ j = 10 ∨ j = 11 := by omega
  all_goals kernel_rfl

set_option maxHeartbeats 400000 in
theorem codCivil_out (day : Int) (w : World) (h : day < -719162 ∨ 2932896 < day) :
    Calls Try.prog 9 #[.int .i64 day] w fun e w' => e = .returned (.tuple #[.int .i64 0, .int .i64 0, .int .i64 0]) ∧ Below w.heap.size w w' := by
  by_cases h1 : day < -719162
  · clear h
    go_enter Try.func9, Try.ntmps9
    go_wp2
    go_ret3
    exact ⟨rfl, Below.refl _ _⟩
  · have h2 : 2932896 < day := by omega
    clear h
    go_enter Try.func9, Try.ntmps9
    go_wp2
    go_ret3
    exact ⟨rfl, Below.refl _ _⟩

set_option maxHeartbeats 1000000 in
theorem codCivil_in (n y m d : Nat) (w : World) (h : IsDate n y m d) :
    Calls Try.prog 9 #[.int .i64 ((n : Int) - 719162)] w fun e w' => e = .returned (.tuple #[.int .i64 (y : Int), .int .i64 (m : Int), .int .i64 (d : Int)]) ∧ Below w.heap.size w w' := by
  have hn : n ≤ 3652058 := h.le
  have H : Hid (IsDate n y m d) := h
  have y1 := h.y1
  have y2 := h.y2
  have hah : aheadY y ≤ n := h.inYear.1
  have Hu : Hid (n < aheadY y + 365 + lday y) := h.inYear.2
  clear h
  obtain ⟨r, hr⟩ : ∃ r : Nat, r = n - aheadY y := ⟨_, rfl⟩
  have Hr : Hid (r + aheadY y = n) := by unfold Hid; omega
  have Hr2 : Hid (n - aheadY y = r) := hr.symm
  have hr2 : r ≤ 366 := by have := Hu.out; have := lday_le y; omega
  have hah' : Hid (aheadY y ≤ n) := hah
  clear hr hah
  have e0 : (n : Int) - 719162 - -719162 = (n : Int) := by omega
  go_enter Try.func9, Try.ntmps9
  go_wp2_with (go_at_call 23; (try rw [e0]); refine (codYear n y _ hn y1 hah'.out Hu.out).mono ?_; rintro e w' ⟨rfl, hww⟩; rw [hww, Hr2.out]; clear hww w')
  refine (codMonths y w (by omega)).mono ?_
  rintro e x ⟨rfl, hbel⟩
  have ixm' := fun j (hj : j < 12) u => ixm (lday y) j hj u
  generalize hL : (mdV (lday y)).toArray = L at *
  clear hL
  go_wp2_with fail
  go_loopw [3, 5, 22] (fun mm nn jj w' => ∃ k j q : Nat, j + 1 ≤ m ∧ k ≤ 366 ∧ Hid (k + cumM y (j + 1) + aheadY y = n) ∧ mm = .int .i64 ((j + 1 : Nat) : Int) ∧ nn = .int .i64 (k : Int) ∧ jj = .int .i64 (j : Int) ∧ w' = x.drewN q) (fun nn _ _ _ => 13 - (intOf nn).toNat)
  case atStart => exact ⟨r, 0, 0, H.out.m1, hr2, by unfold Hid; rw [cumM_one]; exact Hr.out, rfl, rfl, rfl, rfl⟩
  case round =>
    obtain ⟨k, j, q, j2, k2, he, rfl, rfl, rfl, rfl⟩ := hrel
    have m2 := H.out.m2
    have hj12 : j < 12 := by omega
    have hm := mdAt_dim y j
    have hd28 := dim_pos y (j + 1)
    have hd31 := dim_le y (j + 1)
    rw [← hm] at hd28 hd31
    have Hm : Hid (mdAt (lday y) j = dim y (j + 1)) := hm
    clear hm
    have hix := ixm' j hj12
    clear ixm'
    by_cases hj : j + 1 < m
    · have hge : mdAt (lday y) j ≤ k := by
        rw [Hm.out]
        have h1 := cumM_lt y (j + 1) m (by omega) hj
        have h2 := H.out.eq
        have h3 := H.out.d1
        have h4 := he.out
        omega
      have he2 : Hid (k - mdAt (lday y) j + cumM y (j + 1 + 1) + aheadY y = n) := by unfold Hid; rw [cumM_succ y (j + 1) (by omega), ← Hm.out]; have := he.out; omega
      generalize mdAt (lday y) j = z at *
      go_wp2
      go_roundw
      case rel => exact ⟨k - z, j + 1, q, by omega, by omega, he2, by go_num, by go_num, by go_num, rfl⟩
      case measure => simp [intOf]; omega
    · have hjm : j + 1 = m := by omega
      have hlt : k < mdAt (lday y) j := by
        rw [Hm.out, hjm]
        have h2 := H.out.eq
        have h3 := H.out.d2
        have h4 := he.out
        rw [hjm] at h4
        omega
      have hd : Hid (k + 1 = d) := by
        have h2 := H.out.eq
        have h4 := he.out
        rw [hjm] at h4
        unfold Hid
        omega
      have Hjm : Hid (j + 1 = m) := hjm
      clear hjm
      generalize mdAt (lday y) j = z at *
      go_wp2
      go_ret3
      exact ⟨ret3 rfl (by rw [← Hjm.out]) (by rw [← hd.out]; omega), bel_drewN hbel q⟩
end Go.Proofs.Ythinnmfhjikobaa
