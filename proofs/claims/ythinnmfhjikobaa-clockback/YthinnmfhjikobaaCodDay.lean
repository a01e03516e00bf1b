/- What clock's Day answers. -/
import Derived.Test.YthinnmfhjikobaaCodCiv
import Derived.Test.YthinnmfhjikobaaBlk
namespace Go.Proofs.Ythinnmfhjikobaa
open Go.RowKit

set_option maxHeartbeats 400000 in
theorem codAhead (y : Nat) (w : World) (h1 : 1 ≤ y) (hy : y ≤ 10000) :
    Calls Try.prog 27 #[.int .i64 (y : Int)] w fun e w' => e = .returned (.int .i64 (aheadY y : Int)) ∧ w' = w := by
  obtain ⟨n, hn⟩ : ∃ n, y = n + 1 := ⟨y - 1, by omega⟩
  subst hn
  have H : Hid (aheadY (n + 1) = 365 * n + n / 4 - n / 100 + n / 400) := by unfold Hid aheadY; rw [Nat.add_sub_cancel]
  have hle : n / 100 ≤ n / 4 := by omega
  go_enter Try.func27, Try.ntmps27
  go_wp2
  go_ret
  refine ⟨ret_i ?_, rfl⟩
  rw [H.out]; omega

theorem sl12 (G p : Nat) (hp : p < 12) (w : World) : (Instr.sliceAt 42 (.pointer (some ⟨G, 0, none⟩)) none (some (.int .i64 (p : Int))) none).run Try.prog w = .ok (.slice (some ⟨G, 0, none⟩) p 12) w := by
  have hn : Try.prog.arrayLen 42 = 12 := by kernel_rfl
  have he : Try.prog.elem 42 = 3 := by kernel_rfl
  rw [run_sliceAt_array_h w 42 ⟨G, 0, none⟩ (by rw [he, hn]; exact Try.underlying42) .i64 (p : Int) (by omega) (by rw [hn]; omega), hn]
  rfl

theorem mdV_all (k : Nat) : (mdV k).toArray.all (·.oneCell') = true := by simp [mdV, Value.oneCell']

set_option maxHeartbeats 1000000 in
theorem codDay_far (y m d : Int) (w : World) (h : y < 1 ∨ 9999 < y ∨ m < 1 ∨ 12 < m) :
    Calls Try.prog 11 #[.int .i64 y, .int .i64 m, .int .i64 d] w fun e w' => e = .returned (.tuple #[.int .i64 0, .int .i64 6]) ∧ Below w.heap.size w w' := by
  by_cases c1 : y < 1
  · clear h
    go_enter Try.func11, Try.ntmps11
    go_wp2
    go_ret2
    exact ⟨rfl, Below.refl _ _⟩
  by_cases c2 : 9999 < y
  · clear h
    go_enter Try.func11, Try.ntmps11
    go_wp2
    go_ret2
    exact ⟨rfl, Below.refl _ _⟩
  by_cases c3 : m < 1
  · clear h
    go_enter Try.func11, Try.ntmps11
    go_wp2
    go_ret2
    exact ⟨rfl, Below.refl _ _⟩
  have c4 : 12 < m := by omega
  clear h
  go_enter Try.func11, Try.ntmps11
  go_wp2
  go_ret2
  exact ⟨rfl, Below.refl _ _⟩

set_option maxHeartbeats 1000000 in
theorem codDay_out (y m d : Int) (w : World) (h : NoDate y m d) :
    Calls Try.prog 11 #[.int .i64 y, .int .i64 m, .int .i64 d] w fun e w' => e = .returned (.tuple #[.int .i64 0, .int .i64 6]) ∧ Below w.heap.size w w' := by
  by_cases hf : y < 1 ∨ 9999 < y ∨ m < 1 ∨ 12 < m
  · exact codDay_far y m d w hf
  obtain ⟨Y, rfl⟩ : ∃ Y : Nat, y = Y := ⟨y.toNat, by omega⟩
  obtain ⟨M, rfl⟩ : ∃ M : Nat, m = ((M + 1 : Nat) : Int) := ⟨m.toNat - 1, by omega⟩
  have y1 : 1 ≤ Y := by omega
  have y2 : Y ≤ 9999 := by omega
  have m2 : M < 12 := by omega
  have hd : d < 1 ∨ (mdAt (lday Y) M : Int) < d := by
    rw [mdAt_dim]
    unfold NoDate at h
    rw [Int.toNat_natCast, Int.toNat_natCast] at h
    omega
  clear h hf
  have Hd : Hid (d < 1 ∨ (mdAt (lday Y) M : Int) < d) := hd
  clear hd
  by_cases c5 : d < 1
  · go_enter Try.func11, Try.ntmps11
    go_wp2_with fail
    refine (codMonths Y w (by omega)).mono ?_
    rintro e x ⟨rfl, hbel⟩
    have b0 : Blk (x.alloc (.cells #[.int .i64 0, .int .i64 0, .int .i64 0, .int .i64 0, .int .i64 0, .int .i64 0, .int .i64 0, .int .i64 0, .int .i64 0, .int .i64 0, .int .i64 0, .int .i64 0] 42)) x.heap.size 42 (List.replicate 12 (Value.int .i64 0)) := Blk.newAt x _ _ _ _ rfl rfl
    obtain ⟨x2, hx2⟩ : ∃ x2, x2 = (x.alloc (.cells #[.int .i64 0, .int .i64 0, .int .i64 0, .int .i64 0, .int .i64 0, .int .i64 0, .int .i64 0, .int .i64 0, .int .i64 0, .int .i64 0, .int .i64 0, .int .i64 0] 42)).setRow x.heap.size (mdV (lday Y)).toArray := ⟨_, rfl⟩
    have B2 : Below w.heap.size w x2 := by rw [hx2]; exact bel_row (hbel.alloc hbel.size _) hbel.size _
    go_wp2_with (refine wpList_store_row rfl _ _ _ rfl _ (mdV (lday Y)).toArray rfl rfl _ _ b0 info12 rfl (mdV_all _) ?_; rw [← hx2]; clear hx2 b0)
    go_ret2
    exact ⟨rfl, B2⟩
  · have c6 : (mdAt (lday Y) M : Int) < d := by have := Hd.out; omega
    go_enter Try.func11, Try.ntmps11
    go_wp2_with fail
    refine (codMonths Y w (by omega)).mono ?_
    rintro e x ⟨rfl, hbel⟩
    have b0 : Blk (x.alloc (.cells #[.int .i64 0, .int .i64 0, .int .i64 0, .int .i64 0, .int .i64 0, .int .i64 0, .int .i64 0, .int .i64 0, .int .i64 0, .int .i64 0, .int .i64 0, .int .i64 0] 42)) x.heap.size 42 (List.replicate 12 (Value.int .i64 0)) := Blk.newAt x _ _ _ _ rfl rfl
    obtain ⟨x2, hx2⟩ : ∃ x2, x2 = (x.alloc (.cells #[.int .i64 0, .int .i64 0, .int .i64 0, .int .i64 0, .int .i64 0, .int .i64 0, .int .i64 0, .int .i64 0, .int .i64 0, .int .i64 0, .int .i64 0, .int .i64 0] 42)).setRow x.heap.size (mdV (lday Y)).toArray := ⟨_, rfl⟩
    have B2 : Below w.heap.size w x2 := by rw [hx2]; exact bel_row (hbel.alloc hbel.size _) hbel.size _
    have hc : x2.cell? ⟨x.heap.size, M, none⟩ = some (.int .i64 (mdAt (lday Y) M : Int)) := by rw [hx2, (b0.row (mdV (lday Y))).cell]; exact mdV_at _ _ m2
    generalize mdAt (lday Y) M = z at *
    go_wp2_with (refine wpList_store_row rfl _ _ _ rfl _ (mdV (lday Y)).toArray rfl rfl _ _ b0 info12 rfl (mdV_all _) ?_; rw [← hx2]; clear hx2 b0)
    go_ret2
    exact ⟨rfl, B2⟩

set_option maxHeartbeats 1000000 in
theorem codDay_in (n y m d : Nat) (w : World) (h : IsDate n y m d) :
    Calls Try.prog 11 #[.int .i64 (y : Int), .int .i64 (m : Int), .int .i64 (d : Int)] w fun e w' => e = .returned (.tuple #[.int .i64 ((n : Int) - 719162), .int .i64 0]) ∧ Below w.heap.size w w' := by
  have H : Hid (IsDate n y m d) := h
  have y1 := h.y1
  have y2 := h.y2
  have m1 := h.m1
  have m2 := h.m2
  have d1 := h.d1
  have d2 := h.d2
  have d3 := dim_le y m
  have a1 : aheadY y ≤ 3652058 := by have := h.inYear.1; have := h.le; omega
  clear h
  obtain ⟨M, rfl⟩ : ∃ M, m = M + 1 := ⟨m - 1, by omega⟩
  have m3 : M < 12 := by omega
  clear m1 m2
  rw [← mdAt_dim] at d2 d3
  have d4 : d ≤ 31 := by omega
  go_enter Try.func11, Try.ntmps11
  go_wp2_with fail
  refine (codMonths y w (by omega)).mono ?_
  rintro e x ⟨rfl, hbel⟩
  have b0 : Blk (x.alloc (.cells #[.int .i64 0, .int .i64 0, .int .i64 0, .int .i64 0, .int .i64 0, .int .i64 0, .int .i64 0, .int .i64 0, .int .i64 0, .int .i64 0, .int .i64 0, .int .i64 0] 42)) x.heap.size 42 (List.replicate 12 (Value.int .i64 0)) := Blk.newAt x _ _ _ _ rfl rfl
  obtain ⟨x2, hx2⟩ : ∃ x2, x2 = (x.alloc (.cells #[.int .i64 0, .int .i64 0, .int .i64 0, .int .i64 0, .int .i64 0, .int .i64 0, .int .i64 0, .int .i64 0, .int .i64 0, .int .i64 0, .int .i64 0, .int .i64 0] 42)).setRow x.heap.size (mdV (lday y)).toArray := ⟨_, rfl⟩
  have B2 : Below w.heap.size w x2 := by rw [hx2]; exact bel_row (hbel.alloc hbel.size _) hbel.size _
  have HC : Hid (∀ j, j < 12 → x2.cell? ⟨x.heap.size, j, none⟩ = some (.int .i64 (mdAt (lday y) j : Int))) := by intro j hj; rw [hx2, (b0.row (mdV (lday y))).cell]; exact mdV_at _ _ hj
  have hc := HC.out M m3
  have hsl := sl12 x.heap.size M m3
  have Hz : Hid (mdAt (lday y) M = mdAt (lday y) M) := rfl
  generalize mdAt (lday y) M = z at d2 d3 hc
  go_wp2_with (first | (go_at_call 27; refine (codAhead y _ (by omega) (by omega)).mono ?_; rintro e w' ⟨rfl, hww⟩; rw [hww]; clear hww w') | (refine wpList_store_row rfl _ _ _ rfl _ (mdV (lday y)).toArray rfl rfl _ _ b0 info12 rfl (mdV_all _) ?_; rw [← hx2]; clear hx2 b0))
  clear hc d2 d3 hsl
  generalize x.heap.size = B at *
  go_loopw [9, 48] (fun nn kk w' => ∃ k q : Nat, k ≤ M ∧ cumM y (k + 1) ≤ 366 ∧ nn = .int .i64 ((aheadY y + cumM y (k + 1) + d : Nat) - 719163 : Int) ∧ kk = .int .i64 (k : Int) ∧ w' = x2.drewN q) (fun _ kk _ => M - (intOf kk).toNat)
  case atStart => exact ⟨0, 0, by omega, by rw [cumM_one]; omega, by rw [cumM_one]; go_num, rfl, rfl⟩
  case round =>
    obtain ⟨k, q, k2, hcu, rfl, rfl, rfl⟩ := hrel
    by_cases hk : k < M
    · have hs := cumM_succ y (k + 1) (by omega)
      have hc := HC.out k (by omega)
      rw [← mdAt_dim] at hs
      have hd31 : mdAt (lday y) k ≤ 31 := by rw [mdAt_dim]; exact dim_le y (k + 1)
      have Hc : Hid (cumM y (k + 1 + 1) ≤ 366) := by
        have h1 := cumM_mono y (k + 1 + 1) 13 (by omega) (by omega)
        rw [cumM_13] at h1
        have := lday_le y
        unfold Hid
        omega
      have Hs : Hid (cumM y (k + 1 + 1) = cumM y (k + 1) + mdAt (lday y) k) := hs
      clear hs
      generalize mdAt (lday y) k = z2 at *
      go_wp2
      go_roundw
      case rel => exact ⟨k + 1, _, by omega, Hc.out, by rw [Hs.out]; go_num, by go_num, rfl⟩
      case measure => simp [intOf]; omega
    · have ek : k = M := by omega
      subst ek
      have he : Hid ((n : Int) + 1 = aheadY y + cumM y (k + 1) + d) := by have := H.out.eq; unfold Hid; omega
      go_wp2
      go_ret2
      exact ⟨ret2 (by have := he.out; omega) rfl, bel_drewN B2 _⟩
end Go.Proofs.Ythinnmfhjikobaa
