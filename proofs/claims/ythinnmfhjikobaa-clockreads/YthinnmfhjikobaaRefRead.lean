/- What the document's Read answers. -/
import Derived.Test.YthinnmfhjikobaaRefDay
import Derived.Test.YthinnmfhjikobaaStr3
import Derived.Deep.RegionHeld3
namespace Go.Proofs.Ythinnmfhjikobaa
open Go.RowKit
attribute [local go_sem ↓] ixs

set_option maxHeartbeats 1000000 in
theorem refRead_len (s : ByteArray) (w : World) (h : ¬ s.size = 16) :
    Calls Try.prog 18 #[.string s] w fun e w' => e = .returned (.tuple #[.int .u64 0, .int .i64 6]) ∧ ∃ q, w' = w.drewN q := by
  have h' : ¬ (s.size : Int) = 16 := by omega
  clear h
  go_enter Try.func18, Try.ntmps18
  go_wp2
  go_ret2
  exact ⟨rfl, 0, rfl⟩

set_option maxHeartbeats 1000000 in
theorem refRead_sign (s : ByteArray) (w : World) (h : s.size = 16) (h2 : ¬ (sb s 8 = 84 ∧ sb s 15 = 90)) :
    Calls Try.prog 18 #[.string s] w fun e w' => e = .returned (.tuple #[.int .u64 0, .int .i64 6]) ∧ ∃ q, w' = w.drewN q := by
  have h' : (s.size : Int) = 16 := by omega
  by_cases h3 : sb s 8 = 84
  · have h4 : ¬ sb s 15 = 90 := fun e => h2 ⟨h3, e⟩
    have h3' : ((sb s 8).toNat : Int) = 84 := by rw [h3]; rfl
    have h4' : ¬ ((sb s 15).toNat : Int) = 90 := by intro e; exact h4 (UInt8.toNat_inj.1 (by have : (90 : UInt8).toNat = 90 := rfl; omega))
    clear h h2 h3 h4
    go_enter Try.func18, Try.ntmps18
    go_wp2
    go_ret2
    exact ⟨rfl, 0, rfl⟩
  · have h3' : ¬ ((sb s 8).toNat : Int) = 84 := by intro e; exact h3 (UInt8.toNat_inj.1 (by have : (84 : UInt8).toNat = 84 := rfl; omega))
    clear h h2 h3
    go_enter Try.func18, Try.ntmps18
    go_wp2
    go_ret2
    exact ⟨rfl, 0, rfl⟩

set_option maxHeartbeats 2000000 in
theorem refRead_body (s : ByteArray) (w : World) (h : s.size = 16) (h3 : sb s 8 = 84) (h4 : sb s 15 = 90) :
    Calls Try.prog 18 #[.string s] w fun e w' => RdRaw (numI (List.take 4 s.data.toList)) (numI (List.take 2 (List.drop 4 s.data.toList))) (numI (List.take 2 (List.drop 6 s.data.toList))) (numI (List.take 2 (List.drop 9 s.data.toList))) (numI (List.take 2 (List.drop 11 s.data.toList))) (numI (List.take 2 (List.drop 13 s.data.toList))) e ∧ Below w.heap.size w w' := by
  have h' : (s.size : Int) = 16 := by omega
  have h3' : ((sb s 8).toNat : Int) = 84 := by rw [h3]; rfl
  have h4' : ((sb s 15).toNat : Int) = 90 := by rw [h4]; rfl
  clear h h3 h4
  go_enter Try.func18, Try.ntmps18
  go_wp2_with fail
  have z1 : (s.extract 0 4).size ≤ 8 := by simp; omega
  have z2 : (s.extract 4 6).size ≤ 8 := by simp; omega
  have z3 : (s.extract 6 8).size ≤ 8 := by simp; omega
  have z4 : (s.extract 9 11).size ≤ 8 := by simp; omega
  have z5 : (s.extract 11 13).size ≤ 8 := by simp; omega
  have z6 : (s.extract 13 15).size ≤ 8 := by simp; omega
  go_region_held3 (fun w' => True) (trivial) ((go_at_call 31; refine (refNumber _ _ (by assumption)).mono ?_; rintro e w' ⟨rfl, hww⟩; rw [hww]; clear hww w'))
  have B1 : Below w.heap.size w w.drew := (Below.refl _ _).drew
  generalize w.drew = x1 at *
  go_wp2_with fail
  go_region_held3 (fun w' => True) (trivial) ((go_at_call 31; refine (refNumber _ _ (by assumption)).mono ?_; rintro e w' ⟨rfl, hww⟩; rw [hww]; clear hww w'))
  have B2 : Below w.heap.size w x1.drew := B1.drew
  generalize x1.drew = x2 at *
  clear B1 z1 z2 z3 z4 z5 z6
  obtain ⟨Y, hY⟩ : ∃ v, numI (List.take 4 s.data.toList) = v := ⟨_, rfl⟩
  rw [hY]
  have HY : Hid (numI (List.take 4 s.data.toList) = Y) := hY
  clear hY
  obtain ⟨M, hM⟩ : ∃ v, numI (List.take 2 (List.drop 4 s.data.toList)) = v := ⟨_, rfl⟩
  rw [hM]
  have HM : Hid (numI (List.take 2 (List.drop 4 s.data.toList)) = M) := hM
  clear hM
  obtain ⟨D, hD⟩ : ∃ v, numI (List.take 2 (List.drop 6 s.data.toList)) = v := ⟨_, rfl⟩
  rw [hD]
  have HD : Hid (numI (List.take 2 (List.drop 6 s.data.toList)) = D) := hD
  clear hD
  obtain ⟨a, ha⟩ : ∃ v, numI (List.take 2 (List.drop 9 s.data.toList)) = v := ⟨_, rfl⟩
  rw [ha]
  have Ha : Hid (numI (List.take 2 (List.drop 9 s.data.toList)) = a) := ha
  clear ha
  obtain ⟨b, hb⟩ : ∃ v, numI (List.take 2 (List.drop 11 s.data.toList)) = v := ⟨_, rfl⟩
  rw [hb]
  have Hb : Hid (numI (List.take 2 (List.drop 11 s.data.toList)) = b) := hb
  clear hb
  obtain ⟨c, hc⟩ : ∃ v, numI (List.take 2 (List.drop 13 s.data.toList)) = v := ⟨_, rfl⟩
  rw [hc]
  have Hc : Hid (numI (List.take 2 (List.drop 13 s.data.toList)) = c) := hc
  clear hc
  have bda : -1 ≤ a ∧ a < 100 := by rw [← Ha.out]; exact numI_two _ (by simp; omega)
  have bdb : -1 ≤ b ∧ b < 100 := by rw [← Hb.out]; exact numI_two _ (by simp; omega)
  have bdc : -1 ≤ c ∧ c < 100 := by rw [← Hc.out]; exact numI_two _ (by simp; omega)
  go_wp2_with fail
  rcases date_or Y M D with hno | ⟨n, y, m, d, rfl, rfl, rfl, hd⟩
  · refine (refDay_out Y M D x2 hno).mono ?_
    rintro e x3 ⟨rfl, q, rfl⟩
    have B3 := bel_drewN B2 q
    generalize x2.drewN q = x3 at *
    go_wp2
    go_ret2
    refine ⟨?_, B3⟩
    rw [HY.out, HM.out, HD.out, Ha.out, Hb.out, Hc.out]
    exact .inl ⟨.inl hno, rfl⟩
  · refine (refDay_in n y m d x2 hd).mono ?_
    rintro e x3 ⟨rfl, q, rfl⟩
    have B3 := bel_drewN B2 q
    generalize x2.drewN q = x3 at *
    have hle := hd.le
    have Hd : Hid (IsDate n y m d) := hd
    clear hd
    by_cases c0 : n < 719162
    · have c0' : (n : Int) - 719162 < 0 := by omega
      go_wp2
      go_ret2
      refine ⟨?_, B3⟩
      rw [HY.out, HM.out, HD.out, Ha.out, Hb.out, Hc.out]
      exact .inl ⟨.inr (.inr ⟨n, y, m, d, rfl, rfl, rfl, Hd.out, c0⟩), rfl⟩
    obtain ⟨k, rfl⟩ : ∃ k, n = k + 719162 := ⟨n - 719162, by omega⟩
    have hk : ((k + 719162 : Nat) : Int) - 719162 = (k : Int) := by omega
    rw [hk]
    have hk2 : (k : Int) ≤ 2932896 := by omega
    clear hle c0 hk
    by_cases hbad : NoHour a b c
    · have fin : ∀ e, e = Ending.returned (.tuple #[.int .u64 0, .int .i64 6]) → RdRaw (y : Int) (m : Int) (d : Int) a b c e := fun e he => .inl ⟨.inr (.inl hbad), he⟩
      have HB : Hid (NoHour a b c) := hbad
      clear hbad
      by_cases c1 : a < 0
      · go_wp2
        go_ret2
        refine ⟨?_, B3⟩
        rw [HY.out, HM.out, HD.out, Ha.out, Hb.out, Hc.out]
        exact fin _ rfl
      by_cases c2 : 23 < a
      · go_wp2
        go_ret2
        refine ⟨?_, B3⟩
        rw [HY.out, HM.out, HD.out, Ha.out, Hb.out, Hc.out]
        exact fin _ rfl
      by_cases c3 : b < 0
      · go_wp2
        go_ret2
        refine ⟨?_, B3⟩
        rw [HY.out, HM.out, HD.out, Ha.out, Hb.out, Hc.out]
        exact fin _ rfl
      by_cases c4 : 59 < b
      · go_wp2
        go_ret2
        refine ⟨?_, B3⟩
        rw [HY.out, HM.out, HD.out, Ha.out, Hb.out, Hc.out]
        exact fin _ rfl
      by_cases c5 : c < 0
      · go_wp2
        go_ret2
        refine ⟨?_, B3⟩
        rw [HY.out, HM.out, HD.out, Ha.out, Hb.out, Hc.out]
        exact fin _ rfl
      have c6 : 59 < c := by have := HB.out; unfold NoHour at this; omega
      go_wp2
      go_ret2
      refine ⟨?_, B3⟩
      rw [HY.out, HM.out, HD.out, Ha.out, Hb.out, Hc.out]
      exact fin _ rfl
    · have HB : Hid (¬ NoHour a b c) := hbad
      unfold NoHour at hbad
      have c1 : 0 ≤ a := by omega
      have c2 : a ≤ 23 := by omega
      have c3 : 0 ≤ b := by omega
      have c4 : b ≤ 59 := by omega
      have c5 : 0 ≤ c := by omega
      have c6 : c ≤ 59 := by omega
      clear hbad
      go_wp2
      go_ret2
      refine ⟨?_, B3⟩
      rw [HY.out, HM.out, HD.out, Ha.out, Hb.out, Hc.out]
      refine .inr ⟨k + 719162, y, m, d, rfl, rfl, rfl, Hd.out, by omega, HB.out, ?_⟩
      exact ret_ue (by omega)
end Go.Proofs.Ythinnmfhjikobaa
