/- What the document's Show answers. · Show and Date of the code and of the document: one answer. · A text's bytes one by one, and what the document's number answers. · What the document's Read answers. · What the document's Read answers, of whatever text. -/
import Derived.Test.YtgjmaeodgcigdaaGreatDoorB42
import Derived.Test.YtgjmaeodgcigdaaGreatDoorB38
import Derived.Test.YtgjmaeodgcigdaaGreatDoorB0
import Derived.Deep.RegionHeld3
import Derived.Test.YtgjmaeodgcigdaaGreatDoorB39
namespace Go.Proofs.YtgjmaeodgcigdaaGreatDoor
open Go.RowKit

set_option maxHeartbeats 400000 in
theorem refShow_out (t : Nat) (w : World) (ht : t < 18446744073709551616) (h : 253402300799 < t) :
    Calls Tryz.prog 52 #[.int .u64 (t : Int)] w fun e w' => e = .returned (.tuple #[.string ⟨#[]⟩, .int .i64 6]) ∧ Below w.heap.size w w' := by
  have h' : (253402300799 : Int) < (t : Int) := by omega
  clear h
  go_enter Tryz.func52, Tryz.ntmps52
  go_wp2
  go_ret2
  exact ⟨rfl, Below.refl _ _⟩

theorem join8 (p q r u v x : List UInt8) : (ByteArray.mk p.toArray ++ ByteArray.mk q.toArray ++ ByteArray.mk r.toArray ++ ByteArray.mk #[84] ++ ByteArray.mk u.toArray ++ ByteArray.mk v.toArray ++ ByteArray.mk x.toArray ++ ByteArray.mk #[90]) = ByteArray.mk (p ++ (q ++ (r ++ (84 :: (u ++ (v ++ (x ++ [90]))))))).toArray := by
  have e1 : (#[84] : Array UInt8) = [84].toArray := rfl
  have e2 : (#[90] : Array UInt8) = [90].toArray := rfl
  rw [e1, e2]
  simp only [ByteArray.mk_append_mk]
  simp only [List.append_assoc, List.cons_append, List.nil_append]

set_option maxHeartbeats 1000000 in
theorem refShow_in (t y m d : Nat) (w : World) (ht : t ≤ 253402300799) (hd : IsDate (t / 86400 + 719162) y m d) :
    Calls Tryz.prog 52 #[.int .u64 (t : Int)] w fun e w' => e = .returned (.tuple #[.string ⟨(txt y m d (t % 86400 / 3600) (t % 86400 / 60 % 60) (t % 86400 % 60)).toArray⟩, .int .i64 0]) ∧ Below w.heap.size w w' := by
  have H : Hid (IsDate (t / 86400 + 719162) y m d) := hd
  have y2 := hd.y2
  have m2 := hd.m2
  have d2 : d ≤ 31 := by have := hd.d2; have := dim_le y m; omega
  clear hd
  have ht' : ¬ (253402300799 : Int) < (t : Int) := by omega
  obtain ⟨n, hn⟩ : ∃ n : Nat, n = t / 86400 := ⟨_, rfl⟩
  obtain ⟨s, hs⟩ : ∃ s : Nat, s = t % 86400 := ⟨_, rfl⟩
  have hn1 : (t : Int) / 86400 = (n : Int) := by omega
  have hs1 : (t : Int) % 86400 = (s : Int) := by omega
  have hn2 : n ≤ 2932896 := by omega
  have hs2 : s < 86400 := by omega
  rw [← hs]
  rw [← hn] at H
  clear hn hs ht
  obtain ⟨a, ha⟩ : ∃ a : Nat, a = s / 3600 := ⟨_, rfl⟩
  obtain ⟨b, hb⟩ : ∃ b : Nat, b = s / 60 % 60 := ⟨_, rfl⟩
  obtain ⟨c, hc⟩ : ∃ c : Nat, c = s % 60 := ⟨_, rfl⟩
  have ha1 : (s : Int) / 3600 = (a : Int) := by omega
  have hb1 : (s : Int) / 60 % 60 = (b : Int) := by omega
  have hc1 : (s : Int) % 60 = (c : Int) := by omega
  have ha2 : a < 24 := by omega
  have hb2 : b < 60 := by omega
  have hc2 : c < 60 := by omega
  rw [← ha, ← hb, ← hc]
  clear ha hb hc
  have L1 : (dgs 4 y).length = 4 := dgs_length _ _
  have L2 : (dgs 2 m).length = 2 := dgs_length _ _
  have L3 : (dgs 2 d).length = 2 := dgs_length _ _
  have L4 : (dgs 2 a).length = 2 := dgs_length _ _
  have L5 : (dgs 2 b).length = 2 := dgs_length _ _
  have L6 : (dgs 2 c).length = 2 := dgs_length _ _
  have HT : Hid (txt y m d a b c = dgs 4 y ++ (dgs 2 m ++ (dgs 2 d ++ (84 :: (dgs 2 a ++ (dgs 2 b ++ (dgs 2 c ++ [90]))))))) := rfl
  generalize txt y m d a b c = T at *
  go_enter Tryz.func52, Tryz.ntmps52
  go_wp2_with fail
  have hnn : ((n + 719162 : Nat) : Int) - 719162 = (n : Int) := by omega
  have hCiv := refCivil_in (n + 719162) y m d w H.out
  rw [hnn] at hCiv
  clear hnn
  refine hCiv.mono ?_
  rintro e x0 ⟨rfl, q, rfl⟩
  clear hCiv
  have B0 : Below w.heap.size w (w.drewN q) := bel_drewN (Below.refl _ _) q
  generalize w.drewN q = x0 at *
  go_wp2_with fail
  refine (refPadN y 4 x0 (by omega) (by omega)).mono ?_
  rintro e x1 ⟨rfl, c1⟩
  have B1 := B0.trans (c1.mono B0.size)
  clear B0 c1
  go_wp2_with fail
  refine (refPadN m 2 x1 (by omega) (by omega)).mono ?_
  rintro e x2 ⟨rfl, c2⟩
  have B2 := B1.trans (c2.mono B1.size)
  clear B1 c2
  go_wp2_with fail
  refine (refPadN d 2 x2 (by omega) (by omega)).mono ?_
  rintro e x3 ⟨rfl, c3⟩
  have B3 := B2.trans (c3.mono B2.size)
  clear B2 c3
  go_wp2_with fail
  refine (refPadN a 2 x3 (by omega) (by omega)).mono ?_
  rintro e x4 ⟨rfl, c4⟩
  have B4 := B3.trans (c4.mono B3.size)
  clear B3 c4
  go_wp2_with fail
  refine (refPadN b 2 x4 (by omega) (by omega)).mono ?_
  rintro e x5 ⟨rfl, c5⟩
  have B5 := B4.trans (c5.mono B4.size)
  clear B4 c5
  go_wp2_with fail
  refine (refPadN c 2 x5 (by omega) (by omega)).mono ?_
  rintro e x6 ⟨rfl, c6⟩
  have B6 := B5.trans (c6.mono B5.size)
  clear B5 c6
  go_wp2_with fail
  go_ret2
  rw [HT.out]
  exact ⟨congrArg (fun z => Ending.returned (.tuple #[.string z, .int .i64 0])) (join8 _ _ _ _ _ _), B6⟩
end Go.Proofs.YtgjmaeodgcigdaaGreatDoor
namespace Go.Proofs.YtgjmaeodgcigdaaGreatDoor
open Go.RowKit

theorem show_both (t : Nat) (ht : t < 18446744073709551616) : ∃ S E, ShownAs t S E ∧
    (∀ w, Calls Tryz.prog 49 #[.int .u64 (t : Int)] w fun e w' => e = .returned (.tuple #[.string ⟨S.toArray⟩, .int .i64 E]) ∧ Below w.heap.size w w') ∧
    (∀ w, Calls Tryz.prog 52 #[.int .u64 (t : Int)] w fun e w' => e = .returned (.tuple #[.string ⟨S.toArray⟩, .int .i64 E]) ∧ Below w.heap.size w w') := by
  by_cases h : 253402300799 < t
  · exact ⟨[], 6, .inl ⟨h, rfl, rfl⟩, fun w => codShow_out t w h, fun w => refShow_out t w ht h⟩
  · obtain ⟨y, m, d, hd⟩ := exists_date (t / 86400 + 719162) (by omega)
    exact ⟨_, 0, .inr ⟨by omega, IsTime.of hd, rfl⟩, fun w => codShow_in t y m d w (by omega) hd, fun w => refShow_in t y m d w (by omega) hd⟩

end Go.Proofs.YtgjmaeodgcigdaaGreatDoor
namespace Go.Proofs.YtgjmaeodgcigdaaGreatDoor
open Go.RowKit
attribute [local go_sem ↓] ixs

theorem allDg_take (l : List UInt8) (k : Nat) (h : k < l.length) : allDg (l.take (k + 1)) = (allDg (l.take k) && isDg (nth l k)) := by
  unfold allDg
  rw [nth_eq l k h, ← List.take_append_getElem h, List.all_append]; simp
theorem numL_take (l : List UInt8) (k : Nat) (h : k < l.length) : numD (l.take (k + 1)) = numD (l.take k) * 10 + ((nth l k).toNat - 48) := by
  rw [nth_eq l k h, ← List.take_append_getElem h, numL_snoc]
theorem allDg_no (l : List UInt8) (k : Nat) (h : k < l.length) (hc : isDg (nth l k) = false) : allDg l = false := by
  cases e : allDg l with
  | false => rfl
  | true =>
    have h2 : isDg l[k] = true := by
      unfold allDg at e
      rw [List.all_eq_true] at e
      exact e _ (List.getElem_mem h)
    rw [nth_eq l k h, h2] at hc
    cases hc

set_option maxHeartbeats 400000 in
theorem refNumber3 (s : ByteArray) (w : World) (hs : s.size ≤ 8) :
    Calls Tryz.prog 117 #[.string s] w fun e w' => e = .returned (.int .i64 (numI s.data.toList)) ∧ w' = w := by
  obtain ⟨l, hl⟩ : ∃ l, l = s.data.toList := ⟨_, rfl⟩
  have Hl : Hid (l = s.data.toList) := hl
  have HL : Hid (l.length = s.size) := by unfold Hid; rw [hl]; rfl
  rw [← hl]
  clear hl
  go_enter Tryz.func117, Tryz.ntmps117
  go_wp2
  go_loopw [3, 4] (fun nn i w' => ∃ k v : Nat, k ≤ s.size ∧ Hid (allDg (l.take k) = true) ∧ Hid (v = numD (l.take k)) ∧ v < 100000000 ∧ nn = .int .i64 (v : Int) ∧ i = .int .i64 (k : Int) ∧ w' = w) (fun _ i _ => s.size - (intOf i).toNat)
  case atStart => exact ⟨0, 0, by omega, by simp [Hid, allDg], by simp [Hid, numD], by omega, rfl, rfl, rfl⟩
  case round =>
    obtain ⟨k, v, hk, hg, hv, hv2, rfl, rfl, rfl⟩ := hrel
    by_cases hlt : k < s.size
    · have hb0 : (0 : Int) ≤ (k : Int) := by omega
      have hb1 : (k : Int) < (s.size : Int) := by omega
      have hcn : Hid (sb s (k : Int) = nth l k) := by unfold Hid; rw [Hl.out]; rfl
      have c256 := (sb s (k : Int)).toNat_lt
      by_cases h1 : (sb s (k : Int)).toNat < 48
      · have hno : Hid (allDg l = false) := allDg_no l k (by rw [HL.out]; exact hlt) (by rw [← hcn.out]; unfold isDg; simp; omega)
        have h1' : ((sb s (k : Int)).toNat : Int) < 48 := by omega
        clear h1
        go_wp2
        go_ret
        exact ⟨ret_i (by unfold numI; rw [hno.out]; rfl), rfl⟩
      · by_cases h2 : 57 < (sb s (k : Int)).toNat
        · have hno : Hid (allDg l = false) := allDg_no l k (by rw [HL.out]; exact hlt) (by rw [← hcn.out]; unfold isDg; simp; omega)
          have h2' : (57 : Int) < ((sb s (k : Int)).toNat : Int) := by omega
          have h1' : ¬ ((sb s (k : Int)).toNat : Int) < 48 := by omega
          clear h1 h2
          go_wp2
          go_ret
          exact ⟨ret_i (by unfold numI; rw [hno.out]; rfl), rfl⟩
        · have hyes : Hid (allDg (l.take (k + 1)) = true) := by
            unfold Hid
            rw [allDg_take l k (by rw [HL.out]; exact hlt), hg.out, ← hcn.out]
            unfold isDg; simp; omega
          have hval : Hid (v * 10 + ((sb s (k : Int)).toNat - 48) = numD (l.take (k + 1))) := by
            unfold Hid
            rw [numL_take l k (by rw [HL.out]; exact hlt), ← hv.out, hcn.out]
          have hbig : Hid (v * 10 + ((sb s (k : Int)).toNat - 48) < 100000000) := by
            unfold Hid
            rw [hval.out]
            have h3 := numL_lt (k + 1) (l.take (k + 1)) (by rw [List.length_take, HL.out]; omega) hyes.out
            have h4 : 10 ^ (k + 1) ≤ 10 ^ 8 := Nat.pow_le_pow_right (by decide) (by omega)
            omega
          have h2' : ¬ (57 : Int) < ((sb s (k : Int)).toNat : Int) := by omega
          have h1' : ¬ ((sb s (k : Int)).toNat : Int) < 48 := by omega
          go_wp2
          go_roundw
          case rel => exact ⟨k + 1, v * 10 + ((sb s (k : Int)).toNat - 48), by omega, hyes, hval, hbig.out, by go_num, by go_num, by first | rfl | trivial⟩
          case measure => simp [intOf]; omega
    · go_wp2
      go_ret
      have : k = s.size := by omega
      have e : l.take k = l := List.take_of_length_le (by rw [HL.out]; omega)
      have h1 := hg.out
      have h2 := hv.out
      rw [e] at h1 h2
      exact ⟨ret_i (by unfold numI; rw [h1, h2]; rfl), rfl⟩
end Go.Proofs.YtgjmaeodgcigdaaGreatDoor
namespace Go.Proofs.YtgjmaeodgcigdaaGreatDoor
open Go.RowKit
attribute [local go_sem ↓] ixs

set_option maxHeartbeats 1000000 in
theorem refRead_len (s : ByteArray) (w : World) (h : ¬ s.size = 16) :
    Calls Tryz.prog 71 #[.string s] w fun e w' => e = .returned (.tuple #[.int .u64 0, .int .i64 6]) ∧ ∃ q, w' = w.drewN q := by
  have h' : ¬ (s.size : Int) = 16 := by omega
  clear h
  go_enter Tryz.func71, Tryz.ntmps71
  go_wp2
  go_ret2
  exact ⟨rfl, 0, rfl⟩

set_option maxHeartbeats 1000000 in
theorem refRead_sign (s : ByteArray) (w : World) (h : s.size = 16) (h2 : ¬ (sb s 8 = 84 ∧ sb s 15 = 90)) :
    Calls Tryz.prog 71 #[.string s] w fun e w' => e = .returned (.tuple #[.int .u64 0, .int .i64 6]) ∧ ∃ q, w' = w.drewN q := by
  have h' : (s.size : Int) = 16 := by omega
  by_cases h3 : sb s 8 = 84
  · have h4 : ¬ sb s 15 = 90 := fun e => h2 ⟨h3, e⟩
    have h3' : ((sb s 8).toNat : Int) = 84 := by rw [h3]; rfl
    have h4' : ¬ ((sb s 15).toNat : Int) = 90 := by intro e; exact h4 (UInt8.toNat_inj.1 (by have : (90 : UInt8).toNat = 90 := rfl; omega))
    clear h h2 h3 h4
    go_enter Tryz.func71, Tryz.ntmps71
    go_wp2
    go_ret2
    exact ⟨rfl, 0, rfl⟩
  · have h3' : ¬ ((sb s 8).toNat : Int) = 84 := by intro e; exact h3 (UInt8.toNat_inj.1 (by have : (84 : UInt8).toNat = 84 := rfl; omega))
    clear h h2 h3
    go_enter Tryz.func71, Tryz.ntmps71
    go_wp2
    go_ret2
    exact ⟨rfl, 0, rfl⟩

set_option maxHeartbeats 2000000 in
theorem refRead_body (s : ByteArray) (w : World) (h : s.size = 16) (h3 : sb s 8 = 84) (h4 : sb s 15 = 90) :
    Calls Tryz.prog 71 #[.string s] w fun e w' => RdRaw (numI (List.take 4 s.data.toList)) (numI (List.take 2 (List.drop 4 s.data.toList))) (numI (List.take 2 (List.drop 6 s.data.toList))) (numI (List.take 2 (List.drop 9 s.data.toList))) (numI (List.take 2 (List.drop 11 s.data.toList))) (numI (List.take 2 (List.drop 13 s.data.toList))) e ∧ Below w.heap.size w w' := by
  have h' : (s.size : Int) = 16 := by omega
  have h3' : ((sb s 8).toNat : Int) = 84 := by rw [h3]; rfl
  have h4' : ((sb s 15).toNat : Int) = 90 := by rw [h4]; rfl
  clear h h3 h4
  go_enter Tryz.func71, Tryz.ntmps71
  go_wp2_with fail
  have z1 : (s.extract 0 4).size ≤ 8 := by simp; omega
  have z2 : (s.extract 4 6).size ≤ 8 := by simp; omega
  have z3 : (s.extract 6 8).size ≤ 8 := by simp; omega
  have z4 : (s.extract 9 11).size ≤ 8 := by simp; omega
  have z5 : (s.extract 11 13).size ≤ 8 := by simp; omega
  have z6 : (s.extract 13 15).size ≤ 8 := by simp; omega
  go_region_held3 (fun w' => True) (trivial) ((go_at_call 117; refine (refNumber3 _ _ (by assumption)).mono ?_; rintro e w' ⟨rfl, hww⟩; rw [hww]; clear hww w'))
  have B1 : Below w.heap.size w w.drew := (Below.refl _ _).drew
  generalize w.drew = x1 at *
  go_wp2_with fail
  go_region_held3 (fun w' => True) (trivial) ((go_at_call 117; refine (refNumber3 _ _ (by assumption)).mono ?_; rintro e w' ⟨rfl, hww⟩; rw [hww]; clear hww w'))
  have B2 : Below w.heap.size w x1.drew := B1.drew
  generalize x1.drew = x2 at *
  clear B1 z1 z2 z3 z4 z5 z6
  obtain ⟨Y, hY⟩ : ∃ v, numI (List.take 4 s.data.toList) = v := ⟨_, rfl⟩
  rw [hY]
  have HY : Hid (numI (List.take 4 s.data.toList) = Y) := hY
  clear hY
  obtain ⟨M, hM⟩ : ∃ v, numI (List.take 2 (List.drop 4 s.data.toList)) = v := ⟨_, rfl⟩
  rw [hM]
  have HM : Hid (numI (List.take 2 (List.drop 4 s.data.toList)) = M) := hM
  clear hM
  obtain ⟨D, hD⟩ : ∃ v, numI (List.take 2 (List.drop 6 s.data.toList)) = v := ⟨_, rfl⟩
  rw [hD]
  have HD : Hid (numI (List.take 2 (List.drop 6 s.data.toList)) = D) := hD
  clear hD
  obtain ⟨a, ha⟩ : ∃ v, numI (List.take 2 (List.drop 9 s.data.toList)) = v := ⟨_, rfl⟩
  rw [ha]
  have Ha : Hid (numI (List.take 2 (List.drop 9 s.data.toList)) = a) := ha
  clear ha
  obtain ⟨b, hb⟩ : ∃ v, numI (List.take 2 (List.drop 11 s.data.toList)) = v := ⟨_, rfl⟩
  rw [hb]
  have Hb : Hid (numI (List.take 2 (List.drop 11 s.data.toList)) = b) := hb
  clear hb
  obtain ⟨c, hc⟩ : ∃ v, numI (List.take 2 (List.drop 13 s.data.toList)) = v := ⟨_, rfl⟩
  rw [hc]
  have Hc : Hid (numI (List.take 2 (List.drop 13 s.data.toList)) = c) := hc
  clear hc
  have bda : -1 ≤ a ∧ a < 100 := by rw [← Ha.out]; exact numI_two _ (by simp; omega)
  have bdb : -1 ≤ b ∧ b < 100 := by rw [← Hb.out]; exact numI_two _ (by simp; omega)
  have bdc : -1 ≤ c ∧ c < 100 := by rw [← Hc.out]; exact numI_two _ (by simp; omega)
  go_wp2_with fail
  rcases date_or Y M D with hno | ⟨n, y, m, d, rfl, rfl, rfl, hd⟩
  · refine (refDay_out Y M D x2 hno).mono ?_
    rintro e x3 ⟨rfl, q, rfl⟩
    have B3 := bel_drewN B2 q
    generalize x2.drewN q = x3 at *
    go_wp2
    go_ret2
    refine ⟨?_, B3⟩
    rw [HY.out, HM.out, HD.out, Ha.out, Hb.out, Hc.out]
    exact .inl ⟨.inl hno, rfl⟩
  · refine (refDay_in n y m d x2 hd).mono ?_
    rintro e x3 ⟨rfl, q, rfl⟩
    have B3 := bel_drewN B2 q
    generalize x2.drewN q = x3 at *
    have hle := hd.le
    have Hd : Hid (IsDate n y m d) := hd
    clear hd
    by_cases c0 : n < 719162
    · have c0' : (n : Int) - 719162 < 0 := by omega
      go_wp2
      go_ret2
      refine ⟨?_, B3⟩
      rw [HY.out, HM.out, HD.out, Ha.out, Hb.out, Hc.out]
      exact .inl ⟨.inr (.inr ⟨n, y, m, d, rfl, rfl, rfl, Hd.out, c0⟩), rfl⟩
    obtain ⟨k, rfl⟩ : ∃ k, n = k + 719162 := ⟨n - 719162, by omega⟩
    have hk : ((k + 719162 : Nat) : Int) - 719162 = (k : Int) := by omega
    rw [hk]
    have hk2 : (k : Int) ≤ 2932896 := by omega
    clear hle c0 hk
    by_cases hbad : NoHour a b c
    · have fin : ∀ e, e = Ending.returned (.tuple #[.int .u64 0, .int .i64 6]) → RdRaw (y : Int) (m : Int) (d : Int) a b c e := fun e he => .inl ⟨.inr (.inl hbad), he⟩
      have HB : Hid (NoHour a b c) := hbad
      clear hbad
      by_cases c1 : a < 0
      · go_wp2
        go_ret2
        refine ⟨?_, B3⟩
        rw [HY.out, HM.out, HD.out, Ha.out, Hb.out, Hc.out]
        exact fin _ rfl
      by_cases c2 : 23 < a
      · go_wp2
        go_ret2
        refine ⟨?_, B3⟩
        rw [HY.out, HM.out, HD.out, Ha.out, Hb.out, Hc.out]
        exact fin _ rfl
      by_cases c3 : b < 0
      · go_wp2
        go_ret2
        refine ⟨?_, B3⟩
        rw [HY.out, HM.out, HD.out, Ha.out, Hb.out, Hc.out]
        exact fin _ rfl
      by_cases c4 : 59 < b
      · go_wp2
        go_ret2
        refine ⟨?_, B3⟩
        rw [HY.out, HM.out, HD.out, Ha.out, Hb.out, Hc.out]
        exact fin _ rfl
      by_cases c5 : c < 0
      · go_wp2
        go_ret2
        refine ⟨?_, B3⟩
        rw [HY.out, HM.out, HD.out, Ha.out, Hb.out, Hc.out]
        exact fin _ rfl
      have c6 : 59 < c := by have := HB.out; unfold NoHour at this; omega
      go_wp2
      go_ret2
      refine ⟨?_, B3⟩
      rw [HY.out, HM.out, HD.out, Ha.out, Hb.out, Hc.out]
      exact fin _ rfl
    · have HB : Hid (¬ NoHour a b c) := hbad
      unfold NoHour at hbad
      have c1 : 0 ≤ a := by omega
      have c2 : a ≤ 23 := by omega
      have c3 : 0 ≤ b := by omega
      have c4 : b ≤ 59 := by omega
      have c5 : 0 ≤ c := by omega
      have c6 : c ≤ 59 := by omega
      clear hbad
      go_wp2
      go_ret2
      refine ⟨?_, B3⟩
      rw [HY.out, HM.out, HD.out, Ha.out, Hb.out, Hc.out]
      refine .inr ⟨k + 719162, y, m, d, rfl, rfl, rfl, Hd.out, by omega, HB.out, ?_⟩
      exact ret_ue3 (by omega)
end Go.Proofs.YtgjmaeodgcigdaaGreatDoor
namespace Go.Proofs.YtgjmaeodgcigdaaGreatDoor
open Go.RowKit

theorem refRead (s : ByteArray) (w : World) :
    Calls Tryz.prog 71 #[.string s] w fun e w' => ReadE s.data.toList e ∧ Below w.heap.size w w' := by
  have hlen : s.data.toList.length = s.size := by rw [Array.length_toList]; rfl
  by_cases h : s.size = 16
  · by_cases h2 : sb s 8 = 84 ∧ sb s 15 = 90
    · refine (refRead_body s w h h2.1 h2.2).mono ?_
      rintro e w' ⟨hr, hb⟩
      exact ⟨raw_read (by omega) h2.1 h2.2 hr, hb⟩
    · refine (refRead_sign s w h h2).mono ?_
      rintro e w' ⟨rfl, q, rfl⟩
      refine ⟨.inr ⟨fun t ht => h2 ?_, rfl⟩, bel_drewN (Below.refl _ _) q⟩
      obtain ⟨n, y, m, d, hh, i, c, hd, hn, h1, h2, h3, s8, s15, -⟩ := ht.six
      exact ⟨s8, s15⟩
  · refine (refRead_len s w h).mono ?_
    rintro e w' ⟨rfl, q, rfl⟩
    refine ⟨.inr ⟨fun t ht => h ?_, rfl⟩, bel_drewN (Below.refl _ _) q⟩
    have := ht.length
    omega
end Go.Proofs.YtgjmaeodgcigdaaGreatDoor
