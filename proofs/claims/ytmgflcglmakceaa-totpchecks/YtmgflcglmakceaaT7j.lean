/- What the document's Hotp and Totp answer. -/
import Derived.Test.YtmgflcglmakceaaT7i
import Derived.Test.YtmgflcglmakceaaRefHmac1
import Derived.Test.YtmgflcglmakceaaJ44
import Derived.BigQuiet
namespace Go.Proofs.Ytmgflcglmakceaa
open Go.RowKit
theorem bits_or64 (a b : Nat) (ha : a < 9223372036854775808) (hb : b < 9223372036854775808) : bits .or .i64 (a : Int) (b : Int) = ((a ||| b : Nat) : Int) := by
  show IntKind.i64.wrap ((BitVec.ofInt 64 (a : Int) ||| BitVec.ofInt 64 (b : Int)).toNat : Int) = _
  rw [BitVec.ofInt_natCast, BitVec.ofInt_natCast, BitVec.toNat_or, BitVec.toNat_ofNat, BitVec.toNat_ofNat, Nat.mod_eq_of_lt (by omega), Nat.mod_eq_of_lt (by omega)]
  have : a ||| b < 2 ^ 63 := Nat.or_lt_two_pow (n := 63) (by omega) (by omega)
  exact wrapi64_in _ (by omega) (by omega)
theorem or_four (y0 x1 x2 x3 : Nat) (h0 : y0 < 128) (h1 : x1 < 256) (h2 : x2 < 256) (h3 : x3 < 256) :
    bits .or .i64 (bits .or .i64 (bits .or .i64 ((y0 : Int) * 16777216) ((x1 : Int) * 65536)) ((x2 : Int) * 256)) (x3 : Int) = ((y0 * 16777216 + x1 * 65536 + x2 * 256 + x3 : Nat) : Int) := by
  have e0 : (y0 : Int) * 16777216 = ((2 ^ 24 * y0 : Nat) : Int) := by omega
  have e1 : (x1 : Int) * 65536 = ((65536 * x1 : Nat) : Int) := by omega
  have e2 : (x2 : Int) * 256 = ((256 * x2 : Nat) : Int) := by omega
  rw [e0, e1, e2, bits_or64 _ _ (by omega) (by omega), ← Nat.two_pow_add_eq_or_of_lt (i := 24) (b := 65536 * x1) (by omega) y0]
  rw [bits_or64 _ _ (by omega) (by omega), show 2 ^ 24 * y0 + 65536 * x1 = 2 ^ 16 * (256 * y0 + x1) by omega, ← Nat.two_pow_add_eq_or_of_lt (i := 16) (b := 256 * x2) (by omega)]
  rw [bits_or64 _ _ (by omega) (by omega), show 2 ^ 16 * (256 * y0 + x1) + 256 * x2 = 2 ^ 8 * (256 * (256 * y0 + x1) + x2) by omega, ← Nat.two_pow_add_eq_or_of_lt (i := 8) (b := x3) (by omega)]
  congr 1; omega
theorem and127_8 (x : UInt8) : bits .and .u8 (x.toNat : Int) 127 = ((x.toNat % 128 : Nat) : Int) := by
  have h := bits_and8 x 127
  rw [UInt8.toNat_and] at h
  rw [show (x.toNat &&& (127 : UInt8).toNat) = x.toNat % 128 from Nat.and_two_pow_sub_one_eq_mod x.toNat 7] at h
  exact h
theorem ret_str7 {a b : List UInt8} (h : a = b) : Ending.returned (.string ⟨a.toArray⟩) = .returned (.string (str b)) := by rw [h]; rfl

set_option maxRecDepth 20000 in
set_option maxHeartbeats 1000000 in
theorem refHotp (a0 : Option Addr) (len0 cap0 : Nat) (key : List UInt8) (c : Nat) (w : World) (w0 : IsB w a0 len0 cap0 key) (hs : len0 ≤ 1000000) :
    Calls Try.prog 9 #[.slice a0 len0 cap0, .int .u64 (c : Int)] w fun e w' => e = .returned (.string (str (hotL key c))) ∧ Below w.heap.size w w' := by
  have B0 : Hid (IsB w a0 len0 cap0 key) := w0
  clear w0
  go_enter Try.func9, Try.ntmps9
  go_wp2
  go_loopw [5, 6] (fun v i wr => ∃ j : Nat, j ≤ 8 ∧ i = .int .i64 (7 - (j : Int)) ∧ OwnB wr w.heap.size v ((List.range j).map (be c)) ∧ Below w.heap.size w wr) (fun _ i _ => (intOf i + 1).toNat)
  case atStart => exact ⟨0, by omega, rfl, OwnB.nil _ _, Below.refl _ _⟩
  case round =>
    obtain ⟨j, hj, rfl, hown, hbel⟩ := hrel
    by_cases hj8 : j < 8
    · obtain ⟨t, ht⟩ : ∃ t : Nat, 7 - (j : Int) = (t : Int) := ⟨7 - j, by omega⟩
      have HT : Hid (7 - (j : Int) = (t : Int)) := ht
      have ht8 : t < 8 := by omega
      have h8 : (8 * (t : Int)).toNat = 8 * t := by omega
      have hv := be_wrap c j t (by omega)
      have HO : Hid ((List.range (j + 1)).map (be c) = (List.range j).map (be c) ++ [be c j]) := by unfold Hid; rw [List.range_succ, List.map_append]; rfl
      have HL : Hid (((List.range j).map (be c)).length = j) := by unfold Hid; simp
      have HB := hown.blk
      rw [ht]
      clear ht
      generalize (List.range j).map (be c) = q at *
      generalize be c j = y at *
      go_wp2_with (at_builtin; refine list_app8 _ rfl (.tmp 14) (.tmp 21) rfl w.heap.size _ q rfl (hown.alloc _) wr.heap.size 1 1 [y] rfl rfl (heap_alloc_new wr _) (by omega) (by rw [HL.out]; omega) (by have := hbel.size; simp; omega) _ rfl ?_; intro g4 cap4 w4 hown4 hgrow4 hat4 hlt4)
      go_roundw
      case rel => exact ⟨j + 1, by omega, by have := HT.out; go_num, by rw [HO.out]; exact hown4, (hbel.alloc hbel.size _).grown hgrow4 (by have := hbel.size; simp; omega) (fun q hq => (HB q hq).1)⟩
      case measure => simp [intOf]
    · have hge : ¬ ((0 : Int) ≤ 7 - (j : Int)) := by omega
      have e : j = 8 := by omega
      rw [e] at hown
      change OwnB wr w.heap.size u5 (be8 c) at hown
      obtain ⟨p0, q0, rfl, i0⟩ := hown.isB
      have h8l : (be8 c).length = 8 := by simp [be8]
      rw [h8l] at i0 ⊢
      have I0 : Hid (IsB wr p0 8 q0 (be8 c)) := i0
      have BK : Hid (IsB wr a0 len0 cap0 key) := B0.out.below hbel rfl
      clear i0 e hown h8l
      go_wp2_with fail
      refine (refHmac1 a0 len0 cap0 key _ 8 _ (be8 c) wr BK.out I0.out (by omega) (by omega)).mono ?_
      rintro e x1 ⟨v1, rfl, o1, t1⟩
      obtain ⟨p1, q1, rfl, i1⟩ := o1.isB
      rw [hm1_length] at i1 ⊢
      have T1 : Below w.heap.size w x1 := hbel.trans (t1.mono hbel.size)
      obtain ⟨b1, f1, rfl, hc1⟩ := i1.cells (by omega)
      obtain ⟨h, hh⟩ : ∃ h, h = hmL sha1L key (be8 c) := ⟨_, rfl⟩
      have HH : Hid (codeL h = hotL key c) := by unfold Hid hotL; rw [hh]
      rw [← hh] at hc1
      clear hh i1 o1 t1
      obtain ⟨o, ho⟩ : ∃ o, o = offN h := ⟨_, rfl⟩
      have ho16 : o < 16 := by rw [ho]; unfold offN; omega
      have hand : bits .and .u8 ((nth h 19).toNat : Int) 15 = (o : Int) := by rw [and15_8, ho]; rfl
      obtain ⟨o1, ho1⟩ : ∃ o1, o1 = o + 1 := ⟨_, rfl⟩
      obtain ⟨o2, ho2⟩ : ∃ o2, o2 = o + 2 := ⟨_, rfl⟩
      obtain ⟨o3, ho3⟩ : ∃ o3, o3 = o + 3 := ⟨_, rfl⟩
      have c19 := hc1 19 (by omega)
      have k0 := hc1 o (by omega)
      have k1 := hc1 o1 (by omega)
      have k2 := hc1 o2 (by omega)
      have k3 := hc1 o3 (by omega)
      have HN : Hid (nb h o % 128 * 16777216 + nb h o1 * 65536 + nb h o2 * 256 + nb h o3 = cutN h) := by unfold Hid cutN; rw [← ho, ho1, ho2, ho3]
      have j1 : (o : Int) + 1 = (o1 : Int) := by omega
      have j2 : (o : Int) + 2 = (o2 : Int) := by omega
      have j3 : (o : Int) + 3 = (o3 : Int) := by omega
      have l1 : o1 < 20 := by omega
      have l2 : o2 < 20 := by omega
      have l3 : o3 < 20 := by omega
      have ha := and127_8 (nth h o)
      have m0 : (nth h o).toNat % 128 < 128 := by omega
      have m1 := (nth h o1).toNat_lt
      have m2 := (nth h o2).toNat_lt
      have m3 := (nth h o3).toNat_lt
      have hor := or_four _ _ _ _ m0 m1 m2 m3
      unfold nb at HN
      generalize (nth h o).toNat % 128 = y0 at *
      generalize (nth h o1).toNat = y1 at *
      generalize (nth h o2).toNat = y2 at *
      generalize (nth h o3).toNat = y3 at *
      obtain ⟨N, hN⟩ : ∃ N, N = y0 * 16777216 + y1 * 65536 + y2 * 256 + y3 := ⟨_, rfl⟩
      rw [← hN] at HN hor
      obtain ⟨q, hq⟩ : ∃ q, q = N % 1000000 := ⟨_, rfl⟩
      have hq1 : (N : Int) % 1000000 = (q : Int) := by omega
      have hq2 : (N : Int).tmod 1000000 = (q : Int) := by rw [Int.tmod_eq_emod_of_nonneg (by omega)]; exact hq1
      have HQ : Hid (dgs 6 q = hotL key c) := by unfold Hid; rw [hq, HN.out, codeL_mod, HH.out]
      have hqb : q ≤ 1000000 := by omega
      clear hc1 ho ho1 ho2 ho3 hN hq HN HH
      go_wp2
      go_quiet (fail)
      have T2 : Below w.heap.size w (x1.drewN nq) := bel_drewN T1 nq
      generalize x1.drewN nq = x2 at *
      clear hor ha hand c19 k0 k1 k2 k3
      go_wp2_with fail
      refine (refPadN q 6 x2 hqb (by omega)).mono ?_
      rintro e x3 ⟨rfl, t3⟩
      have T3 : Below w.heap.size w x3 := T2.trans (t3.mono T2.size)
      go_wp2_with fail
      go_ret
      exact ⟨ret_str7 HQ.out, T3⟩

set_option maxHeartbeats 1000000 in
theorem refTotp (a0 : Option Addr) (len0 cap0 : Nat) (key : List UInt8) (t : Nat) (w : World) (w0 : IsB w a0 len0 cap0 key) (ht : t < 18446744073709551616) (hs : len0 ≤ 1000000) :
    Calls Try.prog 11 #[.slice a0 len0 cap0, .int .u64 (t : Int)] w fun e w' => e = .returned (.string (str (hotL key (t / 30)))) ∧ Below w.heap.size w w' := by
  obtain ⟨q, hq⟩ : ∃ q, q = t / 30 := ⟨_, rfl⟩
  have hq1 : (t : Int) / 30 = (q : Int) := by omega
  have hq2 : (t : Int).tdiv 30 = (q : Int) := by rw [Int.tdiv_eq_ediv_of_nonneg (by omega)]; exact hq1
  have HC := refHotp a0 len0 cap0 key q w w0 hs
  rw [← hq]
  clear hq w0
  go_enter Try.func11, Try.ntmps11
  go_wp2_with fail
  refine HC.mono ?_
  rintro e x1 ⟨rfl, t1⟩
  go_wp2_with fail
  go_ret
  exact ⟨rfl, t1⟩
end Go.Proofs.Ytmgflcglmakceaa
