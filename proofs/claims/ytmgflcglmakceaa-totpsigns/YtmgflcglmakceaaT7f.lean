/- What the document's Unbase32 answers. -/
import Derived.Test.YtmgflcglmakceaaT7e
import Derived.Test.YtmgflcglmakceaaRefBlock
namespace Go.Proofs.Ytmgflcglmakceaa
open Go.RowKit
theorem bits_and64 (a b : Nat) (ha : a < 9223372036854775808) (hb : b < 9223372036854775808) : bits .and .i64 (a : Int) (b : Int) = ((a &&& b : Nat) : Int) := by
  show IntKind.i64.wrap ((BitVec.ofInt 64 (a : Int) &&& BitVec.ofInt 64 (b : Int)).toNat : Int) = _
  rw [BitVec.ofInt_natCast, BitVec.ofInt_natCast, BitVec.toNat_and, BitVec.toNat_ofNat, BitVec.toNat_ofNat, Nat.mod_eq_of_lt (by omega), Nat.mod_eq_of_lt (by omega)]
  have : a &&& b ≤ a := Nat.and_le_left
  exact wrapi64_in _ (by omega) (by omega)
theorem and1_64 (n : Nat) (h : n < 1000000) : bits .and .i64 (n : Int) 1 = ((n % 2 : Nat) : Int) := by
  have e := bits_and64 n 1 (by omega) (by omega)
  rw [show (n &&& 1) = n % 2 from Nat.and_two_pow_sub_one_eq_mod n 1] at e
  exact e
/-- the bits of signs, each a byte -/
def bw (s : List UInt8) (j : Nat) : UInt8 := UInt8.ofNat (bitV (vals s) j)
theorem bw_toNat (s : List UInt8) (j : Nat) : (bw s j).toNat = bitV (vals s) j := by
  unfold bw; rw [UInt8.toNat_ofNat']; have := bitV_lt (vals s) j; omega
def bwTo (s : List UInt8) (m : Nat) : List UInt8 := (List.range m).map (bw s)
theorem bwTo_succ (s : List UInt8) (m : Nat) : bwTo s (m + 1) = bwTo s m ++ [bw s m] := by
  unfold bwTo; rw [List.range_succ, List.map_append]; rfl
theorem bwTo_length (s : List UInt8) (m : Nat) : (bwTo s m).length = m := by simp [bwTo]
theorem bwTo_at (s : List UInt8) (m i : Nat) (h : i < m) : nth (bwTo s m) i = bw s i := by
  rw [nth_eq _ _ (by rw [bwTo_length]; exact h)]; simp [bwTo]
/-- the number of the first k bits -/
def preOf (f : Nat → Nat) (j : Nat) : Nat → Nat
  | 0 => 0
  | k + 1 => preOf f j k * 2 + f (j + k)
theorem preOf_lt (f : Nat → Nat) (j : Nat) (h : ∀ i, f i < 2) : ∀ k, preOf f j k < 2 ^ k
  | 0 => by simp [preOf]
  | k + 1 => by have := preOf_lt f j h k; have := h (j + k); rw [Nat.pow_succ]; unfold preOf; omega
theorem preOf_eight (f : Nat → Nat) (j : Nat) : preOf f j 8 = eightOf f j := by
  simp only [preOf, eightOf, Nat.add_zero]; omega

set_option maxRecDepth 20000 in
set_option maxHeartbeats 2000000 in
theorem refUnbase32 (s : ByteArray) (w : World) (hs : s.size ≤ 1000000) :
    Calls Try.prog 15 #[.string s] w fun e w' => ∃ v, e = .returned (.tuple #[v, .int .i64 (unErr s.data.toList)]) ∧ OwnB w' w.heap.size v (unRes s.data.toList) ∧ Below w.heap.size w w' := by
  obtain ⟨l, hl⟩ : ∃ l, l = s.data.toList := ⟨_, rfl⟩
  have HS : Hid (l = s.data.toList) := hl
  have HL : Hid (l.length = s.size) := by unfold Hid; rw [hl, Array.length_toList]; rfl
  rw [← hl]
  clear hl
  go_enter Try.func15, Try.ntmps15
  go_wp2
  go_loopw [4, 5] (fun v i wr => ∃ k : Nat, k ≤ s.size ∧ i = .int .i64 (k : Int) ∧ Hid (goodV l k) ∧ OwnB wr w.heap.size v (bwTo l (5 * k)) ∧ Below w.heap.size w wr) (fun _ i _ => s.size - (intOf i).toNat)
  case atStart => exact ⟨0, Nat.zero_le _, rfl, fun j hj => absurd hj (Nat.not_lt_zero _), OwnB.nil _ _, Below.refl _ _⟩
  case round =>
    obtain ⟨k, hk, rfl, hgood, hown, hbel⟩ := hrel
    by_cases hlt : k < s.size
    · have hlt' : (k : Int) < (s.size : Int) := by omega
      have hix := fun u => ixs s (k : Int) (by omega) hlt' u
      have hc : sb s (k : Int) = nth l k := by unfold sb; rw [Int.toNat_natCast, HS.out]
      rw [hc] at hix
      clear hc
      obtain ⟨c, hc⟩ : ∃ c, c = nth l k := ⟨_, rfl⟩
      rw [← hc] at hix
      have HV : Hid (vals l k = sgv c) := by unfold Hid vals; rw [hc]
      clear hc
      by_cases hg : sgv c < 32
      · have hI := sgI_yes hg
        have HG : Hid (goodV l (k + 1)) := fun j hj => by
          by_cases e : j = k
          · rw [e, HV.out]; exact hg
          · exact hgood.out j (by omega)
        obtain ⟨n, hn⟩ : ∃ n, n = sgv c := ⟨_, rfl⟩
        rw [← hn] at hI
        have hn32 : n < 32 := by rw [hn]; exact hg
        have HVn : Hid (vals l k = n) := by unfold Hid; rw [HV.out, hn]
        clear hn HV hg
        go_wp2_with (go_at_call 26; refine (refSgn _ _).mono ?_; rintro e w' ⟨rfl, hq⟩; obtain rfl := hq.symm)
        clear hix hI
        go_loopw [4, 7] (fun v i wr => ∃ j : Nat, j ≤ 5 ∧ i = .int .i64 (4 - (j : Int)) ∧ OwnB wr w.heap.size v (bwTo l (5 * k + j)) ∧ Below w.heap.size w wr) (fun _ i _ => (intOf i + 1).toNat)
        case atStart => exact ⟨0, by omega, rfl, hown, hbel⟩
        case round =>
          clear hown hbel
          obtain ⟨j, hj, rfl, hown, hbel⟩ := hrel
          by_cases hj5 : j < 5
          · obtain ⟨t, ht⟩ : ∃ t : Nat, 4 - (j : Int) = (t : Int) := ⟨4 - j, by omega⟩
            have HT : Hid (4 - (j : Int) = (t : Int)) := ht
            have ht5 : t < 5 := by omega
            obtain ⟨y, hy⟩ : ∃ y, y = bw l (5 * k + j) := ⟨_, rfl⟩
            have HA : bits .and .i64 ((n : Int) / 2 ^ t) 1 = (y.toNat : Int) := by
              rw [hy, bw_toNat, bitV_at _ k j hj5, show 4 - j = t by omega, HVn.out]
              have := and1_64 (n / 2 ^ t) (Nat.lt_of_le_of_lt (Nat.div_le_self _ _) (by omega))
              rw [← this]
              simp
            have HW := wrap8_nat y.toNat y.toNat_lt
            have HO : Hid (bwTo l (5 * k + (j + 1)) = bwTo l (5 * k + j) ++ [y]) := by unfold Hid; rw [← Nat.add_assoc, bwTo_succ, hy]
            have HLn : Hid ((bwTo l (5 * k + j)).length = 5 * k + j) := bwTo_length _ _
            have HB := hown.blk
            rw [ht]
            clear ht hy
            have hbd : 5 * k + j ≤ 10000000 := by omega
            generalize bwTo l (5 * k + j) = q at *
            go_wp2_with (at_builtin; refine list_app8 _ rfl (.tmp 28) (.tmp 35) rfl w.heap.size _ q rfl (hown.alloc _) wr.heap.size 1 1 [y] rfl rfl (heap_alloc_new wr _) (by omega) (by rw [HLn.out]; omega) (by have := hbel.size; simp; omega) _ rfl ?_; intro g4 cap4 w4 hown4 hgrow4 hat4 hlt4)
            go_roundw
            case rel => exact ⟨j + 1, by omega, by have := HT.out; go_num, by rw [HO.out]; exact hown4, (hbel.alloc hbel.size _).grown hgrow4 (by have := hbel.size; simp; omega) (fun q hq => (HB q hq).1)⟩
            case measure => simp [intOf]
          · have hge : ¬ ((0 : Int) ≤ 4 - (j : Int)) := by omega
            have e : 5 * k + j = 5 * (k + 1) := by omega
            rw [e] at hown
            clear e
            go_wp2
            go_roundw
            case rel => exact ⟨k + 1, by omega, by go_num, HG.out, hown, hbel⟩
            case measure => simp [intOf]; omega
      · have hI := sgI_no hg
        have HA : Hid (unOk l = false) := by unfold Hid unOk; rw [goodV_no l k (by rw [HL.out]; exact hlt) (by rw [HV.out]; exact hg)]; rfl
        go_wp2_with (go_at_call 26; refine (refSgn _ _).mono ?_; rintro e w' ⟨rfl, hq⟩; obtain rfl := hq.symm)
        go_ret2
        exact ⟨.slice none 0 0, ret_un7 (by unfold unErr; rw [HA.out]; rfl), by unfold unRes; rw [HA.out]; exact OwnB.nil _ _, hbel⟩
    · have hkl : k = s.size := by omega
      have HKL : Hid (l.length = k) := by unfold Hid; rw [HL.out, hkl]
      have HA : Hid (allV l = true) := goodV_all l (by rw [HKL.out]; exact hgood.out)
      obtain ⟨a3, cap3, rfl, iB⟩ := hown.isB
      rw [bwTo_length] at iB ⊢
      obtain ⟨nT, hnT⟩ : ∃ nT, nT = 5 * k := ⟨_, rfl⟩
      have HT : Hid (nT = 5 * l.length) := by unfold Hid; rw [hnT, HKL.out]
      have hnT1 : nT ≤ 10000000 := by omega
      rw [← hnT] at iB ⊢
      have IB : Hid (IsB _ a3 nT cap3 (bwTo l nT)) := iB
      clear iB hown hkl hnT hgood
      obtain ⟨W0, rfl⟩ : ∃ W : World, W = wr := ⟨_, rfl⟩
      go_wp2
      go_loopw [8, 9] (fun v i wx => ∃ p t : Nat, p ≤ nT / 8 ∧ Hid (t = 8 * p) ∧ i = .int .i64 (t : Int) ∧ OwnB wx W0.heap.size v (unTo l p) ∧ Below W0.heap.size W0 wx) (fun _ i _ => nT + 8 - (intOf i).toNat)
      case atStart => exact ⟨0, 0, Nat.zero_le _, rfl, rfl, OwnB.nil _ _, Below.refl _ _⟩
      case round =>
        obtain ⟨p, t, hp, ht, rfl, hown, hbel2⟩ := hrel
        have HLn : Hid ((unTo l p).length = p) := unTo_length l p
        by_cases hlt2 : p < nT / 8
        · have ht0 := ht.out
          have hle8 : (t : Int) + 8 ≤ (nT : Int) := by omega
          obtain ⟨b0, o0, rfl, hc0⟩ := IB.out.cells (by omega)
          have gb : b0 < W0.heap.size := cell_lt (hc0 t (by omega))
          have hp7 : p ≤ 10000000 := by omega
          clear ht0
          obtain ⟨W1, rfl⟩ : ∃ W : World, W = wr := ⟨_, rfl⟩
          go_wp2
          go_loopw [10, 11] (fun c i wx => ∃ j C : Nat, j ≤ 8 ∧ i = .int .i64 (j : Int) ∧ c = .int .u8 (C : Int) ∧ Hid (C = preOf (bitV (vals l)) t j) ∧ wx = W1) (fun _ i _ => 8 - (intOf i).toNat)
          case atStart => exact ⟨0, 0, by omega, rfl, rfl, rfl, rfl⟩
          case round =>
            obtain ⟨j, C, hj, rfl, rfl, hC, hwx⟩ := hrel
            obtain rfl := hwx.symm
            by_cases hj8 : j < 8
            · have hj8' : (j : Int) < 8 := by omega
              have c0 := (hbel2.cell (p := ⟨b0, o0 + (t + j), none⟩) gb).trans (hc0 (t + j) (by omega))
              rw [bwTo_at l nT _ (by omega)] at c0
              have hy := bw_toNat l (t + j)
              have hy2 := bitV_lt (vals l) (t + j)
              rw [← hy] at hy2
              have hC7 : C < 128 := by
                rw [hC.out]
                exact Nat.lt_of_lt_of_le (preOf_lt _ t (bitV_lt _) j) (Nat.pow_le_pow_right (by omega) (by omega) : 2 ^ j ≤ 2 ^ 7)
              have HC : Hid (C * 2 + (bw l (t + j)).toNat = preOf (bitV (vals l)) t (j + 1)) := by unfold Hid; rw [hy, hC.out]; rfl
              clear hy hc0
              have htj : ((t : Int) + (j : Int)).toNat = t + j := by omega
              have htl : (t : Int) + (j : Int) < (nT : Int) := by omega
              generalize bw l (t + j) = y at *
              go_wp2
              go_roundw
              case rel => exact ⟨j + 1, C * 2 + y.toNat, by omega, by go_num, by go_num, HC.out, by first | rfl | trivial⟩
              case measure => simp [intOf]; omega
            · have ej : j = 8 := by omega
              have hC8 : C = eightOf (bitV (vals l)) t := by rw [hC.out, ej, preOf_eight]
              obtain ⟨x, hx⟩ : ∃ x, x = UInt8.ofNat (eightOf (bitV (vals l)) (8 * p)) := ⟨_, rfl⟩
              have hxC : C = x.toNat := by rw [hC8, hx, ht.out, UInt8.toNat_ofNat', Nat.mod_eq_of_lt (eightOf_lt _ _ (bitV_lt _))]
              have HO : Hid (unTo l (p + 1) = unTo l p ++ [x]) := by unfold Hid; rw [unTo_succ, hx]
              have HB := hown.blk
              have hj8' : ¬ (j : Int) < 8 := by omega
              clear hC hC8 hx ej
              subst hxC
              go_wp2_with (at_builtin; refine list_app8 _ rfl (.tmp 57) (.tmp 59) rfl W0.heap.size _ (unTo l p) rfl (hown.alloc _) W1.heap.size 1 1 [x] rfl rfl (heap_alloc_new W1 _) (by omega) (by rw [HLn.out]; omega) (by have := hbel2.size; simp; omega) _ rfl ?_; intro g4 cap4 w4 hown4 hgrow4 hat4 hlt4)
              go_roundw
              case rel => exact ⟨p + 1, t + 8, by omega, by have := ht.out; unfold Hid; omega, by go_num, by rw [HO.out]; exact hown4, (hbel2.alloc hbel2.size _).grown hgrow4 (by have := hbel2.size; simp; omega) (fun q hq => (HB q hq).1)⟩
              case measure => simp [intOf]; omega
        · have hle8 : ¬ (t : Int) + 8 ≤ (nT : Int) := by have := ht.out; omega
          have HA2 : Hid (unTo l p = unB l) := unTo_all l p (by rw [← HT.out]; omega)
          rw [HA2.out] at hown
          have hp7 : p ≤ 10000000 := by omega
          obtain ⟨a4, cap4, rfl, iB4⟩ := hown.isB
          have HLu : Hid ((unB l).length = p) := by unfold Hid; rw [← HA2.out]; exact HLn.out
          rw [HLu.out] at iB4 hown ⊢
          have hcall := refBase32 a4 p cap4 (unB l) wr iB4 (by have := HT.out; have := HKL.out; omega)
          have HF : Hid (Below w.heap.size w wr) := hbel.trans (hbel2.mono hbel.size)
          have ht9 : t ≤ 10000000 := by have := ht.out; omega
          have hsl : s.toList = l := by rw [HS.out]; exact ByteArray.toList_eq s
          by_cases hend : endOk l = true
          · have hcmp : (b32L (unB l) == s.toList) = true := by rw [hsl, beq_iff_eq]; exact (un_iff l HA.out).2 hend
            have HO : Hid (unOk l = true) := by unfold Hid unOk; rw [HA.out, hend]; rfl
            have HRes : Hid (unRes l = unB l) := by unfold Hid unRes; rw [HO.out]; rfl
            clear hsl hend iB4
            go_wp2_with (go_at_call 17; refine hcall.mono ?_; rintro e w5 ⟨rfl, t5⟩)
            go_ret2
            have HF5 := HF.out.trans (t5.mono HF.out.size)
            exact ⟨_, ret_un7 (by unfold unErr; rw [HO.out]; rfl), by rw [HRes.out]; exact (hown.below t5).base hbel.size, HF5⟩
          · have hcmp : (b32L (unB l) == s.toList) = false := by
              rw [hsl, beq_eq_false_iff_ne]; intro h; exact hend ((un_iff l HA.out).1 h)
            have HO : Hid (unOk l = false) := by
              unfold Hid unOk; rw [HA.out, Bool.true_and]; cases h : endOk l with
              | false => rfl
              | true => exact absurd h hend
            clear hsl hend iB4
            go_wp2_with (go_at_call 17; refine hcall.mono ?_; rintro e w5 ⟨rfl, t5⟩)
            go_ret2
            exact ⟨.slice none 0 0, ret_un7 (by unfold unErr; rw [HO.out]; rfl), by unfold unRes; rw [HO.out]; exact OwnB.nil _ _, HF.out.trans (t5.mono HF.out.size)⟩
end Go.Proofs.Ytmgflcglmakceaa
