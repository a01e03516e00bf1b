/- What totp.Hotp and totp.Totp answer. -/
import Derived.Test.YtmgflcglmakceaaT7h
import Derived.Test.YtmgflcglmakceaaSha1
import Derived.Test.YtmgflcglmakceaaPad
namespace Go.Proofs.Ytmgflcglmakceaa
open Go.RowKit

/-- the counter's bytes behind j rounds -/
def ctrTo (c j : Nat) : List UInt8 := (List.range 8).map fun i => if i < j then be c i else 0
theorem ctrTo_length (c j : Nat) : (ctrTo c j).length = 8 := by simp [ctrTo]
theorem ctrTo_all (c : Nat) : ctrTo c 8 = be8 c := by
  unfold ctrTo be8
  refine List.map_congr_left fun i hi => ?_
  rw [if_pos (by simpa using hi)]
theorem ctrTo_set (c j : Nat) : (ctrTo c j).set j (be c j) = ctrTo c (j + 1) := by
  refine List.ext_getElem (by simp [ctrTo]) fun i hi hi' => ?_
  simp only [ctrTo, List.getElem_set, List.getElem_map, List.getElem_range]
  by_cases e : j = i
  · subst e; rw [if_pos rfl, if_pos (by omega)]
  · rw [if_neg e]
    by_cases h2 : i < j
    · rw [if_pos h2, if_pos (by omega)]
    · rw [if_neg h2, if_neg (by omega)]
theorem be_wrap (c j t : Nat) (h : t = 7 - j) : IntKind.u8.wrap ((c : Int) / 2 ^ (8 * t)) = ((be c j).toNat : Int) := by
  rw [wrap8_rem]; unfold be
  rw [UInt8.toNat_ofNat', show 56 - 8 * j = 8 * t by omega]
  simp
theorem sl8 (I : Nat) (w : World) : (Instr.sliceAt 34 (.pointer (some ⟨I, 0, none⟩)) none none none).run Try.prog w = .ok (.slice (some ⟨I, 0, none⟩) 8 8) w := by
  have he : Try.prog.elem 34 = 5 := by kernel_rfl
  have hn : Try.prog.arrayLen 34 = 8 := by kernel_rfl
  have hz : (sizeOf 5).run Try.prog w = .ok 1 w := by
    obtain ⟨i0, hi, hz0, hz1, hz2⟩ := info_parts info8
    simp [sizeOf, typeInfo, hi, hz1]
  rw [run_sliceAt_array_all w 34 ⟨I, 0, none⟩ (by rw [he, hn]; exact Try.underlying34), he, hn, hz]
  rfl
attribute [local go_sem ↓] sl8

/-- the code of a key and a counter -/
def hotL (key : List UInt8) (c : Nat) : List UInt8 := codeL (hmL sha1L key (be8 c))
theorem hotL_length (key : List UInt8) (c : Nat) : (hotL key c).length = 6 := codeL_length _
theorem hm1_length (key l : List UInt8) : (hmL sha1L key l).length = 20 := by
  unfold hmL; unfold sha1L hashL; rw [outB_length]

set_option maxHeartbeats 1000000 in
theorem codHotp (a0 : Option Addr) (len0 cap0 : Nat) (key : List UInt8) (c : Nat) (w : World) (w0 : IsB w a0 len0 cap0 key) (hs : len0 ≤ 1000000) :
    Calls Try.prog 8 #[.slice a0 len0 cap0, .int .u64 (c : Int)] w fun e w' => e = .returned (.string (str (hotL key c))) ∧ Below w.heap.size w w' := by
  have B0 : Hid (IsB w a0 len0 cap0 key) := w0
  clear w0
  go_enter Try.func8, Try.ntmps8
  go_wp2
  go_loopw [7] (fun i wr => ∃ j : Nat, j ≤ 8 ∧ i = .int .i64 (j : Int) ∧ Blk wr w.heap.size 34 (bv (ctrTo c j)) ∧ Below w.heap.size w wr) (fun i _ => 8 - (intOf i).toNat)
  case atStart => exact ⟨0, by omega, rfl, Blk.newAt w _ _ _ (bv (ctrTo c 0)) rfl rfl, (Below.refl _ _).alloc (Nat.le_refl _) _⟩
  case round =>
    obtain ⟨j, hj, rfl, hb, hbel⟩ := hrel
    by_cases hlt : j < 8
    · have hlt' : (j : Int) < 8 := by omega
      obtain ⟨t, ht⟩ : ∃ t : Nat, 7 - (j : Int) = (t : Int) := ⟨7 - j, by omega⟩
      have ht8 : t < 8 := by omega
      have h8 : (8 * (t : Int)).toNat = 8 * t := by omega
      have hv := be_wrap c j t (by omega)
      have hcell := (hb.cell j).trans (bv_at _ j (by rw [ctrTo_length]; omega))
      have hfr := hb.frozen j
      have HS : Hid (Blk (wr.setCell ⟨w.heap.size, j, none⟩ (.int .u8 ((be c j).toNat : Int))) w.heap.size 34 (bv (ctrTo c (j + 1)))) := by
        have := hb.set j (.int .u8 ((be c j).toNat : Int))
        rw [← bv_set, ctrTo_set c j] at this
        exact this
      have HT : Hid (Below w.heap.size w (wr.setCell ⟨w.heap.size, j, none⟩ (.int .u8 ((be c j).toNat : Int)))) := hbel.trans (set_bel _ _ _ _ (Nat.le_refl _))
      clear hb hbel
      go_wp2
      go_roundw
      case rel => exact ⟨j + 1, by omega, by go_num, HS.out, HT.out⟩
      case measure => simp [intOf]; omega
    · have ej : j = 8 := by omega
      have hlt' : ¬ (j : Int) < 8 := by omega
      rw [ej, ctrTo_all] at hb
      have IC : Hid (IsB wr (some ⟨w.heap.size, 0, none⟩) 8 8 (be8 c)) := IsB.arrN (T := 34) (be8 c) hb (by simp [be8]) (by omega)
      have BK : Hid (IsB wr a0 len0 cap0 key) := B0.out.below hbel rfl
      clear hb ej hlt
      go_wp2_with fail
      refine (digHmac1 a0 len0 cap0 key _ 8 8 (be8 c) wr BK.out IC.out (by omega) (by omega)).mono ?_
      rintro e x1 ⟨v1, rfl, o1, t1⟩
      obtain ⟨p1, q1, rfl, i1⟩ := o1.isB
      rw [hm1_length] at i1 ⊢
      have T1 : Below w.heap.size w x1 := hbel.trans (t1.mono hbel.size)
      have I1 : Hid (IsB x1 p1 20 q1 (hmL sha1L key (be8 c))) := i1
      clear i1 o1 t1
      go_wp2_with fail
      refine (codCutOf p1 q1 _ x1 I1.out).mono ?_
      rintro e x2 ⟨rfl, hw⟩
      rw [hw]
      clear hw
      go_wp2_with fail
      refine (codDigitsOf _ x1 (cutN_lt _)).mono ?_
      rintro e x3 ⟨rfl, t3⟩
      have T3 : Below w.heap.size w x3 := T1.trans (t3.mono T1.size)
      go_wp2_with fail
      go_ret
      exact ⟨rfl, T3⟩

set_option maxHeartbeats 1000000 in
theorem codTotp (a0 : Option Addr) (len0 cap0 : Nat) (key : List UInt8) (t : Nat) (w : World) (w0 : IsB w a0 len0 cap0 key) (ht : t < 18446744073709551616) (hs : len0 ≤ 1000000) :
    Calls Try.prog 10 #[.slice a0 len0 cap0, .int .u64 (t : Int)] w fun e w' => e = .returned (.string (str (hotL key (t / 30)))) ∧ Below w.heap.size w w' := by
  obtain ⟨q, hq⟩ : ∃ q, q = t / 30 := ⟨_, rfl⟩
  have hq1 : (t : Int) / 30 = (q : Int) := by omega
  have hq2 : (t : Int).tdiv 30 = (q : Int) := by rw [Int.tdiv_eq_ediv_of_nonneg (by omega)]; exact hq1
  have HC := codHotp a0 len0 cap0 key q w w0 hs
  rw [← hq]
  clear hq w0
  go_enter Try.func10, Try.ntmps10
  go_wp2_with fail
  refine HC.mono ?_
  rintro e x1 ⟨rfl, t1⟩
  go_wp2_with fail
  go_ret
  exact ⟨rfl, t1⟩
end Go.Proofs.Ytmgflcglmakceaa
