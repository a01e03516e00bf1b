/- What totp's digitsOf and cutOf answer. -/
import Derived.Test.YtmgflcglmakceaaT7c
import Derived.Test.YtmgflcglmakceaaHot0
import Derived.Test.YtmgflcglmakceaaConvB
import Derived.Test.YtmgflcglmakceaaDigHmac
namespace Go.Proofs.Ytmgflcglmakceaa
open Go.RowKit

theorem IsB.arrN {w : World} {I T n : Nat} (cs : List UInt8) (hB : Blk w I T (bv cs)) (hl : cs.length = n) (hn : n ≤ 64) : IsB w (some ⟨I, 0, none⟩) n n cs :=
  ⟨hl, Nat.le_refl _, by unfold maxLen; omega, fun e => (by cases e), fun _ => ⟨I, 0, rfl, fun i hi => by rw [Nat.zero_add, hB.cell i]; exact bv_at cs i (by omega)⟩⟩
theorem sl6 (I : Nat) (w : World) : (Instr.sliceAt 49 (.pointer (some ⟨I, 0, none⟩)) none none none).run Try.prog w = .ok (.slice (some ⟨I, 0, none⟩) 6 6) w := by
  have he : Try.prog.elem 49 = 5 := by kernel_rfl
  have hn : Try.prog.arrayLen 49 = 6 := by kernel_rfl
  have hz : (sizeOf 5).run Try.prog w = .ok 1 w := by
    obtain ⟨i0, hi, hz0, hz1, hz2⟩ := info_parts info8
    simp [sizeOf, typeInfo, hi, hz1]
  rw [run_sliceAt_array_all w 49 ⟨I, 0, none⟩ (by rw [he, hn]; exact Try.underlying49), he, hn, hz]
  rfl
attribute [local go_sem ↓] sl6

set_option maxHeartbeats 1000000 in
theorem codDigitsOf (n : Nat) (w : World) (hn : n < 2147483648) :
    Calls Try.prog 19 #[.int .u32 (n : Int)] w fun e w' => e = .returned (.string (str (dgs 6 n))) ∧ Below w.heap.size w w' := by
  go_enter Try.func19, Try.ntmps19
  go_wp2
  go_loopw [0, 5] (fun m i wr => ∃ j q : Nat, j ≤ 6 ∧ i = .int .i64 (j : Int) ∧ m = .int .u32 (q : Int) ∧ Hid (q = n / 10 ^ j) ∧ q < 2147483648 ∧ Blk wr w.heap.size 49 (bv (dgFill n j)) ∧ Below w.heap.size w wr) (fun _ i _ => 6 - (intOf i).toNat)
  case atStart => exact ⟨0, n, by omega, rfl, rfl, by simp [Hid], hn, Blk.newAt w _ _ _ (bv (dgFill n 0)) rfl rfl, (Below.refl _ _).alloc (Nat.le_refl _) _⟩
  case round =>
    obtain ⟨j, q, hj, rfl, rfl, hq, hq2, hb, hbel⟩ := hrel
    by_cases hlt : j < 6
    · have hlt' : (j : Int) < 6 := by omega
      obtain ⟨t, ht⟩ : ∃ t : Nat, 5 - (j : Int) = (t : Int) := ⟨5 - j, by omega⟩
      have ht6 : (t : Int) < 6 := by omega
      obtain ⟨c, hc⟩ : ∃ c, c = dgt q := ⟨_, rfl⟩
      have hc1 : 48 + (q : Int) % 10 = (c.toNat : Int) := by rw [hc, dgt_toNat]; omega
      have hc2 := wrap8_nat c.toNat c.toNat_lt
      have hcell := (hb.cell t).trans (bv_at _ t (by rw [dgFill_length _ _ hj]; omega))
      have hfr := hb.frozen t
      have HS : Hid (Blk (wr.setCell ⟨w.heap.size, t, none⟩ (.int .u8 (c.toNat : Int))) w.heap.size 49 (bv (dgFill n (j + 1)))) := by
        have := hb.set t (.int .u8 (c.toNat : Int))
        rw [← bv_set, show t = 5 - j by omega, hc, hq.out, dgFill_set n j hlt, show 5 - j = t by omega, ← hq.out, ← hc] at this
        exact this
      have HT : Hid (Below w.heap.size w (wr.setCell ⟨w.heap.size, t, none⟩ (.int .u8 (c.toNat : Int)))) := hbel.trans (set_bel _ _ _ _ (Nat.le_refl _))
      have Hq : Hid (q / 10 = n / 10 ^ (j + 1)) := by unfold Hid; rw [Nat.pow_succ, ← Nat.div_div_eq_div_mul, ← hq.out]
      clear hc hb hbel hq
      go_wp2
      go_roundw
      case rel => exact ⟨j + 1, q / 10, by omega, by go_num, by go_num, Hq.out, by omega, HS.out, HT.out⟩
      case measure => simp [intOf]; omega
    · have ej : j = 6 := by omega
      rw [ej] at hb
      have hlt' : ¬ (j : Int) < 6 := by omega
      have hcv := conv_isB wr _ 6 6 (dgs 6 n) (IsB.arrN (T := 49) (dgs 6 n) hb (dgs_length _ _) (by omega))
      clear ej hb
      go_wp2
      go_ret
      exact ⟨rfl, hbel⟩

theorem bits_and32n (a : Nat) (ha : a < 4294967296) : bits .and .u32 (a : Int) 2147483647 = ((a % 2147483648 : Nat) : Int) := by
  have h := bits_and32 (UInt32.ofNat a) 2147483647
  rw [UInt32.toNat_and, UInt32.toNat_ofNat', Nat.mod_eq_of_lt ha] at h
  rw [show (a &&& (2147483647 : UInt32).toNat) = a % 2147483648 from Nat.and_two_pow_sub_one_eq_mod a 31] at h
  exact h
theorem and15_8 (x : UInt8) : bits .and .u8 (x.toNat : Int) 15 = ((x.toNat % 16 : Nat) : Int) := by
  have h := bits_and8 x 15
  rw [UInt8.toNat_and] at h
  rw [show (x.toNat &&& (15 : UInt8).toNat) = x.toNat % 16 from Nat.and_two_pow_sub_one_eq_mod x.toNat 4] at h
  exact h
theorem wrap32_rem (z : Int) : IntKind.u32.wrap z = z % 4294967296 := by
  simp [IntKind.wrap, IntKind.signed, IntKind.bits]

set_option maxHeartbeats 1000000 in
theorem codCutOf (a : Option Addr) (cap : Nat) (h : List UInt8) (w : World) (hB : IsB w a 20 cap h) :
    Calls Try.prog 20 #[.slice a 20 cap] w fun e w' => e = .returned (.int .u32 (cutN h : Int)) ∧ w' = w := by
  have hle := hB.le
  have hmx := hB.max
  unfold maxLen at hmx
  obtain ⟨b0, o0, rfl, hc0⟩ := hB.cells (by omega)
  have c19 := hc0 19 (by omega)
  obtain ⟨o, ho⟩ : ∃ o, o = offN h := ⟨_, rfl⟩
  have HO : Hid (o = offN h) := ho
  have ho16 : o < 16 := by rw [ho]; unfold offN; omega
  have hand : bits .and .u8 ((nth h 19).toNat : Int) 15 = (o : Int) := by rw [and15_8, ho]; rfl
  have hw : IntKind.u8.wrap ((o : Int) + 4) = (o : Int) + 4 := by rw [wrap8_rem]; omega
  have hcap : (o : Int) + 4 ≤ (cap : Int) := by omega
  have hne : ¬ cap = o := by omega
  clear ho hB
  go_enter Try.func20, Try.ntmps20
  go_wp2
  go_loopw [4, 20] (fun n i wr => ∃ j : Nat, j ≤ 4 ∧ i = .int .i64 (j : Int) ∧ n = .int .u32 (cutTo h j : Int) ∧ wr = w) (fun _ i _ => 4 - (intOf i).toNat)
  case atStart => exact ⟨0, by omega, rfl, rfl, rfl⟩
  case round =>
    obtain ⟨j, hj, rfl, rfl, hwr⟩ := hrel
    obtain rfl := hwr.symm
    by_cases hlt : j < 4
    · have hlt' : (j : Int) < 4 := by omega
      have cj : w.cell? ⟨b0, o0 + o + j, none⟩ = some (.int .u8 ((nth h (o + j)).toNat : Int)) := by rw [Nat.add_assoc]; exact hc0 (o + j) (by omega)
      have hx := wrap32_nat (nth h (o + j)).toNat (by have := (nth h (o + j)).toNat_lt; omega)
      have hct : cutTo h j < 16777216 := Nat.lt_of_lt_of_le (cutTo_lt h j) (Nat.pow_le_pow_right (by omega) (by omega) : 256 ^ j ≤ 256 ^ 3)
      have hor := or_nat (cutTo h j) (nth h (o + j)).toNat hct (nth h (o + j)).toNat_lt
      have hor2 : bits .or .u32 (IntKind.u32.wrap ((cutTo h j : Int) * 256)) ((nth h (o + j)).toNat : Int) = (cutTo h (j + 1) : Int) := by
        rw [wrap32_rem, hor]
        show _ = ((cutTo h j * 256 + nb h (offN h + j) : Nat) : Int)
        rw [← HO.out]; rfl
      have hor3 : bits .or .u32 ((cutTo h j : Int) * 256) ((nth h (o + j)).toNat : Int) = (cutTo h (j + 1) : Int) := by
        rw [← hor2, wrap32_rem]; congr 1; omega
      clear hor hc0
      obtain ⟨N1, hN1⟩ : ∃ N1, N1 = cutTo h (j + 1) := ⟨_, rfl⟩
      have HN1 : Hid (N1 = cutTo h (j + 1)) := hN1
      rw [← hN1] at hor2 hor3
      clear hN1 hwr
      go_wp2
      go_roundw
      case rel => exact ⟨j + 1, by omega, by go_num, by rw [HN1.out], by first | rfl | trivial⟩
      case measure => simp [intOf]; omega
    · have ej : j = 4 := by omega
      have hlt' : ¬ (j : Int) < 4 := by omega
      have h4 := cutTo_lt h 4
      have hfin := bits_and32n (cutTo h 4) (by simpa using h4)
      rw [cutTo_four] at hfin
      rw [ej]
      clear ej hlt hlt' h4 hwr
      go_wp2
      go_ret
      exact ⟨rfl, rfl⟩
end Go.Proofs.Ytmgflcglmakceaa
