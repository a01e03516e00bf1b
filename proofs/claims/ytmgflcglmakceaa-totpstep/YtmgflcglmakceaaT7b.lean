/- What totp.Base32 answers. -/
import Derived.Test.YtmgflcglmakceaaB32M
import Derived.Test.YtmgflcglmakceaaT7a
import Derived.Test.YtmgflcglmakceaaConvOwn
namespace Go.Proofs.Ytmgflcglmakceaa
open Go.RowKit
theorem wrap16_mod (z : Int) : IntKind.u16.wrap z = z % 65536 := by
  simp [IntKind.wrap, IntKind.signed, IntKind.bits]
theorem or16_add (a b k : Nat) (h : b < 2 ^ k) (ha : 2 ^ k * a < 65536) (hk : k ≤ 16) : bits .or .u16 ((2 ^ k * a : Nat) : Int) (b : Int) = ((2 ^ k * a + b : Nat) : Int) := by
  rw [bits_or16 _ _ ha (Nat.lt_of_lt_of_le h (Nat.pow_le_pow_right (by omega) hk : 2 ^ k ≤ 2 ^ 16)), Nat.two_pow_add_eq_or_of_lt h]
theorem heldB_or (l : List UInt8) (p : Nat) : bits .or .u16 (IntKind.u16.wrap ((heldB l p : Int) * 256)) ((nth l p).toNat : Int) = (heldB l (p + 1) : Int) := by
  have h := nb_lt l p
  rw [heldB_succ, wrap16_mod]
  show bits .or .u16 ((heldB l p : Int) * 256 % 65536) (nb l p : Int) = _
  have e : (heldB l p : Int) * 256 % 65536 = ((2 ^ 8 * (heldB l p % 256) : Nat) : Int) := by omega
  rw [e, or16_add _ _ 8 (by omega) (by omega) (by omega)]
  congr 1; omega
set_option maxHeartbeats 1000000 in
theorem codBase32 (a0 : Option Addr) (len0 cap0 : Nat) (l : List UInt8) (w : World) (w0 : IsB w a0 len0 cap0 l) (hs : len0 ≤ 1000000) :
    Calls Try.prog 16 #[.slice a0 len0 cap0] w fun e w' => e = .returned (.string ⟨(b32L l).toArray⟩) ∧ Below w.heap.size w w' := by
  have hl0 := w0.le
  have hm0 := w0.max
  have e0 : Hid (l.length = len0) := w0.len_eq
  have c0 : Hid (IsB w a0 len0 cap0 l) := w0
  clear w0
  unfold maxLen at hm0
  obtain ⟨cp, hcp⟩ : ∃ cp : Nat, (len0 : Int) / 5 * 8 + 8 = (cp : Int) := ⟨len0 / 5 * 8 + 8, by omega⟩
  have hcp1 : cp ≤ 10000000 := by omega
  go_enter Try.func16, Try.ntmps16
  go_wp2_with (at_make; refine make_own8 _ rfl _ _ rfl w.heap.size .i64 .i64 _ cp rfl rfl (by omega) (by omega) (Nat.le_refl _) ?_; intro w1 hown1 hgrow1)
  clear hcp
  go_loopw [3, 4, 5, 16] (fun h b v i wr => ∃ p r m : Nat, p ≤ len0 ∧ i = .int .i64 (p : Int) ∧ h = .int .u16 (heldB l p : Int) ∧ b = .int .i64 (r : Int) ∧ 5 * m + r = 8 * p ∧ r < 5 ∧ OwnB wr w.heap.size v (b32To l m) ∧ Below w.heap.size w wr) (fun _ _ _ i _ => len0 - (intOf i).toNat)
  case atStart => exact ⟨0, 0, 0, Nat.zero_le _, rfl, rfl, rfl, rfl, by omega, hown1, (Below.refl _ _).grown hgrow1 (Nat.le_refl _) (fun k h => by cases h)⟩
  case round =>
    obtain ⟨p, r, m, hp, rfl, rfl, rfl, hmr, hr5, hown, hbel⟩ := hrel
    by_cases hlt : p < len0
    · obtain ⟨b0, o0, rfl, hc0⟩ := c0.out.cells (by omega)
      have g0 := hc0 p hlt
      have gb : b0 < w.heap.size := cell_lt g0
      have g1 := (hbel.cell (p := ⟨b0, o0 + p, none⟩) gb).trans g0
      clear hc0 hown1 hgrow1
      have hlt' : (p : Int) < (len0 : Int) := by omega
      have hor := heldB_or l p
      have hx16 := wrap16_nat (nth l p).toNat (by have := (nth l p).toNat_lt; omega)
      have hheld := heldB_lt l (p + 1)
      obtain ⟨N, hN⟩ : ∃ N, N = heldB l (p + 1) := ⟨_, rfl⟩
      have HN : Hid (N = heldB l (p + 1)) := hN
      rw [← hN] at hor hheld
      clear hN
      go_wp2
      clear g0 g1 hor hx16
      go_loopw [4, 5] (fun b v wr => ∃ r m : Nat, b = .int .i64 (r : Int) ∧ 5 * m + r = 8 * (p + 1) ∧ r ≤ 12 ∧ OwnB wr w.heap.size v (b32To l m) ∧ Below w.heap.size w wr) (fun b _ _ => (intOf b).toNat)
      case atStart => exact ⟨r + 8, m, by go_num, by omega, by omega, hown, hbel⟩
      case round =>
        clear hown hbel hmr hr5
        obtain ⟨b, k, rfl, hkb, hb12, hown, hbel⟩ := hrel
        by_cases h5 : 5 ≤ b
        · obtain ⟨sh, hsh⟩ : ∃ sh : Nat, (b : Int) - 5 = (sh : Int) := ⟨b - 5, by omega⟩
          have h5' : (5 : Int) ≤ (b : Int) := by omega
          obtain ⟨H, hH⟩ : ∃ H : Nat, (N : Int) / 2 ^ sh = (H : Int) := ⟨N / 2 ^ sh, by simp⟩
          have hHlt : H < 65536 := by
            have e : H = N / 2 ^ sh := by have : ((N / 2 ^ sh : Nat) : Int) = (H : Int) := by rw [← hH]; simp
                                          omega
            rw [e]; exact Nat.lt_of_le_of_lt (Nat.div_le_self _ _) hheld
          have HS : Hid (sgn (H % 32) = sgn (fiveOf (bitB l) (5 * k))) := by
            have e : H = N / 2 ^ sh := by have : ((N / 2 ^ sh : Nat) : Int) = (H : Int) := by rw [← hH]; simp
                                          omega
            unfold Hid; rw [e, HN.out, held_five l p k sh (by omega) (by omega)]
          have HO : Hid (b32To l (k + 1) = b32To l k ++ [sgn (H % 32)]) := by unfold Hid; rw [b32To_succ, HS.out]
          have HL : Hid ((b32To l k).length = k) := b32To_length l k
          have HB := hown.blk
          have hsh7 : sh ≤ 7 := by omega
          have hks : Hid (5 * (k + 1) + sh = 8 * (p + 1)) := by unfold Hid; omega
          have hk7 : k ≤ 10000000 := by omega
          clear hkb
          go_wp2_with (first | (go_at_call 27; refine (codSgn _ hHlt _).mono ?_; rintro e w' ⟨rfl, hq⟩; obtain rfl := hq.symm) | (at_builtin; refine list_app8 _ rfl (.tmp 31) (.tmp 36) rfl w.heap.size _ (b32To l k) rfl (hown.alloc _) wr.heap.size 1 1 [sgn (H % 32)] rfl rfl (heap_alloc_new wr _) (by omega) (by rw [HL.out]; omega) (by have := hbel.size; simp; omega) _ rfl ?_; intro g4 cap4 w4 hown4 hgrow4 hat4 hlt4))
          go_roundw
          case rel => exact ⟨sh, k + 1, by go_num, hks.out, by omega, by rw [HO.out]; exact hown4, (hbel.alloc hbel.size _).grown hgrow4 (by have := hbel.size; simp; omega) (fun q hq => (HB q hq).1)⟩
          case measure => simp [intOf]; omega
        · have h5' : ¬ (5 : Int) ≤ (b : Int) := by omega
          go_wp2
          go_roundw
          case rel => exact ⟨p + 1, b, k, by omega, by go_num, by rw [HN.out], rfl, by omega, by omega, hown, hbel⟩
          case measure => simp [intOf]; omega
    · have hpl : p = len0 := by omega
      by_cases hr0 : r = 0
      · have hr0' : (r : Int) = 0 := by omega
        have HA : Hid (b32To l m = b32L l) := b32To_all l m (by rw [e0.out]; omega)
        have hcv := conv_own wr w.heap.size u5 _ hown
        rw [HA.out] at hcv
        clear hown
        go_wp2
        go_ret
        exact ⟨rfl, hbel⟩
      · have hr0' : (0 : Int) < (r : Int) := by omega
        obtain ⟨d, hd⟩ : ∃ d : Nat, 5 - (r : Int) = (d : Int) := ⟨5 - r, by omega⟩
        have hd5 : d < 5 := by omega
        obtain ⟨H, hH⟩ : ∃ H : Nat, H = heldB l p * 2 ^ d % 65536 := ⟨_, rfl⟩
        have hHw : IntKind.u16.wrap ((heldB l p : Int) * 2 ^ d) = (H : Int) := by rw [wrap16_mod, hH]; simp
        have hHlt : H < 65536 := by rw [hH]; omega
        have HS : Hid (sgn (H % 32) = sgn (fiveOf (bitB l) (5 * m))) := by
          unfold Hid; rw [hH, show d = 5 - r by omega, held_last l p m r (by omega) hr5 (by rw [e0.out]; omega) (by omega)]
        have HO : Hid (b32L l = b32To l m ++ [sgn (H % 32)]) := by unfold Hid; rw [HS.out, ← b32To_succ, b32To_all]; rw [e0.out]; omega
        have HL : Hid ((b32To l m).length = m) := b32To_length l m
        have hk7 : m ≤ 10000000 := by omega
        have HB := hown.blk
        clear hH hpl hr0 hmr
        go_wp2_with (first | (go_at_call 27; refine (codSgn _ hHlt _).mono ?_; rintro e w' ⟨rfl, hq⟩; obtain rfl := hq.symm) | (at_builtin; refine list_app8 _ rfl (.tmp 41) (.tmp 47) rfl w.heap.size _ (b32To l m) rfl (hown.alloc _) wr.heap.size 1 1 [sgn (H % 32)] rfl rfl (heap_alloc_new wr _) (by omega) (by rw [HL.out]; omega) (by have := hbel.size; simp; omega) _ rfl ?_; intro g4 cap4 w4 hown4 hgrow4 hat4 hlt4; have hcv := conv_own w4 w.heap.size _ _ hown4; rw [← HO.out] at hcv))
        go_ret
        exact ⟨rfl, (hbel.alloc hbel.size _).grown hgrow4 (by have := hbel.size; simp; omega) (fun q hq => (HB q hq).1)⟩
end Go.Proofs.Ytmgflcglmakceaa
