/- What the document's words answers. -/
import Derived.Test.YtmgflcglmakceaaRefBits
namespace Go.Proofs.Ytmgflcglmakceaa
open Go.RowKit
attribute [local go_sem ↓] Go.wp_at_zero Go.wp_at_succ

theorem word_of (b0 b1 b2 b3 : UInt8) :
    bits .or .u32 (bits .or .u32 (bits .or .u32 (IntKind.u32.wrap ((b0.toNat : Int) * 16777216)) (IntKind.u32.wrap ((b1.toNat : Int) * 65536))) (IntKind.u32.wrap ((b2.toNat : Int) * 256))) (b3.toNat : Int)
      = ((((b0.toNat * 256 + b1.toNat) * 256 + b2.toNat) * 256 + b3.toNat : Nat) : Int) := by
  have h0 := b0.toNat_lt
  have h1 := b1.toNat_lt
  have h2 := b2.toNat_lt
  have h3 := b3.toNat_lt
  have w : ∀ x : Nat, x < 4294967296 → IntKind.u32.wrap (x : Int) = ((UInt32.ofNat x).toNat : Int) := by
    intro x hx; rw [wrap32_nat x hx, UInt32.toNat_ofNat', Nat.mod_eq_of_lt hx]
  have e0 : (b0.toNat : Int) * 16777216 = ((b0.toNat * 16777216 : Nat) : Int) := by omega
  have e1 : (b1.toNat : Int) * 65536 = ((b1.toNat * 65536 : Nat) : Int) := by omega
  have e2 : (b2.toNat : Int) * 256 = ((b2.toNat * 256 : Nat) : Int) := by omega
  have e3 : (b3.toNat : Int) = ((UInt32.ofNat b3.toNat).toNat : Int) := by rw [UInt32.toNat_ofNat', Nat.mod_eq_of_lt (by omega)]
  rw [e0, e1, e2, w _ (by omega), w _ (by omega), w _ (by omega), e3, bits_or32, bits_or32, bits_or32]
  rw [UInt32.toNat_or, UInt32.toNat_or, UInt32.toNat_or, UInt32.toNat_ofNat', UInt32.toNat_ofNat', UInt32.toNat_ofNat', UInt32.toNat_ofNat',
    Nat.mod_eq_of_lt (by omega : b0.toNat * 16777216 < 2 ^ 32), Nat.mod_eq_of_lt (by omega : b1.toNat * 65536 < 2 ^ 32), Nat.mod_eq_of_lt (by omega : b2.toNat * 256 < 2 ^ 32), Nat.mod_eq_of_lt (by omega : b3.toNat < 2 ^ 32)]
  have a1 : b0.toNat * 16777216 ||| b1.toNat * 65536 = b0.toNat * 16777216 + b1.toNat * 65536 := by
    have := Nat.two_pow_add_eq_or_of_lt (i := 24) (b := b1.toNat * 65536) (by omega) b0.toNat
    rw [Nat.mul_comm b0.toNat, ← this]
  have a2 : (b0.toNat * 16777216 + b1.toNat * 65536) ||| b2.toNat * 256 = b0.toNat * 16777216 + b1.toNat * 65536 + b2.toNat * 256 := by
    have := Nat.two_pow_add_eq_or_of_lt (i := 16) (b := b2.toNat * 256) (by omega) (b0.toNat * 256 + b1.toNat)
    have e : 2 ^ 16 * (b0.toNat * 256 + b1.toNat) = b0.toNat * 16777216 + b1.toNat * 65536 := by omega
    rw [e] at this; exact this.symm
  have a3 : (b0.toNat * 16777216 + b1.toNat * 65536 + b2.toNat * 256) ||| b3.toNat = b0.toNat * 16777216 + b1.toNat * 65536 + b2.toNat * 256 + b3.toNat := by
    have := Nat.two_pow_add_eq_or_of_lt (i := 8) (b := b3.toNat) (by omega) ((b0.toNat * 256 + b1.toNat) * 256 + b2.toNat)
    have e : 2 ^ 8 * ((b0.toNat * 256 + b1.toNat) * 256 + b2.toNat) = b0.toNat * 16777216 + b1.toNat * 65536 + b2.toNat * 256 := by omega
    rw [e] at this; exact this.symm
  rw [a1, a2, a3]
  omega

theorem word_wd (bl : List UInt8) (i : Nat) :
    bits .or .u32 (bits .or .u32 (bits .or .u32 (IntKind.u32.wrap (((nth bl (4 * i)).toNat : Int) * 16777216)) (IntKind.u32.wrap (((nth bl (4 * i + 1)).toNat : Int) * 65536))) (IntKind.u32.wrap (((nth bl (4 * i + 2)).toNat : Int) * 256))) ((nth bl (4 * i + 3)).toNat : Int)
      = ((wd bl i).toNat : Int) := by
  rw [word_of, wd_nat]
  simp [wn]

theorem wl_low (bl : List UInt8) (n : Nat) (h : n < 16) : wl bl (n + 1) = wl bl n ++ [wd bl n] := by rw [wl, if_pos h]

set_option maxRecDepth 20000 in
set_option maxHeartbeats 1000000 in
theorem refWords (a : Option Addr) (cap : Nat) (bl : List UInt8) (w : World) (h : IsB w a 64 cap bl) :
    Calls Try.prog 37 #[.slice a 64 cap] w fun e w' => ∃ v, e = .returned v ∧ OwnW w' w.heap.size v (wl bl 16) ∧ Below w.heap.size w w' := by
  obtain ⟨b0, o0, rfl, hc0⟩ := h.cells (by omega)
  have HC : Hid (∀ i, i < 64 → w.cell? ⟨b0, o0 + i, none⟩ = some (.int .u8 ((nth bl i).toNat : Int))) := hc0
  have gb : b0 < w.heap.size := cell_lt (hc0 0 (by omega))
  clear h hc0
  go_enter Try.func37, Try.ntmps37
  go_wp2
  go_loopw [3, 4] (fun v i wr => ∃ k t : Nat, k ≤ 16 ∧ Hid (t = 4 * k) ∧ i = .int .i64 (t : Int) ∧ OwnW wr w.heap.size v (wl bl k) ∧ Below w.heap.size w wr) (fun _ i _ => 64 - (intOf i).toNat)
  case atStart => exact ⟨0, 0, Nat.zero_le _, rfl, rfl, OwnW.nil _ _, Below.refl _ _⟩
  case round =>
    obtain ⟨k, t, hk, ht, rfl, hown, hbel⟩ := hrel
    have HL : Hid ((wl bl k).length = k) := wl_length bl k
    by_cases hlt : k < 16
    · obtain ⟨t1, ht1⟩ : ∃ t1, t1 = t + 1 := ⟨_, rfl⟩
      obtain ⟨t2, ht2⟩ : ∃ t2, t2 = t + 2 := ⟨_, rfl⟩
      obtain ⟨t3, ht3⟩ : ∃ t3, t3 = t + 3 := ⟨_, rfl⟩
      have ht0 := ht.out
      have c0 := (hbel.cell (p := ⟨b0, o0 + t, none⟩) gb).trans (HC.out t (by omega))
      have c1 := (hbel.cell (p := ⟨b0, o0 + t1, none⟩) gb).trans (HC.out t1 (by omega))
      have c2 := (hbel.cell (p := ⟨b0, o0 + t2, none⟩) gb).trans (HC.out t2 (by omega))
      have c3 := (hbel.cell (p := ⟨b0, o0 + t3, none⟩) gb).trans (HC.out t3 (by omega))
      have gz : b0 < wr.heap.size := Nat.lt_of_lt_of_le gb hbel.size
      have l0 : (t : Int) < 64 := by omega
      have l1 : (t1 : Int) < 64 := by omega
      have l2 : (t2 : Int) < 64 := by omega
      have l3 : (t3 : Int) < 64 := by omega
      have q1 : IntKind.i64.wrap ((t : Int) + 1) = (t1 : Int) := by rw [wrapi64_in _ (by omega) (by omega)]; omega
      have q2 : IntKind.i64.wrap ((t : Int) + 2) = (t2 : Int) := by rw [wrapi64_in _ (by omega) (by omega)]; omega
      have q3 : IntKind.i64.wrap ((t : Int) + 3) = (t3 : Int) := by rw [wrapi64_in _ (by omega) (by omega)]; omega
      have HO : Hid (wl bl (k + 1) = wl bl k ++ [wd bl k]) := wl_low bl k hlt
      have hwd : bits .or .u32 (bits .or .u32 (bits .or .u32 (IntKind.u32.wrap (((nth bl t).toNat : Int) * 16777216)) (IntKind.u32.wrap (((nth bl t1).toNat : Int) * 65536))) (IntKind.u32.wrap (((nth bl t2).toNat : Int) * 256))) ((nth bl t3).toNat : Int) = ((wd bl k).toNat : Int) := by
        rw [ht3, ht2, ht1, ht0]; exact word_wd bl k
      have r0 := wrap32_nat (nth bl t).toNat (by have := (nth bl t).toNat_lt; omega)
      have r1 := wrap32_nat (nth bl t1).toNat (by have := (nth bl t1).toNat_lt; omega)
      have r2 := wrap32_nat (nth bl t2).toNat (by have := (nth bl t2).toNat_lt; omega)
      have r3 := wrap32_nat (nth bl t3).toNat (by have := (nth bl t3).toNat_lt; omega)
      have HB := hown.blk
      clear ht0 ht1 ht2 ht3
      go_wp2
      go_region_held3 (fun w' => w'.cell? ⟨b0, o0 + t, none⟩ = some (.int .u8 ((nth bl t).toNat : Int)) ∧ w'.cell? ⟨b0, o0 + t1, none⟩ = some (.int .u8 ((nth bl t1).toNat : Int)) ∧ w'.cell? ⟨b0, o0 + t2, none⟩ = some (.int .u8 ((nth bl t2).toNat : Int)) ∧ w'.cell? ⟨b0, o0 + t3, none⟩ = some (.int .u8 ((nth bl t3).toNat : Int)))
        ((go_split_ands; refine ⟨?_, ?_, ?_, ?_⟩ <;> (first | go_keep | (rw [hgrow.cell_far _ (by simp; omega) (fun e => by have := (HB _ e.symm).1; simp at this; omega)]; assumption))))
        ((refine step_app32 _ (by rfl) _ _ (by rfl) w.heap.size _ (wl bl k) (by rfl) ((hown.alloc _).heap rfl) wr.heap.size 1 1 [wd bl k] (by rfl) (by rfl) (heap_alloc_new wr _) (by omega) (by rw [HL.out]; omega) (by have := hbel.size; simp; omega) (wr.heap.size + 1) (by simp) ?_; intro gg cap w1 hown1 hgrow hat hlt1))
      all_goals
        clear q1 q2 q3 hwd r0 r1 r2 r3
        go_wp2
        go_roundw
        case rel => exact ⟨k + 1, t + 4, by omega, by have := ht.out; unfold Hid; omega, by go_num, by rw [HO.out]; exact hown1, ((hbel.alloc hbel.size _).drew).grown hgrow (by have := hbel.size; simp; omega) (fun j hj => (HB j hj).1)⟩
        case measure => simp [intOf]; omega
    · have e : k = 16 := by omega
      have hge : ¬ ((t : Int) < 64) := by have := ht.out; omega
      have HO : Hid (OwnW wr w.heap.size u3 (wl bl 16)) := by rw [← e]; exact hown
      go_wp2
      go_ret
      exact ⟨_, rfl, HO.out, hbel⟩
end Go.Proofs.Ytmgflcglmakceaa
