/- What the statements' same answers. -/
import Derived.Test.YtbojhfphgiimnaaPart
import Derived.Test.YtbojhfphgiimnaaRefSame
namespace Go.Proofs.Ytbojhfphgiimnaa
open Go.RowKit
attribute [local go_sem ↓] Go.wp_at_zero Go.wp_at_succ

/-- are two parts the same? -/
def sameP (p q : Pt) : Bool :=
  if p.k = q.k then (if p.k = 0 then decide (p.n = q.n) else if p.k = 3 then decide (p.n % 2 = q.n % 2) else if p.k = 4 then decide (p.n % 100 = q.n % 100) else eqB p.b q.b) else false

theorem eqN (a b : Nat) : (((a : Int)) == ((b : Int))) = decide (a = b) := by
  rw [Bool.eq_iff_iff, beq_iff_eq, decide_eq_true_eq]; omega
theorem eqM (a b c : Nat) : (((a : Int)) % (c : Int) == ((b : Int)) % (c : Int)) = decide (a % c = b % c) := by
  rw [Bool.eq_iff_iff]; simp; omega

set_option maxRecDepth 20000 in
set_option maxHeartbeats 2000000 in
theorem lSame (v1 v2 : Value) (p q : Pt) (w : World) (h1 : IsPt w v1 p) (h2 : IsPt w v2 q) (hn1 : p.n < 18446744073709551616) (hn2 : q.n < 18446744073709551616) :
    Calls Try.prog 36 #[v1, v2] w fun e w' => e = .returned (.bool (sameP p q)) ∧ Below w.heap.size w w' := by
  obtain ⟨a1, cap1, rfl, i1⟩ := h1
  obtain ⟨a2, cap2, rfl, i2⟩ := h2
  obtain ⟨k1, n1, b1⟩ := p
  obtain ⟨k2, n2, b2⟩ := q
  simp only at i1 i2 hn1 hn2
  have hbel : Below w.heap.size w ((w.alloc (.cells #[.int .i64 k1, .int .u64 (n1 : Int), .slice a1 b1.length cap1] 50)).alloc (.cells #[.int .i64 k2, .int .u64 (n2 : Int), .slice a2 b2.length cap2] 50)) := ((Below.refl _ _).alloc (Nat.le_refl _) _).alloc (by simp) _
  have I1 : Hid (IsB ((w.alloc (.cells #[.int .i64 k1, .int .u64 (n1 : Int), .slice a1 b1.length cap1] 50)).alloc (.cells #[.int .i64 k2, .int .u64 (n2 : Int), .slice a2 b2.length cap2] 50)) a1 b1.length cap1 b1) := i1.below hbel rfl
  have I2 : Hid (IsB ((w.alloc (.cells #[.int .i64 k1, .int .u64 (n1 : Int), .slice a1 b1.length cap1] 50)).alloc (.cells #[.int .i64 k2, .int .u64 (n2 : Int), .slice a2 b2.length cap2] 50)) a2 b2.length cap2 b2) := i2.below hbel rfl
  simp only [pcell]
  clear i1 i2
  by_cases hk : k1 = k2
  · subst hk
    by_cases h0 : k1 = 0
    · have HP : Hid (sameP ⟨k1, n1, b1⟩ ⟨k1, n2, b2⟩ = ((n1 : Int) == (n2 : Int))) := by unfold Hid sameP; rw [eqN]; simp [h0]
      have q0 : (k1 == 0) = true := by simpa using h0
      clear h0
      go_enter Try.func36, Try.ntmps36
      go_wp2
      go_ret
      exact ⟨by rw [HP.out]; rfl, hbel⟩
    · by_cases h3 : k1 = 3
      · have HP : Hid (sameP ⟨k1, n1, b1⟩ ⟨k1, n2, b2⟩ = ((n1 : Int) % 2 == (n2 : Int) % 2)) := by
          have := eqM n1 n2 2
          unfold Hid sameP; rw [if_pos rfl, if_neg h0, if_pos h3]; exact this.symm
        have q0 : (k1 == 0) = false := by simpa using h0
        have q3 : (k1 == 3) = true := by simpa using h3
        clear h0 h3
        go_enter Try.func36, Try.ntmps36
        go_wp2
        go_ret
        exact ⟨by rw [HP.out]; rfl, hbel⟩
      · by_cases h4 : k1 = 4
        · have HP : Hid (sameP ⟨k1, n1, b1⟩ ⟨k1, n2, b2⟩ = ((n1 : Int) % 100 == (n2 : Int) % 100)) := by
            have := eqM n1 n2 100
            unfold Hid sameP; rw [if_pos rfl, if_neg h0, if_neg h3, if_pos h4]; exact this.symm
          have q0 : (k1 == 0) = false := by simpa using h0
          have q3 : (k1 == 3) = false := by simpa using h3
          have q4 : (k1 == 4) = true := by simpa using h4
          clear h0 h3 h4
          go_enter Try.func36, Try.ntmps36
          go_wp2
          go_ret
          exact ⟨by rw [HP.out]; rfl, hbel⟩
        · have HP : Hid (sameP ⟨k1, n1, b1⟩ ⟨k1, n2, b2⟩ = eqB b1 b2) := by unfold Hid sameP; simp [h0, h3, h4]
          have q0 : (k1 == 0) = false := by simpa using h0
          have q3 : (k1 == 3) = false := by simpa using h3
          have q4 : (k1 == 4) = false := by simpa using h4
          clear h0 h3 h4
          go_enter Try.func36, Try.ntmps36
          go_wp2_with fail
          refine (refSame _ _ _ _ _ _ _ _ _ I1.out I2.out).mono ?_
          rintro e w1 ⟨rfl, nn, hw⟩
          have hb1 : Below w.heap.size w w1 := by rw [hw]; exact bel_drewN hbel nn
          clear hw
          go_wp2_with fail
          go_ret
          exact ⟨by rw [HP.out]; rfl, hb1⟩
  · have HP : Hid (sameP ⟨k1, n1, b1⟩ ⟨k2, n2, b2⟩ = false) := by unfold Hid sameP; simp [hk]
    have q : (k1 != k2) = true := by simpa using hk
    clear hk
    go_enter Try.func36, Try.ntmps36
    go_wp2
    go_ret
    exact ⟨by rw [HP.out]; rfl, hbel⟩
end Go.Proofs.Ytbojhfphgiimnaa
