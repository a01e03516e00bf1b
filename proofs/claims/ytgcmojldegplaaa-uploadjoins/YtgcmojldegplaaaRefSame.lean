/- What the document's Same answers, of any two slices of bytes. -/
import Derived.Test.YtgcmojldegplaaaBits
namespace Go.Proofs.Ytgcmojldegplaaa
open Go.RowKit

/-- are two lists of bytes the same? -/
def eqB (l m : List UInt8) : Bool := l == m

/-- are the first k bytes the same? -/
def sameTo (x y : List UInt8) (k : Nat) : Bool := decide (∀ i, i < k → nth x i = nth y i)

theorem sameTo_zero (x y : List UInt8) : sameTo x y 0 = true := by simp [sameTo]
theorem sameTo_succ (x y : List UInt8) (k : Nat) : sameTo x y (k + 1) = (sameTo x y k && decide (nth x k = nth y k)) := by
  unfold sameTo
  rw [Bool.eq_iff_iff]
  simp only [decide_eq_true_eq, Bool.and_eq_true]
  constructor
  · intro h; exact ⟨fun i hi => h i (by omega), h k (by omega)⟩
  · rintro ⟨h1, h2⟩ i hi
    by_cases e : i = k
    · subst e; exact h2
    · exact h1 i (by omega)
theorem sameTo_whole (x y : List UInt8) (h : x.length = y.length) : sameTo x y x.length = eqB x y := by
  unfold sameTo eqB
  rw [Bool.eq_iff_iff]
  simp only [decide_eq_true_eq, beq_iff_eq]
  constructor
  · intro hs
    apply List.ext_getElem h
    intro i h1 h2
    have := hs i h1
    rwa [nth_eq x i h1, nth_eq y i h2] at this
  · rintro rfl i _; rfl
theorem sameTo_no (x y : List UInt8) (k : Nat) (hf : nth x k ≠ nth y k) : eqB x y = false := by
  unfold eqB
  rw [beq_eq_false_iff_ne]
  rintro rfl; exact hf rfl
theorem eqB_len (x y : List UInt8) (h : x.length ≠ y.length) : eqB x y = false := by
  unfold eqB
  rw [beq_eq_false_iff_ne]
  rintro rfl; exact h rfl
theorem eqB_self (x : List UInt8) : eqB x x = true := by simp [eqB]

theorem ret_bool {a b : Bool} (h : a = b) : Ending.returned (.bool a) = .returned (.bool b) := by rw [h]

set_option maxHeartbeats 400000 in
theorem refSame (a0 : Option Addr) (len0 cap0 : Nat) (l : List UInt8) (a1 : Option Addr) (len1 cap1 : Nat) (m : List UInt8) (w : World) (w0 : IsB w a0 len0 cap0 l) (w1 : IsB w a1 len1 cap1 m) :
    Calls Try.prog 15 #[.slice a0 len0 cap0, .slice a1 len1 cap1] w fun e w' => e = .returned (.bool (eqB l m)) ∧ ∃ n, w' = w.drewN n := by
  have hl0 := w0.le
  have hl1 := w1.le
  have hm0 := w0.max
  have hm1 := w1.max
  have e0 : Hid (l.length = len0) := w0.len_eq
  have e1 : Hid (m.length = len1) := w1.len_eq
  have c0 : Hid (IsB w a0 len0 cap0 l) := w0
  have c1 : Hid (IsB w a1 len1 cap1 m) := w1
  clear w0 w1
  unfold maxLen at hm0 hm1
  by_cases hne : len0 = len1
  · subst hne
    go_enter Try.func15, Try.ntmps15
    go_wp2
    go_loopw [5] (fun i w' => ∃ k n : Nat, k ≤ len0 ∧ i = .int .i64 k ∧ Hid (sameTo l m k = true) ∧ w' = w.drewN n) (fun i _ => len0 - (intOf i).toNat)
    case atStart => exact ⟨0, 0, Nat.zero_le _, rfl, sameTo_zero _ _, rfl⟩
    case round =>
      obtain ⟨k, n, hk, rfl, hs, rfl⟩ := hrel
      by_cases hlt : k < len0
      · obtain ⟨b0, o0, rfl, hc0⟩ := c0.out.cells (by omega)
        obtain ⟨b1, o1, rfl, hc1⟩ := c1.out.cells (by omega)
        have g0 := hc0 k hlt
        have g1 := hc1 k hlt
        clear hc0 hc1
        have hlt' : (k : Int) < (len0 : Int) := by omega
        by_cases hq : nth l k = nth m k
        · have hq' : (((nth l k).toNat : Int) != ((nth m k).toNat : Int)) = false := by rw [hq]; simp
          have Hq : Hid (nth l k = nth m k) := hq
          clear hq
          go_wp2
          go_quiet (fail)
          go_wp2
          go_roundw
          case rel => exact ⟨k + 1, _, by omega, by go_num, by unfold Hid; rw [sameTo_succ, hs.out, Hq.out]; simp, rfl⟩
          case measure => simp [intOf]; omega
        · have hq' : (((nth l k).toNat : Int) != ((nth m k).toNat : Int)) = true := by
            rw [bne_iff_ne]; intro h; exact hq ((toNat8_inj _ _).1 h)
          have Hq : Hid (nth l k ≠ nth m k) := hq
          clear hq
          go_wp2
          go_quiet (fail)
          go_wp2
          go_ret
          exact ⟨ret_bool (sameTo_no l m k Hq.out).symm, _, World.drewN_drewN _ _ _⟩
      · go_wp2
        go_ret
        have : k = len0 := by omega
        subst this
        refine ⟨ret_bool ?_, _, rfl⟩
        rw [← sameTo_whole l m (by rw [e0.out, e1.out]), e0.out]; exact hs.out.symm
  · have hne' : ((len0 : Int) != (len1 : Int)) = true := by rw [bne_iff_ne]; omega
    go_enter Try.func15, Try.ntmps15
    go_wp2
    go_ret
    exact ⟨ret_bool (eqB_len l m (by rw [e0.out, e1.out]; exact hne)).symm, 0, rfl⟩
end Go.Proofs.Ytgcmojldegplaaa
