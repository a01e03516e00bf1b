/- Plain facts: what is read of what was written. · What the document's Same answers, of any two slices of bytes. · What digest.Same answers, of any two slices of bytes. -/
import Derived.Test.YtbclhaleibjkgaaB14
import Derived.Test.YtbclhaleibjkgaaB10
import Derived.Test.YtbclhaleibjkgaaB0
namespace Go.Proofs.Ytbclhaleibjkgaa

theorem nth_zero_cons (x : UInt8) (l : List UInt8) : nth (x :: l) 0 = x := by simp [nth]
theorem nth_succ_cons (x : UInt8) (l : List UInt8) (k : Nat) : nth (x :: l) (1 + k) = nth l k := by rw [Nat.add_comm]; simp [nth]
theorem nth_app (l m : List UInt8) (k : Nat) (h : k < l.length) : nth (l ++ m) k = nth l k := by
  unfold nth; rw [List.getD_eq_getElem?_getD, List.getD_eq_getElem?_getD, List.getElem?_append_left h]
theorem nth_beL (n size k j : Nat) (h : j < k) : nth (beL n size k) j = beAt n size j := by
  rw [nth_eq _ _ (by rw [beL_length]; exact h)]; simp [beL]

theorem numTo_be (m : UInt8) (n size : Nat) (r : List UInt8) : ∀ j, j ≤ size → numTo (m :: (beL n size size ++ r)) j = n / 2 ^ (8 * (size - j)) % 256 ^ j
  | 0, _ => by simp [numTo, Nat.mod_one]
  | j + 1, h => by
    rw [numTo, numTo_be m n size r j (by omega), nth_succ_cons, nth_app _ _ _ (by rw [beL_length]; omega), nth_beL _ _ _ _ (by omega)]
    unfold beAt
    rw [UInt8.toNat_ofNat']
    have e1 : 8 * (size - j) = 8 * (size - 1 - j) + 8 := by omega
    have e2 : 8 * (size - (j + 1)) = 8 * (size - 1 - j) := by omega
    rw [e1, e2, Nat.pow_add, ← Nat.div_div_eq_div_mul]
    generalize n / 2 ^ (8 * (size - 1 - j)) = x
    have e3 : (2 : Nat) ^ 8 = 256 := by decide
    have e4 : (256 : Nat) ^ (j + 1) = 256 * 256 ^ j := by rw [Nat.pow_succ, Nat.mul_comm]
    rw [e3, e4, Nat.mod_mul, Nat.mul_comm, Nat.add_comm]

theorem numTo_all (m : UInt8) (n size : Nat) (r : List UInt8) (h : n < 256 ^ size) : numTo (m :: (beL n size size ++ r)) size = n := by
  rw [numTo_be m n size r size (Nat.le_refl _), Nat.sub_self]
  simp [Nat.mod_eq_of_lt h]

theorem behL_eq (l : List UInt8) (m : UInt8) (n s k : Nat) : behL l m n s k = l ++ behL [] m n s k := by simp [behL]
theorem rdUint_back (n : Nat) (r : List UInt8) (h : n < 18446744073709551616) : rdUint (behL [] 117 n 8 8 ++ r) false = (n, r, false) := by
  have e : behL [] 117 n 8 8 ++ r = 117 :: (beL n 8 8 ++ r) := by simp [behL]
  have hn := numTo_all 117 n 8 r (by have : (256 : Nat) ^ 8 = 18446744073709551616 := by decide
                                     omega)
  have hl := beL_length n 8 8
  rw [e]
  unfold rdUint
  rw [if_pos (by unfold okH; rw [nth_zero_cons]; simp [hl]), hn]
  refine Prod.ext rfl (Prod.ext ?_ rfl)
  show List.drop 9 (117 :: (beL n 8 8 ++ r)) = r
  rw [List.drop_succ_cons, List.drop_left' hl]
theorem rdSome_back (m : UInt8) (b r : List UInt8) (h : b.length < 4294967296) : rdSome m (behL [] m b.length 4 4 ++ b ++ r) false = (b, r, false) := by
  have e : behL [] m b.length 4 4 ++ b ++ r = m :: (beL b.length 4 4 ++ (b ++ r)) := by simp [behL]
  have hn := numTo_all m b.length 4 (b ++ r) (by have : (256 : Nat) ^ 4 = 4294967296 := by decide
                                                 omega)
  have hl := beL_length b.length 4 4
  have hd : List.drop 5 (m :: (beL b.length 4 4 ++ (b ++ r))) = b ++ r := by rw [List.drop_succ_cons, List.drop_left' hl]
  rw [e]
  unfold rdSome
  rw [if_pos (by unfold okB okH; rw [nth_zero_cons, hn]; simp [hl]; omega), hn, ← List.drop_drop, hd]
  refine Prod.ext ?_ (Prod.ext ?_ rfl)
  · exact List.take_left
  · exact List.drop_left
theorem rdBool_back (t : Bool) (r : List UInt8) : rdBool ([if t then 116 else 102] ++ r) false = (t, r, false) := by
  cases t <;> simp [rdBool, okT, nth]
theorem rdList_back (n : Nat) (r : List UInt8) (most : Int) (h : (n : Int) ≤ most) (hn : n < 4294967296) : rdList (behL [] 108 n 4 4 ++ r) false most = (n, r, false) := by
  have e : behL [] 108 n 4 4 ++ r = 108 :: (beL n 4 4 ++ r) := by simp [behL]
  have hn := numTo_all 108 n 4 r (by have : (256 : Nat) ^ 4 = 4294967296 := by decide
                                     omega)
  have hl := beL_length n 4 4
  rw [e]
  unfold rdList
  rw [if_pos (by unfold okL okH; rw [nth_zero_cons, hn]; simp [hl, h]), hn]
  refine Prod.ext rfl (Prod.ext ?_ rfl)
  show List.drop 5 (108 :: (beL n 4 4 ++ r)) = r
  rw [List.drop_succ_cons, List.drop_left' hl]
end Go.Proofs.Ytbclhaleibjkgaa
namespace Go.Proofs.Ytbclhaleibjkgaa
open Go.RowKit

/-- are two lists of bytes the same? -/
def eqB (l m : List UInt8) : Bool := l == m

/-- are the first k bytes the same? -/
def sameTo (x y : List UInt8) (k : Nat) : Bool := decide (∀ i, i < k → nth x i = nth y i)

theorem sameTo_zero (x y : List UInt8) : sameTo x y 0 = true := by simp [sameTo]
theorem sameTo_succ (x y : List UInt8) (k : Nat) : sameTo x y (k + 1) = (sameTo x y k && decide (nth x k = nth y k)) := by
  unfold sameTo
  rw [Bool.eq_iff_iff]
  simp only [decide_eq_true_eq, Bool.and_eq_true]
  constructor
  · intro h; exact ⟨fun i hi => h i (by omega), h k (by omega)⟩
  · rintro ⟨h1, h2⟩ i hi
    by_cases e : i = k
    · subst e; exact h2
    · exact h1 i (by omega)
theorem sameTo_whole (x y : List UInt8) (h : x.length = y.length) : sameTo x y x.length = eqB x y := by
  unfold sameTo eqB
  rw [Bool.eq_iff_iff]
  simp only [decide_eq_true_eq, beq_iff_eq]
  constructor
  · intro hs
    apply List.ext_getElem h
    intro i h1 h2
    have := hs i h1
    rwa [nth_eq x i h1, nth_eq y i h2] at this
  · rintro rfl i _; rfl
theorem sameTo_no (x y : List UInt8) (k : Nat) (hf : nth x k ≠ nth y k) : eqB x y = false := by
  unfold eqB
  rw [beq_eq_false_iff_ne]
  rintro rfl; exact hf rfl
theorem eqB_len (x y : List UInt8) (h : x.length ≠ y.length) : eqB x y = false := by
  unfold eqB
  rw [beq_eq_false_iff_ne]
  rintro rfl; exact h rfl
theorem eqB_self (x : List UInt8) : eqB x x = true := by simp [eqB]

theorem ret_bool {a b : Bool} (h : a = b) : Ending.returned (.bool a) = .returned (.bool b) := by rw [h]

set_option maxHeartbeats 400000 in
theorem refSame (a0 : Option Addr) (len0 cap0 : Nat) (l : List UInt8) (a1 : Option Addr) (len1 cap1 : Nat) (m : List UInt8) (w : World) (w0 : IsB w a0 len0 cap0 l) (w1 : IsB w a1 len1 cap1 m) :
    Calls Try.prog 10 #[.slice a0 len0 cap0, .slice a1 len1 cap1] w fun e w' => e = .returned (.bool (eqB l m)) ∧ ∃ n, w' = w.drewN n := by
  have hl0 := w0.le
  have hl1 := w1.le
  have hm0 := w0.max
  have hm1 := w1.max
  have e0 : Hid (l.length = len0) := w0.len_eq
  have e1 : Hid (m.length = len1) := w1.len_eq
  have c0 : Hid (IsB w a0 len0 cap0 l) := w0
  have c1 : Hid (IsB w a1 len1 cap1 m) := w1
  clear w0 w1
  unfold maxLen at hm0 hm1
  by_cases hne : len0 = len1
  · subst hne
    go_enter Try.func10, Try.ntmps10
    go_wp2
    go_loopw [5] (fun i w' => ∃ k n : Nat, k ≤ len0 ∧ i = .int .i64 k ∧ Hid (sameTo l m k = true) ∧ w' = w.drewN n) (fun i _ => len0 - (intOf i).toNat)
    case atStart => exact ⟨0, 0, Nat.zero_le _, rfl, sameTo_zero _ _, rfl⟩
    case round =>
      obtain ⟨k, n, hk, rfl, hs, rfl⟩ := hrel
      by_cases hlt : k < len0
      · obtain ⟨b0, o0, rfl, hc0⟩ := c0.out.cells (by omega)
        obtain ⟨b1, o1, rfl, hc1⟩ := c1.out.cells (by omega)
        have g0 := hc0 k hlt
        have g1 := hc1 k hlt
        clear hc0 hc1
        have hlt' : (k : Int) < (len0 : Int) := by omega
        by_cases hq : nth l k = nth m k
        · have hq' : (((nth l k).toNat : Int) != ((nth m k).toNat : Int)) = false := by rw [hq]; simp
          have Hq : Hid (nth l k = nth m k) := hq
          clear hq
          go_wp2
          go_quiet (fail)
          go_wp2
          go_roundw
          case rel => exact ⟨k + 1, _, by omega, by go_num, by unfold Hid; rw [sameTo_succ, hs.out, Hq.out]; simp, rfl⟩
          case measure => simp [intOf]; omega
        · have hq' : (((nth l k).toNat : Int) != ((nth m k).toNat : Int)) = true := by
            rw [bne_iff_ne]; intro h; exact hq ((toNat8_inj _ _).1 h)
          have Hq : Hid (nth l k ≠ nth m k) := hq
          clear hq
          go_wp2
          go_quiet (fail)
          go_wp2
          go_ret
          exact ⟨ret_bool (sameTo_no l m k Hq.out).symm, _, World.drewN_drewN _ _ _⟩
      · go_wp2
        go_ret
        have : k = len0 := by omega
        subst this
        refine ⟨ret_bool ?_, _, rfl⟩
        rw [← sameTo_whole l m (by rw [e0.out, e1.out]), e0.out]; exact hs.out.symm
  · have hne' : ((len0 : Int) != (len1 : Int)) = true := by rw [bne_iff_ne]; omega
    go_enter Try.func10, Try.ntmps10
    go_wp2
    go_ret
    exact ⟨ret_bool (eqB_len l m (by rw [e0.out, e1.out]; exact hne)).symm, 0, rfl⟩
end Go.Proofs.Ytbclhaleibjkgaa
namespace Go.Proofs.Ytbclhaleibjkgaa
open Go.RowKit

/-- what is gathered of the differences -/
def gath (x y : List UInt8) : Nat → UInt8
  | 0 => 0
  | k + 1 => gath x y k ||| (nth x k ^^^ nth y k)
theorem gath_zero (x y : List UInt8) (k : Nat) : gath x y k = 0 ↔ sameTo x y k = true := by
  induction k with
  | zero => simp [gath, sameTo_zero]
  | succ k ih => rw [gath, or_xor_zero, ih, sameTo_succ]; simp

set_option maxHeartbeats 400000 in
theorem digSame (a0 : Option Addr) (len0 cap0 : Nat) (l : List UInt8) (a1 : Option Addr) (len1 cap1 : Nat) (m : List UInt8) (w : World) (w0 : IsB w a0 len0 cap0 l) (w1 : IsB w a1 len1 cap1 m) :
    Calls Try.prog 36 #[.slice a0 len0 cap0, .slice a1 len1 cap1] w fun e w' => e = .returned (.bool (eqB l m)) ∧ ∃ n, w' = w.drewN n := by
  have hl0 := w0.le
  have hl1 := w1.le
  have hm0 := w0.max
  have hm1 := w1.max
  have e0 : Hid (l.length = len0) := w0.len_eq
  have e1 : Hid (m.length = len1) := w1.len_eq
  have c0 : Hid (IsB w a0 len0 cap0 l) := w0
  have c1 : Hid (IsB w a1 len1 cap1 m) := w1
  clear w0 w1
  unfold maxLen at hm0 hm1
  by_cases hne : len0 = len1
  · subst hne
    go_enter Try.func36, Try.ntmps36
    go_wp2
    go_loopw [5, 14] (fun d i w' => ∃ k n : Nat, k ≤ len0 ∧ i = .int .i64 k ∧ d = .int .u8 ((gath l m k).toNat : Int) ∧ w' = w.drewN n) (fun _ i _ => len0 - (Go.RowKit.intOf i).toNat)
    case atStart => exact ⟨0, 0, Nat.zero_le _, rfl, rfl, rfl⟩
    case round =>
      obtain ⟨k, n, hk, rfl, rfl, rfl⟩ := hrel
      by_cases hlt : k < len0
      · obtain ⟨b0, o0, rfl, hc0⟩ := c0.out.cells (by omega)
        obtain ⟨b1, o1, rfl, hc1⟩ := c1.out.cells (by omega)
        have g0 := hc0 k hlt
        have g1 := hc1 k hlt
        clear hc0 hc1
        have hlt' : (k : Int) < (len0 : Int) := by omega
        go_wp2
        go_quiet (fail)
        go_wp2
        go_roundw
        case rel => exact ⟨k + 1, _, by omega, by go_num, by rw [bits_xor8, bits_or8]; rfl, rfl⟩
        case measure => simp [Go.RowKit.intOf]; omega
      · go_wp2
        go_ret
        have : k = len0 := by omega
        subst this
        refine ⟨ret_bool ?_, _, rfl⟩
        rw [← sameTo_whole l m (by rw [e0.out, e1.out]), e0.out, Bool.eq_iff_iff, toNat8_zero]; exact gath_zero l m k
  · have hne' : ((len0 : Int) != (len1 : Int)) = true := by rw [bne_iff_ne]; omega
    go_enter Try.func36, Try.ntmps36
    go_wp2
    go_ret
    exact ⟨ret_bool (eqB_len l m (by rw [e0.out, e1.out]; exact hne)).symm, 0, rfl⟩
end Go.Proofs.Ytbclhaleibjkgaa
