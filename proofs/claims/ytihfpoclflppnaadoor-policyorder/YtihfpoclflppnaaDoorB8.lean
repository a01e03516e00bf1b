/- A text parted by the library's means, plain. · Plain facts: numbers as digits, and texts that are numbers. -/
import Derived.Test.YtihfpoclflppnaaDoorPol1
import Derived.Lib.SplitLaws
import Derived.Lib.IndexBytes
import Derived.Test.YtihfpoclflppnaaDoorB2
namespace Go.Proofs.YtihfpoclflppnaaDoor

theorem idx8_no (c : UInt8) (l : List UInt8) (h : c ∉ l) : Lib.indexByte l c = -1 := by
  induction l with
  | nil => rfl
  | cons d l ih =>
    have hd : ¬ d = c := fun e => h (by rw [e]; exact List.mem_cons_self ..)
    rw [Lib.indexByte, if_neg (by simpa using hd), ih (fun h3 => h (List.mem_cons_of_mem d h3))]
    rfl
theorem idx8 (c : UInt8) (a b : List UInt8) (h : c ∉ a) : Lib.indexByte (a ++ c :: b) c = (a.length : Int) := by
  induction a with
  | nil => simp [Lib.indexByte]
  | cons d a ih =>
    have hd : ¬ d = c := fun e => h (by rw [e]; exact List.mem_cons_self ..)
    rw [List.cons_append, Lib.indexByte, if_neg (by simpa using hd), ih (fun h3 => h (List.mem_cons_of_mem d h3)), if_neg (by rw [beq_iff_eq]; omega)]
    simp
theorem cut_split (c : UInt8) (l : List UInt8) : Lib.splitK [c] 0 (l.count c) l = cutL c l := by
  have key : ∀ n, ∀ l : List UInt8, l.length ≤ n → Lib.splitK [c] 0 (l.count c) l = cutL c l := by
    intro n
    induction n with
    | zero => intro l hl; rw [List.length_eq_zero_iff.1 (Nat.le_zero.1 hl)]; rfl
    | succ n ih =>
      intro l hl
      by_cases h : c ∈ l
      · obtain ⟨a, b, rfl, ha⟩ := psplit_at c l h
        have hc : (a ++ c :: b).count c = b.count c + 1 := by
          rw [List.count_append, List.count_eq_zero.2 ha, List.count_cons_self]; omega
        rw [hc, Lib.splitK, Lib.index_one, idx8 c a b ha, if_neg (by rw [beq_iff_eq]; omega), cutL_at c a b ha, Int.toNat_natCast, Nat.add_zero, List.take_left]
        congr 1
        have e : (a ++ c :: b).drop (a.length + [c].length) = b := by
          rw [show a ++ c :: b = (a ++ [c]) ++ b by simp, show a.length + [c].length = (a ++ [c]).length by simp, List.drop_left]
        rw [e]
        exact ih b (by rw [List.length_append, List.length_cons] at hl; omega)
      · rw [List.count_eq_zero.2 h, cutL_none c l h]; rfl
  exact key l.length l (Nat.le_refl _)
theorem cut_count (c : UInt8) (l : List UInt8) : (cutL c l).length = l.count c + 1 := by
  have key : ∀ n, ∀ l : List UInt8, l.length ≤ n → (cutL c l).length = l.count c + 1 := by
    intro n
    induction n with
    | zero => intro l hl; rw [List.length_eq_zero_iff.1 (Nat.le_zero.1 hl)]; rfl
    | succ n ih =>
      intro l hl
      by_cases h : c ∈ l
      · obtain ⟨a, b, rfl, ha⟩ := psplit_at c l h
        rw [List.count_append, List.count_eq_zero.2 ha, List.count_cons_self, cutL_at c a b ha, List.length_cons, ih b (by rw [List.length_append, List.length_cons] at hl; omega)]
        omega
      · rw [List.count_eq_zero.2 h, cutL_none c l h]; rfl
  exact key l.length l (Nat.le_refl _)
end Go.Proofs.YtihfpoclflppnaaDoor
namespace Go.Proofs.YtihfpoclflppnaaDoor

def dgB (n : Nat) : UInt8 := UInt8.ofNat (48 + n % 10)
theorem dgB_val (n : Nat) : (dgB n).toNat = 48 + n % 10 := by unfold dgB; rw [UInt8.toNat_ofNat']; omega
/-- the digits of a number -/
def digitsF : Nat → Nat → List UInt8
  | 0, _ => []
  | f + 1, n => if n < 10 then [dgB n] else digitsF f (n / 10) ++ [dgB n]
def digitsL (n : Nat) : List UInt8 := digitsF (n + 1) n
theorem digitsF_fuel (f n : Nat) (h : n < f) : digitsF f n = digitsF (n + 1) n := by
  induction f using Nat.strongRecOn generalizing n with
  | _ f ih =>
    cases f with
    | zero => omega
    | succ f =>
      by_cases hn : n < 10
      · simp [digitsF, hn]
      · have hd : n / 10 < n := by omega
        rw [digitsF, digitsF, if_neg hn, if_neg hn, ih f (by omega) (n / 10) (by omega), ih n (by omega) (n / 10) (by omega)]
theorem digitsL_small {n : Nat} (h : n < 10) : digitsL n = [dgB n] := by unfold digitsL; rw [digitsF, if_pos h]
theorem digitsL_big {n : Nat} (h : ¬ n < 10) : digitsL n = digitsL (n / 10) ++ [dgB n] := by
  unfold digitsL
  rw [digitsF, if_neg h, digitsF_fuel n (n / 10) (by omega)]
theorem digitsL_len (k n : Nat) (h : n < 10 ^ k) (hk : 0 < k) : (digitsL n).length ≤ k := by
  induction k generalizing n with
  | zero => omega
  | succ k ih =>
    by_cases hn : n < 10
    · rw [digitsL_small hn]; simp
    · rw [digitsL_big hn, List.length_append]
      have hk0 : 0 < k := by
        rcases Nat.eq_zero_or_pos k with rfl | h0
        · simp at h; omega
        · exact h0
      have := ih (n / 10) (by rw [Nat.pow_succ] at h; omega) hk0
      simp; omega
theorem digitsL_len20 (n : Nat) (h : n < 18446744073709551616) : (digitsL n).length ≤ 20 := digitsL_len 20 n (by omega) (by omega)

/-- is a sign a digit? what digits say -/
def isD (c : UInt8) : Bool := decide (48 ≤ c.toNat) && decide (c.toNat ≤ 57)
def vD (c : UInt8) : Nat := c.toNat - 48
def valL (l : List UInt8) : Nat := l.foldl (fun n c => n * 10 + vD c) 0
theorem valL_snoc (l : List UInt8) (c : UInt8) : valL (l ++ [c]) = valL l * 10 + vD c := by unfold valL; rw [List.foldl_append]; rfl
theorem val_from (l : List UInt8) (n : Nat) : n ≤ l.foldl (fun n c => n * 10 + vD c) n := by
  induction l generalizing n with
  | nil => exact Nat.le_refl _
  | cons c l ih => rw [List.foldl_cons]; exact Nat.le_trans (by omega) (ih _)
theorem valL_take (l : List UInt8) (k : Nat) : valL (l.take k) ≤ valL l := by
  have e : valL l = (l.drop k).foldl (fun n c => n * 10 + vD c) (valL (l.take k)) := by
    conv => lhs; rw [← List.take_append_drop k l]
    unfold valL; rw [List.foldl_append]
  rw [e]; exact val_from _ _
theorem valL_take_succ (l : List UInt8) (k : Nat) (h : k < l.length) : valL (l.take (k + 1)) = valL (l.take k) * 10 + vD (nth l k) := by rw [take_nth l k h, valL_snoc]
/-- a text that is a number up to most -/
def NumOk (l : List UInt8) (most : Nat) : Prop := 1 ≤ l.length ∧ l.length ≤ 20 ∧ (1 < l.length → ¬ nth l 0 = 48) ∧ (∀ c ∈ l, isD c = true) ∧ valL l ≤ most
open Classical in
noncomputable def numL (l : List UInt8) (most : Nat) : Option Nat := if NumOk l most then some (valL l) else none
noncomputable def numV (l : List UInt8) (most : Nat) : Nat := (numL l most).getD 0
noncomputable def numE (l : List UInt8) (most : Nat) : Int := if (numL l most).isSome then 0 else 5
theorem num_yes {l : List UInt8} {most : Nat} (h : NumOk l most) : numV l most = valL l ∧ numE l most = 0 := by
  unfold numV numE numL; rw [if_pos h]; exact ⟨rfl, rfl⟩
theorem num_no {l : List UInt8} {most : Nat} (h : ¬ NumOk l most) : numV l most = 0 ∧ numE l most = 5 := by
  unfold numV numE numL; rw [if_neg h]; exact ⟨rfl, rfl⟩
theorem mem_nth {l : List UInt8} {k : Nat} (h : k < l.length) : nth l k ∈ l := by rw [nth_eq l k h]; exact List.getElem_mem _
theorem num_bad {l : List UInt8} {most k : Nat} (hk : k < l.length) (h : isD (nth l k) = false) : ¬ NumOk l most := by
  rintro ⟨_, _, _, h4, _⟩
  have := h4 _ (mem_nth hk)
  rw [h] at this; cases this
theorem num_over {l : List UInt8} {most k : Nat} (hk : k < l.length) (h : most < valL (l.take k) * 10 + vD (nth l k)) : ¬ NumOk l most := by
  rintro ⟨_, _, _, _, h5⟩
  rw [← valL_take_succ l k hk] at h
  have := valL_take l (k + 1)
  omega

/-- a number's digits are a number's text -/
theorem dgB_isD (n : Nat) : isD (dgB n) = true := by unfold isD; rw [dgB_val]; simp; omega
theorem dgB_vD (n : Nat) : vD (dgB n) = n % 10 := by unfold vD; rw [dgB_val]; omega
theorem digits_facts (n : Nat) : valL (digitsL n) = n ∧ (∀ c ∈ digitsL n, isD c = true) ∧ 1 ≤ (digitsL n).length ∧ (0 < n → ¬ nth (digitsL n) 0 = 48) ∧ (n < 10 → (digitsL n).length = 1) := by
  induction n using Nat.strongRecOn with
  | _ n ih =>
    by_cases hn : n < 10
    · rw [digitsL_small hn]
      refine ⟨?_, ?_, by simp, ?_, fun _ => rfl⟩
      · have := dgB_vD n
        simp [valL, this]; omega
      · intro c hc; rw [List.mem_singleton.1 hc]; exact dgB_isD n
      · intro h0 e
        have e2 : dgB n = 48 := e
        have := dgB_val n
        rw [e2] at this
        have e3 : (48 : UInt8).toNat = 48 := rfl
        omega
    · obtain ⟨h1, h2, h3, h4, _⟩ := ih (n / 10) (by omega)
      rw [digitsL_big hn]
      refine ⟨?_, ?_, by simp, ?_, fun h => absurd h hn⟩
      · rw [valL_snoc, h1, dgB_vD]; omega
      · intro c hc
        rcases List.mem_append.1 hc with hc | hc
        · exact h2 c hc
        · rw [List.mem_singleton.1 hc]; exact dgB_isD n
      · intro _
        have e : nth (digitsL (n / 10) ++ [dgB n]) 0 = nth (digitsL (n / 10)) 0 := by
          unfold nth
          rw [List.getD_eq_getElem?_getD, List.getD_eq_getElem?_getD, List.getElem?_append_left (by omega)]
        rw [e]; exact h4 (by omega)
theorem num_digits (n most : Nat) (h : n ≤ most) (hm : most < 18446744073709551616) : NumOk (digitsL n) most := by
  obtain ⟨h1, h2, h3, h4, h5⟩ := digits_facts n
  refine ⟨h3, digitsL_len20 n (by omega), fun hl => h4 ?_, h2, by rw [h1]; exact h⟩
  rcases Nat.eq_zero_or_pos n with rfl | h0
  · rw [h5 (by omega)] at hl; omega
  · exact h0
end Go.Proofs.YtihfpoclflppnaaDoor
