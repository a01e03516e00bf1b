/- What digest.Same answers, of any two slices of bytes. Pairs of texts, as slices in a world. -/
import Derived.Test.YtmgflcglmakceaaRefSame
import Derived.Test.YtmgflcglmakceaaUri1
namespace Go.Proofs.Ytmgflcglmakceaa
open Go.RowKit

/-- what is gathered of the differences -/
def gath (x y : List UInt8) : Nat → UInt8
  | 0 => 0
  | k + 1 => gath x y k ||| (nth x k ^^^ nth y k)
theorem gath_zero (x y : List UInt8) (k : Nat) : gath x y k = 0 ↔ sameTo x y k = true := by
  induction k with
  | zero => simp [gath, sameTo_zero]
  | succ k ih => rw [gath, or_xor_zero, ih, sameTo_succ]; simp

set_option maxHeartbeats 400000 in
theorem digSame (a0 : Option Addr) (len0 cap0 : Nat) (l : List UInt8) (a1 : Option Addr) (len1 cap1 : Nat) (m : List UInt8) (w : World) (w0 : IsB w a0 len0 cap0 l) (w1 : IsB w a1 len1 cap1 m) :
    Calls Try.prog 33 #[.slice a0 len0 cap0, .slice a1 len1 cap1] w fun e w' => e = .returned (.bool (eqB l m)) ∧ ∃ n, w' = w.drewN n := by
  have hl0 := w0.le
  have hl1 := w1.le
  have hm0 := w0.max
  have hm1 := w1.max
  have e0 : Hid (l.length = len0) := w0.len_eq
  have e1 : Hid (m.length = len1) := w1.len_eq
  have c0 : Hid (IsB w a0 len0 cap0 l) := w0
  have c1 : Hid (IsB w a1 len1 cap1 m) := w1
  clear w0 w1
  unfold maxLen at hm0 hm1
  by_cases hne : len0 = len1
  · subst hne
    go_enter Try.func33, Try.ntmps33
    go_wp2
    go_loopw [5, 14] (fun d i w' => ∃ k n : Nat, k ≤ len0 ∧ i = .int .i64 k ∧ d = .int .u8 ((gath l m k).toNat : Int) ∧ w' = w.drewN n) (fun _ i _ => len0 - (intOf i).toNat)
    case atStart => exact ⟨0, 0, Nat.zero_le _, rfl, rfl, rfl⟩
    case round =>
      obtain ⟨k, n, hk, rfl, rfl, rfl⟩ := hrel
      by_cases hlt : k < len0
      · obtain ⟨b0, o0, rfl, hc0⟩ := c0.out.cells (by omega)
        obtain ⟨b1, o1, rfl, hc1⟩ := c1.out.cells (by omega)
        have g0 := hc0 k hlt
        have g1 := hc1 k hlt
        clear hc0 hc1
        have hlt' : (k : Int) < (len0 : Int) := by omega
        go_wp2
        go_quiet (fail)
        go_wp2
        go_roundw
        case rel => exact ⟨k + 1, _, by omega, by go_num, by rw [bits_xor8, bits_or8]; rfl, rfl⟩
        case measure => simp [intOf]; omega
      · go_wp2
        go_ret
        have : k = len0 := by omega
        subst this
        refine ⟨ret_bool ?_, _, rfl⟩
        rw [← sameTo_whole l m (by rw [e0.out, e1.out]), e0.out, Bool.eq_iff_iff, toNat8_zero]; exact gath_zero l m k
  · have hne' : ((len0 : Int) != (len1 : Int)) = true := by rw [bne_iff_ne]; omega
    go_enter Try.func33, Try.ntmps33
    go_wp2
    go_ret
    exact ⟨ret_bool (eqB_len l m (by rw [e0.out, e1.out]; exact hne)).symm, 0, rfl⟩
end Go.Proofs.Ytmgflcglmakceaa
namespace Go.Proofs.Ytmgflcglmakceaa
open Go.RowKit

abbrev Pr := List UInt8 × List UInt8
def nthP (l : List Pr) (i : Nat) : Pr := l.getD i ([], [])
theorem nthP_eq (l : List Pr) (i : Nat) (h : i < l.length) : nthP l i = l[i] := by
  unfold nthP; rw [List.getD_eq_getElem?_getD, List.getElem?_eq_getElem h]; rfl
/-- a slice of pairs in a world -/
structure IsP (w : World) (a : Option Addr) (n cap : Nat) (l : List Pr) : Prop where
  len_eq : l.length = n
  le : n ≤ cap
  max : cap ≤ maxLen
  nil : a = none → cap = 0
  cells : 0 < n → ∃ b off, a = some ⟨b, off, none⟩ ∧ ∀ i, i < n → w.cell? ⟨b, off + i * 2, none⟩ = some (.string (str (nthP l i).1)) ∧ w.cell? ⟨b, off + i * 2 + 1, none⟩ = some (.string (str (nthP l i).2))
theorem IsP.below {w w' : World} {n m : Nat} {a : Option Addr} {cap : Nat} {l : List Pr} (h : IsP w a m cap l) (hb : Below n w w') (hn : n = w.heap.size) : IsP w' a m cap l :=
  ⟨h.len_eq, h.le, h.max, h.nil, fun hp => by
    obtain ⟨b, off, e, hc⟩ := h.cells hp
    refine ⟨b, off, e, fun i hi => ?_⟩
    obtain ⟨h1, h2⟩ := hc i hi
    have hlt : b < w.heap.size := cell_lt h1
    rw [hb.cell (p := ⟨b, off + i * 2, none⟩) (by simpa [hn] using hlt), hb.cell (p := ⟨b, off + i * 2 + 1, none⟩) (by simpa [hn] using hlt)]
    exact ⟨h1, h2⟩⟩

/-- the value of the first of that name -/
def findL (l : List Pr) (nm : List UInt8) : Option (List UInt8) := (l.find? (fun p => p.1 == nm)).map (·.2)
theorem find_at (l : List Pr) (nm : List UInt8) (k : Nat) (hk : k < l.length) (h : ∀ i, i < k → ¬ (nthP l i).1 = nm) (hc : (nthP l k).1 = nm) : findL l nm = some (nthP l k).2 := by
  induction l generalizing k with
  | nil => simp at hk
  | cons p l ih =>
    cases k with
    | zero =>
      have e : p.1 = nm := hc
      unfold findL
      rw [List.find?_cons_of_pos (by simpa using e)]; rfl
    | succ k =>
      have hx : ¬ p.1 = nm := h 0 (by omega)
      have := ih k (by simpa using hk) (fun i hi => h (i + 1) (by omega)) hc
      unfold findL at this ⊢
      rw [List.find?_cons_of_neg (by simpa using hx)]; exact this
theorem find_none (l : List Pr) (nm : List UInt8) (h : ∀ i, i < l.length → ¬ (nthP l i).1 = nm) : findL l nm = none := by
  induction l with
  | nil => rfl
  | cons p l ih =>
    have hx : ¬ p.1 = nm := h 0 (by simp)
    have := ih (fun i hi => h (i + 1) (by simp; omega))
    unfold findL at this ⊢
    rw [List.find?_cons_of_neg (by simpa using hx)]; exact this
theorem str_toList (l : List UInt8) : (str l).toList = l := by rw [ByteArray.toList_eq, str_list]
theorem str_empty (l : List UInt8) : (str l).toList.isEmpty = l.isEmpty := by rw [str_toList]
theorem str_beq (l m : List UInt8) : ((str l).toList == (str m).toList) = (l == m) := by rw [str_toList, str_toList]
theorem beq_dec (l m : List UInt8) : (l == m) = decide (l = m) := by by_cases h : l = m <;> simp [h]
theorem beq_no {l m : List UInt8} (h : ¬ l = m) : ((str l).toList == m) = false := by rw [str_toList, beq_eq_false_iff_ne]; exact h
theorem beq_no2 {l m : List UInt8} (h : ¬ l = m) : ((str l).toList == (ByteArray.mk m.toArray).toList) = false := by
  have := str_beq l m
  unfold str at this ⊢
  rw [this, beq_eq_false_iff_ne]; exact h

theorem str_append2 (x y : List UInt8) : str x ++ str y = str (x ++ y) := by unfold str; rw [ByteArray.mk_append_mk]
theorem ret_s {a b : ByteArray} (h : a = b) : Ending.returned (.string a) = .returned (.string b) := by rw [h]
end Go.Proofs.Ytmgflcglmakceaa
