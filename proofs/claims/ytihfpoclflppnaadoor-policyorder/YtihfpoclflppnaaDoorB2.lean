/- Plain facts: a text cut at a sign. · Pairs of texts, as slices in a world. -/
import Derived.Test.YtihfpoclflppnaaDoorUri0
namespace Go.Proofs.YtihfpoclflppnaaDoor

/-- a text of these bytes -/
def str (l : List UInt8) : ByteArray := ByteArray.mk l.toArray
theorem str_list (l : List UInt8) : (str l).data.toList = l := by simp [str]
theorem str_of (s : ByteArray) : str s.data.toList = s := by simp [str]
theorem str_size (l : List UInt8) : (str l).size = l.length := by simp [str, ByteArray.size]
theorem str_inj {l m : List UInt8} (h : str l = str m) : l = m := by rw [← str_list l, h, str_list]
theorem ext_take (s : ByteArray) (k : Nat) : s.extract 0 k = str (s.data.toList.take k) := by
  apply ByteArray.ext
  apply Array.toList_inj.1
  simp [str, ByteArray.data_extract]
theorem ext_drop (s : ByteArray) (k : Nat) : s.extract k s.size = str (s.data.toList.drop k) := by
  apply ByteArray.ext
  apply Array.toList_inj.1
  have e : s.size = s.data.size := rfl
  rw [ByteArray.data_extract, e]
  simp [str]
  refine List.take_of_length_le ?_
  rw [List.length_drop, Array.length_toList]
  exact Nat.le_refl _

/-- ahead of the first such sign, and behind it -/
def headL (c : UInt8) (l : List UInt8) : List UInt8 := l.takeWhile (· != c)
def tailL (c : UInt8) (l : List UInt8) : List UInt8 := (l.dropWhile (· != c)).drop 1
theorem head_at (c : UInt8) (l : List UInt8) (k : Nat) (hk : k < l.length) (h : ∀ i, i < k → ¬ nth l i = c) (hc : nth l k = c) : headL c l = l.take k ∧ tailL c l = l.drop (k + 1) := by
  induction l generalizing k with
  | nil => simp at hk
  | cons x l ih =>
    cases k with
    | zero =>
      have e : x = c := hc
      subst e
      simp [headL, tailL]
    | succ k =>
      have hx : ¬ x = c := h 0 (by omega)
      have := ih k (by simpa using hk) (fun i hi => h (i + 1) (by omega)) hc
      unfold headL tailL at this ⊢
      rw [List.takeWhile_cons_of_pos (by simpa using hx), List.dropWhile_cons_of_pos (by simpa using hx), this.1, this.2]
      simp
theorem head_none (c : UInt8) (l : List UInt8) (h : ∀ i, i < l.length → ¬ nth l i = c) : headL c l = l ∧ tailL c l = [] := by
  induction l with
  | nil => exact ⟨rfl, rfl⟩
  | cons x l ih =>
    have hx : ¬ x = c := h 0 (by simp)
    have := ih (fun i hi => h (i + 1) (by simp; omega))
    unfold headL tailL at this ⊢
    rw [List.takeWhile_cons_of_pos (by simpa using hx), List.dropWhile_cons_of_pos (by simpa using hx), this.1, this.2]
    exact ⟨rfl, rfl⟩
theorem headL_length (c : UInt8) (l : List UInt8) : (headL c l).length ≤ l.length := List.Sublist.length_le (List.takeWhile_sublist _)
theorem tailL_length (c : UInt8) (l : List UInt8) : (tailL c l).length ≤ l.length := by
  unfold tailL; rw [List.length_drop]
  have := List.Sublist.length_le (List.dropWhile_sublist (p := fun x => x != c) (l := l))
  omega
/-- is the sign there? -/
def hasL (c : UInt8) (l : List UInt8) : Bool := decide (c ∈ l)
theorem has_at (c : UInt8) (l : List UInt8) (k : Nat) (hk : k < l.length) (hc : nth l k = c) : hasL c l = true := by
  unfold hasL; rw [decide_eq_true_eq, ← hc, nth_eq l k hk]; exact List.getElem_mem _
theorem has_none (c : UInt8) (l : List UInt8) (h : ∀ i, i < l.length → ¬ nth l i = c) : hasL c l = false := by
  unfold hasL; rw [decide_eq_false_iff_not]
  intro hm
  obtain ⟨i, hi, e⟩ := List.getElem_of_mem hm
  exact h i hi (by rw [nth_eq l i hi]; exact e)
end Go.Proofs.YtihfpoclflppnaaDoor
namespace Go.Proofs.YtihfpoclflppnaaDoor
open Go.RowKit

abbrev Pr := List UInt8 × List UInt8
def nthP (l : List Pr) (i : Nat) : Pr := l.getD i ([], [])
theorem nthP_eq (l : List Pr) (i : Nat) (h : i < l.length) : nthP l i = l[i] := by
  unfold nthP; rw [List.getD_eq_getElem?_getD, List.getElem?_eq_getElem h]; rfl
/-- a slice of pairs in a world -/
structure IsP (w : World) (a : Option Addr) (n cap : Nat) (l : List Pr) : Prop where
  len_eq : l.length = n
  le : n ≤ cap
  max : cap ≤ maxLen
  nil : a = none → cap = 0
  cells : 0 < n → ∃ b off, a = some ⟨b, off, none⟩ ∧ ∀ i, i < n → w.cell? ⟨b, off + i * 2, none⟩ = some (.string (str (nthP l i).1)) ∧ w.cell? ⟨b, off + i * 2 + 1, none⟩ = some (.string (str (nthP l i).2))
theorem IsP.below {w w' : World} {n m : Nat} {a : Option Addr} {cap : Nat} {l : List Pr} (h : IsP w a m cap l) (hb : Below n w w') (hn : n = w.heap.size) : IsP w' a m cap l :=
  ⟨h.len_eq, h.le, h.max, h.nil, fun hp => by
    obtain ⟨b, off, e, hc⟩ := h.cells hp
    refine ⟨b, off, e, fun i hi => ?_⟩
    obtain ⟨h1, h2⟩ := hc i hi
    have hlt : b < w.heap.size := cell_lt h1
    rw [hb.cell (p := ⟨b, off + i * 2, none⟩) (by simpa [hn] using hlt), hb.cell (p := ⟨b, off + i * 2 + 1, none⟩) (by simpa [hn] using hlt)]
    exact ⟨h1, h2⟩⟩

/-- the value of the first of that name -/
def findL (l : List Pr) (nm : List UInt8) : Option (List UInt8) := (l.find? (fun p => p.1 == nm)).map (·.2)
theorem find_at (l : List Pr) (nm : List UInt8) (k : Nat) (hk : k < l.length) (h : ∀ i, i < k → ¬ (nthP l i).1 = nm) (hc : (nthP l k).1 = nm) : findL l nm = some (nthP l k).2 := by
  induction l generalizing k with
  | nil => simp at hk
  | cons p l ih =>
    cases k with
    | zero =>
      have e : p.1 = nm := hc
      unfold findL
      rw [List.find?_cons_of_pos (by simpa using e)]; rfl
    | succ k =>
      have hx : ¬ p.1 = nm := h 0 (by omega)
      have := ih k (by simpa using hk) (fun i hi => h (i + 1) (by omega)) hc
      unfold findL at this ⊢
      rw [List.find?_cons_of_neg (by simpa using hx)]; exact this
theorem find_none (l : List Pr) (nm : List UInt8) (h : ∀ i, i < l.length → ¬ (nthP l i).1 = nm) : findL l nm = none := by
  induction l with
  | nil => rfl
  | cons p l ih =>
    have hx : ¬ p.1 = nm := h 0 (by simp)
    have := ih (fun i hi => h (i + 1) (by simp; omega))
    unfold findL at this ⊢
    rw [List.find?_cons_of_neg (by simpa using hx)]; exact this
theorem str_toList (l : List UInt8) : (str l).toList = l := by rw [ByteArray.toList_eq, str_list]
theorem str_empty (l : List UInt8) : (str l).toList.isEmpty = l.isEmpty := by rw [str_toList]
theorem str_beq (l m : List UInt8) : ((str l).toList == (str m).toList) = (l == m) := by rw [str_toList, str_toList]
theorem beq_dec (l m : List UInt8) : (l == m) = decide (l = m) := by by_cases h : l = m <;> simp [h]
theorem beq_no {l m : List UInt8} (h : ¬ l = m) : ((str l).toList == m) = false := by rw [str_toList, beq_eq_false_iff_ne]; exact h
theorem beq_no2 {l m : List UInt8} (h : ¬ l = m) : ((str l).toList == (ByteArray.mk m.toArray).toList) = false := by
  have := str_beq l m
  unfold str at this ⊢
  rw [this, beq_eq_false_iff_ne]; exact h

theorem str_append2 (x y : List UInt8) : str x ++ str y = str (x ++ y) := by unfold str; rw [ByteArray.mk_append_mk]
theorem ret_s {a b : ByteArray} (h : a = b) : Ending.returned (.string a) = .returned (.string b) := by rw [h]
end Go.Proofs.YtihfpoclflppnaaDoor
