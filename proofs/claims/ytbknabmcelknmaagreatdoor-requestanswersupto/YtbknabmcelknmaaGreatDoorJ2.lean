/- Pairs of texts, as slices in a world. Plain facts: lines, tokens and values of a request. -/
import Derived.Test.YtbknabmcelknmaaGreatDoorJ1
namespace Go.Proofs.YtbknabmcelknmaaGreatDoor
open Go.RowKit

abbrev Pr := List UInt8 × List UInt8
def nthP (l : List Pr) (i : Nat) : Pr := l.getD i ([], [])
theorem nthP_eq (l : List Pr) (i : Nat) (h : i < l.length) : nthP l i = l[i] := by
  unfold nthP; rw [List.getD_eq_getElem?_getD, List.getElem?_eq_getElem h]; rfl
/-- a slice of pairs in a world -/
structure IsP (w : World) (a : Option Addr) (n cap : Nat) (l : List Pr) : Prop where
  len_eq : l.length = n
  le : n ≤ cap
  max : cap ≤ maxLen
  nil : a = none → cap = 0
  cells : 0 < n → ∃ b off, a = some ⟨b, off, none⟩ ∧ ∀ i, i < n → w.cell? ⟨b, off + i * 2, none⟩ = some (.string (str (nthP l i).1)) ∧ w.cell? ⟨b, off + i * 2 + 1, none⟩ = some (.string (str (nthP l i).2))
theorem IsP.below {w w' : World} {n m : Nat} {a : Option Addr} {cap : Nat} {l : List Pr} (h : IsP w a m cap l) (hb : Below n w w') (hn : n = w.heap.size) : IsP w' a m cap l :=
  ⟨h.len_eq, h.le, h.max, h.nil, fun hp => by
    obtain ⟨b, off, e, hc⟩ := h.cells hp
    refine ⟨b, off, e, fun i hi => ?_⟩
    obtain ⟨h1, h2⟩ := hc i hi
    have hlt : b < w.heap.size := cell_lt h1
    rw [hb.cell (p := ⟨b, off + i * 2, none⟩) (by simpa [hn] using hlt), hb.cell (p := ⟨b, off + i * 2 + 1, none⟩) (by simpa [hn] using hlt)]
    exact ⟨h1, h2⟩⟩

/-- the value of the first of that name -/
def findL (l : List Pr) (nm : List UInt8) : Option (List UInt8) := (l.find? (fun p => p.1 == nm)).map (·.2)
theorem find_at (l : List Pr) (nm : List UInt8) (k : Nat) (hk : k < l.length) (h : ∀ i, i < k → ¬ (nthP l i).1 = nm) (hc : (nthP l k).1 = nm) : findL l nm = some (nthP l k).2 := by
  induction l generalizing k with
  | nil => simp at hk
  | cons p l ih =>
    cases k with
    | zero =>
      have e : p.1 = nm := hc
      unfold findL
      rw [List.find?_cons_of_pos (by simpa using e)]; rfl
    | succ k =>
      have hx : ¬ p.1 = nm := h 0 (by omega)
      have := ih k (by simpa using hk) (fun i hi => h (i + 1) (by omega)) hc
      unfold findL at this ⊢
      rw [List.find?_cons_of_neg (by simpa using hx)]; exact this
theorem find_none (l : List Pr) (nm : List UInt8) (h : ∀ i, i < l.length → ¬ (nthP l i).1 = nm) : findL l nm = none := by
  induction l with
  | nil => rfl
  | cons p l ih =>
    have hx : ¬ p.1 = nm := h 0 (by simp)
    have := ih (fun i hi => h (i + 1) (by simp; omega))
    unfold findL at this ⊢
    rw [List.find?_cons_of_neg (by simpa using hx)]; exact this
theorem str_toList (l : List UInt8) : (str l).toList = l := by rw [ByteArray.toList_eq, str_list]
theorem str_empty (l : List UInt8) : (str l).toList.isEmpty = l.isEmpty := by rw [str_toList]
theorem str_beq (l m : List UInt8) : ((str l).toList == (str m).toList) = (l == m) := by rw [str_toList, str_toList]
end Go.Proofs.YtbknabmcelknmaaGreatDoor
namespace Go.Proofs.YtbknabmcelknmaaGreatDoor

/-- by small letters -/
def lowN (n : Nat) : Nat := if 65 ≤ n ∧ n ≤ 90 then n + 32 else n
def lowB (c : UInt8) : UInt8 := UInt8.ofNat (lowN c.toNat)
def smallL (l : List UInt8) : List UInt8 := l.map lowB
theorem lowB_val (c : UInt8) : (lowB c).toNat = lowN c.toNat := by
  have := c.toNat_lt
  unfold lowB; rw [UInt8.toNat_ofNat']; unfold lowN; split <;> omega
theorem smallL_length (l : List UInt8) : (smallL l).length = l.length := by simp [smallL]
/-- signs of a token; of a text between two signs -/
def tokN (n : Nat) : Bool := decide (97 ≤ n ∧ n ≤ 122 ∨ 65 ≤ n ∧ n ≤ 90 ∨ 48 ≤ n ∧ n ≤ 57 ∨ n = 45 ∨ n = 95)
def tokB (c : UInt8) : Bool := tokN c.toNat
def tokenL (l : List UInt8) : Bool := l.all tokB && decide (1 ≤ l.length ∧ l.length ≤ 64)
def betwB (lo hi : Nat) (c : UInt8) : Bool := decide (lo ≤ c.toNat ∧ c.toNat ≤ hi)
def betwL (lo hi most : Nat) (l : List UInt8) : Bool := l.all (betwB lo hi) && decide (l.length ≤ most)
def valueL (l : List UInt8) : Bool := betwL 32 126 1024 l && (decide (l = []) || (!decide (nth l 0 = 32) && !decide (nth l (l.length - 1) = 32)))
theorem all_nth {p : UInt8 → Bool} {l : List UInt8} {k : Nat} (hk : k < l.length) (h : p (nth l k) = false) : l.all p = false := by
  rw [List.all_eq_false]
  exact ⟨nth l k, mem_nth hk, by rw [h]; simp⟩
theorem all_take {p : UInt8 → Bool} {l : List UInt8} {k : Nat} (hk : k < l.length) (h : (l.take k).all p = true) (h1 : p (nth l k) = true) : (l.take (k + 1)).all p = true := by
  rw [take_nth l k hk, List.all_append, h]; simp [h1]

/-- the first line, and what is behind its end -/
def lineL : List UInt8 → Option (List UInt8 × List UInt8)
  | [] => none
  | a :: t => if a = 13 ∧ nth t 0 = 10 ∧ 0 < t.length then some ([], t.drop 1) else (lineL t).map fun x => (a :: x.1, x.2)
theorem line_at (l : List UInt8) (k : Nat) (hk : k + 1 < l.length) (h : ∀ i, i < k → ¬ (nth l i = 13 ∧ nth l (i + 1) = 10)) (h1 : nth l k = 13) (h2 : nth l (k + 1) = 10) : lineL l = some (l.take k, l.drop (k + 2)) := by
  induction l generalizing k with
  | nil => simp at hk
  | cons a t ih =>
    cases k with
    | zero =>
      have e1 : a = 13 := h1
      have e2 : nth t 0 = 10 := h2
      rw [lineL, if_pos ⟨e1, e2, by simpa using hk⟩]; simp
    | succ k =>
      have h0 : ¬ (a = 13 ∧ nth t 0 = 10) := h 0 (by omega)
      rw [lineL, if_neg (fun x => h0 ⟨x.1, x.2.1⟩), ih k (by simpa using hk) (fun i hi => h (i + 1) (by omega)) h1 h2]
      simp
theorem line_none (l : List UInt8) (h : ∀ i, i + 1 < l.length → ¬ (nth l i = 13 ∧ nth l (i + 1) = 10)) : lineL l = none := by
  induction l with
  | nil => rfl
  | cons a t ih =>
    have h0 : ¬ (a = 13 ∧ nth t 0 = 10 ∧ 0 < t.length) := fun x => h 0 (by simp; exact x.2.2) ⟨x.1, x.2.1⟩
    rw [lineL, if_neg h0, ih (fun i hi => h (i + 1) (by simp; omega))]; rfl
theorem line_length {l a b : List UInt8} (h : lineL l = some (a, b)) : a.length + b.length + 2 = l.length := by
  induction l generalizing a b with
  | nil => cases h
  | cons c t ih =>
    rw [lineL] at h
    split at h
    · next hc => cases h; simp; omega
    · obtain ⟨x, hx, e⟩ := Option.map_eq_some_iff.1 h
      cases e
      have := ih hx
      simp; omega
def lineA (l : List UInt8) : List UInt8 := ((lineL l).getD ([], [])).1
def lineB (l : List UInt8) : List UInt8 := ((lineL l).getD ([], [])).2

/-- without blanks ahead and behind -/
def ltrim (l : List UInt8) : List UInt8 := l.dropWhile (· == 32)
def rtrim (l : List UInt8) : List UInt8 := (l.reverse.dropWhile (· == 32)).reverse
def trimL (l : List UInt8) : List UInt8 := rtrim (ltrim l)
theorem ltrim_length (l : List UInt8) : (ltrim l).length ≤ l.length := List.Sublist.length_le (List.dropWhile_sublist _)
theorem rtrim_length (l : List UInt8) : (rtrim l).length ≤ l.length := by
  unfold rtrim; rw [List.length_reverse]
  have := List.Sublist.length_le (List.dropWhile_sublist (p := fun x : UInt8 => x == 32) (l := l.reverse))
  simpa using this
theorem trimL_length (l : List UInt8) : (trimL l).length ≤ l.length := Nat.le_trans (rtrim_length _) (ltrim_length _)
theorem ltrim_cons (l : List UInt8) : ltrim (32 :: l) = ltrim l := by unfold ltrim; simp
theorem ltrim_stop {l : List UInt8} (h : l = [] ∨ ¬ nth l 0 = 32) : ltrim l = l := by
  rcases h with rfl | h
  · rfl
  · cases l with
    | nil => rfl
    | cons a t =>
      have : ¬ a = 32 := h
      unfold ltrim; rw [List.dropWhile_cons_of_neg (by simpa using this)]
theorem rtrim_snoc (l : List UInt8) : rtrim (l ++ [32]) = rtrim l := by unfold rtrim; simp
theorem rtrim_stop {l : List UInt8} (h : l = [] ∨ ¬ nth l (l.length - 1) = 32) : rtrim l = l := by
  rcases h with rfl | h
  · rfl
  · unfold rtrim
    have e : l.reverse.dropWhile (· == 32) = l.reverse := by
      cases hr : l.reverse with
      | nil => rfl
      | cons a t =>
        have hl : l = t.reverse ++ [a] := by rw [← List.reverse_reverse l, hr]; simp
        have : nth l (l.length - 1) = a := by
          rw [hl, nth_eq _ _ (by simp)]; simp
        rw [this] at h
        rw [List.dropWhile_cons_of_neg (by simpa using h)]
    rw [e, List.reverse_reverse]
end Go.Proofs.YtbknabmcelknmaaGreatDoor
