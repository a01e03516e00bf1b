/- Plain facts: lines, tokens and values of a request. · A text's bytes one by one. · Small facts on what is handed back. -/
import Derived.Test.YtihfpoclflppnaaDoorB8
import Derived.Test.YtihfpoclflppnaaDoorB2
import Derived.Test.YtihfpoclflppnaaDoorB0
namespace Go.Proofs.YtihfpoclflppnaaDoor

/-- by small letters -/
def lowN (n : Nat) : Nat := if 65 ≤ n ∧ n ≤ 90 then n + 32 else n
def lowB (c : UInt8) : UInt8 := UInt8.ofNat (lowN c.toNat)
def smallL (l : List UInt8) : List UInt8 := l.map lowB
theorem lowB_val (c : UInt8) : (lowB c).toNat = lowN c.toNat := by
  have := c.toNat_lt
  unfold lowB; rw [UInt8.toNat_ofNat']; unfold lowN; split <;> omega
theorem smallL_length (l : List UInt8) : (smallL l).length = l.length := by simp [smallL]
/-- signs of a token; of a text between two signs -/
def tokN (n : Nat) : Bool := decide (97 ≤ n ∧ n ≤ 122 ∨ 65 ≤ n ∧ n ≤ 90 ∨ 48 ≤ n ∧ n ≤ 57 ∨ n = 45 ∨ n = 95)
def tokB (c : UInt8) : Bool := tokN c.toNat
def tokenL (l : List UInt8) : Bool := l.all tokB && decide (1 ≤ l.length ∧ l.length ≤ 64)
def betwB (lo hi : Nat) (c : UInt8) : Bool := decide (lo ≤ c.toNat ∧ c.toNat ≤ hi)
def betwL (lo hi most : Nat) (l : List UInt8) : Bool := l.all (betwB lo hi) && decide (l.length ≤ most)
def valueL (l : List UInt8) : Bool := betwL 32 126 1024 l && (decide (l = []) || (!decide (nth l 0 = 32) && !decide (nth l (l.length - 1) = 32)))
theorem all_nth {p : UInt8 → Bool} {l : List UInt8} {k : Nat} (hk : k < l.length) (h : p (nth l k) = false) : l.all p = false := by
  rw [List.all_eq_false]
  exact ⟨nth l k, mem_nth hk, by rw [h]; simp⟩
theorem all_take {p : UInt8 → Bool} {l : List UInt8} {k : Nat} (hk : k < l.length) (h : (l.take k).all p = true) (h1 : p (nth l k) = true) : (l.take (k + 1)).all p = true := by
  rw [take_nth l k hk, List.all_append, h]; simp [h1]

/-- the first line, and what is behind its end -/
def lineL : List UInt8 → Option (List UInt8 × List UInt8)
  | [] => none
  | a :: t => if a = 13 ∧ nth t 0 = 10 ∧ 0 < t.length then some ([], t.drop 1) else (lineL t).map fun x => (a :: x.1, x.2)
theorem line_at (l : List UInt8) (k : Nat) (hk : k + 1 < l.length) (h : ∀ i, i < k → ¬ (nth l i = 13 ∧ nth l (i + 1) = 10)) (h1 : nth l k = 13) (h2 : nth l (k + 1) = 10) : lineL l = some (l.take k, l.drop (k + 2)) := by
  induction l generalizing k with
  | nil => simp at hk
  | cons a t ih =>
    cases k with
    | zero =>
      have e1 : a = 13 := h1
      have e2 : nth t 0 = 10 := h2
      rw [lineL, if_pos ⟨e1, e2, by simpa using hk⟩]; simp
    | succ k =>
      have h0 : ¬ (a = 13 ∧ nth t 0 = 10) := h 0 (by omega)
      rw [lineL, if_neg (fun x => h0 ⟨x.1, x.2.1⟩), ih k (by simpa using hk) (fun i hi => h (i + 1) (by omega)) h1 h2]
      simp
theorem line_none (l : List UInt8) (h : ∀ i, i + 1 < l.length → ¬ (nth l i = 13 ∧ nth l (i + 1) = 10)) : lineL l = none := by
  induction l with
  | nil => rfl
  | cons a t ih =>
    have h0 : ¬ (a = 13 ∧ nth t 0 = 10 ∧ 0 < t.length) := fun x => h 0 (by simp; exact x.2.2) ⟨x.1, x.2.1⟩
    rw [lineL, if_neg h0, ih (fun i hi => h (i + 1) (by simp; omega))]; rfl
theorem line_length {l a b : List UInt8} (h : lineL l = some (a, b)) : a.length + b.length + 2 = l.length := by
  induction l generalizing a b with
  | nil => cases h
  | cons c t ih =>
    rw [lineL] at h
    split at h
    · next hc => cases h; simp; omega
    · obtain ⟨x, hx, e⟩ := Option.map_eq_some_iff.1 h
      cases e
      have := ih hx
      simp; omega
def lineA (l : List UInt8) : List UInt8 := ((lineL l).getD ([], [])).1
def lineB (l : List UInt8) : List UInt8 := ((lineL l).getD ([], [])).2

/-- without blanks ahead and behind -/
def ltrim (l : List UInt8) : List UInt8 := l.dropWhile (· == 32)
def rtrim (l : List UInt8) : List UInt8 := (l.reverse.dropWhile (· == 32)).reverse
def trimL (l : List UInt8) : List UInt8 := rtrim (ltrim l)
theorem ltrim_length (l : List UInt8) : (ltrim l).length ≤ l.length := List.Sublist.length_le (List.dropWhile_sublist _)
theorem rtrim_length (l : List UInt8) : (rtrim l).length ≤ l.length := by
  unfold rtrim; rw [List.length_reverse]
  have := List.Sublist.length_le (List.dropWhile_sublist (p := fun x : UInt8 => x == 32) (l := l.reverse))
  simpa using this
theorem trimL_length (l : List UInt8) : (trimL l).length ≤ l.length := Nat.le_trans (rtrim_length _) (ltrim_length _)
theorem ltrim_cons (l : List UInt8) : ltrim (32 :: l) = ltrim l := by unfold ltrim; simp
theorem ltrim_stop {l : List UInt8} (h : l = [] ∨ ¬ nth l 0 = 32) : ltrim l = l := by
  rcases h with rfl | h
  · rfl
  · cases l with
    | nil => rfl
    | cons a t =>
      have : ¬ a = 32 := h
      unfold ltrim; rw [List.dropWhile_cons_of_neg (by simpa using this)]
theorem rtrim_snoc (l : List UInt8) : rtrim (l ++ [32]) = rtrim l := by unfold rtrim; simp
theorem rtrim_stop {l : List UInt8} (h : l = [] ∨ ¬ nth l (l.length - 1) = 32) : rtrim l = l := by
  rcases h with rfl | h
  · rfl
  · unfold rtrim
    have e : l.reverse.dropWhile (· == 32) = l.reverse := by
      cases hr : l.reverse with
      | nil => rfl
      | cons a t =>
        have hl : l = t.reverse ++ [a] := by rw [← List.reverse_reverse l, hr]; simp
        have : nth l (l.length - 1) = a := by
          rw [hl, nth_eq _ _ (by simp)]; simp
        rw [this] at h
        rw [List.dropWhile_cons_of_neg (by simpa using h)]
    rw [e, List.reverse_reverse]
end Go.Proofs.YtihfpoclflppnaaDoor
namespace Go.Proofs.YtihfpoclflppnaaDoor
def sb (s : ByteArray) (i : Int) : UInt8 := nth s.data.toList i.toNat

theorem ixs (s : ByteArray) (i : Int) (h0 : 0 ≤ i) (h1 : i < (s.size : Int)) (u : World) : (Instr.index 9 (.string s) (.int .i64 i)).run Tryd.prog u = .ok (.int .u8 ((sb s i).toNat : Int)) u := by
  rw [run_index_string u 9 _ .i64 i Tryd.underlying9]
  rw [dif_pos ⟨h0, h1⟩]
  have : i.toNat < s.data.toList.length := by have : s.data.toList.length = s.size := by rw [Array.length_toList]; rfl
                                              omega
  unfold sb
  rw [nth_eq _ _ this]
  rfl
end Go.Proofs.YtihfpoclflppnaaDoor
namespace Go.Proofs.YtihfpoclflppnaaDoor
open Go.RowKit

theorem ret_b {a b : Bool} (h : a = b) : Ending.returned (.bool a) = .returned (.bool b) := by rw [h]
theorem ret_i {a b : Int} (h : a = b) : Ending.returned (.int .i64 a) = .returned (.int .i64 b) := by rw [h]
theorem ret_sc {a b : List UInt8} {e f : Int} (h : a = b) (h2 : e = f) : Ending.returned (.tuple #[.string ⟨a.toArray⟩, .int .i64 e]) = .returned (.tuple #[.string ⟨b.toArray⟩, .int .i64 f]) := by rw [h, h2]
theorem ret_ss {a b c d : ByteArray} (h : a = b) (h2 : c = d) : Ending.returned (.tuple #[.string a, .string c]) = .returned (.tuple #[.string b, .string d]) := by rw [h, h2]
theorem ret_sb {a b : ByteArray} {c d : Bool} (h : a = b) (h2 : c = d) : Ending.returned (.tuple #[.string a, .bool c]) = .returned (.tuple #[.string b, .bool d]) := by rw [h, h2]
end Go.Proofs.YtihfpoclflppnaaDoor
