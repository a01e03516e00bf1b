/- Parts that are put in any order, plain. -/
import Derived.Test.YtgcmojldegplaaaUp8
namespace Go.Proofs.Ytgcmojldegplaaa
open Go.RowKit

theorem putPs_lt {p : Pa} {l : List Pa} {n : Int} {d : List UInt8} (h : p.n < n) : putPs (p :: l) n d = p :: putPs l n d := by
  unfold putPs
  rw [List.takeWhile_cons_of_pos (by simpa using h), List.dropWhile_cons_of_pos (by simpa using h), List.cons_append]
theorem putPs_eq {q : Int} {p : Pa} {l : List Pa} {n : Int} {d : List UInt8} (hr : rightGo q (p :: l) = true) (h : p.n = n) : putPs (p :: l) n d = ⟨n, d⟩ :: l := by
  unfold putPs
  rw [List.takeWhile_cons_of_neg (by simp; omega), List.dropWhile_cons_of_neg (by simp; omega), List.dropWhile_cons_of_pos (by simp; omega), List.nil_append]
  obtain ⟨_, _, _, _, f⟩ := right_cons hr
  cases l with
  | nil => rfl
  | cons x l =>
    obtain ⟨_, _, _, e', _⟩ := right_cons f
    rw [List.dropWhile_cons_of_neg (by simp; omega)]
theorem putPs_gt {p : Pa} {l : List Pa} {n : Int} {d : List UInt8} (h : n < p.n) : putPs (p :: l) n d = ⟨n, d⟩ :: p :: l := by
  unfold putPs
  rw [List.takeWhile_cons_of_neg (by simp; omega), List.dropWhile_cons_of_neg (by simp; omega), List.dropWhile_cons_of_neg (by simp; omega), List.nil_append]
theorem fnd_cons (p : Pa) (l : List Pa) (m : Int) : fnd16 (p :: l) m = if p.n = m then some p else fnd16 l m := by
  unfold fnd16
  rw [List.find?_cons]
  by_cases h : p.n = m
  · rw [decide_eq_true h, if_pos h]
  · rw [decide_eq_false h, if_neg h]
theorem fnd_put : ∀ (l : List Pa) (q n : Int) (d : List UInt8) (m : Int), rightGo q l = true → fnd16 (putPs l n d) m = if m = n then some ⟨n, d⟩ else fnd16 l m
  | [], q, n, d, m, _ => by
    show fnd16 [⟨n, d⟩] m = _
    rw [fnd_cons]
    by_cases h : m = n
    · rw [if_pos h.symm, if_pos h]
    · rw [if_neg (fun h2 => h h2.symm), if_neg h]
  | p :: l, q, n, d, m, h => by
    obtain ⟨_, _, _, _, f⟩ := right_cons h
    rcases Int.lt_trichotomy p.n n with hlt | heq | hgt
    · rw [putPs_lt hlt, fnd_cons, fnd_put l p.n n d m f, fnd_cons]
      by_cases hm : m = n
      · rw [if_pos hm, if_neg (by omega), if_pos hm]
      · rw [if_neg hm, if_neg hm]
    · rw [putPs_eq h heq, fnd_cons, fnd_cons]
      show (if n = m then _ else _) = _
      by_cases hm : m = n
      · rw [if_pos hm, if_pos hm.symm]
      · rw [if_neg hm, if_neg (fun h2 => hm h2.symm), if_neg (by omega)]
    · rw [putPs_gt hgt, fnd_cons]
      show (if n = m then _ else _) = _
      by_cases hm : m = n
      · rw [if_pos hm, if_pos hm.symm]
      · rw [if_neg hm, if_neg (fun h2 => hm h2.symm)]
/-- a part more, if it can come -/
def stO (s : List Pa) (p : Pa) : List Pa := if putE16 p.n p.d = 0 then putPs s p.n p.d else s
theorem stO_right {s : List Pa} (p : Pa) (h : rightPs s = true) : rightPs (stO s p) = true := by
  unfold stO
  by_cases h0 : putE16 p.n p.d = 0
  · rw [if_pos h0]
    have := right_pw s p.n p.d h
    unfold pwL at this
    rwa [if_pos h0] at this
  · rw [if_neg h0]; exact h
def hasN (s : List Pa) (j : Int) : Bool := (fnd16 s j).isSome
def datN (s : List Pa) (j : Int) : List UInt8 := ((fnd16 s j).map Pa.d).getD []
theorem has_put {s : List Pa} {n : Int} {d : List UInt8} (j : Int) (h : rightPs s = true) : hasN (putPs s n d) j = (decide (j = n) || hasN s j) := by
  unfold hasN
  rw [fnd_put s 0 n d j h]
  by_cases hj : j = n
  · rw [if_pos hj, decide_eq_true hj]; rfl
  · rw [if_neg hj, decide_eq_false hj]; rfl
theorem dat_put {s : List Pa} {n : Int} {d : List UInt8} (j : Int) (h : rightPs s = true) : datN (putPs s n d) j = if j = n then d else datN s j := by
  unfold datN
  rw [fnd_put s 0 n d j h]
  by_cases hj : j = n
  · rw [if_pos hj, if_pos hj]; rfl
  · rw [if_neg hj, if_neg hj]
/-- the parts up to a number -/
def upTo (s : List Pa) (k : Int) : List Pa := s.filter (fun p => decide (p.n ≤ k))
theorem right_gt : ∀ (l : List Pa) (q : Int), rightGo q l = true → ∀ p ∈ l, q < p.n
  | [], _, _, p, hp => (List.not_mem_nil hp).elim
  | x :: l, q, h, p, hp => by
    obtain ⟨_, _, _, d, e⟩ := right_cons h
    rcases List.mem_cons.1 hp with rfl | hp
    · exact d
    · have := right_gt l x.n e p hp; omega
theorem fnd_of_gt {l : List Pa} {q m : Int} (h : rightGo q l = true) (hm : m ≤ q) : fnd16 l m = none := by
  unfold fnd16
  rw [List.find?_eq_none]
  intro x hx
  have := right_gt l q h x hx
  simp; omega
theorem upTo_none {l : List Pa} {q k : Int} (h : rightGo q l = true) (hm : k ≤ q) : upTo l k = [] := by
  unfold upTo
  rw [List.filter_eq_nil_iff]
  intro x hx
  have := right_gt l q h x hx
  simp; omega
theorem upTo_succ : ∀ (l : List Pa) (q k : Int), rightGo q l = true → upTo l (k + 1) = upTo l k ++ (fnd16 l (k + 1)).toList
  | [], _, _, _ => rfl
  | p :: l, q, k, h => by
    obtain ⟨_, _, _, _, f⟩ := right_cons h
    have ih := upTo_succ l p.n k f
    rw [fnd_cons]
    rcases Int.lt_trichotomy p.n (k + 1) with hlt | heq | hgt
    · rw [if_neg (by omega)]
      unfold upTo at *
      rw [List.filter_cons_of_pos (by simp; omega), List.filter_cons_of_pos (by simp; omega), ih, List.cons_append]
    · rw [if_pos heq]
      have h1 : upTo l (k + 1) = [] := upTo_none f (by omega)
      have h2 : upTo l k = [] := upTo_none f (by omega)
      unfold upTo at *
      rw [List.filter_cons_of_pos (by simp; omega), List.filter_cons_of_neg (by simp; omega), h1, h2]
      rfl
    · rw [if_neg (by omega), fnd_of_gt f (by omega)]
      have h1 : upTo l (k + 1) = [] := upTo_none f (by omega)
      have h2 : upTo l k = [] := upTo_none f (by omega)
      unfold upTo at *
      rw [List.filter_cons_of_neg (by simp; omega), List.filter_cons_of_neg (by simp; omega), h1, h2]
      rfl
theorem upTo_all {l : List Pa} (h : rightPs l = true) : upTo l 4 = l := by
  unfold upTo
  rw [List.filter_eq_self]
  intro x hx
  have := right_small l 0 h x hx
  simp; omega
theorem upTo_zero {l : List Pa} (h : rightPs l = true) : upTo l 0 = [] := upTo_none h (by omega)
/-- the numbers and the bytes of the parts up to a number -/
def numT (s : List Pa) (k : Int) : List Int := (upTo s k).map Pa.n
def bytT (s : List Pa) (k : Int) : List UInt8 := (upTo s k).flatMap Pa.d
theorem num_yes {s : List Pa} {k : Int} (h : rightPs s = true) (hh : hasN s (k + 1) = true) : numT s (k + 1) = numT s k ++ [k + 1] ∧ bytT s (k + 1) = bytT s k ++ datN s (k + 1) := by
  unfold hasN at hh
  obtain ⟨p, hp⟩ := Option.isSome_iff_exists.1 hh
  have hn : p.n = k + 1 := by
    have := List.find?_some hp
    simpa using this
  unfold numT bytT datN
  rw [upTo_succ s 0 k h, hp]
  simp [hn]
theorem num_no {s : List Pa} {k : Int} (h : rightPs s = true) (hh : hasN s (k + 1) = false) : numT s (k + 1) = numT s k ∧ bytT s (k + 1) = bytT s k := by
  unfold hasN at hh
  have hp : fnd16 s (k + 1) = none := by cases hf : fnd16 s (k + 1) with | none => rfl | some x => rw [hf] at hh; cases hh
  unfold numT bytT
  rw [upTo_succ s 0 k h, hp]
  simp
theorem fnd_mem : ∀ (l : List Pa) (q : Int), rightGo q l = true → ∀ p ∈ l, fnd16 l p.n = some p
  | [], _, _, p, hp => (List.not_mem_nil hp).elim
  | x :: l, q, h, p, hp => by
    obtain ⟨_, _, _, _, e⟩ := right_cons h
    rw [fnd_cons]
    rcases List.mem_cons.1 hp with rfl | hp
    · rw [if_pos rfl]
    · have := right_gt l x.n e p hp
      rw [if_neg (by omega)]
      exact fnd_mem l x.n e p hp
theorem fold_all (s : List Pa) : ∀ (l : List Pa) (q : Int) (x : Option Int) (o : List UInt8), rightGo q l = true → (∀ m, x = some m → m ≤ q) → (∀ p ∈ l, fnd16 s p.n = some p) → ∃ y, (l.map Pa.n).foldl (stJ s) (some (x, o)) = some (y, o ++ l.flatMap Pa.d)
  | [], _, x, o, _, _, _ => ⟨x, by simp⟩
  | p :: l, q, x, o, h, hx, hf => by
    obtain ⟨_, _, _, d, e⟩ := right_cons h
    have hs : stJ s (some (x, o)) p.n = some (some p.n, o ++ p.d) := by
      unfold stJ
      rw [Option.bind_some, hf p List.mem_cons_self, Option.bind_some, if_neg]
      unfold noLess
      cases x with
      | none => simp
      | some m => have := hx m rfl; simp; omega
    obtain ⟨y, hy⟩ := fold_all s l p.n (some p.n) (o ++ p.d) e (fun m hm => by cases hm; exact Int.le_refl _) (fun r hr => hf r (List.mem_cons_of_mem _ hr))
    refine ⟨y, ?_⟩
    rw [List.map_cons, List.foldl_cons, hs, hy, List.flatMap_cons, List.append_assoc]
theorem join_all {s : List Pa} (h : rightPs s = true) (h0 : s ≠ []) : joinPs s (numT s 4) = some (bytT s 4) := by
  unfold numT bytT
  rw [upTo_all h]
  obtain ⟨y, hy⟩ := fold_all s s 0 none [] h (fun m hm => by cases hm) (fnd_mem s 0 h)
  exact jn_yes (by simpa using h0) (by rw [hy]; rfl)
theorem total_all {s : List Pa} (h : rightPs s = true) : totalPs s = (bytT s 4).length := by
  unfold totalPs bytT
  rw [upTo_all h, List.length_flatMap]
theorem num_len {s : List Pa} (h : rightPs s = true) : (numT s 4).length = s.length := by
  unfold numT
  rw [upTo_all h, List.length_map]
theorem bytT_le {s : List Pa} (h : rightPs s = true) (k : Int) : (bytT s k).length ≤ 6144 := by
  have h1 := right_len s 0 (by omega) (by omega) h
  have h2 : ∀ (l : List Pa), (∀ p ∈ l, p.d.length ≤ 1536) → (l.flatMap Pa.d).length ≤ l.length * 1536 := fun l => by
    induction l with
    | nil => intro _; simp
    | cons p l ih =>
      intro hl
      have := ih (fun q hq => hl q (List.mem_cons_of_mem _ hq))
      have := hl p List.mem_cons_self
      rw [List.flatMap_cons, List.length_append, List.length_cons]; omega
  have h3 := h2 (upTo s k) (fun p hp => (right_small s 0 h p (List.mem_filter.1 hp).1).1)
  have h4 : (upTo s k).length ≤ s.length := List.length_filter_le _ _
  unfold bytT
  have h5 : (upTo s k).length * 1536 ≤ 4 * 1536 := Nat.mul_le_mul_right _ (by omega)
  omega
theorem numT_le {s : List Pa} (h : rightPs s = true) (k : Int) : (numT s k).length ≤ 4 := by
  have h1 := right_len s 0 (by omega) (by omega) h
  have h4 : (upTo s k).length ≤ s.length := List.length_filter_le _ _
  unfold numT
  rw [List.length_map]; omega
theorem stO_take (l : List Pq) (k : Nat) (p : Pq) (h : l[k]? = some p) : ((l.take (k + 1)).map Prod.fst).foldl stO [] = stO (((l.take k).map Prod.fst).foldl stO []) p.1 := by
  rw [List.take_add_one, h, Option.toList_some, List.map_append, List.foldl_append]; rfl
end Go.Proofs.Ytgcmojldegplaaa
