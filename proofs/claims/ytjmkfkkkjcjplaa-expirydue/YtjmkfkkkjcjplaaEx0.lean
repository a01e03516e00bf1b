/- Versions in a row; the latest of a key, what is due: plain; rows of numbers. -/
import Derived.Test.YtjmkfkkkjcjplaaLk3
import Derived.Test.YtjmkfkkkjcjplaaOwnC
namespace Go.Proofs.Ytjmkfkkkjcjplaa
open Go.RowKit

abbrev Vq := Vs × VsA
def vqc (p : Vq) : List Value := vsc p.1 p.2
/-- versions in a world -/
structure IsVl (w : World) (a : Option Addr) (n cap : Nat) (l : List Vq) : Prop where
  row : RowC 10 vqc w a n l
  ok : ∀ p ∈ l, p.1.ord < 18446744073709551616 ∧ p.1.time < 18446744073709551616
  le : n ≤ cap
  nil : a = none → n = 0 ∧ cap = 0
  sz : ∀ p ∈ l, p.1.bkt.size ≤ maxLen ∧ p.1.key.size ≤ maxLen
theorem IsVl.below {w w' : World} {a : Option Addr} {n cap : Nat} {l : List Vq} (h : IsVl w a n cap l) (hb : Below w.heap.size w w') : IsVl w' a n cap l :=
  ⟨h.row.below hb (Nat.le_refl _), h.ok, h.le, h.nil, h.sz⟩
/-- is it one of the key's? -/
def ofK (b k : ByteArray) (v : Vs) : Bool := decide (v.bkt = b) && decide (v.key = k)
def ordAt (l : List Vs) (z : Int) : Nat := (l.map Vs.ord).getD z.toNat 0
/-- the latest of the first so many -/
def latN (l : List Vs) (b k : ByteArray) : Nat → Int
  | 0 => -1
  | i + 1 => match l[i]? with
    | none => latN l b k i
    | some v => if ofK b k v && (decide (latN l b k i < 0) || decide (ordAt l (latN l b k i) < v.ord)) then (i : Int) else latN l b k i
def latestK (l : List Vs) (b k : ByteArray) : Int := latN l b k l.length
theorem latN_lt (l : List Vs) (b k : ByteArray) : ∀ i, -1 ≤ latN l b k i ∧ latN l b k i < (i : Int)
  | 0 => by unfold latN; omega
  | i + 1 => by
    have h := latN_lt l b k i
    unfold latN
    split
    · omega
    · split <;> omega
theorem latN_at {l : List Vs} (b k : ByteArray) {i : Nat} {v : Vs} (h : l[i]? = some v) : latN l b k (i + 1) = if ofK b k v && (decide (latN l b k i < 0) || decide (ordAt l (latN l b k i) < v.ord)) then (i : Int) else latN l b k i := by
  rw [latN, h]
theorem ordAt_at {l : List Vs} {i : Nat} {v : Vs} (h : l[i]? = some v) : ordAt l (i : Int) = v.ord := by
  unfold ordAt; rw [Int.toNat_natCast, List.getD_eq_getElem?_getD, List.getElem?_map, h]; rfl
/-- what is due -/
def dueAt (b : Bk) (l : List Vs) (now i : Nat) (v : Vs) : Bool :=
  decide (v.bkt = b.name) && (decide (mayDelK v.hold v.rm v.ru now false = 0) &&
    (if latestK l v.bkt v.key = (i : Int) then !v.mark && (decide (b.ver = 0) && (decide (0 < b.exp) && decide (laterN v.time b.exp ≤ now))) else decide (0 < b.nonc) && decide (laterN v.time b.nonc ≤ now)))
def dueN (b : Bk) (l : List Vs) (now : Nat) : Nat → List Nat
  | 0 => []
  | i + 1 => match l[i]? with
    | none => dueN b l now i
    | some v => if dueAt b l now i v then dueN b l now i ++ [v.ord] else dueN b l now i
def dueK (b : Bk) (l : List Vs) (now : Nat) : List Nat := dueN b l now l.length
theorem dueN_at {b : Bk} {l : List Vs} {now i : Nat} {v : Vs} (h : l[i]? = some v) : dueN b l now (i + 1) = if dueAt b l now i v then dueN b l now i ++ [v.ord] else dueN b l now i := by
  rw [dueN, h]
theorem dueN_len (b : Bk) (l : List Vs) (now : Nat) : ∀ i, (dueN b l now i).length ≤ i
  | 0 => Nat.le_refl _
  | i + 1 => by
    have h := dueN_len b l now i
    unfold dueN
    split
    · omega
    · split
      · rw [List.length_append, List.length_singleton]; omega
      · omega
theorem dueN_mem {b : Bk} {l : List Vs} {now : Nat} {x : Nat} : ∀ i, x ∈ dueN b l now i ↔ ∃ j v, j < i ∧ l[j]? = some v ∧ dueAt b l now j v = true ∧ v.ord = x
  | 0 => by unfold dueN; simp
  | i + 1 => by
    have ih := dueN_mem (b := b) (l := l) (now := now) (x := x) i
    have key : (x ∈ dueN b l now (i + 1)) ↔ (x ∈ dueN b l now i ∨ ∃ v, l[i]? = some v ∧ dueAt b l now i v = true ∧ v.ord = x) := by
      cases h : l[i]? with
      | none => rw [show dueN b l now (i + 1) = dueN b l now i by rw [dueN, h]]; simp
      | some v =>
        rw [dueN_at h]
        cases hd : dueAt b l now i v with
        | false => rw [if_neg (by simp)]; constructor
                   · exact .inl
                   · rintro (h1 | ⟨v', e, h2, _⟩)
                     · exact h1
                     · obtain rfl := Option.some.inj e; rw [hd] at h2; cases h2
        | true => rw [if_pos rfl, List.mem_append, List.mem_singleton]; constructor
                  · rintro (h1 | rfl)
                    · exact .inl h1
                    · exact .inr ⟨v, rfl, hd, rfl⟩
                  · rintro (h1 | ⟨v', e, _, h3⟩)
                    · exact .inl h1
                    · obtain rfl := Option.some.inj e; exact .inr h3.symm
    rw [key, ih]
    constructor
    · rintro (⟨j, v, h1, h2⟩ | ⟨v, h2⟩)
      · exact ⟨j, v, by omega, h2⟩
      · exact ⟨i, v, by omega, h2⟩
    · rintro ⟨j, v, h1, h2⟩
      rcases Nat.lt_or_ge j i with h3 | h3
      · exact .inl ⟨j, v, h3, h2⟩
      · obtain rfl : j = i := by omega
        exact .inr ⟨v, h2⟩
/-- no two have one Order -/
def OneO (l : List Vs) : Prop := ∀ (i j : Nat) (v u : Vs), l[i]? = some v → l[j]? = some u → v.ord = u.ord → i = j
theorem due_in {b : Bk} {l : List Vs} {now i : Nat} {v : Vs} (ho : OneO l) (h : l[i]? = some v) : v.ord ∈ dueK b l now ↔ dueAt b l now i v = true := by
  unfold dueK
  rw [dueN_mem]
  constructor
  · rintro ⟨j, u, _, h2, h3, h4⟩
    obtain rfl := ho j i u v h2 h h4
    obtain rfl := Option.some.inj (h.symm.trans h2)
    exact h3
  · intro h2
    exact ⟨i, v, (List.getElem?_eq_some_iff.1 h).1, h, h2, rfl⟩
theorem due_free {b : Bk} {l : List Vs} {now i : Nat} {v : Vs} (h : dueAt b l now i v = true) : v.bkt = b.name ∧ v.hold = false ∧ activeK v.rm v.ru now = false := by
  unfold dueAt at h
  simp only [Bool.and_eq_true, decide_eq_true_eq] at h
  obtain ⟨h1, h2, _⟩ := h
  unfold mayDelK standsK at h2
  refine ⟨h1, ?_⟩
  cases hh : v.hold with
  | true => rw [hh] at h2; simp at h2
  | false =>
    refine ⟨rfl, ?_⟩
    rw [hh] at h2
    cases ha : activeK v.rm v.ru now with
    | true => rw [ha] at h2; simp at h2
    | false => rfl
theorem due_later {b : Bk} {l : List Vs} {now later i : Nat} {v : Vs} (ht : now ≤ later) (h : dueAt b l now i v = true) : dueAt b l later i v = true := by
  obtain ⟨f1, f2, f3⟩ := due_free h
  have f4 : activeK v.rm v.ru later = false := by
    unfold activeK at f3 ⊢
    rw [Bool.and_eq_false_iff] at f3 ⊢
    rcases f3 with f3 | f3
    · exact .inl f3
    · exact .inr (by rw [decide_eq_false_iff_not] at f3 ⊢; omega)
  have f5 : mayDelK v.hold v.rm v.ru later false = 0 := by unfold mayDelK standsK; rw [f2, f4]; rfl
  unfold dueAt at h ⊢
  simp only [Bool.and_eq_true, decide_eq_true_eq] at h ⊢
  refine ⟨f1, f5, ?_⟩
  have h3 := h.2.2
  by_cases hl : latestK l v.bkt v.key = (i : Int)
  · rw [if_pos hl] at h3 ⊢
    simp only [Bool.and_eq_true, decide_eq_true_eq] at h3 ⊢
    exact ⟨h3.1, h3.2.1, h3.2.2.1, Nat.le_trans h3.2.2.2 ht⟩
  · rw [if_neg hl] at h3 ⊢
    simp only [Bool.and_eq_true, decide_eq_true_eq] at h3 ⊢
    exact ⟨h3.1, Nat.le_trans h3.2 ht⟩
theorem due_none (b : Bk) (l : List Vs) (now : Nat) (h1 : b.exp = 0) (h2 : b.nonc = 0) : dueK b l now = [] := by
  refine List.eq_nil_iff_forall_not_mem.2 (fun x hx => ?_)
  unfold dueK at hx
  rw [dueN_mem] at hx
  obtain ⟨j, v, _, _, h3, _⟩ := hx
  unfold dueAt at h3
  rw [h1, h2] at h3
  simp at h3
/-- rows of numbers -/
abbrev rtU : RT Nat := ⟨30, 28, 1, 8, .int .u64 0, fun x => [.int .u64 (x : Int)]⟩
theorem okU : RtOK rtU :=
  ⟨Try.underlying30, by kernel_rfl, rfl, by intro u hu; simp [Value.cells] at hu; subst hu; rfl, by decide, by decide, fun _ => rfl, by
    intro x u hu
    simp only [List.mem_cons, List.not_mem_nil, or_false] at hu
    subst hu; rfl⟩
theorem dueN_lt {b : Bk} {l : List Vs} {now : Nat} (h : ∀ v ∈ l, v.ord < 18446744073709551616) (i : Nat) : ∀ x ∈ dueN b l now i, x < 18446744073709551616 := fun x hx => by
  obtain ⟨j, v, _, h2, _, rfl⟩ := (dueN_mem i).1 hx
  exact h v (List.mem_of_getElem? h2)
end Go.Proofs.Ytjmkfkkkjcjplaa
