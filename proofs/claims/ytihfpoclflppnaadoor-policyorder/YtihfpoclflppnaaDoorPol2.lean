/- Patterns, plain: what a search with one star remembered may say. -/
import Derived.Test.YtihfpoclflppnaaDoorPol0
namespace Go.Proofs.YtihfpoclflppnaaDoor

/-- a pattern without stars that matches a text -/
def Seg (q t : List UInt8) : Prop := 42 ∉ q ∧ Mt q t
theorem Seg.nil : Seg [] [] := ⟨by simp, Mt.nil⟩
theorem Seg.len {q t : List UInt8} (h : Seg q t) : q.length = t.length := by
  obtain ⟨h1, h2⟩ := h
  induction q generalizing t with
  | nil => rw [Mt.nil_iff.1 h2]
  | cons c q ih =>
    have hc : c ≠ 42 := fun e => h1 (by rw [e]; exact List.mem_cons_self ..)
    obtain ⟨d, u, rfl, _, hm⟩ := (Mt.cons_iff hc).1 h2
    simp only [List.length_cons]
    rw [ih (fun h => h1 (List.mem_cons_of_mem _ h)) hm]
theorem Seg.snoc {q t : List UInt8} {c d : UInt8} (h : Seg q t) (hc : c ≠ 42) (hd : c = 63 ∨ c = d) : Seg (q ++ [c]) (t ++ [d]) :=
  ⟨fun hm => by
    rcases List.mem_append.1 hm with hm | hm
    · exact h.1 hm
    · exact hc (List.mem_singleton.1 hm).symm, h.2.app ((Mt.cons_iff hc).2 ⟨d, [], rfl, hd, Mt.nil⟩)⟩
theorem Seg.head {c d : UInt8} {q t : List UInt8} (h : Seg (c :: q) (d :: t)) : c ≠ 42 ∧ (c = 63 ∨ c = d) ∧ Seg q t := by
  have hc : c ≠ 42 := fun e => h.1 (by rw [e]; exact List.mem_cons_self ..)
  obtain ⟨d', t', e, hd, hm⟩ := (Mt.cons_iff hc).1 h.2
  injection e with e1 e2
  subst e1 e2
  exact ⟨hc, hd, fun hm2 => h.1 (List.mem_cons_of_mem _ hm2), hm⟩
/-- behind a segment the rest decides -/
theorem Seg.rest {q t p u : List UInt8} (h : Seg q t) : Mt (q ++ p) (t ++ u) ↔ Mt p u := by
  induction q generalizing t with
  | nil =>
    have := Mt.nil_iff.1 h.2
    subst this; exact Iff.rfl
  | cons c q ih =>
    cases t with
    | nil => have := h.len; simp at this
    | cons d t =>
      obtain ⟨hc, hd, h2⟩ := h.head
      rw [List.cons_append, List.cons_append, Mt.cons_iff hc]
      constructor
      · rintro ⟨d', t', e, _, hm⟩
        injection e with e1 e2
        subst e2
        exact (ih h2).1 hm
      · intro hm
        exact ⟨d, t ++ u, rfl, hd, (ih h2).2 hm⟩
/-- a longer text behind a star -/
theorem Mt.star_more {p u v : List UInt8} (h : Mt (42 :: p) v) : Mt (42 :: p) (u ++ v) := by
  induction u with
  | nil => exact h
  | cons c u ih => exact Mt.eat ih
/-- a segment without stars is as long as what it matches -/
theorem Mt.seg_split {q p u : List UInt8} (hq : 42 ∉ q) (h : Mt (q ++ p) u) : ∃ a b, u = a ++ b ∧ a.length = q.length ∧ Mt p b := by
  obtain ⟨a, b, e, h1, h2⟩ := h.split
  exact ⟨a, b, e, (Seg.len ⟨hq, h1⟩).symm, h2⟩
/-- the next star: where the last one began is forgotten -/
theorem Seg.next {q t p u : List UInt8} (h : Seg q t) : Mt (42 :: (q ++ 42 :: p)) (t ++ u) ↔ Mt (42 :: p) u := by
  constructor
  · intro hm
    obtain ⟨k, hk, hm⟩ := Mt.star_drop.1 hm
    obtain ⟨a, b, e, hl, h2⟩ := Mt.seg_split h.1 hm
    have hb : b = (t ++ u).drop (k + t.length) := by
      have : b = (a ++ b).drop a.length := by simp
      rw [this, ← e, List.drop_drop, hl, h.len, Nat.add_comm]
    have hs : b = u.drop k := by
      rw [hb, Nat.add_comm, ← List.drop_drop, List.drop_left]
    rw [hs] at h2
    have := h2.star_more (u := u.take k)
    rwa [List.take_append_drop] at this
  · intro hm
    exact Mt.skip (h.rest.2 hm)
/-- where it does not go on, the star takes one byte more -/
theorem Seg.fail {q t p u : List UInt8} {c d : UInt8} (h : Seg q t) (hc : c ≠ 42) (hd : ¬ (c = 63 ∨ c = d)) : Mt (42 :: (q ++ c :: p)) (t ++ d :: u) ↔ Mt (42 :: (q ++ c :: p)) ((t ++ d :: u).drop 1) := by
  have hno : ¬ Mt (q ++ c :: p) (t ++ d :: u) := fun hm => by
    obtain ⟨d', t', e, hd', _⟩ := (Mt.cons_iff hc).1 (h.rest.1 hm)
    injection e with e1 e2
    subst e1
    exact hd hd'
  rw [Mt.star_iff]
  constructor
  · rintro (hm | ⟨x, v, e, hm⟩)
    · exact absurd hm hno
    · rw [e]; exact hm
  · intro hm
    cases t with
    | nil => exact .inr ⟨d, u, rfl, hm⟩
    | cons x t => exact .inr ⟨x, t ++ d :: u, rfl, hm⟩
theorem Seg.failEnd {q t u : List UInt8} {d : UInt8} (h : Seg q t) : Mt (42 :: q) (t ++ d :: u) ↔ Mt (42 :: q) ((t ++ d :: u).drop 1) := by
  have hno : ¬ Mt q (t ++ d :: u) := fun hm => by
    have := Seg.len ⟨h.1, hm⟩
    rw [h.len, List.length_append, List.length_cons] at this
    omega
  rw [Mt.star_iff]
  constructor
  · rintro (hm | ⟨x, v, e, hm⟩)
    · exact absurd hm hno
    · rw [e]; exact hm
  · intro hm
    cases t with
    | nil => exact .inr ⟨d, u, rfl, hm⟩
    | cons x t => exact .inr ⟨x, t ++ d :: u, rfl, hm⟩
/-- the text's end: stars alone may follow -/
theorem Mt.empty_iff {p : List UInt8} : Mt p [] ↔ ∀ c ∈ p, c = 42 := by
  induction p with
  | nil => simp [Mt.nil_iff]
  | cons c p ih =>
    by_cases hc : c = 42
    · subst hc
      rw [Mt.star_iff, ih]
      constructor
      · rintro (h | ⟨x, v, e, _⟩)
        · intro x hx
          rcases List.mem_cons.1 hx with rfl | hx
          · rfl
          · exact h x hx
        · cases e
      · intro h
        exact .inl fun x hx => h x (List.mem_cons_of_mem _ hx)
    · rw [Mt.cons_iff hc]
      constructor
      · rintro ⟨d, t, e, _⟩; cases e
      · intro h; exact absurd (h c (List.mem_cons_self ..)) hc
theorem Seg.fin {q t p : List UInt8} (h : Seg q t) : Mt (42 :: (q ++ p)) t ↔ ∀ c ∈ p, c = 42 := by
  rw [← Mt.empty_iff]
  constructor
  · intro hm
    obtain ⟨k, hk, hm⟩ := Mt.star_drop.1 hm
    obtain ⟨a, b, e, hl, h2⟩ := Mt.seg_split h.1 hm
    have := congrArg List.length e
    rw [List.length_drop, List.length_append, hl, h.len] at this
    have hb : b = [] := List.eq_nil_of_length_eq_zero (by omega)
    rw [hb] at h2; exact h2
  · intro hm
    have := (h.rest (p := p) (u := [])).2 hm
    rw [List.append_nil] at this
    exact Mt.skip this
theorem Seg.endPlain {q t p : List UInt8} (h : Seg q t) : Mt (q ++ p) t ↔ ∀ c ∈ p, c = 42 := by
  rw [← Mt.empty_iff]
  have := h.rest (p := p) (u := [])
  rw [List.append_nil] at this
  exact this
theorem Seg.no {q t p u : List UInt8} {c d : UInt8} (h : Seg q t) (hc : c ≠ 42) (hd : ¬ (c = 63 ∨ c = d)) : ¬ Mt (q ++ c :: p) (t ++ d :: u) := fun hm => by
  obtain ⟨d', t', e, hd', _⟩ := (Mt.cons_iff hc).1 (h.rest.1 hm)
  injection e with e1 e2
  subst e1
  exact hd hd'
theorem Seg.noEnd {q t u : List UInt8} {d : UInt8} (h : Seg q t) : ¬ Mt q (t ++ d :: u) := fun hm => by
  have := Seg.len ⟨h.1, hm⟩
  rw [h.len, List.length_append, List.length_cons] at this
  omega
end Go.Proofs.YtihfpoclflppnaaDoor
