/- A write put among others, plain and in a world. -/
import Derived.Test.YtacnoagjcacniaaGreatJrA
namespace Go.Proofs.YtacnoagjcacniaaGreat
open Go.RowKit

/-- how many are ahead of a sector -/
def posG : List Wg → Nat → Nat
  | [], _ => 0
  | g :: l, i => if g.at_ < i then posG l i + 1 else 0
theorem posG_le (l : List Wg) (i : Nat) : posG l i ≤ l.length := by
  induction l with
  | nil => exact Nat.le_refl _
  | cons g l ih => rw [posG, List.length_cons]; split <;> omega
theorem posG_lt (l : List Wg) (i j : Nat) (h : j < posG l i) : (nthG l j).at_ < i := by
  induction l generalizing j with
  | nil => cases h
  | cons g l ih =>
    rw [posG] at h
    split at h
    · rename_i hg
      cases j with
      | zero => exact hg
      | succ j => exact ih j (by omega)
    · cases h
theorem posG_at (l : List Wg) (i : Nat) (h : posG l i < l.length) : ¬ (nthG l (posG l i)).at_ < i := by
  induction l with
  | nil => cases h
  | cons g l ih =>
    by_cases hg : g.at_ < i
    · have e : posG (g :: l) i = posG l i + 1 := by rw [posG, if_pos hg]
      rw [e] at h ⊢
      exact ih (by simpa using h)
    · have e : posG (g :: l) i = 0 := by rw [posG, if_neg hg]
      rw [e]; exact hg
theorem posG_uniq (l : List Wg) (i k : Nat) (hk : k ≤ l.length) (h1 : ∀ j, j < k → (nthG l j).at_ < i) (h2 : k = l.length ∨ ¬ (nthG l k).at_ < i) : k = posG l i := by
  rcases Nat.lt_trichotomy k (posG l i) with h | h | h
  · rcases h2 with h2 | h2
    · have := posG_le l i; omega
    · exact absurd (posG_lt l i k h) h2
  · exact h
  · have := posG_at l i (by omega)
    exact absurd (h1 _ h) this
/-- what comes of it, where that sector is there, and where it isn't -/
theorem put_hit (l : List Wg) (i : Nat) (g : Wg) (hg : g.at_ = i) (h : posG l i < l.length) (he : (nthG l (posG l i)).at_ = i) : hitQ (l.map plW) i = true ∧ putQ (l.map plW) i g.b = (l.set (posG l i) g).map plW := by
  induction l with
  | nil => cases h
  | cons x l ih =>
    rw [List.map_cons, hitQ, putQ]
    by_cases hx : x.at_ < i
    · have e : posG (x :: l) i = posG l i + 1 := by rw [posG, if_pos hx]
      rw [e] at h he ⊢
      have h3 : (plW x).1 < i := hx
      obtain ⟨h1, h2⟩ := ih (by simpa using h) he
      rw [if_pos h3, if_pos h3, h1, h2]
      exact ⟨rfl, rfl⟩
    · have e : posG (x :: l) i = 0 := by rw [posG, if_neg hx]
      rw [e] at he ⊢
      have h3 : ¬ (plW x).1 < i := hx
      have h4 : (plW x).1 = i := he
      rw [if_neg h3, if_neg h3, if_pos h4]
      refine ⟨by simpa using h4, ?_⟩
      rw [List.set_cons_zero, List.map_cons]
      congr 1
      rw [← hg]; rfl
theorem put_miss (l : List Wg) (i : Nat) (g : Wg) (hg : g.at_ = i) (h : posG l i = l.length ∨ ¬ (nthG l (posG l i)).at_ = i) : hitQ (l.map plW) i = false ∧ putQ (l.map plW) i g.b = (l.take (posG l i) ++ [g] ++ l.drop (posG l i)).map plW := by
  induction l with
  | nil => exact ⟨rfl, by rw [← hg]; rfl⟩
  | cons x l ih =>
    rw [List.map_cons, hitQ, putQ]
    by_cases hx : x.at_ < i
    · have e : posG (x :: l) i = posG l i + 1 := by rw [posG, if_pos hx]
      rw [e] at h ⊢
      have h3 : (plW x).1 < i := hx
      obtain ⟨h1, h2⟩ := ih (by
        rcases h with h | h
        · left; simpa using h
        · right; exact h)
      rw [if_pos h3, if_pos h3, h1, h2]
      exact ⟨rfl, rfl⟩
    · have e : posG (x :: l) i = 0 := by rw [posG, if_neg hx]
      rw [e] at h ⊢
      have h3 : ¬ (plW x).1 < i := hx
      have h4 : ¬ (plW x).1 = i := by
        rcases h with h | h
        · simp at h
        · exact h
      rw [if_neg h3, if_neg h3, if_neg h4]
      refine ⟨by simpa using h4, ?_⟩
      rw [List.take_zero, List.drop_zero, List.nil_append, List.map_append, List.map_cons, List.map_cons, List.map_nil, ← hg]; rfl
/-- one of the row's writes is another one -/
theorem wgs_set (l : List Wg) (k : Nat) (g : Wg) (hk : k < l.length) : ((wgs l).set (k * 2) (.int .i64 (g.at_ : Int))).set (k * 2 + 1) (.slice g.ad g.b.length g.cap) = wgs (l.set k g) := by
  induction l generalizing k with
  | nil => cases hk
  | cons x l ih =>
    cases k with
    | zero => rfl
    | succ k =>
      rw [List.set_cons_succ, wgs, wgs, show (k + 1) * 2 = k * 2 + 1 + 1 by omega, List.set_cons_succ, List.set_cons_succ, show k * 2 + 2 = k * 2 + 1 + 1 from rfl, List.set_cons_succ, List.set_cons_succ, ih k (by simpa using hk)]
theorem OwnG.row {w : World} {base g cap n : Nat} {l : List Wg} (h : OwnG 102 w base (.slice (some ⟨g, 0, none⟩) n cap) l) : ∃ cur : Array Value, w.heap[g]? = some (.cells cur 102 (0, 0)) := by
  rcases h.2 with ⟨h1, _⟩ | ⟨g', _, cur, h1, _, h2, _⟩
  · cases h1
  · injection h1 with e1
    have e2 := Option.some.inj e1
    injection e2 with e3
    subst e3
    exact ⟨cur, h2⟩
theorem OwnG.setOne {w : World} {base g0 cap n : Nat} {l : List Wg} (h : OwnG 102 w base (.slice (some ⟨g0, 0, none⟩) n cap) l) (hn : n = l.length) (k : Nat) (hk : k < n) (g : Wg) :
    OwnG 102 ((w.setCell ⟨g0, k * 2, none⟩ (.int .i64 (g.at_ : Int))).setCell ⟨g0, k * 2 + 1, none⟩ (.slice g.ad g.b.length g.cap)) base (.slice (some ⟨g0, 0, none⟩) n cap) (l.set k g) := by
  subst hn
  have h1 := (World.ownsRow.stored h (k * 2) (.int .i64 (g.at_ : Int))).1
  have h2 := (World.ownsRow.stored h1 (k * 2 + 1) (.slice g.ad g.b.length g.cap)).1
  rw [wgs_set l k g hk] at h2
  unfold OwnG
  rw [List.length_set]
  exact h2
end Go.Proofs.YtacnoagjcacniaaGreat
