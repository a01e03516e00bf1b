/- Rows of structs in a world, whatever the struct: what the frame tells of such a slice. -/
import Derived.Test.YtjmkfkkkjcjplaaOpenB
import Derived.Deep.SlicePairs
import Derived.OpenShut
namespace Go.Proofs.Ytjmkfkkkjcjplaa
open Go.ChangeShapes Go.WideShapes
open Go.RowKit (Below)

/-- a row of things of k cells each -/
structure RowC {α : Type} (k : Nat) (c : α → List Value) (w : World) (a : Option Addr) (n : Nat) (l : List α) : Prop where
  len : l.length = n
  cells : 0 < n → ∃ b off, a = some ⟨b, off, none⟩ ∧ b < w.heap.size ∧ ∀ (i : Nat) (x : α), l[i]? = some x → ∀ (j : Nat) (v : Value), (c x)[j]? = some v → w.cell? ⟨b, off + i * k + j, none⟩ = some v
theorem RowC.below {α : Type} {k : Nat} {c : α → List Value} {w w' : World} {a : Option Addr} {n B : Nat} {l : List α} (h : RowC k c w a n l) (hb : Below B w w') (hB : w.heap.size ≤ B) : RowC k c w' a n l :=
  ⟨h.len, fun hp => by
    obtain ⟨b, off, e, hl, hc⟩ := h.cells hp
    refine ⟨b, off, e, Nat.lt_of_lt_of_le hl hb.size, fun i x hx j v hv => ?_⟩
    have h1 := hc i x hx j v hv
    rw [hb.cell (p := ⟨b, off + i * k + j, none⟩) (Nat.lt_of_lt_of_le hl hB)]; exact h1⟩
theorem RowC.nil {α : Type} (k : Nat) (c : α → List Value) (w : World) : RowC k c w none 0 ([] : List α) := ⟨rfl, fun h => absurd h (Nat.lt_irrefl 0)⟩
/-- the element at a place -/
theorem RowC.at {α : Type} {k : Nat} {c : α → List Value} {w : World} {a : Option Addr} {n : Nat} {l : List α} (h : RowC k c w a n l) (i : Nat) (hi : i < n) :
    ∃ b off x, a = some ⟨b, off, none⟩ ∧ b < w.heap.size ∧ l[i]? = some x ∧ ∀ (j : Nat) (v : Value), (c x)[j]? = some v → w.cell? ⟨b, off + i * k + j, none⟩ = some v := by
  obtain ⟨b, off, e, hb, hc⟩ := h.cells (by omega)
  have hi' : i < l.length := by rw [h.len]; exact hi
  exact ⟨b, off, l[i], e, hb, List.getElem?_eq_getElem hi', hc i _ (List.getElem?_eq_getElem hi')⟩
/-- a slice of structs that came in -/
theorem open_row {α : Type} (x0 : α) (k : Nat) (c : α → List Value) (P : α → Prop) (T E : TypeId) (hu : Try.prog.underlying T = some (.slice E)) (hk : Try.prog.cellsOf E = k) (hk1 : 0 < k) (hcl : ∀ x, (c x).length = k)
    {H : Type} {enc : TypeId × Value → H} {W : World}
    (hop : ∀ (n : Nat) (cs : List Value) (x : DataW H × List MemPlace), DataW.trod enc Try.prog W 0 (fun _ => true) true n E cs = some x → (∀ m ∈ x.1.weights Try.prog E, m ≤ 140737488351232) → ∃ q : α, cs = c q ∧ P q)
    {fuel : Nat} {a : Option Addr} {len cap : Nat} {x : DataW H × List MemPlace} (h : DataW.trod enc Try.prog W 0 (fun _ => true) true fuel T [.slice a len cap] = some x) (hN : ∀ n ∈ x.1.weights Try.prog T, n ≤ 140737488351232) :
    ∃ l, RowC k c W a len l ∧ (∀ y ∈ l, P y) ∧ len * Try.prog.bytesOf E ≤ 140737488351232 ∧ len ≤ cap ∧ (a = none → len = 0 ∧ cap = 0) := by
  rcases Deep.open_slice hu h with ⟨hcs, _⟩ | ⟨ad, l, c', m, n, D, Pl, hcs, _, hl, hm, hmm, hx, hel⟩
  · simp only [List.cons.injEq, and_true, Value.slice.injEq] at hcs
    obtain ⟨rfl, rfl, rfl⟩ := hcs
    exact ⟨[], RowC.nil k c W, fun x hx => (by cases hx), by omega, Nat.zero_le _, fun _ => ⟨rfl, rfl⟩⟩
  · simp only [List.cons.injEq, and_true, Value.slice.injEq] at hcs
    obtain ⟨rfl, rfl, rfl⟩ := hcs
    have hmc : m = cap := by simpa using hmm
    subst hmc
    rw [hk] at hel
    have each : ∀ i, i < len → ∃ q : α, (∀ j, j < k → W.cell? (ad.add (i * k + j)) = (c q)[j]?) ∧ P q := by
      intro i hi
      obtain ⟨cs', h1, h2⟩ := hel i (by omega)
      obtain ⟨_, _, hcell⟩ := World.cells?_some h1
      have hbi : ∀ n ∈ (D i).weights Try.prog E, n ≤ 140737488351232 := fun n hn => hN n (by
        rw [hx]
        simp only [DataW.weights, hu]
        exact List.mem_cons_of_mem _ (List.mem_append_left _ (weights_all_mem hn (List.mem_map.2 ⟨i, List.mem_range.2 hi, rfl⟩))))
      obtain ⟨o, rfl, hok⟩ := hop _ _ _ h2 hbi
      refine ⟨o, fun j hj => ?_, hok⟩
      have e := hcell j (by omega)
      rw [Deep.add_add] at e
      exact e
    haveI : Inhabited α := ⟨x0⟩
    obtain ⟨q, hq⟩ := Deep.choose_lt each
    refine ⟨(List.range len).map q, ⟨by simp, fun hp => ?_⟩, fun y hy => ?_, ?_, hl, fun e => by cases e⟩
    · obtain ⟨b, off, spot⟩ := ad
      have hv0 : ∃ v, (c (q 0))[0]? = some v := ⟨_, List.getElem?_eq_getElem (by rw [hcl]; exact hk1)⟩
      obtain ⟨v0, hv0⟩ := hv0
      have h00 := (hq 0 hp).1 0 hk1
      rw [hv0] at h00
      have hspot : spot = none := by simpa [Addr.add] using World.cell?_spot h00
      subst hspot
      refine ⟨b, off, rfl, (by have := cell_lt h00; simpa [Addr.add] using this), fun i x hx j v hv => ?_⟩
      obtain ⟨hi, rfl⟩ : i < len ∧ q i = x := by
        rw [List.getElem?_map] at hx
        rcases Nat.lt_or_ge i len with hi | hi
        · rw [List.getElem?_range hi] at hx; exact ⟨hi, Option.some.inj hx⟩
        · rw [List.getElem?_eq_none (by rw [List.length_range]; exact hi)] at hx; cases hx
      have hj : j < k := by have := (List.getElem?_eq_some_iff.1 hv).1; rw [hcl] at this; exact this
      have e := (hq i hi).1 j hj
      rw [Addr.add_lit] at e
      rw [Nat.add_assoc, e]; exact hv
    · obtain ⟨i, hi, rfl⟩ := List.mem_map.1 hy
      exact (hq i (List.mem_range.1 hi)).2
    · rw [hx] at hN
      simp only [DataW.weights, hu] at hN
      have := hN _ (List.mem_cons_self ..)
      simp only [List.length_map, List.length_range] at this
      have h5 : len * Try.prog.bytesOf E ≤ (len + (m - len)) * Try.prog.bytesOf E := Nat.mul_le_mul (by omega) (Nat.le_refl _)
      omega
end Go.Proofs.Ytjmkfkkkjcjplaa
