/- What the frame tells of a slice of slices of bytes that came in. -/
import Derived.Test.YtjhfkghcplbmkabBulk
import Derived.Test.YtjhfkghcplbmkabPartsW
import Derived.Deep.Slices
namespace Go.Proofs.Ytjhfkghcplbmkab
open Go.ChangeShapes Go.WideShapes

theorem bulk_sum {H : Type} (D : Nat → DataW H) (q : Nat → List UInt8) : ∀ l : List Nat, (∀ i ∈ l, (q i).length ≤ Rows.uptoBulk (D i)) → ((l.map q).flatten).length ≤ Rows.uptoBulkAll (l.map D)
  | [], _ => Nat.zero_le _
  | i :: l, h => by
    have h1 := h i (by simp)
    have h2 := bulk_sum D q l (fun j hj => h j (by simp [hj]))
    simp only [List.map_cons, List.flatten_cons, List.length_append, Rows.uptoBulkAll]; omega

theorem open_lists {H : Type} {enc : TypeId × Value → H} {W : World} {fuel : Nat} {a : Option Addr} {len cap : Nat} {x : DataW H × List MemPlace} (h : DataW.trod enc Try.prog W 0 (fun _ => true) true fuel 24 [.slice a len cap] = some x) :
    ∃ ls, IsLs W a len cap ls ∧ ls.flatten.length ≤ Rows.uptoBulk x.1 := by
  rcases Deep.open_slice1 Try.underlying24 (by kernel_rfl) h with ⟨hcs, _⟩ | ⟨ad, l, c, m, n, V, D, Pl, hcs, _, hl, hm, hmm, hx, hel⟩
  · simp only [List.cons.injEq, and_true, Value.slice.injEq] at hcs
    obtain ⟨rfl, rfl, rfl⟩ := hcs
    exact ⟨[], ⟨rfl, ⟨Nat.le_refl _, Nat.zero_le _⟩, fun h => absurd h (Nat.lt_irrefl 0)⟩, Nat.zero_le _⟩
  · simp only [List.cons.injEq, and_true, Value.slice.injEq] at hcs
    obtain ⟨rfl, rfl, rfl⟩ := hcs
    have hmc : m = cap := by simpa using hmm
    subst hmc
    have each : ∀ i, i < len → ∃ q : List UInt8 × Option Addr × Nat, W.cell? (ad.add i) = some (.slice q.2.1 q.1.length q.2.2) ∧ IsB W q.2.1 q.1.length q.2.2 q.1 ∧ q.1.length ≤ Rows.uptoBulk (D i) := by
      intro i hi
      obtain ⟨h1, h2⟩ := hel i (by omega)
      rcases open_ints Try.underlying22 Try.underlying5 (by kernel_rfl) h2 with ⟨hcs, _⟩ | ⟨x2, l2, c2, zs, hcs, _, hl2, hm2, hz, hx2, hcell, hwz⟩
      · simp only [List.cons.injEq, and_true] at hcs
        refine ⟨([], none, 0), by rw [h1, hcs]; rfl, ?_, Nat.zero_le _⟩
        exact ⟨rfl, Nat.le_refl _, Nat.zero_le _, fun _ => rfl, fun h => absurd h (Nat.lt_irrefl 0)⟩
      · simp only [List.cons.injEq, and_true] at hcs
        have hz0 : zs.length = c2 := by simpa using hz
        have hrow : IsRow .u8 W (some x2) l2 c2 zs := .inr ⟨_, rfl, hl2, hm2, hz0, hcell, hwz⟩
        obtain ⟨b, hb⟩ := hrow.bytes
        have hlb := hb.len_eq
        subst hlb
        refine ⟨(b, some x2, c2), by rw [h1, hcs], hb, ?_⟩
        rw [(Prod.mk.inj hx2).1]
        refine Nat.le_trans ?_ (bulk_slice _ _)
        simp only [lits, List.length_map, List.length_take]; omega
    obtain ⟨q, hq⟩ := Deep.choose_lt each
    have hn : ∀ i, i < len → ((List.range len).map fun i => (q i).1).getD i [] = (q i).1 := fun i hi => by
      rw [List.getD_eq_getElem?_getD, List.getElem?_eq_getElem (by simpa using hi)]; simp
    refine ⟨(List.range len).map fun i => (q i).1, ⟨by simp, ⟨hl, hm⟩, fun hp => ?_⟩, ?_⟩
    · obtain ⟨b, off, spot⟩ := ad
      have hspot : spot = none := by simpa [Addr.add] using World.cell?_spot (hq 0 hp).1
      subst hspot
      refine ⟨b, off, rfl, fun i hi => ?_⟩
      obtain ⟨h0, h1, _⟩ := hq i hi
      rw [Addr.add_lit] at h0
      rw [hn i hi]
      exact ⟨(q i).2.1, (q i).2.2, h0, h1⟩
    · rw [hx]
      have := bulk_sum D (fun i => (q i).1) (List.range len) (fun i hi => (hq i (List.mem_range.1 hi)).2.2)
      simp only [Rows.uptoBulk]; omega
end Go.Proofs.Ytjhfkghcplbmkab
