/- Rules that a call owns: their place, loads and stores of one of them; two of them changed for each other. -/
import Derived.Test.YtihfpoclflppnaaDoorOwnR2
import Derived.Test.YtihfpoclflppnaaDoorPol1
import Derived.Deep.MidRow
import Derived.RangeFuncBox
namespace Go.Proofs.YtihfpoclflppnaaDoor
open Go.RowKit

theorem OwnR.form {e : TypeId} {w : World} {base : Nat} {v : Value} {l : List Ru} (h : OwnR e w base v l) (hl : 0 < l.length) : ∃ g cap, v = .slice (some ⟨g, 0, none⟩) l.length cap ∧ base ≤ g ∧ g < w.heap.size := by
  rcases h.2 with ⟨_, h0⟩ | ⟨g, cap, cur, rfl, hb, hg, _⟩
  · omega
  · exact ⟨g, cap, rfl, hb, (Array.getElem?_eq_some_iff.1 hg).1⟩
theorem OwnR.there {e : TypeId} {w : World} {base g cap : Nat} {l : List Ru} (h : OwnR e w base (.slice (some ⟨g, 0, none⟩) l.length cap) l) (i : Nat) (hi : i < l.length) : w.there g (i * 4) (ruc ⟨false, [], [], []⟩).toArray.size := by
  rcases h.2 with ⟨h', _⟩ | ⟨g', cap', cur, h', hb, hg, hnc, hcm, hcs, htake⟩
  · cases h'
  · simp only [Value.slice.injEq, Option.some.injEq, Addr.mk.injEq, and_true, true_and] at h'
    obtain ⟨rfl, rfl⟩ := h'
    intro j hj
    have hj4 : j < 4 := hj
    refine ⟨?_, frozen_of_row w g _ _ _ hg⟩
    rw [cell_of_row w g _ _ _ _ hg, Array.getElem?_eq_getElem (by rw [hcs]; omega)]
    rfl
theorem RuAt.range {w : World} {g off : Nat} {r : Ru} (h : RuAt w g off r) : w.rangeAt g off (ruc r) := by
  obtain ⟨h0, h1, h2, h3⟩ := h
  intro j v hj
  match j, hj with
  | 0, hj => rw [Nat.add_zero, h0]; simpa [ruc] using hj
  | 1, hj => rw [h1]; simpa [ruc] using hj
  | 2, hj => rw [h2]; simpa [ruc] using hj
  | 3, hj => rw [h3]; simpa [ruc] using hj
theorem OwnR.at {e : TypeId} {w : World} {base g cap : Nat} {l : List Ru} (h : OwnR e w base (.slice (some ⟨g, 0, none⟩) l.length cap) l) (i : Nat) (hi : i < l.length) : RuAt w g (i * 4) (nthR l i) := by
  obtain ⟨a, c, e0, hI⟩ := h.isRs
  obtain ⟨b, off, e1, hc⟩ := hI.cells (by omega)
  subst e1
  simp only [Value.slice.injEq, Option.some.injEq, Addr.mk.injEq, and_true, true_and] at e0
  obtain ⟨⟨rfl, rfl⟩, _⟩ := e0
  have := hc i hi
  rw [Nat.zero_add] at this
  exact this
theorem OwnR.store {e : TypeId} {w : World} {N g cap : Nat} {l : List Ru} (h : OwnR e w N (.slice (some ⟨g, 0, none⟩) l.length cap) l) (i : Nat) (r : Ru) :
    OwnR e (w.setCells g (i * 4) (ruc r).toArray.toList) N (.slice (some ⟨g, 0, none⟩) (l.set i r).length cap) (l.set i r) := by
  have h2 := OwnR.set h rfl i r
  rw [List.length_set]
  exact h2
theorem cells_bel {w : World} {N g o : Nat} {r : Ru} {w0 : World} (h : Below N w0 w) (hg : N ≤ g) : Below N w0 (w.setCells g o (ruc r).toArray.toList) :=
  (((h.setCell (p := ⟨g, o, none⟩) hg _).setCell (p := ⟨g, o + 1, none⟩) hg _).setCell (p := ⟨g, o + 1 + 1, none⟩) hg _).setCell (p := ⟨g, o + 1 + 1 + 1, none⟩) hg _
theorem OwnR.far {e : TypeId} {w : World} {N g n cap : Nat} {l : List Ru} (h : OwnR e w N (.slice (some ⟨g, 0, none⟩) n cap) l) (B : Nat) (v : Value) (hB : g ≠ B) : OwnR e (w.setCell ⟨B, 0, none⟩ v) N (.slice (some ⟨g, 0, none⟩) n cap) l :=
  World.ownsRow.kept h (grownBy_setCell' w B v) (.inr (by simpa [Value.ownBlock] using hB))
theorem infoSz (r : Ru) : (Tryd.prog.info? 38).map (·.size) = some (ruc r).toArray.size := by
  show _ = some 4
  kernel_rfl
theorem ruc_all (r : Ru) : (ruc r).toArray.all (·.oneCell') = true := by
  rw [Array.all_eq_true_iff_forall_mem]
  intro u hu
  exact ruc_one r u (by simpa using hu)
theorem wp_store_ru {op : Oper} {a : Act} {w : World} {K : Act → World → Prop} {Q : Exit → Act → World → Prop} (x y : Operand) (ho : op.op = .store 38 x y) (hd : op.dst = none) (g o : Nat) (r : Ru)
    (hx : a.eval x = .pointer (some ⟨g, o, none⟩)) (hy : a.eval y = .agg (ruc r).toArray) (ht : w.there g o (ruc r).toArray.size) (h : K a (w.setCells g o (ruc r).toArray.toList)) : op.wp Tryd.prog a w K Q :=
  wp_store_mid 38 x y ho g o (ruc r).toArray hx hy ht (infoSz r) (ruc_all r) (by rw [hd]; exact h)
theorem wp_load_ru {op : Oper} {a : Act} {w : World} {K : Act → World → Prop} {Q : Exit → Act → World → Prop} (x : Operand) (ho : op.op = .load 38 x) (d : Tmp) (hd : op.dst = some d) (g o : Nat) (r : Ru)
    (hx : a.eval x = .pointer (some ⟨g, o, none⟩)) (hc : w.rangeAt g o (ruc r)) (h : K (a.put (some d) (.agg (ruc r).toArray)) w) : op.wp Tryd.prog a w K Q :=
  wp_load_mid 38 x ho g o hx (ruc r) _ hc Tryd.underlying38 rfl (infoSz r) (by rw [hd]; exact h)
/-- two rules changed for each other -/
def swapR (l : List Ru) (i k : Nat) : List Ru := (l.set i (nthR l k)).set k (nthR l i)
theorem swapR_length (l : List Ru) (i k : Nat) : (swapR l i k).length = l.length := by unfold swapR; rw [List.length_set, List.length_set]
theorem swapR_at (l : List Ru) (i k : Nat) (hi : i < l.length) (hk : k < l.length) (j : Nat) : (swapR l i k)[j]? = if k = j then some l[i] else if i = j then some l[k] else l[j]? := by
  unfold swapR
  rw [List.getElem?_set, List.getElem?_set, List.length_set, nthR_eq l i hi, nthR_eq l k hk]
  by_cases h1 : k = j
  · subst h1; rw [if_pos rfl, if_pos hk, if_pos rfl]
  · rw [if_neg h1, if_neg h1]
    by_cases h2 : i = j
    · subst h2; rw [if_pos rfl, if_pos hi, if_pos rfl]
    · rw [if_neg h2, if_neg h2]
theorem swapR_mem (l : List Ru) (i k : Nat) (hi : i < l.length) (hk : k < l.length) (r : Ru) : r ∈ swapR l i k ↔ r ∈ l := by
  constructor
  · intro h
    obtain ⟨j, hj⟩ := List.mem_iff_getElem?.1 h
    rw [swapR_at l i k hi hk] at hj
    split at hj
    · cases hj; exact List.getElem_mem hi
    · split at hj
      · cases hj; exact List.getElem_mem hk
      · exact List.mem_iff_getElem?.2 ⟨j, hj⟩
  · intro h
    obtain ⟨j, hj⟩ := List.mem_iff_getElem?.1 h
    by_cases hjk : k = j
    · subst hjk
      rw [List.getElem?_eq_getElem hk] at hj
      by_cases hij : k = i
      · subst hij
        exact List.mem_iff_getElem?.2 ⟨k, by rw [swapR_at l k k hi hk, if_pos rfl]; exact hj⟩
      · exact List.mem_iff_getElem?.2 ⟨i, by rw [swapR_at l i k hi hk, if_neg hij, if_pos rfl]; exact hj⟩
    · by_cases hji : i = j
      · subst hji
        rw [List.getElem?_eq_getElem hi] at hj
        exact List.mem_iff_getElem?.2 ⟨k, by rw [swapR_at l i k hi hk, if_pos rfl]; exact hj⟩
      · exact List.mem_iff_getElem?.2 ⟨j, by rw [swapR_at l i k hi hk, if_neg hjk, if_neg hji]; exact hj⟩
end Go.Proofs.YtihfpoclflppnaaDoor
