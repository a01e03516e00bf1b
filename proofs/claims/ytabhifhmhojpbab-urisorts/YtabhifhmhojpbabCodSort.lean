/- What the sort leaves, at pairs that the call owns. -/
import Derived.Test.YtabhifhmhojpbabCodCmp
import Derived.Test.YtabhifhmhojpbabOwnP
import Derived.Lib.OwnBridge
namespace Go.Proofs.Ytabhifhmhojpbab
open Go.RowKit Go.Shelf Go.Lib Go.Sort

theorem below_grow {B : Nat} {w0 w : World} (h : Below B w0 w) (hB : B ≤ w.heap.size) (os : Array Obj) : Below B w0 (grow w os) :=
  h.trans ⟨rfl, rfl, rfl, by simp, fun k hk => by
    show (w.heap ++ os)[k]? = w.heap[k]?
    rw [Array.getElem?_append_left (by omega)]⟩

theorem pcs_flat (L : List Pr) (t : Nat) (h : t < L.length * 2) : (pcs L)[t]? = some ((prW L.toArray[t / 2]!)[t % 2]!) := by
  have hq : t / 2 < L.length := by omega
  obtain ⟨p1, p2⟩ := pcs_at L (t / 2) hq
  have e : L.toArray[t / 2]! = nthP L (t / 2) := by
    rw [nthP_eq L _ hq]; simp [hq]
  rw [e]
  rcases Nat.mod_two_eq_zero_or_one t with hm | hm
  · have : t = t / 2 * 2 := by omega
    rw [hm]
    rw [this, show t / 2 * 2 / 2 = t / 2 by omega, p1]; rfl
  · have : t = t / 2 * 2 + 1 := by omega
    rw [hm]
    rw [this, show (t / 2 * 2 + 1) / 2 = t / 2 by omega, p2]; rfl

theorem holds_own {e : TypeId} {w : World} {N g cap : Nat} {L : List Pr} (h : OwnP e w N (.slice (some ⟨g, 0, none⟩) L.length cap) L) : HoldsK prW 2 w g 0 L.toArray := by
  intro t ht
  rw [size_flatK] at ht
  have ht' : t < L.length * 2 := by simpa using ht
  rw [get_flatK _ _ _ t (by simpa using ht'), Nat.zero_add]
  have hown : w.ownsRow N e 2 (.slice (some ⟨g, 0, none⟩) L.length cap) L.length (pcs L) := h
  refine ⟨?_, hown.frozenAt t⟩
  rw [hown.cellAt t ht', pcs_flat L t ht']; rfl

theorem isP_holds {w : World} {g cap : Nat} {L : List Pr} (h : HoldsK prW 2 w g 0 L.toArray) (h1 : L.length ≤ cap) (h2 : cap ≤ maxLen) : IsP w (some ⟨g, 0, none⟩) L.length cap L :=
  ⟨rfl, h1, h2, fun e => (by cases e), fun _ => ⟨g, 0, rfl, fun i hi => by
    have a0 := h.cell (i := i) (c := 0) (by simpa using hi) (by omega)
    have a1 := h.cell (i := i) (c := 1) (by simpa using hi) (by omega)
    have e : L.toArray[i]! = nthP L i := by rw [nthP_eq L _ hi]; simp [hi]
    rw [e] at a0 a1
    exact ⟨a0.1, a1.1⟩⟩⟩

theorem codSort (N : Nat) (v : Value) (l : List Pr) (w : World) (hN : N ≤ w.heap.size) (h : OwnP 29 w N v (l.map encP)) (hl : l.length ≤ 50) :
    Calls Try.prog 13 #[v, .func (.func 14) #[] #[]] w fun e w' => e = .returned (.tuple #[]) ∧ Below N w w' ∧ ∃ a cap, v = .slice a l.length cap ∧ IsP w' a l.length cap (sortL l) := by
  by_cases h0 : l = []
  · subst h0
    obtain ⟨a, cap, rfl, hi⟩ := h.isP
    have hc := AnyF.slices_SortFunc_none Try.laySort a cap (.func (.func 14) #[] #[]) w
    change Calls Try.prog 13 _ _ _ at hc
    refine hc.mono ?_
    rintro e w' ⟨rfl, rfl⟩
    exact ⟨rfl, Below.refl _ _, a, cap, rfl, hi⟩
  · have hpos : 0 < (l.map encP).length := by rw [List.length_map]; exact List.length_pos_iff.2 h0
    obtain ⟨g, cap, rfl, hb, hg⟩ := World.ownsRow.form h hpos
    have hH := holds_own h
    obtain ⟨a', cap', ev, hi⟩ := h.isP
    cases ev
    have eg : ∀ args w, (callFunc 14 args).run Try.prog w = .ok (.enter 14 args) w := enters_of Try.func14 (by kernel_rfl) rfl
    have hc := AnyQ.slices_SortFunc_total Try.laySort 2 Try.isAgg29 Try.sizeOf29 prW (fun _ => rfl) (fun x v hv => by simp [prW] at hv; rcases hv with rfl | rfl <;> rfl) cfP swoP 14 #[] g 0 cap (l.map encP).toArray w eg (cmpLaysP g 0 _ w) hH hg (by simp; omega) totP
    change Calls Try.prog 13 _ _ _ at hc
    rw [show (l.map encP).toArray.toList = l.map encP from rfl, merge_sort] at hc
    rw [show (l.map encP).toArray.size = (l.map encP).length from by simp] at hc
    refine hc.mono ?_
    rintro e w' ⟨rfl, n, os, rfl⟩
    have hs : (sortL l).toArray.size = (l.map encP).toArray.size := by simp [sortL_length]
    have hH2 := holdsK_sortWorldK_c prW 2 w g 0 (l.map encP).toArray (sortL l).toArray n os hH hg hs
    refine ⟨rfl, ?_, some ⟨g, 0, none⟩, cap, by rw [List.length_map], ?_⟩
    · unfold sortWorldK putRowK
      exact below_grow (below_putRow (Below.refl N w) hb) (by simp [putRow, mapBlock, Sort.ahead]; omega) os
    · have := isP_holds (cap := cap) hH2 (by have := hi.le; rw [sortL_length]; simpa using this) hi.max
      rw [sortL_length] at this
      exact this
end Go.Proofs.Ytabhifhmhojpbab
