/- What the statements' same, own and light answer. -/
import Derived.Test.YtabhifhmhojpbaaOwnP
namespace Go.Proofs.Ytabhifhmhojpbaa
open Go.RowKit

theorem ret_b' {a b : Bool} (h : a = b) : Ending.returned (.bool a) = .returned (.bool b) := by rw [h]
theorem pairs_ext (l m : List Pr) (hl : l.length = m.length) (h : ∀ i, i < l.length → (nthP l i).1 = (nthP m i).1 ∧ (nthP l i).2 = (nthP m i).2) : l = m := by
  apply List.ext_getElem hl
  intro i h1 h2
  have := h i h1
  rw [nthP_eq l i h1, nthP_eq m i h2] at this
  exact Prod.ext this.1 this.2

set_option maxHeartbeats 1000000 in
theorem lawSame (a : Option Addr) (n cap : Nat) (l : List Pr) (a' : Option Addr) (n' cap' : Nat) (l' : List Pr) (w : World) (h : IsP w a n cap l) (h' : IsP w a' n' cap' l') :
    Calls Try.prog 19 #[.slice a n cap, .slice a' n' cap'] w fun e w' => e = .returned (.bool (decide (l = l'))) ∧ Below w.heap.size w w' := by
  have HL : Hid (l.length = n) := h.len_eq
  have HL' : Hid (l'.length = n') := h'.len_eq
  have H : Hid (IsP w a n cap l) := h
  have H' : Hid (IsP w a' n' cap' l') := h'
  have hm : n ≤ 9223372036854775807 := by have := h.le; have := h.max; unfold maxLen at this; omega
  have hm' : n' ≤ 9223372036854775807 := by have := h'.le; have := h'.max; unfold maxLen at this; omega
  clear h h'
  by_cases hn : n = n'
  · subst hn
    go_enter Try.func19, Try.ntmps19
    go_wp2
    go_loopw [5] (fun i wr => ∃ (k q : Nat), k ≤ n ∧ i = .int .i64 k ∧ Hid (∀ i, i < k → (nthP l i).1 = (nthP l' i).1 ∧ (nthP l i).2 = (nthP l' i).2) ∧ wr = w.drewN q) (fun i _ => n - (intOf i).toNat)
    case atStart => exact ⟨0, 0, Nat.zero_le _, rfl, fun i hi => absurd hi (Nat.not_lt_zero _), rfl⟩
    case round =>
      obtain ⟨k, q, hk, rfl, HD, rfl⟩ := hrel
      by_cases hlt : k < n
      · obtain ⟨b, off, rfl, hc⟩ := H.out.cells (by omega)
        obtain ⟨b', off', rfl, hc'⟩ := H'.out.cells (by omega)
        obtain ⟨c1, c2⟩ := hc k hlt
        obtain ⟨c1', c2'⟩ := hc' k hlt
        have hb0 : (0 : Int) ≤ (k : Int) := by omega
        have hb1 : (k : Int) < (n : Int) := by omega
        clear hc hc'
        by_cases he : (nthP l k).1 = (nthP l' k).1
        · have hq : ((str (nthP l k).1).toList == (str (nthP l' k).1).toList) = true := by rw [str_beq]; simpa using he
          by_cases he2 : (nthP l k).2 = (nthP l' k).2
          · have hq2 : ((str (nthP l k).2).toList == (str (nthP l' k).2).toList) = true := by rw [str_beq]; simpa using he2
            have HT : Hid (∀ i, i < k + 1 → (nthP l i).1 = (nthP l' i).1 ∧ (nthP l i).2 = (nthP l' i).2) := by
              intro i hi
              rcases Nat.lt_or_ge i k with h | h
              · exact HD.out i h
              · have : i = k := by omega
                subst this
                exact ⟨he, he2⟩
            clear he he2
            generalize nthP l k = p at c1 c2 hq hq2
            generalize nthP l' k = p' at c1' c2' hq hq2
            go_wp2
            go_quiet (fail)
            go_wp2
            go_roundw
            case rel => exact ⟨k + 1, _, by omega, by go_num, HT, rfl⟩
            case measure => simp [intOf]; omega
          · have hq2 : ((str (nthP l k).2).toList == (str (nthP l' k).2).toList) = false := by rw [str_beq]; simpa using he2
            have HN : Hid (decide (l = l') = false) := by unfold Hid; rw [decide_eq_false_iff_not]; rintro rfl; exact he2 rfl
            clear he he2
            generalize nthP l k = p at c1 c2 hq hq2
            generalize nthP l' k = p' at c1' c2' hq hq2
            go_wp2
            go_quiet (fail)
            go_wp2
            go_ret
            exact ⟨ret_b' (by rw [HN.out]), bel_drewN (bel_drewN (Below.refl _ _) _) _⟩
        · have hq : ((str (nthP l k).1).toList == (str (nthP l' k).1).toList) = false := by rw [str_beq]; simpa using he
          have HN : Hid (decide (l = l') = false) := by unfold Hid; rw [decide_eq_false_iff_not]; rintro rfl; exact he rfl
          clear he
          generalize nthP l k = p at c1 c2 hq
          generalize nthP l' k = p' at c1' c2' hq
          go_wp2
          go_quiet (fail)
          go_wp2
          go_ret
          exact ⟨ret_b' (by rw [HN.out]), bel_drewN (bel_drewN (Below.refl _ _) _) _⟩
      · have HN : Hid (decide (l = l') = true) := by
          unfold Hid; rw [decide_eq_true_iff]
          refine pairs_ext l l' (by rw [HL.out, HL'.out]) (fun i hi => HD.out i (by rw [HL.out] at hi; omega))
        go_wp2
        go_ret
        exact ⟨ret_b' (by rw [HN.out]), bel_drewN (Below.refl _ _) _⟩
  · have hn' : ¬ (n : Int) = (n' : Int) := by omega
    have HN : Hid (decide (l = l') = false) := by
      unfold Hid; rw [decide_eq_false_iff_not]; rintro rfl
      have := HL.out; have := HL'.out; omega
    clear hn
    go_enter Try.func19, Try.ntmps19
    go_wp2
    go_ret
    exact ⟨ret_b' (by rw [HN.out]), Below.refl _ _⟩
end Go.Proofs.Ytabhifhmhojpbaa
