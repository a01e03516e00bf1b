/- The program's Read, plain: it is the document's. -/
import Derived.Test.YthjdmfbengpepaaGreatB41
import Derived.Test.YthjdmfbengpepaaGreatBl4
namespace Go.Proofs.YthjdmfbengpepaaGreat
open Go.RowKit

/-- so many sectors read behind one another, none refused -/
def secsP : Nat → List UInt8 → Bool → List Int → List Int × List UInt8 × Bool
  | 0, l, br, acc => (acc, l, br)
  | k + 1, l, br, acc => secsP k (rdUint l br).2.1 (rdUint l br).2.2 (acc ++ [((min (rdUint l br).1 2147483647 : Nat) : Int)])
def rdP (b : List UInt8) : Nat × List UInt8 × Bool := rdList (rdS b).2.1 (rdS b).2.2 12
def lenP (b : List UInt8) : Int := ((min (rdN b).1 2147483647 : Nat) : Int)
def pEnd (b : List UInt8) (x : List Int × List UInt8 × Bool) : Option Rf := if doneN x.2.1 x.2.2 ≠ 0 then none else if rightL ⟨lenP b, (rdS b).1, x.1⟩ = true then some ⟨lenP b, (rdS b).1, x.1⟩ else none
def prO (b : List UInt8) : Option Rf := pEnd b (secsP (rdP b).1 (rdP b).2.1 (rdP b).2.2 [])
theorem doneN_zero {l : List UInt8} {br : Bool} : doneN l br = 0 ↔ br = false ∧ l = [] := by
  unfold doneN
  cases br <;> cases l <;> simp
theorem secsP_mem : ∀ (k : Nat) (l : List UInt8) (br : Bool) (acc : List Int) (s : Int), s ∈ acc → s ∈ (secsP k l br acc).1 := by
  intro k
  induction k with
  | zero => intro l br acc s h; exact h
  | succ k ih => intro l br acc s h; rw [secsP]; exact ih _ _ _ s (List.mem_append_left _ h)
theorem secs_none : ∀ (k : Nat) (l : List UInt8) (br : Bool) (acc acc' : List Int), secsRd k l br acc = none → ∃ s ∈ (secsP k l br acc').1, 4096 ≤ s := by
  intro k
  induction k with
  | zero => intro l br acc acc' h; rw [secsRd] at h; cases h
  | succ k ih =>
    intro l br acc acc' h
    rw [secsRd] at h
    rw [secsP]
    by_cases hv : 4096 ≤ (rdUint l br).1
    · exact ⟨_, secsP_mem k _ _ _ _ (List.mem_append_right _ (List.mem_singleton.2 rfl)), by omega⟩
    · rw [if_neg hv] at h
      exact ih _ _ _ _ h
theorem secs_some : ∀ (k : Nat) (l : List UInt8) (br : Bool) (acc : List Int) (x : List Int × List UInt8 × Bool), secsRd k l br acc = some x → secsP k l br acc = x ∧ x.1.length = acc.length + k := by
  intro k
  induction k with
  | zero => intro l br acc x h; rw [secsRd] at h; rw [secsP]; have := Option.some.inj h; subst this; exact ⟨rfl, rfl⟩
  | succ k ih =>
    intro l br acc x h
    rw [secsRd] at h
    by_cases hv : 4096 ≤ (rdUint l br).1
    · rw [if_pos hv] at h; cases h
    · rw [if_neg hv] at h
      obtain ⟨h1, h2⟩ := ih _ _ _ _ h
      rw [secsP, show min (rdUint l br).1 2147483647 = (rdUint l br).1 by omega]
      exact ⟨h1, by rw [h2, List.length_append, List.length_singleton]; omega⟩
theorem right_not {r : Rf} {s : Int} (h : s ∈ r.secs) (hs : 4096 ≤ s) : rightL r = false := by
  cases hr : rightL r with
  | false => rfl
  | true =>
    obtain ⟨i, hi, e⟩ := mem_getD' h
    have := (right_sec hr hi).2
    omega
theorem pEnd_true (b : List UInt8) (l : List Int) (rest : List UInt8) : pEnd b (l, rest, true) = none := by
  unfold pEnd
  rw [if_pos (fun h => by have := (doneN_zero.1 h).1; cases this)]
theorem readEnd_some (b : List UInt8) (l : List Int) (rest : List UInt8) (br : Bool) : readEnd b (some (l, rest, br)) = if 6144 < (rdN b).1 ∨ br = true ∨ rest ≠ [] then none else if rightL ⟨((rdN b).1 : Int), (rdS b).1, l⟩ = true then some ⟨((rdN b).1 : Int), (rdS b).1, l⟩ else none := rfl
theorem pEnd_some (b : List UInt8) (l : List Int) (rest : List UInt8) (br : Bool) : pEnd b (l, rest, br) = if doneN rest br ≠ 0 then none else if rightL ⟨lenP b, (rdS b).1, l⟩ = true then some ⟨lenP b, (rdS b).1, l⟩ else none := rfl
theorem readEnd_true (b : List UInt8) (l : List Int) (rest : List UInt8) : readEnd b (some (l, rest, true)) = none := by
  rw [readEnd_some, if_pos (.inr (.inl rfl))]
theorem pr_eq (b : List UInt8) : prO b = readO b := by
  unfold prO readO
  have no16 : ∀ most : Int, okL (rdS b).2.1 (rdS b).2.2 most = false → rdList (rdS b).2.1 (rdS b).2.2 most = (0, (rdS b).2.1, true) := fun most h => by unfold rdList; rw [h]; rfl
  have yes : ∀ most : Int, okL (rdS b).2.1 (rdS b).2.2 most = true → rdList (rdS b).2.1 (rdS b).2.2 most = (numTo (rdS b).2.1 4, (rdS b).2.1.drop 5, false) := fun most h => by unfold rdList; rw [h]; rfl
  cases h12 : okL (rdS b).2.1 (rdS b).2.2 12 with
  | true =>
    have h16 : okL (rdS b).2.1 (rdS b).2.2 16 = true := by
      unfold okL at h12 ⊢
      obtain ⟨a1, a2⟩ := Bool.and_eq_true_iff.1 h12
      have := of_decide_eq_true a2
      rw [a1, decide_eq_true (by omega)]; rfl
    unfold rdP rdM
    rw [yes 12 h12, yes 16 h16]
    show pEnd b (secsP (numTo (rdS b).2.1 4) ((rdS b).2.1.drop 5) false []) = readEnd b (secsRd (numTo (rdS b).2.1 4) ((rdS b).2.1.drop 5) false [])
    generalize numTo (rdS b).2.1 4 = k
    generalize (rdS b).2.1.drop 5 = l
    cases hs : secsRd k l false [] with
    | none =>
      obtain ⟨s, hm, hge⟩ := secs_none k l false [] [] hs
      show pEnd b (secsP k l false []) = none
      unfold pEnd
      by_cases hd : doneN (secsP k l false []).2.1 (secsP k l false []).2.2 ≠ 0
      · rw [if_pos hd]
      · rw [if_neg hd, if_neg (by rw [right_not (r := ⟨lenP b, (rdS b).1, (secsP k l false []).1⟩) hm hge]; simp)]
    | some x =>
      obtain ⟨e1, _⟩ := secs_some k l false [] x hs
      rw [e1]
      obtain ⟨L, rest, br⟩ := x
      rw [pEnd_some, readEnd_some]
      by_cases hd : doneN rest br ≠ 0
      · rw [if_pos hd]
        refine (if_pos ?_).symm
        refine Classical.byContradiction fun hc => hd (doneN_zero.2 ⟨?_, ?_⟩)
        · cases br with
          | false => rfl
          | true => exact absurd (.inr (.inl rfl)) hc
        · exact Classical.byContradiction fun hr => hc (.inr (.inr hr))
      · rw [if_neg hd]
        obtain ⟨d1, d2⟩ := doneN_zero.1 (Classical.not_not.1 hd)
        by_cases hn : 6144 < (rdN b).1
        · rw [if_neg (show ¬ rightL ⟨lenP b, (rdS b).1, L⟩ = true from fun hr => by
            have := (of_decide_eq_true hr).1.2.1
            change lenP b ≤ 6144 at this
            unfold lenP at this
            omega), if_pos (show 6144 < (rdN b).1 ∨ br = true ∨ rest ≠ [] from .inl hn)]
        · have eL : lenP b = ((rdN b).1 : Int) := by unfold lenP; rw [show min (rdN b).1 2147483647 = (rdN b).1 by omega]
          rw [eL]
          have d1' : br = false := d1
          have d2' : rest = [] := d2
          rw [if_neg (show ¬ (6144 < (rdN b).1 ∨ br = true ∨ rest ≠ []) from fun h => by
            rcases h with h | h | h
            · exact hn h
            · rw [d1'] at h; cases h
            · exact h d2')]
  | false =>
    have e1 : rdP b = (0, (rdS b).2.1, true) := no16 12 h12
    rw [e1]
    show pEnd b ([], (rdS b).2.1, true) = _
    rw [pEnd_true]
    cases h16 : okL (rdS b).2.1 (rdS b).2.2 16 with
    | false =>
      have e2 : rdM b = (0, (rdS b).2.1, true) := no16 16 h16
      rw [e2]
      exact (readEnd_true b [] (rdS b).2.1).symm
    | true =>
      have e2 : rdM b = (numTo (rdS b).2.1 4, (rdS b).2.1.drop 5, false) := yes 16 h16
      have hn : 12 < numTo (rdS b).2.1 4 := by
        unfold okL at h12 h16
        rw [(Bool.and_eq_true_iff.1 h16).1, Bool.true_and] at h12
        have := of_decide_eq_false h12
        omega
      rw [e2]
      show none = readEnd b (secsRd (numTo (rdS b).2.1 4) ((rdS b).2.1.drop 5) false [])
      cases hs : secsRd (numTo (rdS b).2.1 4) ((rdS b).2.1.drop 5) false [] with
      | none => rfl
      | some x =>
        obtain ⟨_, e3⟩ := secs_some _ _ _ _ _ hs
        obtain ⟨L, rest, br⟩ := x
        rw [readEnd_some]
        rw [List.length_nil, Nat.zero_add] at e3
        change L.length = _ at e3
        have hr : rightL ⟨((rdN b).1 : Int), (rdS b).1, L⟩ = false := by
          cases hr : rightL ⟨((rdN b).1 : Int), (rdS b).1, L⟩ with
          | false => rfl
          | true =>
            have := right_len hr
            change L.length ≤ 12 at this
            omega
        rw [hr]
        split
        · rfl
        · rfl
theorem rdP_le (b : List UInt8) : (rdP b).1 ≤ 12 := by
  unfold rdP rdList
  split
  · rename_i h
    unfold okL at h
    have := of_decide_eq_true (Bool.and_eq_true_iff.1 h).2
    show numTo _ 4 ≤ 12
    omega
  · exact Nat.zero_le _
end Go.Proofs.YthjdmfbengpepaaGreat
