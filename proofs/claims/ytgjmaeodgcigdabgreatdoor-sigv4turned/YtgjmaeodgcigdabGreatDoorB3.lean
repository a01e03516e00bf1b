/- Slices of texts in a world; names that are signed; texts joined. · Plain facts: the parts between a sign. · Plain facts: paths and queries. · Plain facts: what Parse, Show and Answer answer. · Plain facts: the canonical text is read as the same pairs. -/
import Derived.Test.YtgjmaeodgcigdabGreatDoorB1
import Derived.Test.YtgjmaeodgcigdabGreatDoorB2
import Derived.BigQuiet
import Derived.WalkLawsBesides
import Derived.Test.YtgjmaeodgcigdabGreatDoorB0
namespace Go.Proofs.YtgjmaeodgcigdabGreatDoor
open Go.RowKit

/-- a slice of texts in a world -/
structure IsT (w : World) (a : Option Addr) (n cap : Nat) (l : List (List UInt8)) : Prop where
  len_eq : l.length = n
  le : n ≤ cap
  max : cap ≤ maxLen
  nil : a = none → cap = 0
  cells : 0 < n → ∃ b off, a = some ⟨b, off, none⟩ ∧ ∀ i, i < n → w.cell? ⟨b, off + i, none⟩ = some (.string (str (nthT l i)))
theorem IsT.below {w w' : World} {n m : Nat} {a : Option Addr} {cap : Nat} {l : List (List UInt8)} (h : IsT w a m cap l) (hb : Below n w w') (hn : n = w.heap.size) : IsT w' a m cap l :=
  ⟨h.len_eq, h.le, h.max, h.nil, fun hp => by
    obtain ⟨b, off, e, hc⟩ := h.cells hp
    refine ⟨b, off, e, fun i hi => ?_⟩
    have h1 := hc i hi
    have hlt : b < w.heap.size := cell_lt h1
    rw [hb.cell (p := ⟨b, off + i, none⟩) (by simpa [hn] using hlt)]
    exact h1⟩
theorem isT_nil (w : World) : IsT w none 0 0 [] := ⟨rfl, Nat.le_refl _, Nat.zero_le _, fun _ => rfl, fun h => absurd h (Nat.lt_irrefl 0)⟩
theorem OwnT.isT {w : World} {base : Nat} {v : Value} {l : List (List UInt8)} (h : OwnT w base v l) : ∃ a cap, v = .slice a l.length cap ∧ IsT w a l.length cap l := by
  by_cases hl : 0 < l.length
  · obtain ⟨g, cap, rfl, _⟩ := h.form hl
    obtain ⟨h1, h2⟩ := h.cap rfl
    exact ⟨_, cap, rfl, rfl, h1, h2, fun e => (by cases e), fun _ => ⟨g, 0, rfl, fun i hi => by rw [Nat.zero_add]; exact h.cellAt rfl i hi⟩⟩
  · have : l = [] := List.eq_nil_of_length_eq_zero (by omega)
    subst this
    rcases h.2 with ⟨rfl, _⟩ | ⟨g, cap, cur, rfl, _, _, h1, h2, _⟩
    · exact ⟨none, 0, rfl, isT_nil w⟩
    · exact ⟨_, cap, rfl, rfl, h1, h2, fun e => (by cases e), fun hp => absurd hp (Nat.lt_irrefl 0)⟩
theorem takeT (l : List (List UInt8)) (k : Nat) (h : k < l.length) : l.take (k + 1) = l.take k ++ [nthT l k] := by
  rw [nthT_eq l k h, ← List.take_append_getElem h]
/-- names that rise -/
def riseTo (l : List (List UInt8)) (k : Nat) : Bool := decide (∀ i, i < k → 0 < i → Op.bytesLess (nthT l (i - 1)) (nthT l i) = true)
def namesL (l : List (List UInt8)) : Bool := l.all snameL && riseTo l l.length && decide (1 ≤ l.length ∧ l.length ≤ 24)
theorem rise_zero (l : List (List UInt8)) : riseTo l 0 = true := decide_eq_true (fun _ hi => absurd hi (Nat.not_lt_zero _))
theorem rise_succ {l : List (List UInt8)} {k : Nat} (h : riseTo l k = true) (h1 : 0 < k → Op.bytesLess (nthT l (k - 1)) (nthT l k) = true) : riseTo l (k + 1) = true :=
  decide_eq_true fun i hi h0 => by
    rcases Nat.lt_or_ge i k with h2 | h2
    · exact of_decide_eq_true h i h2 h0
    · have : i = k := by omega
      subst this; exact h1 h0
theorem names_no1 {l : List (List UInt8)} {k : Nat} (hk : k < l.length) (h : snameL (nthT l k) = false) : namesL l = false := by
  have : l.all snameL = false := by
    rw [List.all_eq_false]
    exact ⟨nthT l k, by rw [nthT_eq l k hk]; exact List.getElem_mem hk, by rw [h]; simp⟩
  unfold namesL; rw [this]; rfl
theorem names_no2 {l : List (List UInt8)} {k : Nat} (hk : k < l.length) (h0 : 0 < k) (h : Op.bytesLess (nthT l (k - 1)) (nthT l k) = false) : namesL l = false := by
  have : riseTo l l.length = false := decide_eq_false fun h2 => by have := h2 k hk h0; rw [h] at this; cases this
  unfold namesL; rw [this]; simp
theorem ret_bb {a b : Bool} (h : a = b) : Ending.returned (.bool a) = .returned (.bool b) := by rw [h]

set_option maxRecDepth 20000 in
set_option maxHeartbeats 2000000 in
theorem refNames (a : Option Addr) (n cap : Nat) (l : List (List UInt8)) (w : World) (h : IsT w a n cap l) (hz : ∀ i, i < l.length → (nthT l i).length ≤ 140737488351232) :
    Calls Tryz.prog 89 #[.slice a n cap] w fun e w' => e = .returned (.bool (namesL l)) ∧ Below w.heap.size w w' := by
  have HL : Hid (l.length = n) := h.len_eq
  have H : Hid (IsT w a n cap l) := h
  have hn : n ≤ 9223372036854775807 := by have := h.le; have := h.max; unfold maxLen at this; omega
  clear h
  go_enter Tryz.func89, Tryz.ntmps89
  go_wp2
  go_loopw [3] (fun i wr => ∃ (k : Nat), k ≤ n ∧ i = .int .i64 k ∧ Hid ((l.take k).all snameL = true ∧ riseTo l k = true) ∧ Hid (Below w.heap.size w wr)) (fun i _ => n - (intOf i).toNat)
  case atStart => exact ⟨0, Nat.zero_le _, rfl, ⟨rfl, rise_zero l⟩, Below.refl _ _⟩
  case round =>
    obtain ⟨k, hk, rfl, HD, HW⟩ := hrel
    by_cases hlt : k < n
    · obtain ⟨b, off, rfl, hc⟩ := H.out.cells (by omega)
      have c1 := hc k hlt
      have g1 := (HW.out.cell (p := ⟨b, off + k, none⟩) (cell_lt c1)).trans c1
      have hb0 : (0 : Int) ≤ (k : Int) := by omega
      have hb1 : (k : Int) < (n : Int) := by omega
      have hkl : k < l.length := by rw [HL.out]; exact hlt
      have HN := fun w => refSName (nthT l k) w (hz k hkl)
      cases hs : snameL (nthT l k) with
      | false =>
        have HR : Hid (namesL l = false) := names_no1 hkl hs
        rw [hs] at HN
        clear hc c1 hkl HD
        generalize str (nthT l k) = s1 at *
        go_wp2
        go_quiet (first | (go_at_call 140; exact Calls.quiet_of_same (HN _)))
        go_wp2
        go_ret
        exact ⟨ret_bb HR.out.symm, bel_drewN HW.out _⟩
      | true =>
        rw [hs] at HN
        have HA : Hid ((l.take (k + 1)).all snameL = true) := by unfold Hid; rw [takeT l k hkl, List.all_append, HD.out.1]; simpa using hs
        cases k with
        | succ j =>
          have c2 := hc j (by omega)
          have g2 := (HW.out.cell (p := ⟨b, off + j, none⟩) (cell_lt c2)).trans c2
          have hj0 : (0 : Int) ≤ (j : Int) := by omega
          have hj1 : (j : Int) < (n : Int) := by omega
          have hj2 : (0 : Int) < (j : Int) + 1 := by omega
          cases hless : Op.bytesLess (nthT l j) (nthT l (j + 1)) with
          | false =>
            have hq : Op.bytesLess (str (nthT l j)).toList (str (nthT l (j + 1))).toList = false := by rw [str_toList, str_toList]; exact hless
            have HR : Hid (namesL l = false) := names_no2 hkl (Nat.succ_pos j) hless
            clear hc c1 c2 hkl HD HA hless
            generalize str (nthT l (j + 1)) = s1 at *
            generalize str (nthT l j) = s2 at *
            go_wp2
            go_quiet (first | (go_at_call 140; exact Calls.quiet_of_same (HN _)))
            go_wp2
            go_ret
            exact ⟨ret_bb HR.out.symm, bel_drewN HW.out _⟩
          | true =>
            have hq : Op.bytesLess (str (nthT l j)).toList (str (nthT l (j + 1))).toList = true := by rw [str_toList, str_toList]; exact hless
            have HR : Hid ((l.take (j + 1 + 1)).all snameL = true ∧ riseTo l (j + 1 + 1) = true) := ⟨HA.out, rise_succ HD.out.2 (fun _ => hless)⟩
            clear hc c1 c2 hkl HD HA hless
            generalize str (nthT l (j + 1)) = s1 at *
            generalize str (nthT l j) = s2 at *
            go_wp2
            go_quiet (first | (go_at_call 140; exact Calls.quiet_of_same (HN _)))
            go_wp2
            go_roundw
            case rel => exact ⟨j + 1 + 1, by omega, by go_num, HR, bel_drewN HW.out _⟩
            case measure => simp [intOf]; omega
        | zero =>
          have HR : Hid ((l.take (0 + 1)).all snameL = true ∧ riseTo l (0 + 1) = true) := ⟨HA.out, rise_succ HD.out.2 (fun h => absurd h (Nat.lt_irrefl 0))⟩
          have g0 : wr.cell? ⟨b, off, none⟩ = some (.string (str (nthT l 0))) := g1
          have hb2 : (0 : Int) < (n : Int) := by omega
          clear hc c1 hkl HD HA g1 hb0 hb1
          generalize str (nthT l 0) = s1 at *
          go_wp2
          go_quiet (first | (go_at_call 140; exact Calls.quiet_of_same (HN _)))
          go_wp2
          go_roundw
          case rel => exact ⟨0 + 1, by omega, by go_num, HR, bel_drewN HW.out _⟩
          case measure => simp [intOf]; omega
    · have hge : ¬ (k : Int) < (n : Int) := by omega
      have hkn : k = n := by omega
      subst hkn
      have HR : Hid (namesL l = decide (1 ≤ k ∧ k ≤ 24)) := by
        obtain ⟨h1, h2⟩ := HD.out
        rw [List.take_of_length_le (by rw [HL.out]; exact Nat.le_refl _)] at h1
        unfold Hid namesL; rw [h1, HL.out, h2]; rfl
      by_cases h1 : 1 ≤ k
      · by_cases h2 : k ≤ 24
        · have h1' : (1 : Int) ≤ (k : Int) := by omega
          have h2' : (k : Int) ≤ 24 := by omega
          have HV : Hid (namesL l = true) := by unfold Hid; rw [HR.out]; exact decide_eq_true ⟨h1, h2⟩
          go_wp2
          go_ret
          exact ⟨ret_bb HV.out.symm, HW.out⟩
        · have h1' : (1 : Int) ≤ (k : Int) := by omega
          have h2' : ¬ (k : Int) ≤ 24 := by omega
          have HV : Hid (namesL l = false) := by unfold Hid; rw [HR.out]; exact decide_eq_false (fun h => h2 h.2)
          go_wp2
          go_ret
          exact ⟨ret_bb HV.out.symm, HW.out⟩
      · have h1' : ¬ (1 : Int) ≤ (k : Int) := by omega
        have HV : Hid (namesL l = false) := by unfold Hid; rw [HR.out]; exact decide_eq_false (fun h => h1 h.1)
        go_wp2
        go_ret
        exact ⟨ret_bb HV.out.symm, HW.out⟩

/-- texts joined -/
def joinTo (sg : List UInt8) (l : List (List UInt8)) : Nat → List UInt8
  | 0 => []
  | k + 1 => joinTo sg l k ++ (if k = 0 then [] else sg) ++ nthT l k
def joinS (sg : List UInt8) (l : List (List UInt8)) : List UInt8 := joinTo sg l l.length
theorem joinTo_le (sg : List UInt8) (l : List (List UInt8)) (M : Nat) (hM : ∀ i, i < l.length → (nthT l i).length ≤ M) : ∀ k, k ≤ l.length → (joinTo sg l k).length ≤ k * (M + sg.length) := by
  intro k
  induction k with
  | zero => intro _; simp [joinTo]
  | succ k ih =>
    intro hk
    have h1 := ih (by omega)
    have h2 := hM k (by omega)
    rw [joinTo, List.length_append, List.length_append, Nat.add_mul, Nat.one_mul]
    by_cases h0 : k = 0
    · rw [if_pos h0]; simp only [List.length_nil]; omega
    · rw [if_neg h0]; omega

set_option maxRecDepth 20000 in
set_option maxHeartbeats 1000000 in
theorem refJoin (a : Option Addr) (n cap : Nat) (l : List (List UInt8)) (sg : List UInt8) (w : World) (h : IsT w a n cap l) (hn : n ≤ 1000) (hs : sg.length ≤ 1000) (hz : ∀ i, i < l.length → (nthT l i).length ≤ 1000000) :
    Calls Tryz.prog 90 #[.slice a n cap, .string (str sg)] w fun e w' => e = .returned (.string (str (joinS sg l))) ∧ w' = w := by
  have HL : Hid (l.length = n) := h.len_eq
  have H : Hid (IsT w a n cap l) := h
  have HM : Hid (∀ k, k ≤ n → (joinTo sg l k).length ≤ 1000000000000) := fun k hk => by
    have h1 := joinTo_le sg l 1000000 hz k (by rw [HL.out]; exact hk)
    have h2 : k * (1000000 + sg.length) ≤ 1000 * (1000000 + 1000) := Nat.mul_le_mul (by omega) (by omega)
    omega
  clear h
  have hsg : (str sg).size ≤ 1000 := by rw [str_size]; exact hs
  go_enter Tryz.func90, Tryz.ntmps90
  go_wp2
  go_loopw [5, 6] (fun v i wr => ∃ (k : Nat), k ≤ n ∧ i = .int .i64 k ∧ v = .string (str (joinTo sg l k)) ∧ wr = w) (fun _ i _ => n - (intOf i).toNat)
  case atStart => exact ⟨0, Nat.zero_le _, rfl, rfl, rfl⟩
  case round =>
    obtain ⟨k, hk, rfl, rfl, rfl⟩ := hrel
    by_cases hlt : k < n
    · obtain ⟨b, off, rfl, hc⟩ := H.out.cells (by omega)
      have g1 := hc k hlt
      have hb0 : (0 : Int) ≤ (k : Int) := by omega
      have hb1 : (k : Int) < (n : Int) := by omega
      have hkl : k < l.length := by rw [HL.out]; exact hlt
      have hy : (str (nthT l k)).size ≤ 1000000 := by rw [str_size]; exact hz k hkl
      have hx : (str (joinTo sg l k)).size ≤ 1000000000000 := by rw [str_size]; exact HM.out k hk
      have z1 : ¬ 9223372036854775807 < (str (joinTo sg l k)).size + (str sg).size := by omega
      have z2 : ¬ 9223372036854775807 < (str (joinTo sg l k)).size + (str sg).size + (str (nthT l k)).size := by omega
      have z3 : ¬ 9223372036854775807 < (str (joinTo sg l k)).size + (str (nthT l k)).size := by omega
      cases k with
      | zero =>
        have HT : Hid ((⟨#[]⟩ : ByteArray) ++ str (nthT l 0) = str (joinTo sg l (0 + 1))) := by
          unfold Hid; rw [show (⟨#[]⟩ : ByteArray) = str [] from rfl, str_append2]; rfl
        have hem : str (joinTo sg l 0) = ⟨#[]⟩ := rfl
        rw [hem] at z3 ⊢
        have g0 : wr.cell? ⟨b, off, none⟩ = some (.string (str (nthT l 0))) := g1
        have hb2 : (0 : Int) < (n : Int) := by omega
        clear hc hkl hz hx z1 z2 hem HM g1 hb0 hb1
        generalize str (nthT l 0) = s1 at *
        go_wp2
        go_roundw
        case rel => exact ⟨0 + 1, by omega, by go_num, by first | rw [HT.out] | (rw [← HT.out]; simp), by first | rfl | trivial⟩
        case measure => simp [intOf]; omega
      | succ j =>
        have hj2 : (0 : Int) < (j : Int) + 1 := by omega
        have HT : Hid (str (joinTo sg l (j + 1)) ++ str sg ++ str (nthT l (j + 1)) = str (joinTo sg l (j + 1 + 1))) := by
          unfold Hid; rw [str_append2, str_append2, joinTo.eq_2 sg l (j + 1), if_neg (by omega)]
        clear hc hkl hz hx HM
        generalize str (joinTo sg l (j + 1)) = s0 at *
        generalize str (nthT l (j + 1)) = s1 at *
        go_wp2
        go_roundw
        case rel => exact ⟨j + 1 + 1, by omega, by go_num, by rw [HT.out], by first | rfl | trivial⟩
        case measure => simp [intOf]; omega
    · have hge : ¬ (k : Int) < (n : Int) := by omega
      have hkn : k = n := by omega
      subst hkn
      have HT : Hid (str (joinTo sg l k) = str (joinS sg l)) := by unfold Hid joinS; rw [HL.out]
      go_wp2
      go_ret
      exact ⟨ret_s HT.out, by first | rfl | trivial⟩
end Go.Proofs.YtgjmaeodgcigdabGreatDoor
namespace Go.Proofs.YtgjmaeodgcigdabGreatDoor

/-- one sign more -/
def cutStep (c : UInt8) (acc : List (List UInt8)) (x : UInt8) : List (List UInt8) := if x = c then acc ++ [[]] else acc.set (acc.length - 1) (nthT acc (acc.length - 1) ++ [x])
def cutL (c : UInt8) (l : List UInt8) : List (List UInt8) := l.foldl (cutStep c) [[]]
theorem cutStep_pos (c : UInt8) (acc : List (List UInt8)) (x : UInt8) (h : 0 < acc.length) : 0 < (cutStep c acc x).length := by
  unfold cutStep; split
  · simp
  · rw [List.length_set]; exact h
theorem cutL_snoc (c : UInt8) (l : List UInt8) (x : UInt8) : cutL c (l ++ [x]) = cutStep c (cutL c l) x := by unfold cutL; rw [List.foldl_append]; rfl
theorem cutL_take (c : UInt8) (l : List UInt8) (k : Nat) (h : k < l.length) : cutL c (l.take (k + 1)) = cutStep c (cutL c (l.take k)) (nth l k) := by
  rw [take_nth l k h, cutL_snoc]
theorem snoc_ind {P : List UInt8 → Prop} (h0 : P []) (h1 : ∀ l x, P l → P (l ++ [x])) (l : List UInt8) : P l := by
  have key : ∀ n, ∀ l : List UInt8, l.length = n → P l := by
    intro n
    induction n with
    | zero => intro l hl; rw [List.length_eq_zero_iff.1 hl]; exact h0
    | succ n ih =>
      intro l hl
      have hn : l ≠ [] := by rintro rfl; simp at hl
      rw [← List.dropLast_concat_getLast hn]
      exact h1 _ _ (ih _ (by rw [List.length_dropLast, hl]; rfl))
  exact key l.length l rfl
theorem cutL_pos (c : UInt8) (l : List UInt8) : 0 < (cutL c l).length := by
  induction l using snoc_ind with
  | h0 => exact Nat.zero_lt_one
  | h1 l x ih => rw [cutL_snoc]; exact cutStep_pos c _ x ih
theorem cutL_len (c : UInt8) (l : List UInt8) : (cutL c l).length ≤ l.length + 1 := by
  induction l using snoc_ind with
  | h0 => exact Nat.le_refl _
  | h1 l x ih =>
    rw [cutL_snoc]; unfold cutStep; split
    · simp; omega
    · rw [List.length_set]; simp; omega
/-- no part is longer than the whole -/
theorem cutL_part (c : UInt8) (l : List UInt8) : ∀ p ∈ cutL c l, p.length ≤ l.length := by
  induction l using snoc_ind with
  | h0 => intro p hp; rw [show cutL c [] = [[]] from rfl, List.mem_singleton] at hp; rw [hp]; exact Nat.le_refl _
  | h1 l x ih =>
    intro p hp
    have hpos := cutL_pos c l
    rw [cutL_snoc] at hp; unfold cutStep at hp
    rw [List.length_append]
    split at hp
    · rcases List.mem_append.1 hp with h | h
      · have := ih p h; omega
      · rw [List.mem_singleton.1 h]; simp
    · rcases List.mem_or_eq_of_mem_set hp with h | h
      · have := ih p h; omega
      · rw [h, List.length_append, nthT_eq _ _ (by omega)]
        have := ih _ (List.getElem_mem (l := cutL c l) (n := (cutL c l).length - 1) (by omega))
        simp; omega
theorem cutL_last (c : UInt8) (l : List UInt8) : (nthT (cutL c l) ((cutL c l).length - 1)).length ≤ l.length := by
  have hpos := cutL_pos c l
  rw [nthT_eq _ _ (by omega)]
  exact cutL_part c l _ (List.getElem_mem _)
end Go.Proofs.YtgjmaeodgcigdabGreatDoor
namespace Go.Proofs.YtgjmaeodgcigdabGreatDoor

/-- a path's bucket and key; none: it is no path -/
def pathL (l : List UInt8) : Option (List UInt8 × List UInt8) :=
  if l = [] ∨ ¬ nth l 0 = 47 then none
  else match decL (headL 47 (l.drop 1)), decL (tailL 47 (l.drop 1)) with
    | some b, some k => if b = [] ∧ ¬ k = [] then none else some (b, k)
    | _, _ => none
def pathB (l : List UInt8) : List UInt8 := ((pathL l).getD ([], [])).1
def pathK (l : List UInt8) : List UInt8 := ((pathL l).getD ([], [])).2
def pathC (l : List UInt8) : Int := if (pathL l).isSome then 0 else 13
theorem path_none {l : List UInt8} (h : pathL l = none) : pathB l = [] ∧ pathK l = [] ∧ pathC l = 13 := by
  unfold pathB pathK pathC; rw [h]; exact ⟨rfl, rfl, rfl⟩
theorem path_some {l b k : List UInt8} (h : pathL l = some (b, k)) : pathB l = b ∧ pathK l = k ∧ pathC l = 0 := by
  unfold pathB pathK pathC; rw [h]; exact ⟨rfl, rfl, rfl⟩

/-- one part more -/
def qStep (acc : Option (List Pr)) (p : List UInt8) : Option (List Pr) :=
  match acc with
  | none => none
  | some out => match decL (headL 61 p), decL (tailL 61 p) with
    | some n, some v => if n = [] ∨ (findL out n).isSome = true then none else some (out ++ [(n, v)])
    | _, _ => none
def queryL (l : List UInt8) : Option (List Pr) :=
  if l = [] then some [] else if 24 < (cutL 38 l).length then none else (cutL 38 l).foldl qStep (some [])
def queryC (l : List UInt8) : Int := if (queryL l).isSome then 0 else 13
def queryP (l : List UInt8) : List Pr := (queryL l).getD []
theorem qStep_none (ps : List (List UInt8)) : ps.foldl qStep none = none := by
  induction ps with
  | nil => rfl
  | cons p ps ih => exact ih
/-- so far out -/
def QTo (ps : List (List UInt8)) (out : List Pr) (k : Nat) : Prop := ps.foldl qStep (some []) = (ps.drop k).foldl qStep (some out)
theorem drop_nthT (l : List (List UInt8)) (k : Nat) (h : k < l.length) : l.drop k = nthT l k :: l.drop (k + 1) := by
  rw [nthT_eq l k h]; exact List.drop_eq_getElem_cons h
theorem QTo.zero (ps : List (List UInt8)) : QTo ps [] 0 := rfl
theorem QTo.next {ps : List (List UInt8)} {out out' : List Pr} {k : Nat} (h : QTo ps out k) (hk : k < ps.length) (hs : qStep (some out) (nthT ps k) = some out') : QTo ps out' (k + 1) := by
  unfold QTo at h ⊢
  rw [h, drop_nthT ps k hk, List.foldl_cons, hs]
theorem QTo.fail {ps : List (List UInt8)} {out : List Pr} {k : Nat} (h : QTo ps out k) (hk : k < ps.length) (hs : qStep (some out) (nthT ps k) = none) : ps.foldl qStep (some []) = none := by
  unfold QTo at h
  rw [h, drop_nthT ps k hk, List.foldl_cons, hs, qStep_none]
theorem QTo.done {ps : List (List UInt8)} {out : List Pr} {k : Nat} (h : QTo ps out k) (hk : ps.length ≤ k) : ps.foldl qStep (some []) = some out := by
  unfold QTo at h
  rw [h, List.drop_eq_nil_of_le hk]; rfl
theorem query_some {l : List UInt8} {ps : List Pr} (h : queryL l = some ps) : queryP l = ps ∧ queryC l = 0 := by unfold queryP queryC; rw [h]; exact ⟨rfl, rfl⟩
theorem query_none {l : List UInt8} (h : queryL l = none) : queryP l = [] ∧ queryC l = 13 := by unfold queryP queryC; rw [h]; exact ⟨rfl, rfl⟩
end Go.Proofs.YtgjmaeodgcigdabGreatDoor
namespace Go.Proofs.YtgjmaeodgcigdabGreatDoor

/-- a request -/
structure Rq where
  m : List UInt8
  p : List UInt8
  q : List UInt8
  hs : List Pr
  b : List UInt8
def Rq.none : Rq := ⟨[], [], [], [], []⟩
def http11 : List UInt8 := [72, 84, 84, 80, 47, 49, 46, 49]
def ctl : List UInt8 := [99, 111, 110, 116, 101, 110, 116, 45, 108, 101, 110, 103, 116, 104]
def methodL (l : List UInt8) : Bool := decide (l = [71, 69, 84] ∨ l = [80, 85, 84] ∨ l = [80, 79, 83, 84] ∨ l = [68, 69, 76, 69, 84, 69] ∨ l = [72, 69, 65, 68])
/-- the first line -/
def FirstOk (l : List UInt8) : Prop := hasL 32 l = true ∧ hasL 32 (tailL 32 l) = true ∧ tailL 32 (tailL 32 l) = http11 ∧ methodL (headL 32 l) = true ∧ ¬ headL 32 (tailL 32 l) = [] ∧ betwL 33 126 1024 (headL 32 (tailL 32 l)) = true
instance (l : List UInt8) : Decidable (FirstOk l) := by unfold FirstOk; exact inferInstance
def firM (l : List UInt8) : List UInt8 := if FirstOk l then headL 32 l else []
def firP (l : List UInt8) : List UInt8 := if FirstOk l then headL 63 (headL 32 (tailL 32 l)) else []
def firQ (l : List UInt8) : List UInt8 := if FirstOk l then tailL 63 (headL 32 (tailL 32 l)) else []
/-- one header more -/
def hdrN (h : List UInt8) : List UInt8 := smallL (headL 58 h)
def hdrV (h : List UInt8) : List UInt8 := trimL (tailL 58 h)
def HdrOk (acc : List Pr) (h : List UInt8) : Prop := hasL 58 h = true ∧ tokenL (hdrN h) = true ∧ valueL (hdrV h) = true ∧ (findL acc (hdrN h)).isSome = false ∧ acc.length < 24
instance (acc : List Pr) (h : List UInt8) : Decidable (HdrOk acc h) := by unfold HdrOk; exact inferInstance
/-- the headers, and what is behind the empty line -/
def hdrF : Nat → List Pr → List UInt8 → Option (List Pr × List UInt8)
  | 0, _, _ => none
  | f + 1, acc, s => match lineL s with
    | none => none
    | some (h, rest) => if h = [] then some (acc, rest) else if HdrOk acc h then hdrF f (acc ++ [(hdrN h, hdrV h)]) rest else none
def hdrL (acc : List Pr) (s : List UInt8) : Option (List Pr × List UInt8) := hdrF (s.length + 1) acc s
theorem hdrF_fuel (f : Nat) : ∀ (acc : List Pr) (s : List UInt8), s.length < f → hdrF f acc s = hdrF (s.length + 1) acc s := by
  induction f using Nat.strongRecOn with
  | _ f ih =>
    intro acc s hs
    cases f with
    | zero => omega
    | succ f =>
      rw [hdrF, hdrF]
      cases hl : lineL s with
      | none => rfl
      | some x =>
        obtain ⟨h, rest⟩ := x
        have hlen := line_length hl
        show (if h = [] then some (acc, rest) else if HdrOk acc h then hdrF f (acc ++ [(hdrN h, hdrV h)]) rest else none) = (if h = [] then some (acc, rest) else if HdrOk acc h then hdrF s.length (acc ++ [(hdrN h, hdrV h)]) rest else none)
        rw [ih f (by omega) _ rest (by omega), ih s.length (by omega) _ rest (by omega)]
theorem hdr_none {acc : List Pr} {s : List UInt8} (h : lineL s = none) : hdrL acc s = none := by unfold hdrL; rw [hdrF, h]
theorem hdr_end {acc : List Pr} {s rest : List UInt8} (h : lineL s = some ([], rest)) : hdrL acc s = some (acc, rest) := by unfold hdrL; rw [hdrF, h]; rfl
theorem hdr_bad {acc : List Pr} {s h rest : List UInt8} (h1 : lineL s = some (h, rest)) (h2 : ¬ h = []) (h3 : ¬ HdrOk acc h) : hdrL acc s = none := by
  unfold hdrL; rw [hdrF, h1]; simp only [if_neg h2, if_neg h3]
theorem hdr_next {acc : List Pr} {s h rest : List UInt8} (h1 : lineL s = some (h, rest)) (h2 : ¬ h = []) (h3 : HdrOk acc h) : hdrL acc s = hdrL (acc ++ [(hdrN h, hdrV h)]) rest := by
  have hlen := line_length h1
  unfold hdrL; rw [hdrF, h1]; simp only [if_neg h2, if_pos h3]
  exact hdrF_fuel _ _ _ (by omega)
/-- lengths that are told -/
def LenOk (hs : List Pr) (b : List UInt8) : Prop := match findL hs ctl with
  | some c => NumOk c 4096 ∧ valL c = b.length
  | none => b = []
open Classical in
/-- why there is no request, or nought; the request -/
noncomputable def parseL (b : List UInt8) : Int × Rq :=
  if 4096 < b.length then (3, Rq.none)
  else match lineL b with
    | none => (10, Rq.none)
    | some (l, s) => if ¬ FirstOk l then (10, Rq.none)
      else match hdrL [] s with
        | none => (11, Rq.none)
        | some (hs, body) => if ¬ (pathC (firP l) = 0 ∧ queryC (firQ l) = 0) then (13, Rq.none)
          else if LenOk hs body then (0, ⟨firM l, firP l, firQ l, hs, body⟩) else (12, Rq.none)
/-- a request's target; its bytes -/
def targL (r : Rq) : List UInt8 := if r.q = [] then r.p else r.p ++ [63] ++ r.q
def hline (p : Pr) : List UInt8 := p.1 ++ [58, 32] ++ p.2 ++ [13, 10]
def hlines (hs : List Pr) : List UInt8 := (hs.map hline).flatten
def rtext (r : Rq) : List UInt8 := r.m ++ [32] ++ targL r ++ [32] ++ http11 ++ [13, 10] ++ hlines r.hs ++ [13, 10] ++ r.b
def HsOk (p : Pr) : Prop := tokenL p.1 = true ∧ p.1 = smallL p.1 ∧ valueL p.2 = true
instance (p : Pr) : Decidable (HsOk p) := by unfold HsOk; exact inferInstance
def PathOk (r : Rq) : Prop := ¬ r.p = [] ∧ hasL 63 r.p = false ∧ betwL 33 126 1024 (r.p ++ r.q) = true ∧ (targL r).length ≤ 1024
instance (r : Rq) : Decidable (PathOk r) := by unfold PathOk; exact inferInstance
open Classical in
noncomputable def showL (r : Rq) : Int × List UInt8 :=
  if methodL r.m = false then (10, [])
  else if ¬ PathOk r then (13, [])
  else if ¬ (∀ p ∈ r.hs, HsOk p) then (11, [])
  else if (parseL (rtext r)).1 = 0 then (0, rtext r) else ((parseL (rtext r)).1, [])
/-- an answer's bytes -/
def ctline : List UInt8 := ctl ++ [58, 32]
def answerL (status : Int) (hs : List Pr) (b : List UInt8) : List UInt8 :=
  http11 ++ [32] ++ digitsL status.toNat ++ [13, 10] ++ hlines hs ++ ctline ++ digitsL b.length ++ [13, 10, 13, 10] ++ b
end Go.Proofs.YtgjmaeodgcigdabGreatDoor
namespace Go.Proofs.YtgjmaeodgcigdabGreatDoor

/-- encoded bytes are none of the signs that part pairs -/
theorem hexU_clean (n : Nat) (h : n < 16) : hexU n ≠ 38 ∧ hexU n ≠ 61 := by
  have : ∀ n : Nat, n < 16 → hexU n ≠ 38 ∧ hexU n ≠ 61 := by decide
  exact this n h
theorem enc_clean (x : List UInt8) : ∀ c ∈ encL false x, c ≠ 38 ∧ c ≠ 61 := by
  induction x with
  | nil => intro c hc; cases hc
  | cons a x ih =>
    intro c hc
    rw [encL, List.mem_append] at hc
    rcases hc with hc | hc
    · unfold enc1 at hc
      by_cases h : keptB false a = true
      · rw [if_pos h, List.mem_singleton] at hc
        subst hc
        constructor
        · rintro rfl; exact absurd h (by decide)
        · rintro rfl; exact absurd h (by decide)
      · rw [if_neg h] at hc
        have ha := a.toNat_lt
        simp only [List.mem_cons, List.not_mem_nil, or_false] at hc
        rcases hc with rfl | rfl | rfl
        · decide
        · exact hexU_clean _ (by omega)
        · exact hexU_clean _ (by omega)
    · exact ih c hc
/-- signs that don't part are gathered -/
theorem step_clean (c a : UInt8) (init : List (List UInt8)) (last : List UInt8) (h : a ≠ c) : cutStep c (init ++ [last]) a = init ++ [last ++ [a]] := by
  unfold cutStep
  rw [if_neg h, List.length_append, List.length_singleton, Nat.add_sub_cancel]
  have e : nthT (init ++ [last]) init.length = last := by
    rw [nthT_eq _ _ (by simp)]; simp
  rw [e, List.set_append_right _ _ (Nat.le_refl _), Nat.sub_self]; rfl
theorem fold_clean (c : UInt8) (x : List UInt8) : ∀ (init : List (List UInt8)) (last : List UInt8), (∀ a ∈ x, a ≠ c) → x.foldl (cutStep c) (init ++ [last]) = init ++ [last ++ x] := by
  induction x with
  | nil => intro init last _; simp
  | cons a x ih =>
    intro init last h
    rw [List.foldl_cons, step_clean c a init last (h a List.mem_cons_self), ih init (last ++ [a]) (fun b hb => h b (List.mem_cons_of_mem a hb))]
    simp
theorem cut_sep (c : UInt8) (y x : List UInt8) (h : ∀ a ∈ x, a ≠ c) : cutL c (y ++ [c] ++ x) = cutL c y ++ [x] := by
  unfold cutL
  rw [List.foldl_append, List.foldl_append]
  have e : [c].foldl (cutStep c) (y.foldl (cutStep c) [[]]) = y.foldl (cutStep c) [[]] ++ [[]] := by
    rw [List.foldl_cons, List.foldl_nil]; unfold cutStep; rw [if_pos rfl]
  rw [e, fold_clean c x _ [] h]; simp
theorem cut_one (c : UInt8) (x : List UInt8) (h : ∀ a ∈ x, a ≠ c) : cutL c x = [x] := by
  unfold cutL
  have := fold_clean c x [] [] h
  simpa using this
/-- a pair's text -/
def pt (p : Pr) : List UInt8 := p.1 ++ [61] ++ p.2
def CleanP (p : Pr) : Prop := (∀ c ∈ p.1, c ≠ 38 ∧ c ≠ 61) ∧ ∀ c ∈ p.2, c ≠ 38 ∧ c ≠ 61
theorem pt_clean {p : Pr} (h : CleanP p) : ∀ a ∈ pt p, a ≠ 38 := by
  intro a ha
  unfold pt at ha
  rw [List.mem_append, List.mem_append, List.mem_singleton] at ha
  rcases ha with (ha | rfl) | ha
  · exact (h.1 a ha).1
  · decide
  · exact (h.2 a ha).1
theorem cut_join (ps : List Pr) (h : ∀ i, i < ps.length → CleanP (nthP ps i)) (k : Nat) (hk : k + 1 ≤ ps.length) : cutL 38 (joinK ps (k + 1)) = (ps.take (k + 1)).map pt := by
  induction k with
  | zero =>
    have e : joinK ps (0 + 1) = pt (nthP ps 0) := by simp [joinK, pt]
    rw [e, cut_one 38 _ (pt_clean (h 0 (by omega))), take_nthP ps 0 (by omega)]; simp
  | succ k ih =>
    have e : joinK ps (k + 1 + 1) = joinK ps (k + 1) ++ [38] ++ pt (nthP ps (k + 1)) := by
      rw [joinK, if_pos (by omega)]; unfold pt; simp
    rw [e, cut_sep 38 _ _ (pt_clean (h (k + 1) (by omega))), ih (by omega), take_nthP ps (k + 1) (by omega), List.map_append]; rfl
theorem cut_joinL (ps : List Pr) (h : ∀ i, i < ps.length → CleanP (nthP ps i)) (hn : 0 < ps.length) : cutL 38 (joinL ps) = ps.map pt := by
  unfold joinL
  obtain ⟨k, hk⟩ : ∃ k, ps.length = k + 1 := ⟨ps.length - 1, by omega⟩
  rw [hk, cut_join ps h k (by omega), ← hk, List.take_length]
theorem head_pt {p : Pr} (h : CleanP p) : headL 61 (pt p) = p.1 ∧ tailL 61 (pt p) = p.2 := by
  have e : pt p = p.1 ++ 61 :: p.2 := by simp [pt]
  rw [e]
  have n1 : ∀ i (hi : i < p.1.length), nth (p.1 ++ 61 :: p.2) i = p.1[i] := by
    intro i hi
    unfold nth; rw [List.getD_eq_getElem?_getD, List.getElem?_append_left hi, List.getElem?_eq_getElem hi]; rfl
  have n2 : nth (p.1 ++ 61 :: p.2) p.1.length = 61 := by
    unfold nth; rw [List.getD_eq_getElem?_getD, List.getElem?_append_right (Nat.le_refl _), Nat.sub_self]; rfl
  have := head_at 61 (p.1 ++ 61 :: p.2) p.1.length (by simp) (fun i hi => by rw [n1 i hi]; exact (h.1 _ (List.getElem_mem _)).2) n2
  rw [this.1, this.2]
  constructor
  · simp
  · rw [← List.drop_drop]; simp

/-- pairs as a query may have them -/
structure GoodP (l : List Pr) : Prop where
  named : ∀ p ∈ l, p.1 ≠ []
  apart : l.Pairwise (fun a b => a.1 ≠ b.1)
theorem find_mem (l : List Pr) (h : l.Pairwise (fun a b => a.1 ≠ b.1)) (p : Pr) (hp : p ∈ l) : findL l p.1 = some p.2 := by
  induction l with
  | nil => cases hp
  | cons q l ih =>
    rw [List.pairwise_cons] at h
    unfold findL
    by_cases e : q.1 = p.1
    · rw [List.find?_cons_of_pos (by simpa using e)]
      rcases List.mem_cons.1 hp with rfl | hp'
      · rfl
      · exact absurd e (h.1 p hp')
    · rw [List.find?_cons_of_neg (by simpa using e)]
      rcases List.mem_cons.1 hp with rfl | hp'
      · exact absurd rfl e
      · exact ih h.2 hp'
theorem find_not (l : List Pr) (n : List UInt8) (h : ∀ p ∈ l, p.1 ≠ n) : findL l n = none := by
  unfold findL
  rw [List.find?_eq_none.2 (fun p hp => by simpa using h p hp)]; rfl
theorem find_some_mem {l : List Pr} {n : List UInt8} (h : (findL l n).isSome = true) : ∃ p ∈ l, p.1 = n := by
  unfold findL at h
  cases e : l.find? (fun p => p.1 == n) with
  | none => rw [e] at h; cases h
  | some p => exact ⟨p, List.mem_of_find?_eq_some e, by simpa using List.find?_some e⟩

/-- the parts of encoded pairs are read as the pairs -/
theorem fold_pts (m : List Pr) : ∀ out : List Pr, GoodP (out ++ m) → ((m.map encP).map pt).foldl qStep (some out) = some (out ++ m) := by
  induction m with
  | nil => intro out _; simp
  | cons p m ih =>
    intro out h
    have hc : CleanP (encP p) := ⟨enc_clean p.1, enc_clean p.2⟩
    obtain ⟨h1, h2⟩ := head_pt hc
    rw [List.map_cons, List.map_cons, List.foldl_cons]
    have hs : qStep (some out) (pt (encP p)) = some (out ++ [p]) := by
      unfold qStep
      have d1 : decL (headL 61 (pt (encP p))) = some p.1 := by rw [h1]; exact dec_enc false p.1
      have d2 : decL (tailL 61 (pt (encP p))) = some p.2 := by rw [h2]; exact dec_enc false p.2
      simp only [d1, d2]
      have hne : p.1 ≠ [] := h.named p (by simp)
      have hnf : findL out p.1 = none := by
        refine find_not out p.1 fun q hq => ?_
        have := h.apart
        rw [List.pairwise_append] at this
        exact this.2.2 q hq p List.mem_cons_self
      rw [if_neg (by rw [hnf]; simp [hne])]
    rw [hs, ih (out ++ [p]) (by rw [List.append_assoc]; exact h)]
    simp
theorem encP_inj {p q : Pr} (h : encP p = encP q) : p = q := by
  unfold encP at h
  injection h with h1 h2
  exact Prod.ext (encL_inj false _ _ h1) (encL_inj false _ _ h2)
theorem GoodP.perm {l m : List Pr} (h : GoodP l) (hp : m.Perm l) : GoodP m :=
  ⟨fun p hm => h.named p (hp.mem_iff.1 hm), (hp.symm.pairwise h.apart (fun hab => hab.symm))⟩
/-- sorted pairs, and what they stand for -/
theorem sort_back (l : List Pr) : ∃ m : List Pr, m.Perm l ∧ sortL l = m.map encP := by
  have hp := sortL_perm l
  have key : ∀ (xs ys : List Pr), xs.Perm (ys.map encP) → ∃ m : List Pr, m.Perm ys ∧ xs = m.map encP := by
    intro xs
    induction xs with
    | nil =>
      intro ys h
      have : ys = [] := by
        have := h.length_eq
        simp at this
        exact List.eq_nil_of_length_eq_zero this.symm
      subst this
      exact ⟨[], List.Perm.refl _, rfl⟩
    | cons x xs ih =>
      intro ys h
      have hx : x ∈ ys.map encP := h.mem_iff.1 List.mem_cons_self
      obtain ⟨p, hp, rfl⟩ := List.mem_map.1 hx
      have hy := List.perm_cons_erase hp
      have h2 : xs.Perm ((ys.erase p).map encP) := by
        have h3 := h.trans (hy.map encP)
        rw [List.map_cons] at h3
        exact List.Perm.cons_inv h3
      obtain ⟨m, hm, e⟩ := ih _ h2
      exact ⟨p :: m, (hm.cons p).trans hy.symm, by rw [e, List.map_cons]⟩
  exact key _ _ hp
theorem query_canon (l : List Pr) (h : GoodP l) (hn : 0 < l.length) (h24 : l.length ≤ 24) : ∃ m : List Pr, m.Perm l ∧ queryL (canonL l) = some m := by
  obtain ⟨m, hm, e⟩ := sort_back l
  refine ⟨m, hm, ?_⟩
  have hml : m.length = l.length := hm.length_eq
  have hcl : ∀ i, i < (m.map encP).length → CleanP (nthP (m.map encP) i) := by
    intro i hi
    rw [nthP_eq _ _ hi, List.getElem_map]
    exact ⟨enc_clean _, enc_clean _⟩
  have hcut : cutL 38 (canonL l) = (m.map encP).map pt := by
    unfold canonL; rw [e]; exact cut_joinL _ hcl (by rw [List.length_map]; omega)
  have hne : canonL l ≠ [] := by
    intro h0
    have hl := congrArg List.length hcut
    rw [h0] at hcut
    have h1 : [[]] = (m.map encP).map pt := hcut
    match m, hml with
    | [], hh => simp at hh; omega
    | p :: m', _ =>
      rw [List.map_cons, List.map_cons] at h1
      injection h1 with h1 _
      unfold pt at h1
      have := congrArg List.length h1
      simp at this
  unfold queryL
  rw [if_neg hne, hcut, if_neg (by simp; omega)]
  have := fold_pts m [] (by rw [List.nil_append]; exact h.perm hm)
  rw [this]; rfl
/-- what a query has been read as -/
theorem fold_good (ps : List (List UInt8)) : ∀ (out res : List Pr), GoodP out → ps.foldl qStep (some out) = some res → GoodP res ∧ res.length = out.length + ps.length := by
  induction ps with
  | nil =>
    intro out res h e
    injection e with e
    subst e
    exact ⟨h, rfl⟩
  | cons p ps ih =>
    intro out res h e
    rw [List.foldl_cons] at e
    cases hs : qStep (some out) p with
    | none => rw [hs, qStep_none] at e; cases e
    | some out' =>
      rw [hs] at e
      unfold qStep at hs
      cases d1 : decL (headL 61 p) with
      | none => simp only [d1] at hs; cases hs
      | some n =>
        cases d2 : decL (tailL 61 p) with
        | none => simp only [d1, d2] at hs; cases hs
        | some v =>
          simp only [d1, d2] at hs
          by_cases hc : n = [] ∨ (findL out n).isSome = true
          · rw [if_pos hc] at hs; cases hs
          · rw [if_neg hc] at hs
            injection hs with hs
            subst hs
            have hg : GoodP (out ++ [(n, v)]) := by
              constructor
              · intro q hq
                rcases List.mem_append.1 hq with hq | hq
                · exact h.named q hq
                · rw [List.mem_singleton.1 hq]; exact fun e0 => hc (.inl e0)
              · rw [List.pairwise_append]
                refine ⟨h.apart, List.pairwise_singleton _ _, fun a ha b hb => ?_⟩
                rw [List.mem_singleton.1 hb]
                intro e0
                apply hc
                right
                have e0' : a.1 = n := e0
                rw [← e0', find_mem out h.apart a ha]; rfl
            obtain ⟨r1, r2⟩ := ih _ _ hg e
            exact ⟨r1, by rw [r2]; simp; omega⟩
theorem query_good {s : List UInt8} {l : List Pr} (h : queryL s = some l) : GoodP l ∧ l.length ≤ 24 := by
  unfold queryL at h
  by_cases h0 : s = []
  · rw [if_pos h0] at h
    injection h with h
    subst h
    exact ⟨⟨fun p hp => (by cases hp), List.Pairwise.nil⟩, by simp⟩
  · rw [if_neg h0] at h
    by_cases h1 : 24 < (cutL 38 s).length
    · rw [if_pos h1] at h; cases h
    · rw [if_neg h1] at h
      obtain ⟨g, e⟩ := fold_good _ [] l ⟨fun p hp => (by cases hp), List.Pairwise.nil⟩ h
      exact ⟨g, by rw [e]; simp; omega⟩
end Go.Proofs.YtgjmaeodgcigdabGreatDoor
