/- Slices of texts in a world; names that are signed; texts joined. -/
import Derived.Test.YtgjmaeodgcigdaaGreatDoorB1
import Derived.Test.YtgjmaeodgcigdaaGreatDoorB2
import Derived.BigQuiet
import Derived.WalkLawsBesides
namespace Go.Proofs.YtgjmaeodgcigdaaGreatDoor
open Go.RowKit

/-- a slice of texts in a world -/
structure IsT (w : World) (a : Option Addr) (n cap : Nat) (l : List (List UInt8)) : Prop where
  len_eq : l.length = n
  le : n ≤ cap
  max : cap ≤ maxLen
  nil : a = none → cap = 0
  cells : 0 < n → ∃ b off, a = some ⟨b, off, none⟩ ∧ ∀ i, i < n → w.cell? ⟨b, off + i, none⟩ = some (.string (str (nthT l i)))
theorem IsT.below {w w' : World} {n m : Nat} {a : Option Addr} {cap : Nat} {l : List (List UInt8)} (h : IsT w a m cap l) (hb : Below n w w') (hn : n = w.heap.size) : IsT w' a m cap l :=
  ⟨h.len_eq, h.le, h.max, h.nil, fun hp => by
    obtain ⟨b, off, e, hc⟩ := h.cells hp
    refine ⟨b, off, e, fun i hi => ?_⟩
    have h1 := hc i hi
    have hlt : b < w.heap.size := cell_lt h1
    rw [hb.cell (p := ⟨b, off + i, none⟩) (by simpa [hn] using hlt)]
    exact h1⟩
theorem isT_nil (w : World) : IsT w none 0 0 [] := ⟨rfl, Nat.le_refl _, Nat.zero_le _, fun _ => rfl, fun h => absurd h (Nat.lt_irrefl 0)⟩
theorem OwnT.isT {w : World} {base : Nat} {v : Value} {l : List (List UInt8)} (h : OwnT w base v l) : ∃ a cap, v = .slice a l.length cap ∧ IsT w a l.length cap l := by
  by_cases hl : 0 < l.length
  · obtain ⟨g, cap, rfl, _⟩ := h.form hl
    obtain ⟨h1, h2⟩ := h.cap rfl
    exact ⟨_, cap, rfl, rfl, h1, h2, fun e => (by cases e), fun _ => ⟨g, 0, rfl, fun i hi => by rw [Nat.zero_add]; exact h.cellAt rfl i hi⟩⟩
  · have : l = [] := List.eq_nil_of_length_eq_zero (by omega)
    subst this
    rcases h.2 with ⟨rfl, _⟩ | ⟨g, cap, cur, rfl, _, _, h1, h2, _⟩
    · exact ⟨none, 0, rfl, isT_nil w⟩
    · exact ⟨_, cap, rfl, rfl, h1, h2, fun e => (by cases e), fun hp => absurd hp (Nat.lt_irrefl 0)⟩
theorem takeT (l : List (List UInt8)) (k : Nat) (h : k < l.length) : l.take (k + 1) = l.take k ++ [nthT l k] := by
  rw [nthT_eq l k h, ← List.take_append_getElem h]
/-- names that rise -/
def riseTo (l : List (List UInt8)) (k : Nat) : Bool := decide (∀ i, i < k → 0 < i → Op.bytesLess (nthT l (i - 1)) (nthT l i) = true)
def namesL (l : List (List UInt8)) : Bool := l.all snameL && riseTo l l.length && decide (1 ≤ l.length ∧ l.length ≤ 24)
theorem rise_zero (l : List (List UInt8)) : riseTo l 0 = true := decide_eq_true (fun _ hi => absurd hi (Nat.not_lt_zero _))
theorem rise_succ {l : List (List UInt8)} {k : Nat} (h : riseTo l k = true) (h1 : 0 < k → Op.bytesLess (nthT l (k - 1)) (nthT l k) = true) : riseTo l (k + 1) = true :=
  decide_eq_true fun i hi h0 => by
    rcases Nat.lt_or_ge i k with h2 | h2
    · exact of_decide_eq_true h i h2 h0
    · have : i = k := by omega
      subst this; exact h1 h0
theorem names_no1 {l : List (List UInt8)} {k : Nat} (hk : k < l.length) (h : snameL (nthT l k) = false) : namesL l = false := by
  have : l.all snameL = false := by
    rw [List.all_eq_false]
    exact ⟨nthT l k, by rw [nthT_eq l k hk]; exact List.getElem_mem hk, by rw [h]; simp⟩
  unfold namesL; rw [this]; rfl
theorem names_no2 {l : List (List UInt8)} {k : Nat} (hk : k < l.length) (h0 : 0 < k) (h : Op.bytesLess (nthT l (k - 1)) (nthT l k) = false) : namesL l = false := by
  have : riseTo l l.length = false := decide_eq_false fun h2 => by have := h2 k hk h0; rw [h] at this; cases this
  unfold namesL; rw [this]; simp
theorem ret_bb {a b : Bool} (h : a = b) : Ending.returned (.bool a) = .returned (.bool b) := by rw [h]

set_option maxRecDepth 20000 in
set_option maxHeartbeats 2000000 in
theorem refNames (a : Option Addr) (n cap : Nat) (l : List (List UInt8)) (w : World) (h : IsT w a n cap l) (hz : ∀ i, i < l.length → (nthT l i).length ≤ 140737488351232) :
    Calls Tryz.prog 40 #[.slice a n cap] w fun e w' => e = .returned (.bool (namesL l)) ∧ Below w.heap.size w w' := by
  have HL : Hid (l.length = n) := h.len_eq
  have H : Hid (IsT w a n cap l) := h
  have hn : n ≤ 9223372036854775807 := by have := h.le; have := h.max; unfold maxLen at this; omega
  clear h
  go_enter Tryz.func40, Tryz.ntmps40
  go_wp2
  go_loopw [3] (fun i wr => ∃ (k : Nat), k ≤ n ∧ i = .int .i64 k ∧ Hid ((l.take k).all snameL = true ∧ riseTo l k = true) ∧ Hid (Below w.heap.size w wr)) (fun i _ => n - (intOf i).toNat)
  case atStart => exact ⟨0, Nat.zero_le _, rfl, ⟨rfl, rise_zero l⟩, Below.refl _ _⟩
  case round =>
    obtain ⟨k, hk, rfl, HD, HW⟩ := hrel
    by_cases hlt : k < n
    · obtain ⟨b, off, rfl, hc⟩ := H.out.cells (by omega)
      have c1 := hc k hlt
      have g1 := (HW.out.cell (p := ⟨b, off + k, none⟩) (cell_lt c1)).trans c1
      have hb0 : (0 : Int) ≤ (k : Int) := by omega
      have hb1 : (k : Int) < (n : Int) := by omega
      have hkl : k < l.length := by rw [HL.out]; exact hlt
      have HN := fun w => refSName (nthT l k) w (hz k hkl)
      cases hs : snameL (nthT l k) with
      | false =>
        have HR : Hid (namesL l = false) := names_no1 hkl hs
        rw [hs] at HN
        clear hc c1 hkl HD
        generalize str (nthT l k) = s1 at *
        go_wp2
        go_quiet (first | (go_at_call 90; exact Calls.quiet_of_same (HN _)))
        go_wp2
        go_ret
        exact ⟨ret_bb HR.out.symm, bel_drewN HW.out _⟩
      | true =>
        rw [hs] at HN
        have HA : Hid ((l.take (k + 1)).all snameL = true) := by unfold Hid; rw [takeT l k hkl, List.all_append, HD.out.1]; simpa using hs
        cases k with
        | succ j =>
          have c2 := hc j (by omega)
          have g2 := (HW.out.cell (p := ⟨b, off + j, none⟩) (cell_lt c2)).trans c2
          have hj0 : (0 : Int) ≤ (j : Int) := by omega
          have hj1 : (j : Int) < (n : Int) := by omega
          have hj2 : (0 : Int) < (j : Int) + 1 := by omega
          cases hless : Op.bytesLess (nthT l j) (nthT l (j + 1)) with
          | false =>
            have hq : Op.bytesLess (str (nthT l j)).toList (str (nthT l (j + 1))).toList = false := by rw [str_toList, str_toList]; exact hless
            have HR : Hid (namesL l = false) := names_no2 hkl (Nat.succ_pos j) hless
            clear hc c1 c2 hkl HD HA hless
            generalize str (nthT l (j + 1)) = s1 at *
            generalize str (nthT l j) = s2 at *
            go_wp2
            go_quiet (first | (go_at_call 90; exact Calls.quiet_of_same (HN _)))
            go_wp2
            go_ret
            exact ⟨ret_bb HR.out.symm, bel_drewN HW.out _⟩
          | true =>
            have hq : Op.bytesLess (str (nthT l j)).toList (str (nthT l (j + 1))).toList = true := by rw [str_toList, str_toList]; exact hless
            have HR : Hid ((l.take (j + 1 + 1)).all snameL = true ∧ riseTo l (j + 1 + 1) = true) := ⟨HA.out, rise_succ HD.out.2 (fun _ => hless)⟩
            clear hc c1 c2 hkl HD HA hless
            generalize str (nthT l (j + 1)) = s1 at *
            generalize str (nthT l j) = s2 at *
            go_wp2
            go_quiet (first | (go_at_call 90; exact Calls.quiet_of_same (HN _)))
            go_wp2
            go_roundw
            case rel => exact ⟨j + 1 + 1, by omega, by go_num, HR, bel_drewN HW.out _⟩
            case measure => simp [intOf]; omega
        | zero =>
          have HR : Hid ((l.take (0 + 1)).all snameL = true ∧ riseTo l (0 + 1) = true) := ⟨HA.out, rise_succ HD.out.2 (fun h => absurd h (Nat.lt_irrefl 0))⟩
          have g0 : wr.cell? ⟨b, off, none⟩ = some (.string (str (nthT l 0))) := g1
          have hb2 : (0 : Int) < (n : Int) := by omega
          clear hc c1 hkl HD HA g1 hb0 hb1
          generalize str (nthT l 0) = s1 at *
          go_wp2
          go_quiet (first | (go_at_call 90; exact Calls.quiet_of_same (HN _)))
          go_wp2
          go_roundw
          case rel => exact ⟨0 + 1, by omega, by go_num, HR, bel_drewN HW.out _⟩
          case measure => simp [intOf]; omega
    · have hge : ¬ (k : Int) < (n : Int) := by omega
      have hkn : k = n := by omega
      subst hkn
      have HR : Hid (namesL l = decide (1 ≤ k ∧ k ≤ 24)) := by
        obtain ⟨h1, h2⟩ := HD.out
        rw [List.take_of_length_le (by rw [HL.out]; exact Nat.le_refl _)] at h1
        unfold Hid namesL; rw [h1, HL.out, h2]; rfl
      by_cases h1 : 1 ≤ k
      · by_cases h2 : k ≤ 24
        · have h1' : (1 : Int) ≤ (k : Int) := by omega
          have h2' : (k : Int) ≤ 24 := by omega
          have HV : Hid (namesL l = true) := by unfold Hid; rw [HR.out]; exact decide_eq_true ⟨h1, h2⟩
          go_wp2
          go_ret
          exact ⟨ret_bb HV.out.symm, HW.out⟩
        · have h1' : (1 : Int) ≤ (k : Int) := by omega
          have h2' : ¬ (k : Int) ≤ 24 := by omega
          have HV : Hid (namesL l = false) := by unfold Hid; rw [HR.out]; exact decide_eq_false (fun h => h2 h.2)
          go_wp2
          go_ret
          exact ⟨ret_bb HV.out.symm, HW.out⟩
      · have h1' : ¬ (1 : Int) ≤ (k : Int) := by omega
        have HV : Hid (namesL l = false) := by unfold Hid; rw [HR.out]; exact decide_eq_false (fun h => h1 h.1)
        go_wp2
        go_ret
        exact ⟨ret_bb HV.out.symm, HW.out⟩

/-- texts joined -/
def joinTo (sg : List UInt8) (l : List (List UInt8)) : Nat → List UInt8
  | 0 => []
  | k + 1 => joinTo sg l k ++ (if k = 0 then [] else sg) ++ nthT l k
def joinS (sg : List UInt8) (l : List (List UInt8)) : List UInt8 := joinTo sg l l.length
theorem joinTo_le (sg : List UInt8) (l : List (List UInt8)) (M : Nat) (hM : ∀ i, i < l.length → (nthT l i).length ≤ M) : ∀ k, k ≤ l.length → (joinTo sg l k).length ≤ k * (M + sg.length) := by
  intro k
  induction k with
  | zero => intro _; simp [joinTo]
  | succ k ih =>
    intro hk
    have h1 := ih (by omega)
    have h2 := hM k (by omega)
    rw [joinTo, List.length_append, List.length_append, Nat.add_mul, Nat.one_mul]
    by_cases h0 : k = 0
    · rw [if_pos h0]; simp only [List.length_nil]; omega
    · rw [if_neg h0]; omega

set_option maxRecDepth 20000 in
set_option maxHeartbeats 1000000 in
theorem refJoin (a : Option Addr) (n cap : Nat) (l : List (List UInt8)) (sg : List UInt8) (w : World) (h : IsT w a n cap l) (hn : n ≤ 1000) (hs : sg.length ≤ 1000) (hz : ∀ i, i < l.length → (nthT l i).length ≤ 1000000) :
    Calls Tryz.prog 46 #[.slice a n cap, .string (str sg)] w fun e w' => e = .returned (.string (str (joinS sg l))) ∧ w' = w := by
  have HL : Hid (l.length = n) := h.len_eq
  have H : Hid (IsT w a n cap l) := h
  have HM : Hid (∀ k, k ≤ n → (joinTo sg l k).length ≤ 1000000000000) := fun k hk => by
    have h1 := joinTo_le sg l 1000000 hz k (by rw [HL.out]; exact hk)
    have h2 : k * (1000000 + sg.length) ≤ 1000 * (1000000 + 1000) := Nat.mul_le_mul (by omega) (by omega)
    omega
  clear h
  have hsg : (str sg).size ≤ 1000 := by rw [str_size]; exact hs
  go_enter Tryz.func46, Tryz.ntmps46
  go_wp2
  go_loopw [5, 6] (fun v i wr => ∃ (k : Nat), k ≤ n ∧ i = .int .i64 k ∧ v = .string (str (joinTo sg l k)) ∧ wr = w) (fun _ i _ => n - (intOf i).toNat)
  case atStart => exact ⟨0, Nat.zero_le _, rfl, rfl, rfl⟩
  case round =>
    obtain ⟨k, hk, rfl, rfl, rfl⟩ := hrel
    by_cases hlt : k < n
    · obtain ⟨b, off, rfl, hc⟩ := H.out.cells (by omega)
      have g1 := hc k hlt
      have hb0 : (0 : Int) ≤ (k : Int) := by omega
      have hb1 : (k : Int) < (n : Int) := by omega
      have hkl : k < l.length := by rw [HL.out]; exact hlt
      have hy : (str (nthT l k)).size ≤ 1000000 := by rw [str_size]; exact hz k hkl
      have hx : (str (joinTo sg l k)).size ≤ 1000000000000 := by rw [str_size]; exact HM.out k hk
      have z1 : ¬ 9223372036854775807 < (str (joinTo sg l k)).size + (str sg).size := by omega
      have z2 : ¬ 9223372036854775807 < (str (joinTo sg l k)).size + (str sg).size + (str (nthT l k)).size := by omega
      have z3 : ¬ 9223372036854775807 < (str (joinTo sg l k)).size + (str (nthT l k)).size := by omega
      cases k with
      | zero =>
        have HT : Hid ((⟨#[]⟩ : ByteArray) ++ str (nthT l 0) = str (joinTo sg l (0 + 1))) := by
          unfold Hid; rw [show (⟨#[]⟩ : ByteArray) = str [] from rfl, str_append2]; rfl
        have hem : str (joinTo sg l 0) = ⟨#[]⟩ := rfl
        rw [hem] at z3 ⊢
        have g0 : wr.cell? ⟨b, off, none⟩ = some (.string (str (nthT l 0))) := g1
        have hb2 : (0 : Int) < (n : Int) := by omega
        clear hc hkl hz hx z1 z2 hem HM g1 hb0 hb1
        generalize str (nthT l 0) = s1 at *
        go_wp2
        go_roundw
        case rel => exact ⟨0 + 1, by omega, by go_num, by first | rw [HT.out] | (rw [← HT.out]; simp), by first | rfl | trivial⟩
        case measure => simp [intOf]; omega
      | succ j =>
        have hj2 : (0 : Int) < (j : Int) + 1 := by omega
        have HT : Hid (str (joinTo sg l (j + 1)) ++ str sg ++ str (nthT l (j + 1)) = str (joinTo sg l (j + 1 + 1))) := by
          unfold Hid; rw [str_append2, str_append2, joinTo.eq_2 sg l (j + 1), if_neg (by omega)]
        clear hc hkl hz hx HM
        generalize str (joinTo sg l (j + 1)) = s0 at *
        generalize str (nthT l (j + 1)) = s1 at *
        go_wp2
        go_roundw
        case rel => exact ⟨j + 1 + 1, by omega, by go_num, by rw [HT.out], by first | rfl | trivial⟩
        case measure => simp [intOf]; omega
    · have hge : ¬ (k : Int) < (n : Int) := by omega
      have hkn : k = n := by omega
      subst hkn
      have HT : Hid (str (joinTo sg l k) = str (joinS sg l)) := by unfold Hid joinS; rw [HL.out]
      go_wp2
      go_ret
      exact ⟨ret_s HT.out, by first | rfl | trivial⟩
end Go.Proofs.YtgjmaeodgcigdaaGreatDoor
