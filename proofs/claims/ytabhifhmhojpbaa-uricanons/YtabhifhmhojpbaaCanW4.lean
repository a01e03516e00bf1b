/- What UriCanons answers, of a slice of pairs. -/
import Derived.Test.YtabhifhmhojpbaaAlive4
import Derived.Test.YtabhifhmhojpbaaLawLight
import Derived.Test.YtabhifhmhojpbaaLawOwn
import Derived.Test.YtabhifhmhojpbaaCodCanon
import Derived.Test.YtabhifhmhojpbaaRefCanon
namespace Go.Proofs.Ytabhifhmhojpbaa
open Go.RowKit

theorem lightC (s t : ByteArray) (B : Nat) (W : World) (h : s.size + t.size ≤ 9223372036854775807) (h0 : W.cell? ⟨B, 0, none⟩ = some (.string s)) (h1 : W.cell? ⟨B, 1, none⟩ = some (.string t)) :
    Calls Try.prog 9 #[.slice (some ⟨B, 0, none⟩) 2 2] W fun e w' => e = .returned (.bool (decide (s.size + t.size ≤ 20000))) ∧ w' = W := by
  have hL := lawLight B [s, t] W (by simp) (by simpa [sumS] using h) (fun i hi => by
    have e : i = 0 ∨ i = 1 := by simp at hi; omega
    rcases e with rfl | rfl
    · exact h0
    · exact h1)
  have e : sumS [s, t] = s.size + t.size := by simp [sumS]
  rw [e] at hL
  exact hL

set_option maxHeartbeats 2000000 in
theorem canWalk (a : Option Addr) (n cap : Nat) (l : List Pr) (w : World) (h : IsP w a n cap l) (hz : ∀ i, i < l.length → (nthP l i).1.length ≤ 140737488351232 ∧ (nthP l i).2.length ≤ 140737488351232) :
    Calls Try.prog 6 #[.slice a n cap] w fun e w' => e = .returned (.bool true) ∧ Below w.heap.size w w' := by
  have HL : Hid (l.length = n) := h.len_eq
  have H : Hid (IsP w a n cap l) := h
  have HZ : Hid (∀ i, i < n → (nthP l i).1.length ≤ 140737488351232 ∧ (nthP l i).2.length ≤ 140737488351232) := fun i hi => hz i (by rw [HL.out]; exact hi)
  have hmx : n ≤ 9223372036854775807 := by have := h.le; have := h.max; unfold maxLen at this; omega
  clear h hz
  by_cases hn : n ≤ 50
  · have hn' : ¬ (50 : Int) < (n : Int) := by omega
    go_enter Try.func6, Try.ntmps6
    go_wp2
    go_loopw [3] (fun i wr => ∃ (k : Nat), k ≤ n ∧ i = .int .i64 k ∧ Hid (∀ i, i < k → (nthP l i).1.length + (nthP l i).2.length ≤ 20000) ∧ Below w.heap.size w wr) (fun i _ => n - (intOf i).toNat)
    case atStart => exact ⟨0, Nat.zero_le _, rfl, fun i hi => absurd hi (Nat.not_lt_zero _), Below.refl _ _⟩
    case round =>
      obtain ⟨k, hk, rfl, HD, hbel⟩ := hrel
      by_cases hlt : k < n
      · obtain ⟨b, off, rfl, hc⟩ := H.out.cells (by omega)
        obtain ⟨c1, c2⟩ := hc k hlt
        have gb : b < w.heap.size := cell_lt c1
        have g1 := (hbel.cell (p := ⟨b, off + k * 2, none⟩) gb).trans c1
        have g2 := (hbel.cell (p := ⟨b, off + k * 2 + 1, none⟩) gb).trans c2
        have gz : b < wr.heap.size := Nat.lt_of_lt_of_le gb hbel.size
        have hb0 : (0 : Int) ≤ (k : Int) := by omega
        have hb1 : (k : Int) < (n : Int) := by omega
        obtain ⟨z1, z2⟩ := HZ.out k hlt
        have HLt := fun B W => lightC (str (nthP l k).1) (str (nthP l k).2) B W (by rw [str_size, str_size]; omega)
        rw [str_size, str_size] at HLt
        have HN : Hid ((nthP l k).1.length + (nthP l k).2.length ≤ 20000 → ∀ i, i < k + 1 → (nthP l i).1.length + (nthP l i).2.length ≤ 20000) := fun h i hi => by
          rcases Nat.lt_or_ge i k with h1 | h1
          · exact HD.out i h1
          · have : i = k := by omega
            subst this; exact h
        have HBd := fun (o : Obj) => ((Below.refl wr.heap.size wr).alloc (Nat.le_refl _) o).drew
        clear hc c1 c2 z1 z2
        generalize (nthP l k).1.length + (nthP l k).2.length = m at *
        generalize str (nthP l k).1 = s1 at *
        generalize str (nthP l k).2 = s2 at *
        by_cases hm : m ≤ 20000
        · have HN' : Hid (∀ i, i < k + 1 → (nthP l i).1.length + (nthP l i).2.length ≤ 20000) := HN.out hm
          rw [decide_eq_true hm] at HLt
          clear HN hm HD
          go_wp2_with fail
          go_region_held3 (fun w' => w'.cell? ⟨b, off + k * 2, none⟩ = some (.string s1) ∧ w'.cell? ⟨b, off + k * 2 + 1, none⟩ = some (.string s2))
            (first | (exact ⟨((HBd _).cell (p := ⟨b, off + k * 2, none⟩) gz).trans g1, ((HBd _).cell (p := ⟨b, off + k * 2 + 1, none⟩) gz).trans g2⟩) | exact ⟨g1, g2⟩ | go_keep)
            ((go_at_call 9; refine (HLt _ _ (by exact (Blk.newAt wr _ 9 _ [.string s1, .string s2] rfl rfl).cell 0) (by exact (Blk.newAt wr _ 9 _ [.string s1, .string s2] rfl rfl).cell 1)).mono ?_; rintro e w' ⟨rfl, hww⟩; rw [hww]; clear hww w'))
          all_goals
            go_wp2
            go_roundw
            case rel => exact ⟨k + 1, by omega, by go_num, HN', hbel.trans ((HBd _).mono hbel.size)⟩
            case measure => simp [intOf]; omega
        · rw [decide_eq_false hm] at HLt
          clear HN hm HD
          go_wp2_with fail
          go_region_held3 (fun w' => w'.cell? ⟨b, off + k * 2, none⟩ = some (.string s1) ∧ w'.cell? ⟨b, off + k * 2 + 1, none⟩ = some (.string s2))
            (first | (exact ⟨((HBd _).cell (p := ⟨b, off + k * 2, none⟩) gz).trans g1, ((HBd _).cell (p := ⟨b, off + k * 2 + 1, none⟩) gz).trans g2⟩) | exact ⟨g1, g2⟩ | go_keep)
            ((go_at_call 9; refine (HLt _ _ (by exact (Blk.newAt wr _ 9 _ [.string s1, .string s2] rfl rfl).cell 0) (by exact (Blk.newAt wr _ 9 _ [.string s1, .string s2] rfl rfl).cell 1)).mono ?_; rintro e w' ⟨rfl, hww⟩; rw [hww]; clear hww w'))
          all_goals
            go_wp2_with (go_at_call 12; refine (lawAlive _).mono ?_; rintro e x4 ⟨rfl, c4⟩)
            go_ret
            have T1 := hbel.trans ((HBd (.cells #[.string s1, .string s2] 9)).mono hbel.size)
            exact ⟨rfl, T1.trans (c4.mono T1.size)⟩
      · have ek : k = n := by omega
        subst ek
        have hge : ¬ (k : Int) < (k : Int) := by omega
        have hm : ∀ p ∈ l, p.1.length ≤ 20000 ∧ p.2.length ≤ 20000 := by
          intro p hp
          obtain ⟨i, hi, e⟩ := List.getElem_of_mem hp
          have := HD.out i (by rw [← HL.out]; exact hi)
          rw [nthP_eq _ _ hi, e] at this
          omega
        have HM : Hid (∀ p ∈ l, p.1.length ≤ 20000 ∧ p.2.length ≤ 20000) := hm
        have H1 : Hid (IsP wr a k cap l) := H.out.below hbel rfl
        clear hm HD HZ H
        go_wp2_with fail
        refine (lawOwn a k cap l wr H1.out (by omega)).mono ?_
        rintro e x1 ⟨v, rfl, hown, c1⟩
        have T1 := hbel.trans (c1.mono hbel.size)
        have H2 : Hid (IsP x1 a k cap l) := H1.out.below c1 rfl
        obtain ⟨a', cap', rfl, hi⟩ := hown.isP
        rw [HL.out] at hi ⊢
        have HI : Hid (IsP x1 a' k cap' l) := hi
        clear H1 c1 hown hi hbel
        go_wp2_with fail
        refine (codCanon a' k cap' l x1 HI.out hn HM.out).mono ?_
        rintro e x2 ⟨rfl, c2⟩
        have T2 := T1.trans (c2.mono T1.size)
        have H3 : Hid (IsP x2 a k cap l) := H2.out.below c2 rfl
        clear c2 HI H2 T1
        go_wp2_with fail
        refine (refCanon a k cap l x2 H3.out hn HM.out).mono ?_
        rintro e x3 ⟨rfl, c3⟩
        have T3 := T2.trans (c3.mono T2.size)
        clear c3 H3 T2
        generalize str (canonL l) = s at *
        go_wp2_with fail
        refine (lawAlive x3).mono ?_
        rintro e x4 ⟨rfl, c4⟩
        go_wp2_with fail
        go_ret
        exact ⟨rfl, T3.trans (c4.mono T3.size)⟩
  · have hn' : (50 : Int) < (n : Int) := by omega
    go_enter Try.func6, Try.ntmps6
    go_wp2_with (go_at_call 12; refine (lawAlive _).mono ?_; rintro e x4 ⟨rfl, c4⟩)
    go_ret
    exact ⟨rfl, c4⟩
end Go.Proofs.Ytabhifhmhojpbaa
