/- The document's reader: Bool, where one is read. -/
import Derived.Test.YtonndplenacgjaaRefRdr3
namespace Go.Proofs.Ytonndplenacgjaa
open Go.RowKit
attribute [local go_sem ↓] Go.wp_at_zero Go.wp_at_succ

set_option maxRecDepth 20000 in
set_option maxHeartbeats 1500000 in
theorem xBoolF (X : Nat) (a : Option Addr) (len cap : Nat) (l : List UInt8) (k : Nat) (bad : Bool) (w : World) (h : IsX w X a len cap l k bad) (hok : okT (l.drop k) bad = true) (ht : (nth (l.drop k) 0 == 116) = false) :
    Calls Try.prog 29 #[.pointer (some ⟨X, 0, none⟩)] w fun e w' => e = .returned (.bool (nth (l.drop k) 0 == 116)) ∧ IsX w' X a len cap l (k + 1) false ∧ w.grownBy w' (some X) := by
  have hbr : bad = false := by cases bad <;> simp [okT] at hok ⊢
  subst hbr
  have H : Hid (IsX w X a len cap l k false) := h
  obtain ⟨hb, hi, hne, hk⟩ := h
  have c0 := hb.cell 0
  have c1 := hb.cell 1
  have c2 := hb.cell 2
  have f1 := hb.frozen 1
  have hmx := hi.max
  have hle := hi.le
  unfold maxLen at hmx
  have HI : Hid (IsB w a len cap l) := hi
  simp only [xcell, List.getElem?_cons_zero, List.getElem?_cons_succ] at c0 c1 c2
  have hm : nth l k = 116 ∨ nth l k = 102 := by
    have := hok
    unfold okT at this
    rw [nth_drop, Nat.add_zero] at this
    simpa using this
  have hkl : k < len := by
    rcases Nat.lt_or_ge k len with h0 | h0
    · exact h0
    · have e : nth l k = 0 := by
        unfold nth; rw [List.getD_eq_getElem?_getD, List.getElem?_eq_none (by rw [hi.len_eq]; exact h0)]; rfl
      rw [e] at hm
      rcases hm with hm | hm <;> exact absurd hm (by decide)
  obtain ⟨b, off, rfl, hc⟩ := HI.out.cells (by omega)
  have g := hc k (by omega)
  have hbX : b ≠ X := hne (by omega) _ rfl
  have hlt : (k : Int) < (len : Int) := by omega
  have hge : decide (len ≤ k) = false := decide_eq_false (by omega)
  rw [nth_drop, Nat.add_zero] at ht ⊢
  clear hc hok hb hi hne
  have HX : ∀ n, Hid (IsX ((w.drewN n).setCell ⟨X, 1, none⟩ (.int .i64 ((k : Int) + 1))) X (some ⟨b, off, none⟩) len cap l (k + 1) false) := fun n => by
    have := (H.out.drewN n).at (k + 1) (by omega)
    rw [show ((k + 1 : Nat) : Int) = (k : Int) + 1 by omega] at this
    exact this
  have hY : (((nth l k).toNat : Int) != 116) = !(nth l k == 116) ∧ (((nth l k).toNat : Int) == 116) = (nth l k == 116) := by
    rcases hm with hm | hm <;> rw [hm] <;> decide
  have hY2 : (((nth l k).toNat : Int) != 116) = true → (((nth l k).toNat : Int) != 102) = false := by
    rcases hm with hm | hm <;> rw [hm] <;> decide
  clear hm
  generalize (nth l k == 116) = t at *
  generalize ((nth l k).toNat : Int) = Y at *
  obtain ⟨q1, q2⟩ := hY
  subst ht
  have q3 := hY2 q1
  have q1' : (Y != 116) = true := q1
  clear hY2 q1
  go_enter Try.func29, Try.ntmps29
  go_wp2
  go_quiet (fail)
  go_wp2
  have HX1 := HX nq
  have G1 : w.grownBy ((w.drewN nq).setCell ⟨X, 1, none⟩ (.int .i64 ((k : Int) + 1))) (some X) := gr_trans (gr_drewN w nq _) (gr_set _ _ _ _)
  have g2 : ((w.drewN nq).setCell ⟨X, 1, none⟩ (.int .i64 ((k : Int) + 1))).cell? ⟨b, off + k, none⟩ = some (.int .u8 Y) := by
    rw [World.cell?_setCell_other _ _ _ _ (fun e' => hbX (by injection e' with e1; exact e1.symm))]
    exact g
  generalize (w.drewN nq).setCell ⟨X, 1, none⟩ (.int .i64 ((k : Int) + 1)) = w2 at *
  have d0 := HX1.out.1.cell 0
  have d1 := HX1.out.1.cell 1
  simp only [xcell, List.getElem?_cons_zero, List.getElem?_cons_succ] at d0 d1
  rw [show ((k + 1 : Nat) : Int) = (k : Int) + 1 by omega] at d1
  clear HX c0 c1 c2 g f1
  go_quiet (fail)
  go_wp2
  go_ret
  exact ⟨rfl, HX1.out.drewN _, gr_trans G1 (gr_drewN _ _ _)⟩
end Go.Proofs.Ytonndplenacgjaa
