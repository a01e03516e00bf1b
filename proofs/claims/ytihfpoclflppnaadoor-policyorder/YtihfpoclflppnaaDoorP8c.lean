/- What policy.Match answers. -/
import Derived.Test.YtihfpoclflppnaaDoorB26
import Derived.Test.YtihfpoclflppnaaDoorB2
namespace Go.Proofs.YtihfpoclflppnaaDoor
open Go.RowKit

set_option maxRecDepth 20000 in
set_option maxHeartbeats 4000000 in
theorem codMatch8 (P S : List UInt8) (w : World) (hp : P.length ≤ 10000000) (hs : S.length ≤ 10000000) :
    Calls Tryd.prog 18 #[.string (str P), .string (str S)] w fun e w' => e = .returned (.bool (matL P S)) ∧ Below w.heap.size w w' := by
  have HZp : Hid ((str P).size = P.length) := str_size P
  have HSp : Hid ((str P).data.toList = P) := str_list P
  have HZs : Hid ((str S).size = S.length) := str_size S
  have HSs : Hid ((str S).data.toList = S) := str_list S
  generalize str P = pt at *
  generalize str S = s at *
  have hp7 : pt.size ≤ 10000000 := by rw [HZp.out]; exact hp
  have hs7 : s.size ≤ 10000000 := by rw [HZs.out]; exact hs
  clear hp hs
  go_enter Tryd.func18, Tryd.ntmps18
  go_wp2
  go_loopw [5, 6, 7, 8] (fun a b c d wr => ∃ (p i sn fr : Nat), a = .int .i64 (p : Int) ∧ b = .int .i64 (i : Int) ∧ c = .int .i64 (sn : Int) ∧ d = .int .i64 (fr : Int) ∧ Hid (GS P S p i ((sn : Int) - 1) fr) ∧ p ≤ pt.size ∧ i ≤ s.size ∧ fr ≤ i ∧ sn ≤ 10000001 ∧ Below w.heap.size w wr) (fun a _ _ d _ => gsM P S (intOf a).toNat (intOf d).toNat)
  case atStart => exact ⟨0, 0, 0, 0, rfl, rfl, rfl, rfl, .inl ⟨rfl, rfl, G0.start P S⟩, Nat.zero_le _, Nat.zero_le _, Nat.le_refl _, by omega, Below.refl _ _⟩
  case round =>
    obtain ⟨p, i, sn, fr, rfl, rfl, rfl, rfl, hG, hpl, hil, hfi, hs2, hbel⟩ := hrel
    by_cases hlt : i < s.size
    · have hlt' : (i : Int) < (s.size : Int) := by omega
      have HiS : Hid (i < S.length) := by unfold Hid; rw [← HZs.out]; exact hlt
      have hixs := fun u => ixs s (i : Int) (by omega) hlt' u
      have hcs : sb s (i : Int) = nth S i := by unfold sb; rw [Int.toNat_natCast, HSs.out]
      rw [hcs] at hixs
      clear hcs
      by_cases hpp : p < pt.size
      · have hpp' : (p : Int) < (pt.size : Int) := by omega
        have HpP : Hid (p < P.length) := by unfold Hid; rw [← HZp.out]; exact hpp
        have hix := fun u => ixs pt (p : Int) (by omega) hpp' u
        have hcp : sb pt (p : Int) = nth P p := by unfold sb; rw [Int.toNat_natCast, HSp.out]
        rw [hcp] at hix
        clear hcp
        by_cases h42 : nth P p = 42
        · have hz : ((nth P p).toNat : Int) = 42 := by rw [h42]; rfl
          have HX : Hid (GS P S (p + 1) i (((p + 1 : Nat) : Int) - 1) i) := by have := hG.out.star HpP.out h42; rw [show (((p + 1 : Nat) : Int) - 1) = (p : Int) by omega]; exact this
          have HMs : Hid (gsM P S (p + 1) i < gsM P S p fr) := gsM_star P S p i fr HpP.out hfi
          clear hG h42
          go_wp2
          exact ⟨⟨p + 1, i, p + 1, i, by go_num, by go_num, by go_num, by go_num, HX, by omega, by omega, by omega, by omega, hbel⟩, gsM_fits (by simp [intOf]) (by simp [intOf]) (by simp [intOf]) (by simp [intOf]) HMs.out⟩
        · have hz : ((((nth P p).toNat : Int)) == 42) = false := by
            rw [beq_eq_false_iff_ne]; intro h; exact h42 ((toNat8_inj _ 42).1 h)
          have hz' : ¬ ((nth P p).toNat : Int) = 42 := fun h => h42 ((toNat8_inj _ 42).1 h)
          by_cases h63 : nth P p = 63
          · have hy : ((nth P p).toNat : Int) = 63 := by rw [h63]; rfl
            have HX : Hid (GS P S (p + 1) (i + 1) ((sn : Int) - 1) fr) := hG.out.step HpP.out HiS.out h42 (.inl h63)
            have HMs : Hid (gsM P S (p + 1) fr < gsM P S p fr) := gsM_step P S p fr HpP.out
            clear hG h42 h63 hz hz'
            go_wp2
            go_quiet (fail)
            have T2 : Below w.heap.size w (wr.drewN nq) := bel_drewN hbel nq
            generalize wr.drewN nq = x2 at *
            go_wp2
            exact ⟨⟨p + 1, i + 1, sn, fr, by go_num, by go_num, by go_num, by go_num, HX, by omega, by omega, by omega, by omega, T2⟩, gsM_fits (by simp [intOf]) (by simp [intOf]) (by simp [intOf]) (by simp [intOf]) HMs.out⟩
          · have hy : ((((nth P p).toNat : Int)) == 63) = false := by
              rw [beq_eq_false_iff_ne]; intro h; exact h63 ((toNat8_inj _ 63).1 h)
            have hy' : ¬ ((nth P p).toNat : Int) = 63 := fun h => h63 ((toNat8_inj _ 63).1 h)
            by_cases hE : nth P p = nth S i
            · have HX : Hid (GS P S (p + 1) (i + 1) ((sn : Int) - 1) fr) := hG.out.step HpP.out HiS.out h42 (.inr hE)
              have HMs : Hid (gsM P S (p + 1) fr < gsM P S p fr) := gsM_step P S p fr HpP.out
              rw [← hE] at hixs
              clear hG h42 h63 hE
              generalize (nth P p).toNat = cc at *
              go_wp2
              go_quiet (fail)
              have T2 : Below w.heap.size w (wr.drewN nq) := bel_drewN hbel nq
              generalize wr.drewN nq = x2 at *
              go_wp2
              exact ⟨⟨p + 1, i + 1, sn, fr, by go_num, by go_num, by go_num, by go_num, HX, by omega, by omega, by omega, by omega, T2⟩, gsM_fits (by simp [intOf]) (by simp [intOf]) (by simp [intOf]) (by simp [intOf]) HMs.out⟩
            · have hx : ((((nth P p).toNat : Int)) == ((nth S i).toNat : Int)) = false := by
                rw [beq_eq_false_iff_ne]; intro h; exact hE ((toNat8_inj _ _).1 h)
              have hx' : ¬ ((nth P p).toNat : Int) = ((nth S i).toNat : Int) := fun h => hE ((toNat8_inj _ _).1 h)
              have hno : p < P.length → nth P p ≠ 42 ∧ ¬ (nth P p = 63 ∨ nth P p = nth S i) := fun _ => ⟨h42, fun h => h.elim h63 hE⟩
              rcases hG.out.num with e | ⟨q, e, hq⟩
              · have e0 : sn = 0 := by omega
                subst e0
                have HV : Hid (matL P S = false) := GS.fail (by have := hG.out; rw [show (((0 : Nat) : Int) - 1) = -1 by omega] at this; exact this) HiS.out hno
                clear hG hs2 hno h42 h63 hE
                go_wp2
                go_quiet (fail)
                have T2 : Below w.heap.size w (wr.drewN nq) := bel_drewN hbel nq
                generalize wr.drewN nq = x2 at *
                go_wp2
                go_ret
                exact ⟨ret_b HV.out.symm, T2⟩
              · have e0 : sn = q + 1 := by omega
                subst e0
                have hG2 : GS P S p i (q : Int) fr := by have := hG.out; rw [show (((q + 1 : Nat) : Int) - 1) = (q : Int) by omega] at this; exact this
                have hqb := (hG2.back HiS.out hno).2
                have HX : Hid (GS P S (q + 1) (fr + 1) (((q + 1 : Nat) : Int) - 1) (fr + 1)) := by have := (hG2.back HiS.out hno).1; rw [show (((q + 1 : Nat) : Int) - 1) = (q : Int) by omega]; exact this
                have HMs : Hid (gsM P S (q + 1) (fr + 1) < gsM P S p fr) := gsM_back P S p q fr (by have := HiS.out; omega)
                have hq0 : (0 : Int) < ((q + 1 : Nat) : Int) := by omega
                have hqp : q + 1 ≤ pt.size := by rw [HZp.out]; exact hqb
                clear hG hG2 hq hqb hs2 hno h42 h63 hE
                go_wp2
                go_quiet (fail)
                have T2 : Below w.heap.size w (wr.drewN nq) := bel_drewN hbel nq
                generalize wr.drewN nq = x2 at *
                go_wp2
                exact ⟨⟨q + 1, fr + 1, q + 1, fr + 1, by go_num, by go_num, by go_num, by go_num, HX, by omega, by omega, by omega, by omega, T2⟩, gsM_fits (by simp [intOf]) (by simp [intOf]) (by simp [intOf]) (by simp [intOf]) HMs.out⟩
      · have hpp' : ¬ (p : Int) < (pt.size : Int) := by omega
        have hno : p < P.length → nth P p ≠ 42 ∧ ¬ (nth P p = 63 ∨ nth P p = nth S i) := fun h => absurd h (by rw [← HZp.out]; exact hpp)
        rcases hG.out.num with e | ⟨q, e, hq⟩
        · have e0 : sn = 0 := by omega
          subst e0
          have HV : Hid (matL P S = false) := GS.fail (by have := hG.out; rw [show (((0 : Nat) : Int) - 1) = -1 by omega] at this; exact this) HiS.out hno
          clear hG hs2 hno
          go_wp2
          go_quiet (fail)
          have T2 : Below w.heap.size w (wr.drewN nq) := bel_drewN hbel nq
          generalize wr.drewN nq = x2 at *
          go_wp2
          go_ret
          exact ⟨ret_b HV.out.symm, T2⟩
        · have e0 : sn = q + 1 := by omega
          subst e0
          have hG2 : GS P S p i (q : Int) fr := by have := hG.out; rw [show (((q + 1 : Nat) : Int) - 1) = (q : Int) by omega] at this; exact this
          have hqb := (hG2.back HiS.out hno).2
          have HX : Hid (GS P S (q + 1) (fr + 1) (((q + 1 : Nat) : Int) - 1) (fr + 1)) := by have := (hG2.back HiS.out hno).1; rw [show (((q + 1 : Nat) : Int) - 1) = (q : Int) by omega]; exact this
          have HMs : Hid (gsM P S (q + 1) (fr + 1) < gsM P S p fr) := gsM_back P S p q fr (by have := HiS.out; omega)
          have hq0 : (0 : Int) < ((q + 1 : Nat) : Int) := by omega
          have hqp : q + 1 ≤ pt.size := by rw [HZp.out]; exact hqb
          clear hG hG2 hq hqb hs2 hno
          go_wp2
          go_quiet (fail)
          have T2 : Below w.heap.size w (wr.drewN nq) := bel_drewN hbel nq
          generalize wr.drewN nq = x2 at *
          go_wp2
          exact ⟨⟨q + 1, fr + 1, q + 1, fr + 1, by go_num, by go_num, by go_num, by go_num, HX, by omega, by omega, by omega, by omega, T2⟩, gsM_fits (by simp [intOf]) (by simp [intOf]) (by simp [intOf]) (by simp [intOf]) HMs.out⟩
    · have hge : ¬ (i : Int) < (s.size : Int) := by omega
      have HD : Hid (Mt P S ↔ ∀ c ∈ P.drop p, c = 42) := hG.out.done (by rw [← HZs.out]; omega)
      have HX : pt.extract p pt.size = str (P.drop p) := by rw [ext_drop, HSp.out]
      have HT := fun W => codTrim8 (P.drop p) W (by rw [List.length_drop, ← HZp.out]; omega)
      have hem : (str (Lib.trimB (P.drop p) 42)).toList.isEmpty = (Lib.trimB (P.drop p) 42).isEmpty := str_empty _
      have HV : Hid (matL P S = (Lib.trimB (P.drop p) 42).isEmpty) := by
        unfold Hid
        cases hb : (Lib.trimB (P.drop p) 42).isEmpty with
        | true => exact HD.out.2 ((trim_empty _ _).1 hb)
        | false => exact matL_no fun h => by rw [(trim_empty _ _).2 (HD.out.1 h)] at hb; cases hb
      have hpl2 : (p : Int) ≤ (pt.size : Int) := by omega
      rw [← HX] at HT
      clear hG HD HX
      generalize (Lib.trimB (P.drop p) 42).isEmpty = bb at *
      generalize str (Lib.trimB (P.drop p) 42) = tt at *
      go_wp2_with (go_at_call 33; refine (HT _).mono ?_; rintro e x1 ⟨rfl, hbx⟩)
      go_ret
      exact ⟨ret_b HV.out.symm, hbel.trans (hbx.mono hbel.size)⟩
end Go.Proofs.YtihfpoclflppnaaDoor
