/- The walk of PolicyBack. -/
import Derived.Test.YtihfpoclflppnaaDoorLaw8p
namespace Go.Proofs.YtihfpoclflppnaaDoor
open Go.RowKit

theorem par_small {s : List UInt8} (h : parOk s = true) : SmallR (parR s) ∧ (parR s).length ≤ 1000 ∧ shoT (parR s) = s ∧ shoE (parR s) = 0 := by
  obtain ⟨h1, h2⟩ := sho_par s h
  have e1 : shoT (parR s) = s := by unfold shoT; rw [if_pos h1, h2]
  have e2 : shoE (parR s) = 0 := by unfold shoE; rw [if_pos h1]
  refine ⟨fun i hi => ?_, ?_, e1, e2⟩
  · unfold shoOk at h1
    rw [Bool.and_eq_true, List.all_eq_true] at h1
    have hw := h1.1 (nthR (parR s) i) (by rw [nthR_eq _ i hi]; exact List.getElem_mem hi)
    unfold wordsR at hw
    rw [Bool.and_eq_true, Bool.and_eq_true] at hw
    have a1 := wordL_len hw.1.1
    have a2 := wordL_len hw.1.2
    have a3 := wordL_len hw.2
    omega
  · unfold parR
    rw [if_pos h]
    split
    · simp
    · unfold partsOf; rw [List.length_map, List.length_map]
      have := cutL_len 59 s
      have h160 : s.length ≤ 160 := by unfold parOk at h; rw [Bool.and_eq_true, decide_eq_true_iff] at h; exact h.1
      omega

set_option maxRecDepth 20000 in
set_option maxHeartbeats 8000000 in
theorem walkBack8_yy (s : List UInt8) (a : Option Addr) (n cap : Nat) (l : List Ru) (w : World) (hr : IsRs w a n cap l) (hrr : ReachR l) (hnb : n ≤ 140737488351232) (hm : MxS w) (zs : s.length ≤ 140737488351232) (hb : lightL l [s] = true) (hP : parOk s = true) (hO : shoOk l = true) :
    Calls Tryd.prog 6 #[.string (str s), .slice a n cap] w fun e w' => e = .returned (.bool true) ∧ Below w.heap.size w w' := by
  have T0 : Below w.heap.size w (w.alloc (.cells #[.string (str s)] 9)) := (Below.refl _ w).alloc (Nat.le_refl _) _
  have HL := lawLight8 a n cap l _ _ _ [s] (w.alloc (.cells #[.string (str s)] 9)) (hr.below T0 rfl) (isTx_new w [s]) hrr (fun i hi => by
    obtain rfl : i = 0 := by have : i < 1 := hi; omega
    exact zs) (by simp) hnb
  change Calls Tryd.prog _ #[.slice a n cap, .slice (some ⟨w.heap.size, 0, none⟩) 1 1] _ _ at HL
  rw [hb] at HL
  have HM : Hid (∀ W, Below w.heap.size w W → MxS W) := fun W hW => hm.below hW hm.lt
  have HA := fun W (h : MxS W) => lawAlive8 W h
  have y1 := light_text hb (t := s) (by simp)
  have yl := light_len hb
  have ys := light_small hb
  have hlen : l.length = n := hr.len_eq
  subst hlen
  have P1 : Hid (∀ W, Below w.heap.size w W → Calls Tryd.prog 11 #[.string (str s)] W fun e w' => ∃ v, e = .returned (.tuple #[v, .int .i64 (parE s)]) ∧ OwnR 37 w' W.heap.size v (parR s) ∧ Below W.heap.size W w') := fun W hW => codParse8 s W (HM.out W hW) (by omega)
  have O1 : Hid (∀ W, Below w.heap.size w W → Calls Tryd.prog 14 #[.slice a l.length cap] W fun e w' => ∃ v, e = .returned v ∧ OwnR 37 w' W.heap.size v l ∧ Below W.heap.size W w') := fun W hW => lawOwn8 a l.length cap l W (hr.below hW rfl) (by omega)
  have S1 : Hid (∀ W a' cap', IsRs W a' l.length cap' l → Calls Tryd.prog 13 #[.slice a' l.length cap'] W fun e w' => e = .returned (.tuple #[.string (str (shoT l)), .int .i64 (shoE l)]) ∧ Below W.heap.size W w') := fun W a' cap' h => codShow8 a' l.length cap' l W h ys (by omega)
  have HRl : Hid (∀ W, Below w.heap.size w W → IsRs W a l.length cap l) := fun W hW => hr.below hW rfl
  obtain ⟨w1, w2, w3, w4⟩ := par_small hP
  have SP : Hid (∀ W a' cap', IsRs W a' (parR s).length cap' (parR s) → Calls Tryd.prog 13 #[.slice a' (parR s).length cap'] W fun e w' => e = .returned (.tuple #[.string (str s), .int .i64 0]) ∧ Below W.heap.size W w') := fun W a' cap' h => by
    have := codShow8 a' (parR s).length cap' (parR s) W h w1 (by omega)
    rw [w3, w4] at this; exact this
  have eE : parE s = 0 := by unfold parE; rw [if_pos hP]
  rw [eE] at P1
  clear w1 w3 w4 eE
  generalize parR s = R at *
  generalize hRn : R.length = m at *
  have HRN : Hid (R.length = m) := hRn
  have h2 := bne_same (str s).toList
  clear hRn
  have eT : shoT l = textR l := by unfold shoT; rw [if_pos hO]
  have eS : shoE l = 0 := by unfold shoE; rw [if_pos hO]
  obtain ⟨v1, v2⟩ := par_sho l hO
  have eP : parE (textR l) = 0 := by unfold parE; rw [if_pos v1]
  have hTl : (textR l).length ≤ 160 := by unfold shoOk at hO; rw [Bool.and_eq_true, decide_eq_true_iff] at hO; exact hO.2
  rw [eT, eS] at S1
  have P3 : Hid (∀ W, Below w.heap.size w W → Calls Tryd.prog 11 #[.string (str (textR l))] W fun e w' => ∃ v, e = .returned (.tuple #[v, .int .i64 0]) ∧ OwnR 37 w' W.heap.size v l ∧ Below W.heap.size W w') := fun W hW => by
    have := codParse8 (textR l) W (HM.out W hW) (by omega)
    rw [eP, v2] at this; exact this
  clear eT eS v1 v2 eP hTl
  generalize str (textR l) = st at *
  generalize hln : l.length = k0 at *
  have HLN : Hid (l.length = k0) := hln
  have h5 := bne_same (k0 : Int)
  generalize str s = ss at *
  clear hb hm y1 ys hrr hr hln hnb zs hP hO
  go_enter Tryd.func6, Tryd.ntmps6
  go_wp2_with fail
  refine HL.mono ?_
  rintro e x1 ⟨rfl, t1⟩
  have T1 := bel2 T0 t1
  go_wp2_with fail
  refine (P1.out _ T1).mono ?_
  rintro e x2 ⟨v2, rfl, o2, t2⟩
  have T2 := bel2 T1 t2
  obtain ⟨a2, c2, e2, i2⟩ := o2.isRs
  rw [HRN.out] at e2 i2
  subst e2
  clear o2 HL
  go_wp2_with fail
  refine (SP.out _ _ _ i2).mono ?_
  rintro e x3 ⟨rfl, t3⟩
  have T3 := bel2 T2 t3
  clear i2 SP P1
  go_wp2_with fail
  refine (O1.out _ T3).mono ?_
  rintro e u1 ⟨v4, rfl, o4, t4⟩
  have U1 := bel2 T3 t4
  obtain ⟨a4, c4, e4, i4⟩ := o4.isRs
  rw [HLN.out] at e4 i4
  subst e4
  clear o4
  go_wp2_with fail
  refine (S1.out _ _ _ i4).mono ?_
  rintro e u2 ⟨rfl, t5⟩
  have U2 := bel2 U1 t5
  go_wp2_with fail
  refine (P3.out _ U2).mono ?_
  rintro e u3 ⟨v6, rfl, o6, t6⟩
  have U3 := bel2 U2 t6
  obtain ⟨a6, c6, e6, i6⟩ := o6.isRs
  rw [HLN.out] at e6 i6
  subst e6
  have I2 : Hid (IsRs u3 a6 k0 c6 l) := i6
  have I3 : Hid (IsRs u3 a k0 cap l) := HRl.out _ U3
  clear o6 i6 i4 O1 S1 P3
  go_wp2_with fail
  clear h5
  go_loopw [13] (fun i wr => ∃ k : Nat, k ≤ k0 ∧ i = .int .i64 (k : Int) ∧ Below u3.heap.size u3 wr) (fun i _ => k0 - (intOf i).toNat)
  case atStart => exact ⟨0, Nat.zero_le _, rfl, Below.refl _ _⟩
  case round =>
    obtain ⟨k, hk, rfl, hbel⟩ := hrel
    by_cases hlt : k < k0
    · have hlt' : (k : Int) < (k0 : Int) := by omega
      obtain ⟨b2, f2, rfl, hc2⟩ := (I2.out.below hbel rfl).cells (by omega)
      obtain ⟨b3, f3, rfl, hc3⟩ := (I3.out.below hbel rfl).cells (by omega)
      obtain ⟨p0, p1, p2, p3⟩ := hc2 k hlt
      obtain ⟨q0, q1, q2, q3⟩ := hc3 k hlt
      clear hc2 hc3
      generalize (nthR l k).deny = dn at *
      generalize str (nthR l k).who = s1 at *
      generalize str (nthR l k).act = s2 at *
      generalize str (nthR l k).res = s3 at *
      have g0 := bne_same dn
      have g1 := bne_same s1.toList
      have g2 := bne_same s2.toList
      have g3 := bne_same s3.toList
      go_wp2_with fail
      go_quiet (fail)
      have Tq : Below u3.heap.size u3 (wr.drewN nq) := bel_drewN hbel nq
      generalize wr.drewN nq = y at *
      go_wp2_with fail
      go_roundw
      case rel => exact ⟨k + 1, by omega, by go_num, Tq⟩
      case measure => simp [intOf]; omega
    · have hge : ¬ (k : Int) < (k0 : Int) := by omega
      have T9 := bel2 U3 hbel
      go_wp2_with fail
      refine (HA _ (HM.out _ T9)).mono ?_
      rintro e y ⟨rfl, t⟩
      have T10 := bel2 T9 t
      go_wp2_with fail
      go_ret
      exact ⟨rfl, T10⟩

set_option maxRecDepth 20000 in
set_option maxHeartbeats 8000000 in
theorem walkBack8_yn (s : List UInt8) (a : Option Addr) (n cap : Nat) (l : List Ru) (w : World) (hr : IsRs w a n cap l) (hrr : ReachR l) (hnb : n ≤ 140737488351232) (hm : MxS w) (zs : s.length ≤ 140737488351232) (hb : lightL l [s] = true) (hP : parOk s = true) (hO : shoOk l = false) :
    Calls Tryd.prog 6 #[.string (str s), .slice a n cap] w fun e w' => e = .returned (.bool true) ∧ Below w.heap.size w w' := by
  have T0 : Below w.heap.size w (w.alloc (.cells #[.string (str s)] 9)) := (Below.refl _ w).alloc (Nat.le_refl _) _
  have HL := lawLight8 a n cap l _ _ _ [s] (w.alloc (.cells #[.string (str s)] 9)) (hr.below T0 rfl) (isTx_new w [s]) hrr (fun i hi => by
    obtain rfl : i = 0 := by have : i < 1 := hi; omega
    exact zs) (by simp) hnb
  change Calls Tryd.prog _ #[.slice a n cap, .slice (some ⟨w.heap.size, 0, none⟩) 1 1] _ _ at HL
  rw [hb] at HL
  have HM : Hid (∀ W, Below w.heap.size w W → MxS W) := fun W hW => hm.below hW hm.lt
  have HA := fun W (h : MxS W) => lawAlive8 W h
  have y1 := light_text hb (t := s) (by simp)
  have yl := light_len hb
  have ys := light_small hb
  have hlen : l.length = n := hr.len_eq
  subst hlen
  have P1 : Hid (∀ W, Below w.heap.size w W → Calls Tryd.prog 11 #[.string (str s)] W fun e w' => ∃ v, e = .returned (.tuple #[v, .int .i64 (parE s)]) ∧ OwnR 37 w' W.heap.size v (parR s) ∧ Below W.heap.size W w') := fun W hW => codParse8 s W (HM.out W hW) (by omega)
  have O1 : Hid (∀ W, Below w.heap.size w W → Calls Tryd.prog 14 #[.slice a l.length cap] W fun e w' => ∃ v, e = .returned v ∧ OwnR 37 w' W.heap.size v l ∧ Below W.heap.size W w') := fun W hW => lawOwn8 a l.length cap l W (hr.below hW rfl) (by omega)
  have S1 : Hid (∀ W a' cap', IsRs W a' l.length cap' l → Calls Tryd.prog 13 #[.slice a' l.length cap'] W fun e w' => e = .returned (.tuple #[.string (str (shoT l)), .int .i64 (shoE l)]) ∧ Below W.heap.size W w') := fun W a' cap' h => codShow8 a' l.length cap' l W h ys (by omega)
  have HRl : Hid (∀ W, Below w.heap.size w W → IsRs W a l.length cap l) := fun W hW => hr.below hW rfl
  obtain ⟨w1, w2, w3, w4⟩ := par_small hP
  have SP : Hid (∀ W a' cap', IsRs W a' (parR s).length cap' (parR s) → Calls Tryd.prog 13 #[.slice a' (parR s).length cap'] W fun e w' => e = .returned (.tuple #[.string (str s), .int .i64 0]) ∧ Below W.heap.size W w') := fun W a' cap' h => by
    have := codShow8 a' (parR s).length cap' (parR s) W h w1 (by omega)
    rw [w3, w4] at this; exact this
  have eE : parE s = 0 := by unfold parE; rw [if_pos hP]
  rw [eE] at P1
  clear w1 w3 w4 eE
  generalize parR s = R at *
  generalize hRn : R.length = m at *
  have HRN : Hid (R.length = m) := hRn
  have h2 := bne_same (str s).toList
  clear hRn
  have eT : shoT l = [] := by unfold shoT; rw [hO]; rfl
  have eS : shoE l = 45 := by unfold shoE; rw [hO]; rfl
  rw [eT, eS] at S1
  change Hid (∀ W a' cap', IsRs W a' l.length cap' l → Calls Tryd.prog _ _ W fun e w' => e = .returned (.tuple #[.string ⟨#[]⟩, .int .i64 45]) ∧ _) at S1
  clear eT eS
  generalize hln : l.length = k0 at *
  have HLN : Hid (l.length = k0) := hln
  have h5 := bne_same (k0 : Int)
  generalize str s = ss at *
  clear hb hm y1 ys hrr hr hln hnb zs hP hO
  go_enter Tryd.func6, Tryd.ntmps6
  go_wp2_with fail
  refine HL.mono ?_
  rintro e x1 ⟨rfl, t1⟩
  have T1 := bel2 T0 t1
  go_wp2_with fail
  refine (P1.out _ T1).mono ?_
  rintro e x2 ⟨v2, rfl, o2, t2⟩
  have T2 := bel2 T1 t2
  obtain ⟨a2, c2, e2, i2⟩ := o2.isRs
  rw [HRN.out] at e2 i2
  subst e2
  clear o2 HL
  go_wp2_with fail
  refine (SP.out _ _ _ i2).mono ?_
  rintro e x3 ⟨rfl, t3⟩
  have T3 := bel2 T2 t3
  clear i2 SP P1
  go_wp2_with fail
  refine (O1.out _ T3).mono ?_
  rintro e u1 ⟨v4, rfl, o4, t4⟩
  have U1 := bel2 T3 t4
  obtain ⟨a4, c4, e4, i4⟩ := o4.isRs
  rw [HLN.out] at e4 i4
  subst e4
  clear o4
  go_wp2_with fail
  refine (S1.out _ _ _ i4).mono ?_
  rintro e u2 ⟨rfl, t5⟩
  have U2 := bel2 U1 t5
  go_wp2_with fail
  refine (HA _ (HM.out _ U2)).mono ?_
  rintro e u3 ⟨rfl, t6⟩
  have U3 := bel2 U2 t6
  go_wp2_with fail
  go_ret
  exact ⟨rfl, U3⟩

set_option maxRecDepth 20000 in
set_option maxHeartbeats 8000000 in
theorem walkBack8_ny (s : List UInt8) (a : Option Addr) (n cap : Nat) (l : List Ru) (w : World) (hr : IsRs w a n cap l) (hrr : ReachR l) (hnb : n ≤ 140737488351232) (hm : MxS w) (zs : s.length ≤ 140737488351232) (hb : lightL l [s] = true) (hP : parOk s = false) (hO : shoOk l = true) :
    Calls Tryd.prog 6 #[.string (str s), .slice a n cap] w fun e w' => e = .returned (.bool true) ∧ Below w.heap.size w w' := by
  have T0 : Below w.heap.size w (w.alloc (.cells #[.string (str s)] 9)) := (Below.refl _ w).alloc (Nat.le_refl _) _
  have HL := lawLight8 a n cap l _ _ _ [s] (w.alloc (.cells #[.string (str s)] 9)) (hr.below T0 rfl) (isTx_new w [s]) hrr (fun i hi => by
    obtain rfl : i = 0 := by have : i < 1 := hi; omega
    exact zs) (by simp) hnb
  change Calls Tryd.prog _ #[.slice a n cap, .slice (some ⟨w.heap.size, 0, none⟩) 1 1] _ _ at HL
  rw [hb] at HL
  have HM : Hid (∀ W, Below w.heap.size w W → MxS W) := fun W hW => hm.below hW hm.lt
  have HA := fun W (h : MxS W) => lawAlive8 W h
  have y1 := light_text hb (t := s) (by simp)
  have yl := light_len hb
  have ys := light_small hb
  have hlen : l.length = n := hr.len_eq
  subst hlen
  have P1 : Hid (∀ W, Below w.heap.size w W → Calls Tryd.prog 11 #[.string (str s)] W fun e w' => ∃ v, e = .returned (.tuple #[v, .int .i64 (parE s)]) ∧ OwnR 37 w' W.heap.size v (parR s) ∧ Below W.heap.size W w') := fun W hW => codParse8 s W (HM.out W hW) (by omega)
  have O1 : Hid (∀ W, Below w.heap.size w W → Calls Tryd.prog 14 #[.slice a l.length cap] W fun e w' => ∃ v, e = .returned v ∧ OwnR 37 w' W.heap.size v l ∧ Below W.heap.size W w') := fun W hW => lawOwn8 a l.length cap l W (hr.below hW rfl) (by omega)
  have S1 : Hid (∀ W a' cap', IsRs W a' l.length cap' l → Calls Tryd.prog 13 #[.slice a' l.length cap'] W fun e w' => e = .returned (.tuple #[.string (str (shoT l)), .int .i64 (shoE l)]) ∧ Below W.heap.size W w') := fun W a' cap' h => codShow8 a' l.length cap' l W h ys (by omega)
  have HRl : Hid (∀ W, Below w.heap.size w W → IsRs W a l.length cap l) := fun W hW => hr.below hW rfl
  have eE : parE s = 45 := by unfold parE; rw [hP]; rfl
  rw [eE] at P1
  clear eE
  have eT : shoT l = textR l := by unfold shoT; rw [if_pos hO]
  have eS : shoE l = 0 := by unfold shoE; rw [if_pos hO]
  obtain ⟨v1, v2⟩ := par_sho l hO
  have eP : parE (textR l) = 0 := by unfold parE; rw [if_pos v1]
  have hTl : (textR l).length ≤ 160 := by unfold shoOk at hO; rw [Bool.and_eq_true, decide_eq_true_iff] at hO; exact hO.2
  rw [eT, eS] at S1
  have P3 : Hid (∀ W, Below w.heap.size w W → Calls Tryd.prog 11 #[.string (str (textR l))] W fun e w' => ∃ v, e = .returned (.tuple #[v, .int .i64 0]) ∧ OwnR 37 w' W.heap.size v l ∧ Below W.heap.size W w') := fun W hW => by
    have := codParse8 (textR l) W (HM.out W hW) (by omega)
    rw [eP, v2] at this; exact this
  clear eT eS v1 v2 eP hTl
  generalize str (textR l) = st at *
  generalize hln : l.length = k0 at *
  have HLN : Hid (l.length = k0) := hln
  have h5 := bne_same (k0 : Int)
  generalize str s = ss at *
  clear hb hm y1 ys hrr hr hln hnb zs hP hO
  go_enter Tryd.func6, Tryd.ntmps6
  go_wp2_with fail
  refine HL.mono ?_
  rintro e x1 ⟨rfl, t1⟩
  have T1 := bel2 T0 t1
  go_wp2_with fail
  refine (P1.out _ T1).mono ?_
  rintro e x2 ⟨v2, rfl, o2, t2⟩
  have T2 := bel2 T1 t2
  obtain ⟨a2, c2, e2, i2⟩ := o2.isRs
  subst e2
  clear o2 HL i2 P1
  go_wp2_with fail
  refine (O1.out _ T2).mono ?_
  rintro e u1 ⟨v4, rfl, o4, t4⟩
  have U1 := bel2 T2 t4
  obtain ⟨a4, c4, e4, i4⟩ := o4.isRs
  rw [HLN.out] at e4 i4
  subst e4
  clear o4
  go_wp2_with fail
  refine (S1.out _ _ _ i4).mono ?_
  rintro e u2 ⟨rfl, t5⟩
  have U2 := bel2 U1 t5
  go_wp2_with fail
  refine (P3.out _ U2).mono ?_
  rintro e u3 ⟨v6, rfl, o6, t6⟩
  have U3 := bel2 U2 t6
  obtain ⟨a6, c6, e6, i6⟩ := o6.isRs
  rw [HLN.out] at e6 i6
  subst e6
  have I2 : Hid (IsRs u3 a6 k0 c6 l) := i6
  have I3 : Hid (IsRs u3 a k0 cap l) := HRl.out _ U3
  clear o6 i6 i4 O1 S1 P3
  go_wp2_with fail
  clear h5
  go_loopw [13] (fun i wr => ∃ k : Nat, k ≤ k0 ∧ i = .int .i64 (k : Int) ∧ Below u3.heap.size u3 wr) (fun i _ => k0 - (intOf i).toNat)
  case atStart => exact ⟨0, Nat.zero_le _, rfl, Below.refl _ _⟩
  case round =>
    obtain ⟨k, hk, rfl, hbel⟩ := hrel
    by_cases hlt : k < k0
    · have hlt' : (k : Int) < (k0 : Int) := by omega
      obtain ⟨b2, f2, rfl, hc2⟩ := (I2.out.below hbel rfl).cells (by omega)
      obtain ⟨b3, f3, rfl, hc3⟩ := (I3.out.below hbel rfl).cells (by omega)
      obtain ⟨p0, p1, p2, p3⟩ := hc2 k hlt
      obtain ⟨q0, q1, q2, q3⟩ := hc3 k hlt
      clear hc2 hc3
      generalize (nthR l k).deny = dn at *
      generalize str (nthR l k).who = s1 at *
      generalize str (nthR l k).act = s2 at *
      generalize str (nthR l k).res = s3 at *
      have g0 := bne_same dn
      have g1 := bne_same s1.toList
      have g2 := bne_same s2.toList
      have g3 := bne_same s3.toList
      go_wp2_with fail
      go_quiet (fail)
      have Tq : Below u3.heap.size u3 (wr.drewN nq) := bel_drewN hbel nq
      generalize wr.drewN nq = y at *
      go_wp2_with fail
      go_roundw
      case rel => exact ⟨k + 1, by omega, by go_num, Tq⟩
      case measure => simp [intOf]; omega
    · have hge : ¬ (k : Int) < (k0 : Int) := by omega
      have T9 := bel2 U3 hbel
      go_wp2_with fail
      refine (HA _ (HM.out _ T9)).mono ?_
      rintro e y ⟨rfl, t⟩
      have T10 := bel2 T9 t
      go_wp2_with fail
      go_ret
      exact ⟨rfl, T10⟩

set_option maxRecDepth 20000 in
set_option maxHeartbeats 8000000 in
theorem walkBack8_nn (s : List UInt8) (a : Option Addr) (n cap : Nat) (l : List Ru) (w : World) (hr : IsRs w a n cap l) (hrr : ReachR l) (hnb : n ≤ 140737488351232) (hm : MxS w) (zs : s.length ≤ 140737488351232) (hb : lightL l [s] = true) (hP : parOk s = false) (hO : shoOk l = false) :
    Calls Tryd.prog 6 #[.string (str s), .slice a n cap] w fun e w' => e = .returned (.bool true) ∧ Below w.heap.size w w' := by
  have T0 : Below w.heap.size w (w.alloc (.cells #[.string (str s)] 9)) := (Below.refl _ w).alloc (Nat.le_refl _) _
  have HL := lawLight8 a n cap l _ _ _ [s] (w.alloc (.cells #[.string (str s)] 9)) (hr.below T0 rfl) (isTx_new w [s]) hrr (fun i hi => by
    obtain rfl : i = 0 := by have : i < 1 := hi; omega
    exact zs) (by simp) hnb
  change Calls Tryd.prog _ #[.slice a n cap, .slice (some ⟨w.heap.size, 0, none⟩) 1 1] _ _ at HL
  rw [hb] at HL
  have HM : Hid (∀ W, Below w.heap.size w W → MxS W) := fun W hW => hm.below hW hm.lt
  have HA := fun W (h : MxS W) => lawAlive8 W h
  have y1 := light_text hb (t := s) (by simp)
  have yl := light_len hb
  have ys := light_small hb
  have hlen : l.length = n := hr.len_eq
  subst hlen
  have P1 : Hid (∀ W, Below w.heap.size w W → Calls Tryd.prog 11 #[.string (str s)] W fun e w' => ∃ v, e = .returned (.tuple #[v, .int .i64 (parE s)]) ∧ OwnR 37 w' W.heap.size v (parR s) ∧ Below W.heap.size W w') := fun W hW => codParse8 s W (HM.out W hW) (by omega)
  have O1 : Hid (∀ W, Below w.heap.size w W → Calls Tryd.prog 14 #[.slice a l.length cap] W fun e w' => ∃ v, e = .returned v ∧ OwnR 37 w' W.heap.size v l ∧ Below W.heap.size W w') := fun W hW => lawOwn8 a l.length cap l W (hr.below hW rfl) (by omega)
  have S1 : Hid (∀ W a' cap', IsRs W a' l.length cap' l → Calls Tryd.prog 13 #[.slice a' l.length cap'] W fun e w' => e = .returned (.tuple #[.string (str (shoT l)), .int .i64 (shoE l)]) ∧ Below W.heap.size W w') := fun W a' cap' h => codShow8 a' l.length cap' l W h ys (by omega)
  have HRl : Hid (∀ W, Below w.heap.size w W → IsRs W a l.length cap l) := fun W hW => hr.below hW rfl
  have eE : parE s = 45 := by unfold parE; rw [hP]; rfl
  rw [eE] at P1
  clear eE
  have eT : shoT l = [] := by unfold shoT; rw [hO]; rfl
  have eS : shoE l = 45 := by unfold shoE; rw [hO]; rfl
  rw [eT, eS] at S1
  change Hid (∀ W a' cap', IsRs W a' l.length cap' l → Calls Tryd.prog _ _ W fun e w' => e = .returned (.tuple #[.string ⟨#[]⟩, .int .i64 45]) ∧ _) at S1
  clear eT eS
  generalize hln : l.length = k0 at *
  have HLN : Hid (l.length = k0) := hln
  have h5 := bne_same (k0 : Int)
  generalize str s = ss at *
  clear hb hm y1 ys hrr hr hln hnb zs hP hO
  go_enter Tryd.func6, Tryd.ntmps6
  go_wp2_with fail
  refine HL.mono ?_
  rintro e x1 ⟨rfl, t1⟩
  have T1 := bel2 T0 t1
  go_wp2_with fail
  refine (P1.out _ T1).mono ?_
  rintro e x2 ⟨v2, rfl, o2, t2⟩
  have T2 := bel2 T1 t2
  obtain ⟨a2, c2, e2, i2⟩ := o2.isRs
  subst e2
  clear o2 HL i2 P1
  go_wp2_with fail
  refine (O1.out _ T2).mono ?_
  rintro e u1 ⟨v4, rfl, o4, t4⟩
  have U1 := bel2 T2 t4
  obtain ⟨a4, c4, e4, i4⟩ := o4.isRs
  rw [HLN.out] at e4 i4
  subst e4
  clear o4
  go_wp2_with fail
  refine (S1.out _ _ _ i4).mono ?_
  rintro e u2 ⟨rfl, t5⟩
  have U2 := bel2 U1 t5
  go_wp2_with fail
  refine (HA _ (HM.out _ U2)).mono ?_
  rintro e u3 ⟨rfl, t6⟩
  have U3 := bel2 U2 t6
  go_wp2_with fail
  go_ret
  exact ⟨rfl, U3⟩

set_option maxRecDepth 20000 in
set_option maxHeartbeats 2000000 in
theorem walkBack8 (s : List UInt8) (a : Option Addr) (n cap : Nat) (l : List Ru) (w : World) (hr : IsRs w a n cap l) (hrr : ReachR l) (hnb : n ≤ 140737488351232) (hm : MxS w) (zs : s.length ≤ 140737488351232) :
    Calls Tryd.prog 6 #[.string (str s), .slice a n cap] w fun e w' => e = .returned (.bool true) ∧ Below w.heap.size w w' := by
  cases hb : lightL l [s] with
  | true =>
    cases hP : parOk s with
    | true =>
      cases hO : shoOk l with
      | true => exact walkBack8_yy s a n cap l w hr hrr hnb hm zs hb hP hO
      | false => exact walkBack8_yn s a n cap l w hr hrr hnb hm zs hb hP hO
    | false =>
      cases hO : shoOk l with
      | true => exact walkBack8_ny s a n cap l w hr hrr hnb hm zs hb hP hO
      | false => exact walkBack8_nn s a n cap l w hr hrr hnb hm zs hb hP hO
  | false =>
    have T0 : Below w.heap.size w (w.alloc (.cells #[.string (str s)] 9)) := (Below.refl _ w).alloc (Nat.le_refl _) _
    have HL := lawLight8 a n cap l _ _ _ [s] (w.alloc (.cells #[.string (str s)] 9)) (hr.below T0 rfl) (isTx_new w [s]) hrr (fun i hi => by
      obtain rfl : i = 0 := by have : i < 1 := hi; omega
      exact zs) (by simp) hnb
    change Calls Tryd.prog _ #[.slice a n cap, .slice (some ⟨w.heap.size, 0, none⟩) 1 1] _ _ at HL
    rw [hb] at HL
    have HM : Hid (∀ W, Below w.heap.size w W → MxS W) := fun W hW => hm.below hW hm.lt
    have HA := fun W (h : MxS W) => lawAlive8 W h
    generalize str s = ss at *
    clear hb
    go_enter Tryd.func6, Tryd.ntmps6
    go_wp2_with fail
    refine HL.mono ?_
    rintro e x1 ⟨rfl, t1⟩
    have T1 := bel2 T0 t1
    go_wp2_with fail
    refine (HA _ (HM.out _ T1)).mono ?_
    rintro e x2 ⟨rfl, t2⟩
    have T2 := bel2 T1 t2
    go_wp2_with fail
    go_ret
    exact ⟨rfl, T2⟩
end Go.Proofs.YtihfpoclflppnaaDoor
