/- The walk of PolicyParses. -/
import Derived.Test.YtihfpoclflppnaaDoorB37
import Derived.Test.YtihfpoclflppnaaDoorB39
import Derived.BigQuiet
namespace Go.Proofs.YtihfpoclflppnaaDoor
open Go.RowKit

theorem bne_same {α : Type} [BEq α] [LawfulBEq α] (a : α) : (a != a) = false := by simp

set_option maxRecDepth 20000 in
set_option maxHeartbeats 8000000 in
theorem walkParses8 (s : List UInt8) (a : Option Addr) (n cap : Nat) (l : List Ru) (z : Int) (w : World) (hr : IsRs w a n cap l) (hrr : ReachR l) (hnb : n ≤ 140737488351232) (hm : MxS w) (ht : Tab8 w) (zs : s.length ≤ 140737488351232) (hlo : -9223372036854775808 ≤ z) (hhi : z ≤ 9223372036854775807) :
    Calls Tryd.prog 3 #[.string (str s), .slice a n cap, .int .i64 z] w fun e w' => e = .returned (.bool true) ∧ Below w.heap.size w w' := by
  have T0 : Below w.heap.size w (w.alloc (.cells #[.string (str s)] 9)) := (Below.refl _ w).alloc (Nat.le_refl _) _
  have HL := lawLight8 a n cap l _ _ _ [s] (w.alloc (.cells #[.string (str s)] 9)) (hr.below T0 rfl) (isTx_new w [s]) hrr (fun i hi => by
    obtain rfl : i = 0 := by have : i < 1 := hi; omega
    exact zs) (by simp) hnb
  change Calls Tryd.prog _ #[.slice a n cap, .slice (some ⟨w.heap.size, 0, none⟩) 1 1] _ _ at HL
  have HM : Hid (∀ W, Below w.heap.size w W → MxS W) := fun W hW => hm.below hW hm.lt
  have HA := fun W (h : MxS W) => lawAlive8 W h
  cases hb : lightL l [s] with
  | false =>
    rw [hb] at HL
    generalize str s = ss at *
    clear hb
    go_enter Tryd.func3, Tryd.ntmps3
    go_wp2_with fail
    refine HL.mono ?_
    rintro e x1 ⟨rfl, t1⟩
    have T1 := bel2 T0 t1
    go_wp2_with fail
    refine (HA _ (HM.out _ T1)).mono ?_
    rintro e x2 ⟨rfl, t2⟩
    have T2 := bel2 T1 t2
    go_wp2_with fail
    go_ret
    exact ⟨rfl, T2⟩
  | true =>
    rw [hb] at HL
    have y1 := light_text hb (t := s) (by simp)
    have yl := light_len hb
    have ys := light_small hb
    have hlen : l.length = n := hr.len_eq
    have P1 : Hid (∀ W, Below w.heap.size w W → Calls Tryd.prog 11 #[.string (str s)] W fun e w' => ∃ v, e = .returned (.tuple #[v, .int .i64 (parE s)]) ∧ OwnR 37 w' W.heap.size v (parR s) ∧ Below W.heap.size W w') := fun W hW => codParse8 s W (HM.out W hW) (by omega)
    have P2 := fun W => refParse8 s W (by omega)
    have O1 : Hid (∀ W, Below w.heap.size w W → Calls Tryd.prog 14 #[.slice a n cap] W fun e w' => ∃ v, e = .returned v ∧ OwnR 37 w' W.heap.size v l ∧ Below W.heap.size W w') := fun W hW => lawOwn8 a n cap l W (hr.below hW rfl) (by omega)
    have S1 : Hid (∀ W a' cap', IsRs W a' l.length cap' l → Calls Tryd.prog 13 #[.slice a' l.length cap'] W fun e w' => e = .returned (.tuple #[.string (str (shoT l)), .int .i64 (shoE l)]) ∧ Below W.heap.size W w') := fun W a' cap' h => codShow8 a' l.length cap' l W h ys (by omega)
    have S2 : Hid (∀ W, Below w.heap.size w W → Calls Tryd.prog 15 #[.slice a n cap] W fun e w' => e = .returned (.tuple #[.string (str (shoT l)), .int .i64 (shoE l)]) ∧ Below W.heap.size W w') := fun W hW => refShow8 a n cap l W (hr.below hW rfl) ys (by omega)
    have A1 : Hid (∀ W, Below w.heap.size w W → Calls Tryd.prog 16 #[.int .i64 z] W fun e w' => e = .returned (.string (str (actL z))) ∧ Below W.heap.size W w') := fun W hW => codAction8 z W (fun i hi => (hW.cell (p := ⟨0, i, none⟩) (cell_lt (ht i hi))).trans (ht i hi)) hlo hhi
    have A2 := fun W => refAction8 z W hlo hhi
    have hRl : (parR s).length ≤ 1000 := by
      by_cases hp : parOk s = true
      · unfold parR
        rw [if_pos hp]
        split
        · simp
        · unfold partsOf; rw [List.length_map, List.length_map]
          have := cutL_len 59 s
          have h160 : s.length ≤ 160 := by unfold parOk at hp; rw [Bool.and_eq_true, decide_eq_true_iff] at hp; exact hp.1
          omega
      · unfold parR; rw [if_neg hp]; simp
    have h1 := bne_same (parE s)
    have h2 := bne_same (str (shoT l)).toList
    have h3 := bne_same (shoE l)
    have h4 := bne_same (str (actL z)).toList
    generalize parE s = pe at *
    generalize parR s = R at *
    generalize str (shoT l) = st at *
    generalize shoE l = se at *
    generalize str (actL z) = sa at *
    generalize hln : l.length = k0 at *
    generalize str s = ss at *
    generalize hRn : R.length = m at *
    have HLN : Hid (l.length = k0) := hln
    have HRN : Hid (R.length = m) := hRn
    have h5 := bne_same (m : Int)
    clear hb hm y1 yl ys hlen hrr hr ht hln hRn hnb zs hlo hhi
    go_enter Tryd.func3, Tryd.ntmps3
    go_wp2_with fail
    refine HL.mono ?_
    rintro e x1 ⟨rfl, t1⟩
    have T1 := bel2 T0 t1
    go_wp2_with fail
    refine (P1.out _ T1).mono ?_
    rintro e x2 ⟨v2, rfl, o2, t2⟩
    have T2 := bel2 T1 t2
    obtain ⟨a2, c2, e2, i2⟩ := o2.isRs
    rw [HRN.out] at e2 i2
    subst e2
    clear o2 HL
    go_wp2_with fail
    refine (P2 _).mono ?_
    rintro e x3 ⟨v3, rfl, o3, t3⟩
    have T3 := bel2 T2 t3
    obtain ⟨a3, c3, e3, i3⟩ := o3.isRs
    rw [HRN.out] at e3 i3
    subst e3
    have i2 := i2.below t3 rfl
    clear o3 P1 P2
    go_wp2_with fail
    refine (O1.out _ T3).mono ?_
    rintro e x4 ⟨v4, rfl, o4, t4⟩
    have T4 := bel2 T3 t4
    obtain ⟨a4, c4, e4, i4⟩ := o4.isRs
    rw [HLN.out] at e4 i4
    subst e4
    have i2 := i2.below t4 rfl
    have i3 := i3.below t4 rfl
    clear o4
    go_wp2_with fail
    refine (S1.out _ _ _ i4).mono ?_
    rintro e x5 ⟨rfl, t5⟩
    have T5 := bel2 T4 t5
    have i2 := i2.below t5 rfl
    have i3 := i3.below t5 rfl
    clear i4 S1 O1
    go_wp2_with fail
    refine (S2.out _ T5).mono ?_
    rintro e x6 ⟨rfl, t6⟩
    have T6 := bel2 T5 t6
    have i2 := i2.below t6 rfl
    have i3 := i3.below t6 rfl
    clear S2
    go_wp2_with fail
    refine (A1.out _ T6).mono ?_
    rintro e x7 ⟨rfl, t7⟩
    have T7 := bel2 T6 t7
    have i2 := i2.below t7 rfl
    have i3 := i3.below t7 rfl
    go_wp2_with fail
    refine (A2 _).mono ?_
    rintro e x8 ⟨rfl, t8⟩
    have T8 := bel2 T7 t8
    have I2 : Hid (IsRs x8 a2 m c2 R) := i2.below t8 rfl
    have I3 : Hid (IsRs x8 a3 m c3 R) := i3.below t8 rfl
    clear A1 A2 t1 t2 t3 t4 t5 t6 t7 t8 T1 T2 T3 T4 T5 T6 T7
    go_wp2_with fail
    clear h1 h2 h3 h4 h5
    go_loopw [15] (fun i wr => ∃ k : Nat, k ≤ m ∧ i = .int .i64 (k : Int) ∧ Below x8.heap.size x8 wr) (fun i _ => m - (intOf i).toNat)
    case atStart => exact ⟨0, Nat.zero_le _, rfl, Below.refl _ _⟩
    case round =>
      obtain ⟨k, hk, rfl, hbel⟩ := hrel
      by_cases hlt : k < m
      · have hlt' : (k : Int) < (m : Int) := by omega
        obtain ⟨b2, f2, rfl, hc2⟩ := (I2.out.below hbel rfl).cells (by omega)
        obtain ⟨b3, f3, rfl, hc3⟩ := (I3.out.below hbel rfl).cells (by omega)
        obtain ⟨p0, p1, p2, p3⟩ := hc2 k hlt
        obtain ⟨q0, q1, q2, q3⟩ := hc3 k hlt
        clear hc2 hc3
        generalize (nthR R k).deny = dn at *
        generalize str (nthR R k).who = s1 at *
        generalize str (nthR R k).act = s2 at *
        generalize str (nthR R k).res = s3 at *
        have g0 := bne_same dn
        have g1 := bne_same s1.toList
        have g2 := bne_same s2.toList
        have g3 := bne_same s3.toList
        go_wp2_with fail
        go_quiet (fail)
        have Tq : Below x8.heap.size x8 (wr.drewN nq) := bel_drewN hbel nq
        generalize wr.drewN nq = y at *
        go_wp2_with fail
        go_roundw
        case rel => exact ⟨k + 1, by omega, by go_num, Tq⟩
        case measure => simp [intOf]; omega
      · have hge : ¬ (k : Int) < (m : Int) := by omega
        have T9 := bel2 T8 hbel
        go_wp2_with fail
        refine (HA _ (HM.out _ T9)).mono ?_
        rintro e y ⟨rfl, t⟩
        have T10 := bel2 T9 t
        go_wp2_with fail
        go_ret
        exact ⟨rfl, T10⟩
end Go.Proofs.YtihfpoclflppnaaDoor
