/- The walk of PolicyDecides. -/
import Derived.Test.YtihfpoclflppnaaDoorB37
namespace Go.Proofs.YtihfpoclflppnaaDoor
open Go.RowKit

set_option maxRecDepth 20000 in
set_option maxHeartbeats 4000000 in
theorem walkDecides8 (a : Option Addr) (n cap : Nat) (l : List Ru) (root : Bool) (p q s : List UInt8) (w : World) (hr : IsRs w a n cap l) (hrr : ReachR l) (hnb : n ≤ 140737488351232) (hm : MxS w) (zp : p.length ≤ 140737488351232) (zq : q.length ≤ 140737488351232) (zs : s.length ≤ 140737488351232) :
    Calls Tryd.prog 5 #[.slice a n cap, .bool root, .string (str p), .string (str q), .string (str s)] w fun e w' => e = .returned (.bool true) ∧ Below w.heap.size w w' := by
  have T0 : Below w.heap.size w (w.alloc (.cells #[.string (str p), .string (str q), .string (str s)] 9)) := (Below.refl _ w).alloc (Nat.le_refl _) _
  have HL := lawLight8 a n cap l _ _ _ [p, q, s] (w.alloc (.cells #[.string (str p), .string (str q), .string (str s)] 9)) (hr.below T0 rfl) (isTx_new w [p, q, s]) hrr (fun i hi => by
    obtain rfl | rfl | rfl : i = 0 ∨ i = 1 ∨ i = 2 := by have : i < 3 := hi; omega
    · exact zp
    · exact zq
    · exact zs) (by simp) hnb
  change Calls Tryd.prog _ #[.slice a n cap, .slice (some ⟨w.heap.size, 0, none⟩) 3 3] _ _ at HL
  have HM : Hid (∀ W, Below w.heap.size w W → MxS W) := fun W hW => hm.below hW hm.lt
  have HA := fun W (h : MxS W) => lawAlive8 W h
  cases hb : lightL l [p, q, s] with
  | false =>
    rw [hb] at HL
    generalize str p = ps at *
    generalize str q = qs at *
    generalize str s = ss at *
    clear hb
    go_enter Tryd.func5, Tryd.ntmps5
    go_wp2_with fail
    refine HL.mono ?_
    rintro e x1 ⟨rfl, t1⟩
    have T1 := bel2 T0 t1
    go_wp2_with fail
    refine (HA _ (HM.out _ T1)).mono ?_
    rintro e x2 ⟨rfl, t2⟩
    have T2 := bel2 T1 t2
    go_wp2_with fail
    go_ret
    exact ⟨rfl, T2⟩
  | true =>
    rw [hb] at HL
    have y1 := light_text hb (t := p) (by simp)
    have y2 := light_text hb (t := q) (by simp)
    have y3 := light_text hb (t := s) (by simp)
    have yl := light_len hb
    have ys := light_small hb
    have hlen : l.length = n := hr.len_eq
    have O1 : Hid (∀ W, Below w.heap.size w W → Calls Tryd.prog 14 #[.slice a n cap] W fun e w' => ∃ v, e = .returned v ∧ OwnR 37 w' W.heap.size v l ∧ Below W.heap.size W w') := fun W hW => lawOwn8 a n cap l W (hr.below hW rfl) (by omega)
    have D1 : Hid (∀ W a' cap', IsRs W a' l.length cap' l → Calls Tryd.prog 20 #[.slice a' l.length cap', .string (str p), .string (str q), .string (str s)] W fun e w' => e = .returned (.int .i64 (decR l p q s : Int)) ∧ Below W.heap.size W w') := fun W a' cap' h => codDecide8 a' l.length cap' l p q s W h ys (by omega) (by omega) (by omega) (by omega)
    have D2 : Hid (∀ W, Below w.heap.size w W → Calls Tryd.prog 21 #[.slice a n cap, .string (str p), .string (str q), .string (str s)] W fun e w' => e = .returned (.int .i64 (decR l p q s : Int)) ∧ Below W.heap.size W w') := fun W hW => refDecide8 a n cap l p q s W (hr.below hW rfl) ys (by omega) (by omega) (by omega) (by omega)
    have M1 : Hid (∀ W a' cap', IsRs W a' l.length cap' l → Calls Tryd.prog 22 #[.slice a' l.length cap', .bool root, .string (str p), .string (str q), .string (str s)] W fun e w' => e = .returned (.bool (mayR l root p q s)) ∧ Below W.heap.size W w') := fun W a' cap' h => codMay8 a' l.length cap' l root p q s W h ys (by omega) (by omega) (by omega) (by omega)
    have M2 : Hid (∀ W, Below w.heap.size w W → Calls Tryd.prog 23 #[.slice a n cap, .bool root, .string (str p), .string (str q), .string (str s)] W fun e w' => e = .returned (.bool (mayR l root p q s)) ∧ Below W.heap.size W w') := fun W hW => refMay8 a n cap l root p q s W (hr.below hW rfl) ys (by omega) (by omega) (by omega) (by omega)
    have hdz : ((decR l p q s : Int) == (decR l p q s : Int)) = true := beq_self_eq_true _
    generalize mayR l root p q s = mm at *
    generalize decR l p q s = dd at *
    generalize hln : l.length = k at *
    generalize str p = ps at *
    generalize str q = qs at *
    generalize str s = ss at *
    have hmm : (mm == mm) = true := by cases mm <;> rfl
    clear hb hm y1 y2 y3 yl ys hlen hrr hr
    have HLN : Hid (l.length = k) := hln
    clear hln
    go_enter Tryd.func5, Tryd.ntmps5
    go_wp2_with fail
    refine HL.mono ?_
    rintro e x1 ⟨rfl, t1⟩
    have T1 := bel2 T0 t1
    go_wp2_with fail
    refine (O1.out _ T1).mono ?_
    rintro e x2 ⟨v, rfl, o2, t2⟩
    have T2 := bel2 T1 t2
    obtain ⟨a2, c2, e2, i2⟩ := o2.isRs
    rw [HLN.out] at e2 i2
    subst e2
    go_wp2_with fail
    refine (D1.out _ _ _ i2).mono ?_
    rintro e x3 ⟨rfl, t3⟩
    have T3 := bel2 T2 t3
    go_wp2_with fail
    refine (D2.out _ T3).mono ?_
    rintro e x4 ⟨rfl, t4⟩
    have T4 := bel2 T3 t4
    go_wp2_with fail
    refine (O1.out _ T4).mono ?_
    rintro e x5 ⟨v5, rfl, o5, t5⟩
    have T5 := bel2 T4 t5
    obtain ⟨a5, c5, e5, i5⟩ := o5.isRs
    rw [HLN.out] at e5 i5
    subst e5
    go_wp2_with fail
    refine (M1.out _ _ _ i5).mono ?_
    rintro e x6 ⟨rfl, t6⟩
    have T6 := bel2 T5 t6
    go_wp2_with fail
    refine (M2.out _ T6).mono ?_
    rintro e x7 ⟨rfl, t7⟩
    have T7 := bel2 T6 t7
    go_wp2_with fail
    refine (HA _ (HM.out _ T7)).mono ?_
    rintro e x8 ⟨rfl, t8⟩
    have T8 := bel2 T7 t8
    go_wp2_with fail
    go_ret
    exact ⟨rfl, T8⟩
end Go.Proofs.YtihfpoclflppnaaDoor
