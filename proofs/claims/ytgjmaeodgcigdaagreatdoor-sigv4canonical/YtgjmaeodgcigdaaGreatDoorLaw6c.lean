/- The walk of Sigv4Canonical. -/
import Derived.Test.YtgjmaeodgcigdaaGreatDoorB40
import Derived.Test.YtgjmaeodgcigdaaGreatDoorR5t
namespace Go.Proofs.YtgjmaeodgcigdaaGreatDoor
open Go.RowKit

set_option maxRecDepth 20000 in
set_option maxHeartbeats 8000000 in
theorem walkCanonical6 (m p q : List UInt8) (ha : Option Addr) (hn hc : Nat) (hs : List Pr) (ba : Option Addr) (bn bc : Nat) (bd : List UInt8) (ta : Option Addr) (tn tc : Nat) (ts : List (List UInt8)) (w : World)
    (hP : IsP w ha hn hc hs) (hB : IsB w ba bn bc bd) (hT : IsT w ta tn tc ts) (hm : MxS w) (zm : m.length ≤ 140737488351232) (zp : p.length ≤ 140737488351232) (zq : q.length ≤ 140737488351232) (zb : bn ≤ 140737488351232) (zn : hn * 32 ≤ 140737488351232) (zh : ∀ i, i < hs.length → (nthP hs i).1.length ≤ 140737488351232 ∧ (nthP hs i).2.length ≤ 140737488351232) (zt : ∀ i, i < ts.length → (nthT ts i).length ≤ 140737488351232) :
    Calls Tryz.prog 3 #[.agg #[.string (str m), .string (str p), .string (str q), .slice ha hn hc, .slice ba bn bc], .slice ta tn tc] w fun e w' => e = .returned (.bool true) ∧ Below w.heap.size w w' := by
  have T0 : Below w.heap.size w (w.alloc (.cells #[.string (str m), .string (str p), .string (str q), .slice ha hn hc, .slice ba bn bc] 25)) := (Below.refl _ w).alloc (Nat.le_refl _) _
  have K0 := Blk.newAt w w.heap.size 25 _ [.string (str m), .string (str p), .string (str q), .slice ha hn hc, .slice ba bn bc] rfl rfl
  have c0 := K0.cell 0
  have c1 := K0.cell 1
  have c2 := K0.cell 2
  have c3 := K0.cell 3
  have c4 := K0.cell 4
  have HLi := lawLight6 m p q ha hn hc hs ba bn bc _ (hP.below T0 rfl) zm zp zq zb zh
  have HAl : ∀ W, Below w.heap.size w W → Calls Tryz.prog 10 #[] W fun e w' => e = .returned (.bool true) ∧ Below W.heap.size W w' := fun W hW => lawAlive6 W (hm.below hW hm.lt)
  have HOw : ∀ W, Below w.heap.size w W → Calls Tryz.prog 12 #[.agg #[.string (str m), .string (str p), .string (str q), .slice ha hn hc, .slice ba bn bc]] W fun e w' => (∃ va vc, e = .returned (.agg #[.string (str m), .string (str p), .string (str q), .slice va hn vc, .slice ba bn bc]) ∧ IsP w' va hn vc hs) ∧ Below W.heap.size W w' := fun W hW => (lawOwn5 (str m) (str p) (str q) ba bn bc ha hn hc hs W (hP.below hW rfl) (by omega)).mono (by
    rintro e w' ⟨v, rfl, ho, hb⟩
    have hl := hP.len_eq
    obtain ⟨va, vc, rfl, hi⟩ := ho.isP
    rw [hl] at hi ⊢
    exact ⟨⟨va, vc, rfl, hi⟩, hb⟩)
  have hlen := hP.len_eq
  have hti : tn ≤ 9223372036854775807 := by have := hT.le; have := hT.max; unfold maxLen at this; omega
  by_cases hgo : lightB m p q hn bn hs = true ∧ tn ≤ 100
  · obtain ⟨hlt, hws⟩ := hgo
    have SH := light_short hlt hlen
    rw [hlt] at HLi
    have iws : ¬ (100 : Int) < (tn : Int) := by omega
    have zb3 : bn ≤ 30000 := by have := SH.b; omega
    have HCo : ∀ W va vc, Below w.heap.size w W → IsP W va hn vc hs → Calls Tryz.prog 11 #[.agg #[.string (str m), .string (str p), .string (str q), .slice va hn vc, .slice ba bn bc], .slice ta tn tc] W fun e w' => e = .returned (.tuple #[.string (str (canonT ⟨m, p, q, hs, bd⟩ ts)), .int .i64 (canonE ⟨m, p, q, hs, bd⟩ ts)]) ∧ Below W.heap.size W w' := fun W va vc hW hi => codCanonical m p q va hn vc hs ba bn bc bd ta tn tc ts W hi (hB.below hW rfl) (hT.below hW rfl) (by have := SH.m; omega) (by have := SH.p; omega) (by have := SH.q; omega) zb3 (fun i hi => Nat.le_trans (SH.h i hi).2 (by decide)) zt
    have HRe : ∀ W, Below w.heap.size w W → Calls Tryz.prog 13 #[.agg #[.string (str m), .string (str p), .string (str q), .slice ha hn hc, .slice ba bn bc], .slice ta tn tc] W fun e w' => e = .returned (.tuple #[.string (str (canonT ⟨m, p, q, hs, bd⟩ ts)), .int .i64 (canonE ⟨m, p, q, hs, bd⟩ ts)]) ∧ Below W.heap.size W w' := fun W hW => refCanonical m p q ha hn hc hs ba bn bc bd ta tn tc ts W (hP.below hW rfl) (hB.below hW rfl) (hT.below hW rfl) (by have := SH.m; omega) (by have := SH.p; omega) (by have := SH.q; omega) zb3 (fun i hi => Nat.le_trans (SH.h i hi).2 (by decide)) zt
    generalize str (canonT ⟨m, p, q, hs, bd⟩ ts) = xc at *
    generalize canonE ⟨m, p, q, hs, bd⟩ ts = ce at *
    have hce : (ce == ce) = true := by simp
    clear SH hlt hm hP hB hT hws zh zt hlen zm zp zq zb3
    generalize str m = xm at *
    generalize str p = xp at *
    generalize str q = xq at *
    go_enter Tryz.func3, Tryz.ntmps3
    go_wp2_with (first
      | (go_at_call 9; refine HLi.mono ?_; rintro e w1 ⟨rfl, hb1⟩; have T1 := T0.trans (hb1.mono T0.size); have K1 := K0.on hb1; have d0 := K1.cell 0; have d1 := K1.cell 1; have d2 := K1.cell 2; have d3 := K1.cell 3; have d4 := K1.cell 4)
      | (go_at_call 12; refine (HOw _ T1).mono ?_; rintro e w2 ⟨⟨va2, vc2, rfl, hi2⟩, hb2⟩; have T2 := T1.trans (hb2.mono T1.size))
      | (go_at_call 11; refine (HCo _ _ _ T2 hi2).mono ?_; rintro e w3 ⟨rfl, hb3⟩; have T3 := T2.trans (hb3.mono T2.size); have K3 := (K1.on hb2).on hb3; have e0 := K3.cell 0; have e1 := K3.cell 1; have e2 := K3.cell 2; have e3 := K3.cell 3; have e4 := K3.cell 4)
      | (go_at_call 13; refine (HRe _ T3).mono ?_; rintro e w4 ⟨rfl, hb4⟩; have T4 := T3.trans (hb4.mono T3.size))
      | (go_at_call 10; refine (HAl _ T4).mono ?_; rintro e w9 ⟨rfl, hb9⟩))
    go_ret
    exact ⟨rfl, T4.trans (hb9.mono T4.size)⟩
  · by_cases hlt : lightB m p q hn bn hs = true
    · rw [hlt] at HLi
      have iws : (100 : Int) < (tn : Int) := by have : ¬ tn ≤ 100 := fun h => hgo ⟨hlt, h⟩; omega
      clear hgo hP hB hT hm zh zt HOw hlt zm zp zq hlen
      generalize str m = xm at *
      generalize str p = xp at *
      generalize str q = xq at *
      go_enter Tryz.func3, Tryz.ntmps3
      go_wp2_with (first | (go_at_call 9; refine HLi.mono ?_; rintro e w1 ⟨rfl, hb1⟩; have T1 := T0.trans (hb1.mono T0.size); have K1 := K0.on hb1; have d0 := K1.cell 0; have d1 := K1.cell 1; have d2 := K1.cell 2; have d3 := K1.cell 3; have d4 := K1.cell 4) | (go_at_call 10; refine (HAl _ T1).mono ?_; rintro e w9 ⟨rfl, hb9⟩))
      go_ret
      exact ⟨rfl, T1.trans (hb9.mono T1.size)⟩
    · have hlt' : lightB m p q hn bn hs = false := by simpa using hlt
      rw [hlt'] at HLi
      clear hgo hP hB hT hm zh zt HOw hlt hlt' zm zp zq hlen
      generalize str m = xm at *
      generalize str p = xp at *
      generalize str q = xq at *
      go_enter Tryz.func3, Tryz.ntmps3
      go_wp2_with (first | (go_at_call 9; refine HLi.mono ?_; rintro e w1 ⟨rfl, hb1⟩; have T1 := T0.trans (hb1.mono T0.size); have K1 := K0.on hb1; have d0 := K1.cell 0; have d1 := K1.cell 1; have d2 := K1.cell 2; have d3 := K1.cell 3; have d4 := K1.cell 4) | (go_at_call 10; refine (HAl _ T1).mono ?_; rintro e w9 ⟨rfl, hb9⟩))
      go_ret
      exact ⟨rfl, T1.trans (hb9.mono T1.size)⟩
end Go.Proofs.YtgjmaeodgcigdaaGreatDoor
