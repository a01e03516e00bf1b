/- The walk of Sigv4Signs. -/
import Derived.Test.YtgjmaeodgcigdaaGreatDoorB40
import Derived.Test.YtgjmaeodgcigdaaGreatDoorR5t
import Derived.Test.YtgjmaeodgcigdaaGreatDoorB43
import Derived.Test.YtgjmaeodgcigdaaGreatDoorB35
namespace Go.Proofs.YtgjmaeodgcigdaaGreatDoor
open Go.RowKit

set_option maxRecDepth 20000 in
set_option maxHeartbeats 8000000 in
theorem walkSigns6 (sec dat m p q : List UInt8) (ha : Option Addr) (hn hc : Nat) (hs : List Pr) (ba : Option Addr) (bn bc : Nat) (bd : List UInt8) (ta : Option Addr) (tn tc : Nat) (ts : List (List UInt8)) (t : Nat) (w : World)
    (hP : IsP w ha hn hc hs) (hB : IsB w ba bn bc bd) (hT : IsT w ta tn tc ts) (hm : MxS w) (zm : m.length ≤ 140737488351232) (zp : p.length ≤ 140737488351232) (zq : q.length ≤ 140737488351232) (zb : bn ≤ 140737488351232) (zn : hn * 32 ≤ 140737488351232) (zh : ∀ i, i < hs.length → (nthP hs i).1.length ≤ 140737488351232 ∧ (nthP hs i).2.length ≤ 140737488351232) (zt : ∀ i, i < ts.length → (nthT ts i).length ≤ 140737488351232) (zs : sec.length ≤ 140737488351232) (zd : dat.length ≤ 140737488351232) (ht : t < 18446744073709551616) :
    Calls Tryz.prog 4 #[.string (str sec), .string (str dat), .agg #[.string (str m), .string (str p), .string (str q), .slice ha hn hc, .slice ba bn bc], .slice ta tn tc, .int .u64 (t : Int)] w fun e w' => e = .returned (.bool true) ∧ Below w.heap.size w w' := by
  have T0 : Below w.heap.size w (w.alloc (.cells #[.string (str m), .string (str p), .string (str q), .slice ha hn hc, .slice ba bn bc] 25)) := (Below.refl _ w).alloc (Nat.le_refl _) _
  have K0 := Blk.newAt w w.heap.size 25 _ [.string (str m), .string (str p), .string (str q), .slice ha hn hc, .slice ba bn bc] rfl rfl
  have c0 := K0.cell 0
  have c1 := K0.cell 1
  have c2 := K0.cell 2
  have c3 := K0.cell 3
  have c4 := K0.cell 4
  have HLi := lawLight6 m p q ha hn hc hs ba bn bc _ (hP.below T0 rfl) zm zp zq zb zh
  have HAl : ∀ W, Below w.heap.size w W → Calls Tryz.prog 10 #[] W fun e w' => e = .returned (.bool true) ∧ Below W.heap.size W w' := fun W hW => lawAlive6 W (hm.below hW hm.lt)
  have HOw : ∀ W, Below w.heap.size w W → Calls Tryz.prog 12 #[.agg #[.string (str m), .string (str p), .string (str q), .slice ha hn hc, .slice ba bn bc]] W fun e w' => (∃ va vc, e = .returned (.agg #[.string (str m), .string (str p), .string (str q), .slice va hn vc, .slice ba bn bc]) ∧ IsP w' va hn vc hs) ∧ Below W.heap.size W w' := fun W hW => (lawOwn5 (str m) (str p) (str q) ba bn bc ha hn hc hs W (hP.below hW rfl) (by omega)).mono (by
    rintro e w' ⟨v, rfl, ho, hb⟩
    have hl := hP.len_eq
    obtain ⟨va, vc, rfl, hi⟩ := ho.isP
    rw [hl] at hi ⊢
    exact ⟨⟨va, vc, rfl, hi⟩, hb⟩)
  have hlen := hP.len_eq
  have hti : tn ≤ 9223372036854775807 := by have := hT.le; have := hT.max; unfold maxLen at this; omega
  have y1 : (str sec).size = sec.length := str_size sec
  have y2 : (str dat).size = dat.length := str_size dat
  have wr1 : IntKind.i64.wrap ((sec.length : Int) + (dat.length : Int)) = (sec.length : Int) + (dat.length : Int) := wrapi64_in _ (by omega) (by omega)
  by_cases hgo : lightB m p q hn bn hs = true ∧ tn ≤ 100 ∧ sec.length + dat.length ≤ 10000
  · obtain ⟨hlt, hws, hsd⟩ := hgo
    have SH := light_short hlt hlen
    rw [hlt] at HLi
    have iws : ¬ (100 : Int) < (tn : Int) := by omega
    have isd : ¬ (10000 : Int) < (sec.length : Int) + (dat.length : Int) := by omega
    have zb3 : bn ≤ 30000 := by have := SH.b; omega
    obtain ⟨S, E, hsh, hs1, hs2⟩ := show_both t ht
    have hS : E = 0 → S.length = 16 := fun h => by
      rcases hsh with ⟨_, _, h1⟩ | ⟨_, h1, _⟩
      · rw [h1] at h; cases h
      · exact h1.length
    have HCo : ∀ W va vc, Below w.heap.size w W → IsP W va hn vc hs → Calls Tryz.prog 14 #[.string (str sec), .agg #[.string (str m), .string (str p), .string (str q), .slice va hn vc, .slice ba bn bc], .slice ta tn tc, .int .u64 (t : Int)] W fun e w' => e = .returned (.tuple #[.string (str (signT sec S E ⟨m, p, q, hs, bd⟩ ts)), .int .i64 (signE E ⟨m, p, q, hs, bd⟩ ts)]) ∧ Below W.heap.size W w' := fun W va vc hW hi => codSign sec m p q va hn vc hs ba bn bc bd ta tn tc ts t S E W hi (hB.below hW rfl) (hT.below hW rfl) (by omega) (by have := SH.m; omega) (by have := SH.p; omega) (by have := SH.q; omega) zb3 (fun i hi => Nat.le_trans (SH.h i hi).2 (by decide)) zt hS hs1
    have HRe : ∀ W, Below w.heap.size w W → Calls Tryz.prog 15 #[.string (str sec), .agg #[.string (str m), .string (str p), .string (str q), .slice ha hn hc, .slice ba bn bc], .slice ta tn tc, .int .u64 (t : Int)] W fun e w' => e = .returned (.tuple #[.string (str (signT sec S E ⟨m, p, q, hs, bd⟩ ts)), .int .i64 (signE E ⟨m, p, q, hs, bd⟩ ts)]) ∧ Below W.heap.size W w' := fun W hW => refSign sec m p q ha hn hc hs ba bn bc bd ta tn tc ts t S E W (hP.below hW rfl) (hB.below hW rfl) (hT.below hW rfl) (by omega) (by have := SH.m; omega) (by have := SH.p; omega) (by have := SH.q; omega) zb3 (fun i hi => Nat.le_trans (SH.h i hi).2 (by decide)) zt hS hs2
    have HK1 := fun W => codKey sec dat W (by omega) (by omega)
    have HK2 := fun W => refKey sec dat W (by omega) (by omega)
    have HSm : ∀ W a c a1 c1, IsB W a 32 c (keyL sec dat) → IsB W a1 32 c1 (keyL sec dat) → Calls Tryz.prog 16 #[.slice a 32 c, .slice a1 32 c1] W fun e w' => e = .returned (.bool true) ∧ ∃ n, w' = W.drewN n := fun W a c a1 c1 h1 h2 => by
      have h := refSame a 32 c (keyL sec dat) a1 32 c1 (keyL sec dat) W h1 h2
      rw [eqB_self] at h
      exact h
    generalize str (signT sec S E ⟨m, p, q, hs, bd⟩ ts) = xc at *
    generalize signE E ⟨m, p, q, hs, bd⟩ ts = ce at *
    generalize keyL sec dat = kl at *
    have hce : (ce == ce) = true := by simp
    clear SH hlt hm hP hB hT hws zh zt hlen zm zp zq zb3 hsh hs1 hs2 hS hsd zs zd
    generalize str m = xm at *
    generalize str p = xp at *
    generalize str q = xq at *
    generalize str sec = xs at *
    generalize str dat = xd at *
    generalize sec.length = ls at *
    generalize dat.length = ld at *
    go_enter Tryz.func4, Tryz.ntmps4
    go_wp2_with (first
      | (go_at_call 9; refine HLi.mono ?_; rintro e w1 ⟨rfl, hb1⟩; have T1 := T0.trans (hb1.mono T0.size); have K1 := K0.on hb1; have d0 := K1.cell 0; have d1 := K1.cell 1; have d2 := K1.cell 2; have d3 := K1.cell 3; have d4 := K1.cell 4)
      | (go_at_call 12; refine (HOw _ T1).mono ?_; rintro e w2 ⟨⟨va2, vc2, rfl, hi2⟩, hb2⟩; have T2 := T1.trans (hb2.mono T1.size))
      | (go_at_call 14; refine (HCo _ _ _ T2 hi2).mono ?_; rintro e w3 ⟨rfl, hb3⟩; have T3 := T2.trans (hb3.mono T2.size); have K3 := (K1.on hb2).on hb3; have e0 := K3.cell 0; have e1 := K3.cell 1; have e2 := K3.cell 2; have e3 := K3.cell 3; have e4 := K3.cell 4)
      | (go_at_call 15; refine (HRe _ T3).mono ?_; rintro e w4 ⟨rfl, hb4⟩; have T4 := T3.trans (hb4.mono T3.size))
      | (go_at_call 17; refine (HK1 _).mono ?_; rintro e w5 ⟨⟨va5, vc5, rfl, hi5⟩, hb5⟩; have T5 := T4.trans (hb5.mono T4.size))
      | (go_at_call 18; refine (HK2 _).mono ?_; rintro e w6 ⟨⟨va6, vc6, rfl, hi6⟩, hb6⟩; have T6 := T5.trans (hb6.mono T5.size))
      | (go_at_call 16; refine (HSm _ _ _ _ _ (hi5.below hb6 rfl) hi6).mono ?_; rintro e w7 ⟨rfl, nn, hw7⟩; have T7 : Below w.heap.size w w7 := (by rw [hw7]; exact bel_drewN T6 nn); clear hw7)
      | (go_at_call 10; refine (HAl _ T7).mono ?_; rintro e w9 ⟨rfl, hb9⟩))
    go_ret
    exact ⟨rfl, T7.trans (hb9.mono T7.size)⟩
  · by_cases hlt : lightB m p q hn bn hs = true
    · rw [hlt] at HLi
      by_cases htn : tn ≤ 100
      · have iws : ¬ (100 : Int) < (tn : Int) := by omega
        have isd : (10000 : Int) < (sec.length : Int) + (dat.length : Int) := by have : ¬ sec.length + dat.length ≤ 10000 := fun h => hgo ⟨hlt, htn, h⟩; omega
        clear hgo hP hB hT hm zh zt HOw hlt zm zp zq hlen zs zd
        generalize str m = xm at *
        generalize str p = xp at *
        generalize str q = xq at *
        generalize str sec = xs at *
        generalize str dat = xd at *
        generalize sec.length = ls at *
        generalize dat.length = ld at *
        go_enter Tryz.func4, Tryz.ntmps4
        go_wp2_with (first | (go_at_call 9; refine HLi.mono ?_; rintro e w1 ⟨rfl, hb1⟩; have T1 := T0.trans (hb1.mono T0.size); have K1 := K0.on hb1; have d0 := K1.cell 0; have d1 := K1.cell 1; have d2 := K1.cell 2; have d3 := K1.cell 3; have d4 := K1.cell 4) | (go_at_call 10; refine (HAl _ T1).mono ?_; rintro e w9 ⟨rfl, hb9⟩))
        go_ret
        exact ⟨rfl, T1.trans (hb9.mono T1.size)⟩
      · have iws : (100 : Int) < (tn : Int) := by omega
        clear hgo hP hB hT hm zh zt HOw hlt zm zp zq hlen zs zd
        generalize str m = xm at *
        generalize str p = xp at *
        generalize str q = xq at *
        generalize str sec = xs at *
        generalize str dat = xd at *
        generalize sec.length = ls at *
        generalize dat.length = ld at *
        go_enter Tryz.func4, Tryz.ntmps4
        go_wp2_with (first | (go_at_call 9; refine HLi.mono ?_; rintro e w1 ⟨rfl, hb1⟩; have T1 := T0.trans (hb1.mono T0.size); have K1 := K0.on hb1; have d0 := K1.cell 0; have d1 := K1.cell 1; have d2 := K1.cell 2; have d3 := K1.cell 3; have d4 := K1.cell 4) | (go_at_call 10; refine (HAl _ T1).mono ?_; rintro e w9 ⟨rfl, hb9⟩))
        go_ret
        exact ⟨rfl, T1.trans (hb9.mono T1.size)⟩
    · have hlt' : lightB m p q hn bn hs = false := by simpa using hlt
      rw [hlt'] at HLi
      clear hgo hP hB hT hm zh zt HOw hlt hlt' zm zp zq hlen zs zd
      generalize str m = xm at *
      generalize str p = xp at *
      generalize str q = xq at *
      generalize str sec = xs at *
      generalize str dat = xd at *
      generalize sec.length = ls at *
      generalize dat.length = ld at *
      go_enter Tryz.func4, Tryz.ntmps4
      go_wp2_with (first | (go_at_call 9; refine HLi.mono ?_; rintro e w1 ⟨rfl, hb1⟩; have T1 := T0.trans (hb1.mono T0.size); have K1 := K0.on hb1; have d0 := K1.cell 0; have d1 := K1.cell 1; have d2 := K1.cell 2; have d3 := K1.cell 3; have d4 := K1.cell 4) | (go_at_call 10; refine (HAl _ T1).mono ?_; rintro e w9 ⟨rfl, hb9⟩))
      go_ret
      exact ⟨rfl, T1.trans (hb9.mono T1.size)⟩
end Go.Proofs.YtgjmaeodgcigdaaGreatDoor
