/- The walk of Sigv4Back. -/
import Derived.Test.YtgjmaeodgcigdaaGreatDoorB40
import Derived.Test.YtgjmaeodgcigdaaGreatDoorR5t
namespace Go.Proofs.YtgjmaeodgcigdaaGreatDoor
open Go.RowKit

/-- what Attach tells, of a short request, at any time -/
theorem att_any (who sec m p q : List UInt8) (hs : List Pr) (bd : List UInt8) (t : Nat) (zw : who.length ≤ 50000) (zs : sec.length ≤ 100000) (zm : m.length ≤ 30000) (zp : p.length ≤ 30000) (zq : q.length ≤ 30000) (zb : bd.length ≤ 30000) (zh : ∀ i, i < hs.length → (nthP hs i).1.length ≤ 30000 ∧ (nthP hs i).2.length ≤ 30000) :
    ∃ S E, ((E = 0 ∧ IsTime S t) ∨ E = 6) ∧ ∀ (w : World) ha hn hc ba bn bc, IsP w ha hn hc hs → IsB w ba bn bc bd → MxS w →
      Calls Tryz.prog 24 #[.agg #[.string (str m), .string (str p), .string (str q), .slice ha hn hc, .slice ba bn bc], .string (str who), .string (str sec), .int .u64 (t : Int)] w fun e w' =>
        (if attE who sec S E ⟨m, p, q, hs, bd⟩ = 0 then ∃ va vn vc ua un uc, e = .returned (.tuple #[.agg #[.string (str m), .string (str p), .string (str q), .slice va vn vc, .slice ua un uc], .int .i64 0]) ∧ IsP w' va vn vc (attO who sec S E ⟨m, p, q, hs, bd⟩) ∧ IsB w' ua un uc bd
         else e = .returned (.tuple #[rqNone, .int .i64 (attE who sec S E ⟨m, p, q, hs, bd⟩)])) ∧ Below w.heap.size w w' := by
  obtain ⟨S, E, hsh, hc⟩ := show_cod t
  have hE : (E = 0 ∧ IsTime S t) ∨ E = 6 := by
    rcases hsh with ⟨_, _, h⟩ | ⟨_, h1, h2⟩
    · exact .inr h
    · exact .inl ⟨h2, h1⟩
  refine ⟨S, E, hE, fun w ha hn hc' ba bn bc hP hB hm => ?_⟩
  refine codAttach who sec m p q ha hn hc' hs ba bn bc bd t S E w hP hB hm zw zs zm zp zq (by have := hB.len_eq; omega) (fun i hi => (zh i hi).2) (fun i hi => Nat.le_trans (zh i hi).1 (by decide)) (fun h => ?_) hc
  rcases hE with ⟨_, h1⟩ | h1
  · exact h1.length
  · rw [h1] at h; cases h

set_option maxRecDepth 20000 in
set_option maxHeartbeats 8000000 in
theorem walkBack6 (who sec m p q : List UInt8) (ha : Option Addr) (hn hc : Nat) (hs : List Pr) (ba : Option Addr) (bn bc : Nat) (bd : List UInt8) (t now : Nat) (w : World)
    (hP : IsP w ha hn hc hs) (hB : IsB w ba bn bc bd) (hm : MxS w) (zw : who.length ≤ 140737488351232) (zs : sec.length ≤ 140737488351232) (zm : m.length ≤ 140737488351232) (zp : p.length ≤ 140737488351232) (zq : q.length ≤ 140737488351232) (zb : bn ≤ 140737488351232) (zn : hn * 32 ≤ 140737488351232) (zh : ∀ i, i < hs.length → (nthP hs i).1.length ≤ 140737488351232 ∧ (nthP hs i).2.length ≤ 140737488351232)
    (ht : t < 18446744073709551616) (hnow : now < 18446744073709551616) :
    Calls Tryz.prog 8 #[.agg #[.string (str m), .string (str p), .string (str q), .slice ha hn hc, .slice ba bn bc], .string (str who), .string (str sec), .int .u64 (t : Int), .int .u64 (now : Int)] w fun e w' => e = .returned (.bool true) ∧ Below w.heap.size w w' := by
  have T0 : Below w.heap.size w (w.alloc (.cells #[.string (str m), .string (str p), .string (str q), .slice ha hn hc, .slice ba bn bc] 25)) := (Below.refl _ w).alloc (Nat.le_refl _) _
  have K0 := Blk.newAt w w.heap.size 25 _ [.string (str m), .string (str p), .string (str q), .slice ha hn hc, .slice ba bn bc] rfl rfl
  have c0 := K0.cell 0
  have c1 := K0.cell 1
  have c2 := K0.cell 2
  have c3 := K0.cell 3
  have c4 := K0.cell 4
  have HLi := lawLight6 m p q ha hn hc hs ba bn bc _ (hP.below T0 rfl) zm zp zq zb zh
  have HAl : ∀ W, Below w.heap.size w W → Calls Tryz.prog 10 #[] W fun e w' => e = .returned (.bool true) ∧ Below W.heap.size W w' := fun W hW => lawAlive6 W (hm.below hW hm.lt)
  have HOw : ∀ W, Below w.heap.size w W → Calls Tryz.prog 12 #[.agg #[.string (str m), .string (str p), .string (str q), .slice ha hn hc, .slice ba bn bc]] W fun e w' => (∃ va vc, e = .returned (.agg #[.string (str m), .string (str p), .string (str q), .slice va hn vc, .slice ba bn bc]) ∧ IsP w' va hn vc hs) ∧ Below W.heap.size W w' := fun W hW => (lawOwn5 (str m) (str p) (str q) ba bn bc ha hn hc hs W (hP.below hW rfl) (by omega)).mono (by
    rintro e w' ⟨v, rfl, ho, hb⟩
    have hl := hP.len_eq
    obtain ⟨va, vc, rfl, hi⟩ := ho.isP
    rw [hl] at hi ⊢
    exact ⟨⟨va, vc, rfl, hi⟩, hb⟩)
  have y1 : (str who).size = who.length := str_size who
  have y2 : (str sec).size = sec.length := str_size sec
  have w1 : IntKind.i64.wrap ((who.length : Int) + (sec.length : Int)) = (who.length : Int) + (sec.length : Int) := wrapi64_in _ (by omega) (by omega)
  have hlen := hP.len_eq
  by_cases hgo : lightB m p q hn bn hs = true ∧ who.length + sec.length ≤ 10000
  · obtain ⟨hlt, hws⟩ := hgo
    have SH := light_short hlt hlen
    rw [hlt] at HLi
    have iws : ¬ (10000 : Int) < (who.length : Int) + (sec.length : Int) := by omega
    have hbl := hB.len_eq
    obtain ⟨S, E, hE, HAt⟩ := att_any who sec m p q hs bd t (by omega) (by omega) (by have := SH.m; omega) (by have := SH.p; omega) (by have := SH.q; omega) (by have := SH.b; omega) (fun i hi => by have := SH.h i hi; omega)
    have HBw : Hid (∀ W, Below w.heap.size w W → IsB W ba bn bc bd) := fun W hW => hB.below hW rfl
    have HMw : Hid (∀ W, Below w.heap.size w W → MxS W) := fun W hW => hm.below hW hm.lt
    by_cases hA0 : attE who sec S E ⟨m, p, q, hs, bd⟩ = 0
    · have hE0 : E = 0 ∧ IsTime S t := by
        rcases hE with h | h
        · exact h
        · exfalso
          unfold attE at hA0
          rw [if_pos (by rw [h]; decide)] at hA0
          rw [h] at hA0; cases hA0
      obtain ⟨rfl, hTi⟩ := hE0
      simp only [hA0, if_true] at HAt
      have HV : ∀ W va vn vc ua un uc (nw : Nat), MxS W → IsP W va vn vc (attO who sec S 0 ⟨m, p, q, hs, bd⟩) → IsB W ua un uc bd → nw < 18446744073709551616 → Calls Tryz.prog 28 #[.agg #[.string (str m), .string (str p), .string (str q), .slice va vn vc, .slice ua un uc], .string (str sec), .int .u64 (nw : Int)] W fun e w' => e = .returned (.int .i64 (if nearN t nw 900 = false then 21 else 0)) ∧ Below W.heap.size W w' := fun W va vn vc ua un uc nw hMW hPW hBW hnw => by
        obtain ⟨e1, e2⟩ := att_ver sec t nw hTi hA0
        have h := codVerify sec m p q va vn vc _ ua un uc bd nw t S 0 0 W hPW hBW hMW (by omega) (by have := SH.m; omega) (by have := SH.p; omega) (by have := SH.q; omega) (by have := hBW.len_eq; have := SH.b; omega) (att_vals hTi hA0 (fun i hi => Nat.le_trans (SH.h i hi).2 (by decide))) hnw ht (fun _ => by rw [e1]; exact hTi.length) (fun w => by rw [e1]; exact read_is hTi w) (fun _ => hTi.length) (show_is hTi)
        rw [e2] at h
        simp only [beq_self_eq_true, Bool.true_eq_false, if_false] at h
        exact h
      have hnt : nearN t t 900 = true := by unfold nearN; rw [if_neg (by omega)]; simp
      clear hA0 hTi hE zh SH hlt hm hP hB hws
      generalize attO who sec S 0 ⟨m, p, q, hs, bd⟩ = aO at *
      have HV2 : ∀ W va vn vc ua un uc, MxS W → IsP W va vn vc aO → IsB W ua un uc bd → Calls Tryz.prog 28 #[.agg #[.string (str m), .string (str p), .string (str q), .slice va vn vc, .slice ua un uc], .string (str sec), .int .u64 (t : Int)] W fun e w' => e = .returned (.int .i64 0) ∧ Below W.heap.size W w' := fun W va vn vc ua un uc h1 h2 h3 => by
        have h := HV W va vn vc ua un uc t h1 h2 h3 ht
        rw [hnt, if_neg (by decide)] at h
        exact h
      have HV1 : ∀ W va vn vc ua un uc, MxS W → IsP W va vn vc aO → IsB W ua un uc bd → _ := fun W va vn vc ua un uc h1 h2 h3 => HV W va vn vc ua un uc now h1 h2 h3 hnow
      clear HV hnt
      have hsb1 : t ≤ now → IntKind.u64.wrap ((now : Int) - (t : Int)) = (now : Int) - (t : Int) := fun h => by rw [IntKind.wrap_u64]; omega
      have hsb2 : now ≤ t → IntKind.u64.wrap ((t : Int) - (now : Int)) = (t : Int) - (now : Int) := fun h => by rw [IntKind.wrap_u64]; omega
      generalize str m = xm at *
      generalize str p = xp at *
      generalize str q = xq at *
      generalize who.length = lw at *
      generalize sec.length = ls at *
      generalize str who = xw at *
      generalize str sec = xs at *
      go_enter Tryz.func8, Tryz.ntmps8
      go_upto_region 6 with (first
        | (go_at_call 9; refine HLi.mono ?_; rintro e w1 ⟨rfl, hb1⟩; have T1 := T0.trans (hb1.mono T0.size); have K1 := K0.on hb1; have d0 := K1.cell 0; have d1 := K1.cell 1; have d2 := K1.cell 2; have d3 := K1.cell 3; have d4 := K1.cell 4)
        | (go_at_call 12; refine (HOw _ T1).mono ?_; rintro e w2 ⟨⟨va2, vc2, rfl, hi2⟩, hb2⟩; have T2 := T1.trans (hb2.mono T1.size))
        | (go_at_call 24; refine (HAt _ _ _ _ _ _ _ hi2 (HBw.out _ T2) (HMw.out _ T2)).mono ?_; rintro e w3 ⟨⟨va, vn, vc, ua, un, uc, rfl, hi3, hB3⟩, hb3⟩; have T3 := T2.trans (hb3.mono T2.size)))
      have A4 : Below w3.heap.size w3 (w3.alloc (.cells #[.string xm, .string xp, .string xq, .slice va vn vc, .slice ua un uc] 34)) := (Below.refl _ w3).alloc (Nat.le_refl _) _
      have K4 := Blk.newAt w3 w3.heap.size 34 _ [.string xm, .string xp, .string xq, .slice va vn vc, .slice ua un uc] rfl rfl
      have T4 := T3.trans (A4.mono T3.size)
      have hi4 := hi3.below A4 rfl
      have hB4 := hB3.below A4 rfl
      clear HLi HOw HAt T0 K0 c0 c1 c2 c3 c4 T1 K1 d0 d1 d2 d3 d4 hi2 T2 hi3 hB3 T3 A4 hb1 hb2 hb3 w1
      generalize hW4 : w3.alloc (.cells #[.string xm, .string xp, .string xq, .slice va vn vc, .slice ua un uc] 34) = W4 at *
      clear hW4
      generalize w3.heap.size = B4 at *
      have k0 : W4.cell? ⟨B4, 0, none⟩ = some (.string xm) := K4.cell 0
      have k1 : W4.cell? ⟨B4, 1, none⟩ = some (.string xp) := K4.cell 1
      have k2 : W4.cell? ⟨B4, 2, none⟩ = some (.string xq) := K4.cell 2
      have k3 : W4.cell? ⟨B4, 3, none⟩ = some (.slice va vn vc) := K4.cell 3
      have k4 : W4.cell? ⟨B4, 4, none⟩ = some (.slice ua un uc) := K4.cell 4
      have HM4 := HMw.out _ T4
      rcases Nat.lt_trichotomy t now with h | h | h
      · have i1 : (t : Int) ≤ (now : Int) := by omega
        have hs1 := hsb1 (by omega)
        have i5 : ¬ (now : Int) < (t : Int) := by omega
        by_cases h9 : now - t ≤ 900
        · have i3 : (now : Int) - (t : Int) ≤ 900 := by omega
          have hN : nearN t now 900 = true := by unfold nearN; rw [if_pos h]; exact decide_eq_true h9
          rw [hN] at HV1
          simp only [Bool.true_eq_false, if_false] at HV1
          clear hN hsb1 hsb2 h
          go_wp2_with (first
            | (go_at_call 28; first
              | (have hmk := T5; refine (HV2 _ _ _ _ _ _ _ (HMw.out _ T5) (hi4.below hb5 rfl) (hB4.below hb5 rfl)).mono ?_; rintro e w6 ⟨rfl, hb6⟩; have T6 := T5.trans (hb6.mono T5.size))
              | (refine (HV1 _ _ _ _ _ _ _ HM4 hi4 hB4).mono ?_; rintro e w5 ⟨rfl, hb5⟩; have T5 := T4.trans (hb5.mono T4.size); have K5 := K4.on hb5; have e0 := K5.cell 0; have e1 := K5.cell 1; have e2 := K5.cell 2; have e3 := K5.cell 3; have e4 := K5.cell 4))
            | (go_at_call 10; refine (HAl _ T6).mono ?_; rintro e w7 ⟨rfl, hb7⟩))
          go_ret
          exact ⟨rfl, T6.trans (hb7.mono T6.size)⟩
        · have i3 : ¬ (now : Int) - (t : Int) ≤ 900 := by omega
          have hN : nearN t now 900 = false := by unfold nearN; rw [if_pos h]; exact decide_eq_false h9
          rw [hN] at HV1
          simp only [if_true] at HV1
          clear hN hsb1 hsb2 h
          go_wp2_with (first
            | (go_at_call 28; first
              | (have hmk := T5; refine (HV2 _ _ _ _ _ _ _ (HMw.out _ T5) (hi4.below hb5 rfl) (hB4.below hb5 rfl)).mono ?_; rintro e w6 ⟨rfl, hb6⟩; have T6 := T5.trans (hb6.mono T5.size))
              | (refine (HV1 _ _ _ _ _ _ _ HM4 hi4 hB4).mono ?_; rintro e w5 ⟨rfl, hb5⟩; have T5 := T4.trans (hb5.mono T4.size); have K5 := K4.on hb5; have e0 := K5.cell 0; have e1 := K5.cell 1; have e2 := K5.cell 2; have e3 := K5.cell 3; have e4 := K5.cell 4))
            | (go_at_call 10; refine (HAl _ T6).mono ?_; rintro e w7 ⟨rfl, hb7⟩))
          go_ret
          exact ⟨rfl, T6.trans (hb7.mono T6.size)⟩
      · subst h
        have i1 : (t : Int) ≤ (t : Int) := by omega
        have hs1 := hsb1 (by omega)
        have i3 : (t : Int) - (t : Int) ≤ 900 := by omega
        have hN : nearN t t 900 = true := by unfold nearN; rw [if_neg (by omega)]; simp
        rw [hN] at HV1
        simp only [Bool.true_eq_false, if_false] at HV1
        clear hN hsb1 hsb2
        go_wp2_with (first
          | (go_at_call 28; first
            | (have hmk := T5; refine (HV2 _ _ _ _ _ _ _ (HMw.out _ T5) (hi4.below hb5 rfl) (hB4.below hb5 rfl)).mono ?_; rintro e w6 ⟨rfl, hb6⟩; have T6 := T5.trans (hb6.mono T5.size))
            | (refine (HV1 _ _ _ _ _ _ _ HM4 hi4 hB4).mono ?_; rintro e w5 ⟨rfl, hb5⟩; have T5 := T4.trans (hb5.mono T4.size); have K5 := K4.on hb5; have e0 := K5.cell 0; have e1 := K5.cell 1; have e2 := K5.cell 2; have e3 := K5.cell 3; have e4 := K5.cell 4))
          | (go_at_call 10; refine (HAl _ T6).mono ?_; rintro e w7 ⟨rfl, hb7⟩))
        go_ret
        exact ⟨rfl, T6.trans (hb7.mono T6.size)⟩
      · have i1 : ¬ (t : Int) ≤ (now : Int) := by omega
        have i2 : (now : Int) < (t : Int) := by omega
        have hs1 := hsb2 (by omega)
        by_cases h9 : t - now ≤ 900
        · have i3 : (t : Int) - (now : Int) ≤ 900 := by omega
          have hN : nearN t now 900 = true := by unfold nearN; rw [if_neg (by omega)]; exact decide_eq_true h9
          rw [hN] at HV1
          simp only [Bool.true_eq_false, if_false] at HV1
          clear hN hsb1 hsb2 h
          go_wp2_with (first
            | (go_at_call 28; first
              | (have hmk := T5; refine (HV2 _ _ _ _ _ _ _ (HMw.out _ T5) (hi4.below hb5 rfl) (hB4.below hb5 rfl)).mono ?_; rintro e w6 ⟨rfl, hb6⟩; have T6 := T5.trans (hb6.mono T5.size))
              | (refine (HV1 _ _ _ _ _ _ _ HM4 hi4 hB4).mono ?_; rintro e w5 ⟨rfl, hb5⟩; have T5 := T4.trans (hb5.mono T4.size); have K5 := K4.on hb5; have e0 := K5.cell 0; have e1 := K5.cell 1; have e2 := K5.cell 2; have e3 := K5.cell 3; have e4 := K5.cell 4))
            | (go_at_call 10; refine (HAl _ T6).mono ?_; rintro e w7 ⟨rfl, hb7⟩))
          go_ret
          exact ⟨rfl, T6.trans (hb7.mono T6.size)⟩
        · have i3 : ¬ (t : Int) - (now : Int) ≤ 900 := by omega
          have hN : nearN t now 900 = false := by unfold nearN; rw [if_neg (by omega)]; exact decide_eq_false h9
          rw [hN] at HV1
          simp only [if_true] at HV1
          clear hN hsb1 hsb2 h
          go_wp2_with (first
            | (go_at_call 28; first
              | (have hmk := T5; refine (HV2 _ _ _ _ _ _ _ (HMw.out _ T5) (hi4.below hb5 rfl) (hB4.below hb5 rfl)).mono ?_; rintro e w6 ⟨rfl, hb6⟩; have T6 := T5.trans (hb6.mono T5.size))
              | (refine (HV1 _ _ _ _ _ _ _ HM4 hi4 hB4).mono ?_; rintro e w5 ⟨rfl, hb5⟩; have T5 := T4.trans (hb5.mono T4.size); have K5 := K4.on hb5; have e0 := K5.cell 0; have e1 := K5.cell 1; have e2 := K5.cell 2; have e3 := K5.cell 3; have e4 := K5.cell 4))
            | (go_at_call 10; refine (HAl _ T6).mono ?_; rintro e w7 ⟨rfl, hb7⟩))
          go_ret
          exact ⟨rfl, T6.trans (hb7.mono T6.size)⟩
    · simp only [hA0, if_false] at HAt
      unfold rqNone at HAt
      have hz : (attE who sec S E ⟨m, p, q, hs, bd⟩ == 0) = false := by simpa using hA0
      generalize attE who sec S E ⟨m, p, q, hs, bd⟩ = aE at *
      clear hE SH hlt hm hP hB hws zh
      generalize str m = xm at *
      generalize str p = xp at *
      generalize str q = xq at *
      generalize who.length = lw at *
      generalize sec.length = ls at *
      generalize str who = xw at *
      generalize str sec = xs at *
      go_enter Tryz.func8, Tryz.ntmps8
      go_wp2_with (first
        | (go_at_call 9; refine HLi.mono ?_; rintro e w1 ⟨rfl, hb1⟩; have T1 := T0.trans (hb1.mono T0.size); have K1 := K0.on hb1; have d0 := K1.cell 0; have d1 := K1.cell 1; have d2 := K1.cell 2; have d3 := K1.cell 3; have d4 := K1.cell 4)
        | (go_at_call 12; refine (HOw _ T1).mono ?_; rintro e w2 ⟨⟨va2, vc2, rfl, hi2⟩, hb2⟩; have T2 := T1.trans (hb2.mono T1.size))
        | (go_at_call 24; refine (HAt _ _ _ _ _ _ _ hi2 (HBw.out _ T2) (HMw.out _ T2)).mono ?_; rintro e w3 ⟨rfl, hb3⟩; have T3 := T2.trans (hb3.mono T2.size))
        | (go_at_call 10; refine (HAl _ (T3.alloc T3.size _)).mono ?_; rintro e w4 ⟨rfl, hb4⟩))
      go_ret
      have T4 := T3.alloc T3.size (.cells #[.string ⟨#[]⟩, .string ⟨#[]⟩, .string ⟨#[]⟩, .slice none 0 0, .slice none 0 0] 34)
      exact ⟨rfl, T4.trans (hb4.mono T4.size)⟩
  · by_cases hlt : lightB m p q hn bn hs = true
    · rw [hlt] at HLi
      have iws : (10000 : Int) < (who.length : Int) + (sec.length : Int) := by have : ¬ who.length + sec.length ≤ 10000 := fun h => hgo ⟨hlt, h⟩; omega
      clear hgo hlt hP hB hm zh HOw
      generalize str m = xm at *
      generalize str p = xp at *
      generalize str q = xq at *
      generalize who.length = lw at *
      generalize sec.length = ls at *
      generalize str who = xw at *
      generalize str sec = xs at *
      go_enter Tryz.func8, Tryz.ntmps8
      go_wp2_with (first | (go_at_call 9; refine HLi.mono ?_; rintro e w1 ⟨rfl, hb1⟩; have T1 := T0.trans (hb1.mono T0.size)) | (go_at_call 10; refine (HAl _ T1).mono ?_; rintro e w4 ⟨rfl, hb4⟩))
      go_ret
      exact ⟨rfl, T1.trans (hb4.mono T1.size)⟩
    · have hlt' : lightB m p q hn bn hs = false := by simpa using hlt
      rw [hlt'] at HLi
      clear hgo hlt hlt' hP hB hm zh HOw
      generalize str m = xm at *
      generalize str p = xp at *
      generalize str q = xq at *
      generalize who.length = lw at *
      generalize sec.length = ls at *
      generalize str who = xw at *
      generalize str sec = xs at *
      go_enter Tryz.func8, Tryz.ntmps8
      go_wp2_with (first | (go_at_call 9; refine HLi.mono ?_; rintro e w1 ⟨rfl, hb1⟩; have T1 := T0.trans (hb1.mono T0.size)) | (go_at_call 10; refine (HAl _ T1).mono ?_; rintro e w4 ⟨rfl, hb4⟩))
      go_ret
      exact ⟨rfl, T1.trans (hb4.mono T1.size)⟩
end Go.Proofs.YtgjmaeodgcigdaaGreatDoor
