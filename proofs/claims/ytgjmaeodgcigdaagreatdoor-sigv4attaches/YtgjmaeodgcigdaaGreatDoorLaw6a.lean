/- The walk of Sigv4Attaches. -/
import Derived.Test.YtgjmaeodgcigdaaGreatDoorAttBoth
import Derived.Test.YtgjmaeodgcigdaaGreatDoorB40
import Derived.Test.YtgjmaeodgcigdaaGreatDoorR5t
import Derived.Test.YtgjmaeodgcigdaaGreatDoorR5u
import Derived.Test.YtgjmaeodgcigdaaGreatDoorR5z
namespace Go.Proofs.YtgjmaeodgcigdaaGreatDoor
open Go.RowKit

set_option maxRecDepth 20000 in
set_option maxHeartbeats 8000000 in
theorem walkAttaches6 (who sec m p q : List UInt8) (ha : Option Addr) (hn hc : Nat) (hs : List Pr) (ba : Option Addr) (bn bc : Nat) (bd : List UInt8) (t : Nat) (w : World)
    (hP : IsP w ha hn hc hs) (hB : IsB w ba bn bc bd) (hm : MxS w) (zw : who.length ≤ 140737488351232) (zs : sec.length ≤ 140737488351232) (zm : m.length ≤ 140737488351232) (zp : p.length ≤ 140737488351232) (zq : q.length ≤ 140737488351232) (zb : bn ≤ 140737488351232) (zn : hn * 32 ≤ 140737488351232) (zh : ∀ i, i < hs.length → (nthP hs i).1.length ≤ 140737488351232 ∧ (nthP hs i).2.length ≤ 140737488351232)
    (ht : t < 18446744073709551616) :
    Calls Tryz.prog 6 #[.agg #[.string (str m), .string (str p), .string (str q), .slice ha hn hc, .slice ba bn bc], .string (str who), .string (str sec), .int .u64 (t : Int)] w fun e w' => e = .returned (.bool true) ∧ Below w.heap.size w w' := by
  have T0 : Below w.heap.size w (w.alloc (.cells #[.string (str m), .string (str p), .string (str q), .slice ha hn hc, .slice ba bn bc] 25)) := (Below.refl _ w).alloc (Nat.le_refl _) _
  have K0 := Blk.newAt w w.heap.size 25 _ [.string (str m), .string (str p), .string (str q), .slice ha hn hc, .slice ba bn bc] rfl rfl
  have c0 := K0.cell 0
  have c1 := K0.cell 1
  have c2 := K0.cell 2
  have c3 := K0.cell 3
  have c4 := K0.cell 4
  have HLi := lawLight6 m p q ha hn hc hs ba bn bc _ (hP.below T0 rfl) zm zp zq zb zh
  have HAl : ∀ W, Below w.heap.size w W → Calls Tryz.prog 10 #[] W fun e w' => e = .returned (.bool true) ∧ Below W.heap.size W w' := fun W hW => lawAlive6 W (hm.below hW hm.lt)
  have HOw : ∀ W, Below w.heap.size w W → Calls Tryz.prog 12 #[.agg #[.string (str m), .string (str p), .string (str q), .slice ha hn hc, .slice ba bn bc]] W fun e w' => (∃ va vc, e = .returned (.agg #[.string (str m), .string (str p), .string (str q), .slice va hn vc, .slice ba bn bc]) ∧ IsP w' va hn vc hs) ∧ Below W.heap.size W w' := fun W hW => (lawOwn5 (str m) (str p) (str q) ba bn bc ha hn hc hs W (hP.below hW rfl) (by omega)).mono (by
    rintro e w' ⟨v, rfl, ho, hb⟩
    have hl := hP.len_eq
    obtain ⟨va, vc, rfl, hi⟩ := ho.isP
    rw [hl] at hi ⊢
    exact ⟨⟨va, vc, rfl, hi⟩, hb⟩)
  have y1 : (str who).size = who.length := str_size who
  have y2 : (str sec).size = sec.length := str_size sec
  have w1 : IntKind.i64.wrap ((who.length : Int) + (sec.length : Int)) = (who.length : Int) + (sec.length : Int) := wrapi64_in _ (by omega) (by omega)
  have hlen := hP.len_eq
  by_cases hgo : lightB m p q hn bn hs = true ∧ who.length + sec.length ≤ 10000
  · obtain ⟨hlt, hws⟩ := hgo
    have SH := light_short hlt hlen
    rw [hlt] at HLi
    have iws : ¬ (10000 : Int) < (who.length : Int) + (sec.length : Int) := by omega
    have hbl := hB.len_eq
    obtain ⟨R, aO, hOl, HAt, HRf⟩ := att_both who sec m p q hs bd t ht (by omega) (by omega) (by have := SH.m; omega) (by have := SH.p; omega) (by have := SH.q; omega) (by have := SH.b; omega) (by have := SH.n; omega) (fun i hi => by have := SH.h i hi; omega)
    have HPw : Hid (∀ W, Below w.heap.size w W → IsP W ha hn hc hs) := fun W hW => hP.below hW rfl
    have HBw : Hid (∀ W, Below w.heap.size w W → IsB W ba bn bc bd) := fun W hW => hB.below hW rfl
    have HMw : Hid (∀ W, Below w.heap.size w W → MxS W) := fun W hW => hm.below hW hm.lt
    have HBk : ∀ W (xm xp xq : ByteArray) va vn vc ua un uc (l : List Pr), l.length ≤ 1002 → IsP W va vn vc l → Calls Tryz.prog 27 #[.agg #[.string xm, .string xp, .string xq, .slice va vn vc, .slice ua un uc]] W fun e w' => (∃ va2 vc2, e = .returned (.agg #[.string xm, .string xp, .string xq, .slice va2 vn vc2, .slice ua un uc]) ∧ IsP w' va2 vn vc2 l) ∧ Below W.heap.size W w' := fun W xm xp xq va vn vc ua un uc l hl hi => (lawBack5 xm xp xq ua un uc va vn vc l W hi (by have := hi.len_eq; omega)).mono (by
      rintro e w' ⟨v, rfl, ho, hb⟩
      have hl := hi.len_eq
      obtain ⟨va2, vc2, rfl, hi2⟩ := ho.isP
      rw [hl] at hi2 ⊢
      exact ⟨⟨va2, vc2, rfl, hi2⟩, hb⟩)
    by_cases hR : R = 0
    · subst hR
      simp only [if_true] at HAt HRf
      have hOl2 := hOl rfl
      clear hOl SH hlt hm hP hB zh zm zp zq
      generalize str m = xm at *
      generalize str p = xp at *
      generalize str q = xq at *
      generalize str who = xw at *
      generalize str sec = xs at *
      go_enter Tryz.func6, Tryz.ntmps6
      go_wp2_with (first
        | (go_at_call 9; refine HLi.mono ?_; rintro e w1 ⟨rfl, hb1⟩; have T1 := T0.trans (hb1.mono T0.size); have K1 := K0.on hb1; have d0 := K1.cell 0; have d1 := K1.cell 1; have d2 := K1.cell 2; have d3 := K1.cell 3; have d4 := K1.cell 4)
        | (go_at_call 12; refine (HOw _ T1).mono ?_; rintro e w2 ⟨⟨va9, vc9, rfl, hi2⟩, hb2⟩; have T2 := T1.trans (hb2.mono T1.size); have K2 := K1.on hb2)
        | (go_at_call 24; refine (HAt _ _ _ _ _ _ _ hi2 (HBw.out _ T2) (HMw.out _ T2)).mono ?_; rintro e w3 ⟨⟨va, vn, vc, ua, un, uc, rfl, hi3, hB3⟩, hb3⟩; have T3 := T2.trans (hb3.mono T2.size); have A4 : Below w3.heap.size w3 (w3.alloc (.cells #[.string xm, .string xp, .string xq, .slice va vn vc, .slice ua un uc] 34)) := (Below.refl _ w3).alloc (Nat.le_refl _) _; have hi4 := hi3.below A4 rfl; have hB4 := hB3.below A4 rfl; have T4 := T3.trans (A4.mono T3.size); have X4 := Blk.newAt w3 w3.heap.size 34 _ [.string xm, .string xp, .string xq, .slice va vn vc, .slice ua un uc] rfl rfl; have K4 := (K2.on hb3).on A4; have f0 := K4.cell 0; have f1 := K4.cell 1; have f2 := K4.cell 2; have f3 := K4.cell 3; have f4 := K4.cell 4)
        | (go_at_call 25; refine (HRf _ _ _ _ _ _ _ (HPw.out _ T4) (HBw.out _ T4)).mono ?_; rintro e w5 ⟨⟨ra, rn, rc, rfl, hi5⟩, hb5⟩; have T5 := T4.trans (hb5.mono T4.size); have A6 : Below w5.heap.size w5 (w5.alloc (.cells #[.string xm, .string xp, .string xq, .slice ra rn rc, .slice ba bn bc] 25)) := (Below.refl _ w5).alloc (Nat.le_refl _) _; have T6 := T5.trans (A6.mono T5.size); have X6 := (X4.on hb5).on A6; have Y6 := Blk.newAt w5 w5.heap.size 25 _ [.string xm, .string xp, .string xq, .slice ra rn rc, .slice ba bn bc] rfl rfl; have hi6 := hi5.below A6 rfl; have hj6 := (hi4.below hb5 rfl).below A6 rfl; have hB6 := (hB4.below hb5 rfl).below A6 rfl; have g0 := X6.cell 0; have g1 := X6.cell 1; have g2 := X6.cell 2; have g3 := X6.cell 3; have g4 := X6.cell 4; have q0 := Y6.cell 0; have q1 := Y6.cell 1; have q2 := Y6.cell 2; have q3 := Y6.cell 3; have q4 := Y6.cell 4))
      have e1 : un = bn := by rw [← hB6.len_eq]; exact hbl
      have e2 : rn = vn := by rw [← hi6.len_eq]; exact hj6.len_eq
      subst e1 e2
      have hC6 := HBw.out _ T6
      clear HOw HAt HRf HLi T0 K0 T1 K1 T2 K2 T3 A4 hi4 hB4 T4 X4 K4 f0 f1 f2 f3 f4 T5 A6 g0 g1 g2 g3 g4 q0 q1 q2 q3 q4 hb1 hb2 hb3 hb5 hi2 hi3 hB3 hi5 d0 d1 d2 d3 d4 c0 c1 c2 c3 c4
      generalize hX : w5.alloc (.cells #[.string xm, .string xp, .string xq, .slice ra rn rc, .slice ba un bc] 25) = X at *
      clear hX
      generalize w3.heap.size = AB at *
      generalize w5.heap.size = BB at *
      have HKP : ∀ w', Below X.heap.size X w' → Below X.heap.size X w' ∧ w'.cell? ⟨AB, 0, none⟩ = some (.string xm) ∧ w'.cell? ⟨AB, 1, none⟩ = some (.string xp) ∧ w'.cell? ⟨AB, 2, none⟩ = some (.string xq) ∧ w'.cell? ⟨AB, 3, none⟩ = some (.slice va rn vc) ∧ w'.cell? ⟨AB, 4, none⟩ = some (.slice ua un uc) ∧ w'.cell? ⟨BB, 0, none⟩ = some (.string xm) ∧ w'.cell? ⟨BB, 1, none⟩ = some (.string xp) ∧ w'.cell? ⟨BB, 2, none⟩ = some (.string xq) ∧ w'.cell? ⟨BB, 3, none⟩ = some (.slice ra rn rc) ∧ w'.cell? ⟨BB, 4, none⟩ = some (.slice ba un bc) := fun w' hb => ⟨hb, (X6.on hb).cell 0, (X6.on hb).cell 1, (X6.on hb).cell 2, (X6.on hb).cell 3, (X6.on hb).cell 4, (Y6.on hb).cell 0, (Y6.on hb).cell 1, (Y6.on hb).cell 2, (Y6.on hb).cell 3, (Y6.on hb).cell 4⟩
      have HTX : ∀ w', Below X.heap.size X w' → Below w.heap.size w w' := fun w' hb => T6.trans (hb.mono T6.size)
      have HPa : Hid (∀ w', Below X.heap.size X w' → IsP w' va rn vc aO) := fun w' hb => hj6.below hb rfl
      have HPb : Hid (∀ w', Below X.heap.size X w' → IsP w' ra rn rc aO) := fun w' hb => hi6.below hb rfl
      have HBa : Hid (∀ w', Below X.heap.size X w' → IsB w' ua un uc bd) := fun w' hb => hB6.below hb rfl
      have HBb : Hid (∀ w', Below X.heap.size X w' → IsB w' ba un bc bd) := fun w' hb => hC6.below hb rfl
      clear X6 Y6 hj6 hi6 hB6 hC6
      go_region_held3 (fun w' => Below X.heap.size X w' ∧ w'.cell? ⟨AB, 0, none⟩ = some (.string xm) ∧ w'.cell? ⟨AB, 1, none⟩ = some (.string xp) ∧ w'.cell? ⟨AB, 2, none⟩ = some (.string xq) ∧ w'.cell? ⟨AB, 3, none⟩ = some (.slice va rn vc) ∧ w'.cell? ⟨AB, 4, none⟩ = some (.slice ua un uc) ∧ w'.cell? ⟨BB, 0, none⟩ = some (.string xm) ∧ w'.cell? ⟨BB, 1, none⟩ = some (.string xp) ∧ w'.cell? ⟨BB, 2, none⟩ = some (.string xq) ∧ w'.cell? ⟨BB, 3, none⟩ = some (.slice ra rn rc) ∧ w'.cell? ⟨BB, 4, none⟩ = some (.slice ba un bc))
        (first | exact HKP _ ((Below.refl _ X).drew) | assumption | (have hq0 := ‹Below _ _ _ ∧ _›; first | exact HKP _ (hq0.1.trans (hbB.mono hq0.1.size)) | exact HKP _ (hq0.1.trans (hbS.mono hq0.1.size)) | exact HKP _ (hq0.1.trans (hbA.mono hq0.1.size))))
        (first
          | (go_at_call 27; have hq0 := ‹Below _ _ _ ∧ _›; refine (HBk _ _ _ _ _ _ _ _ _ _ aO hOl2 (HPa.out _ hq0.1)).mono ?_; rintro e y7 ⟨⟨va7, vc7, rfl, hi7⟩, hbB⟩; clear hq0)
          | (go_at_call 26; have hq0 := ‹Below _ _ _ ∧ _›; refine (refSame5 xm xp xq _ _ _ _ _ aO _ _ _ _ _ bd _ hi7 (HPb.out _ hq0.1) (HBa.out _ hq0.1) (HBb.out _ hq0.1)).mono ?_; rintro e y8 ⟨rfl, hbS⟩; clear hq0)
          | (go_at_call 10; have hq0 := ‹Below _ _ _ ∧ _›; refine (HAl _ (HTX _ hq0.1)).mono ?_; rintro e y9 ⟨rfl, hbA⟩; clear hq0))
      all_goals
        have hq9 := ‹Below _ _ _ ∧ _›
        go_wp2
        go_ret
        exact ⟨rfl, HTX _ hq9.1⟩
    · have hskip : True := trivial
      clear hskip
      simp only [hR, if_false] at HAt HRf
      unfold rqNone at HAt HRf
      have hzz : (R == R) = true := by simp
      clear hOl SH hlt hm hP hB zh zm zp zq
      generalize str m = xm at *
      generalize str p = xp at *
      generalize str q = xq at *
      generalize str who = xw at *
      generalize str sec = xs at *
      go_enter Tryz.func6, Tryz.ntmps6
      go_wp2_with (first
        | (go_at_call 9; refine HLi.mono ?_; rintro e w1 ⟨rfl, hb1⟩; have T1 := T0.trans (hb1.mono T0.size); have K1 := K0.on hb1; have d0 := K1.cell 0; have d1 := K1.cell 1; have d2 := K1.cell 2; have d3 := K1.cell 3; have d4 := K1.cell 4)
        | (go_at_call 12; refine (HOw _ T1).mono ?_; rintro e w2 ⟨⟨va9, vc9, rfl, hi2⟩, hb2⟩; have T2 := T1.trans (hb2.mono T1.size); have K2 := K1.on hb2)
        | (go_at_call 24; refine (HAt _ _ _ _ _ _ _ hi2 (HBw.out _ T2) (HMw.out _ T2)).mono ?_; rintro e w3 ⟨rfl, hb3⟩; have T3 := T2.trans (hb3.mono T2.size); have A4 : Below w3.heap.size w3 (w3.alloc (.cells #[.string ⟨#[]⟩, .string ⟨#[]⟩, .string ⟨#[]⟩, .slice none 0 0, .slice none 0 0] 34)) := (Below.refl _ w3).alloc (Nat.le_refl _) _; have T4 := T3.trans (A4.mono T3.size); have X4 := Blk.newAt w3 w3.heap.size 34 _ [.string ⟨#[]⟩, .string ⟨#[]⟩, .string ⟨#[]⟩, .slice none 0 0, .slice none 0 0] rfl rfl; have K4 := (K2.on hb3).on A4; have f0 := K4.cell 0; have f1 := K4.cell 1; have f2 := K4.cell 2; have f3 := K4.cell 3; have f4 := K4.cell 4)
        | (go_at_call 25; refine (HRf _ _ _ _ _ _ _ (HPw.out _ T4) (HBw.out _ T4)).mono ?_; rintro e w5 ⟨rfl, hb5⟩; have T5 := T4.trans (hb5.mono T4.size); have A6 : Below w5.heap.size w5 (w5.alloc (.cells #[.string ⟨#[]⟩, .string ⟨#[]⟩, .string ⟨#[]⟩, .slice none 0 0, .slice none 0 0] 25)) := (Below.refl _ w5).alloc (Nat.le_refl _) _; have T6 := T5.trans (A6.mono T5.size); have X6 := (X4.on hb5).on A6; have Y6 := Blk.newAt w5 w5.heap.size 25 _ [.string ⟨#[]⟩, .string ⟨#[]⟩, .string ⟨#[]⟩, .slice none 0 0, .slice none 0 0] rfl rfl; have g0 := X6.cell 0; have g1 := X6.cell 1; have g2 := X6.cell 2; have g3 := X6.cell 3; have g4 := X6.cell 4; have q0 := Y6.cell 0; have q1 := Y6.cell 1; have q2 := Y6.cell 2; have q3 := Y6.cell 3; have q4 := Y6.cell 4))
      clear HOw HAt HRf HLi T0 K0 T1 K1 T2 K2 T3 A4 T4 X4 K4 f0 f1 f2 f3 f4 T5 A6 g0 g1 g2 g3 g4 q0 q1 q2 q3 q4 hb1 hb2 hb3 hb5 hi2 d0 d1 d2 d3 d4 c0 c1 c2 c3 c4
      generalize hX : w5.alloc (.cells #[.string ⟨#[]⟩, .string ⟨#[]⟩, .string ⟨#[]⟩, .slice none 0 0, .slice none 0 0] 25) = X at *
      clear hX
      generalize w3.heap.size = AB at *
      generalize w5.heap.size = BB at *
      have hj6 : IsP X none 0 0 [] := (OwnP.nil 68 X 0).toP
      have hi6 : IsP X none 0 0 [] := (OwnP.nil 68 X 0).toP
      have hB6 : IsB X none 0 0 [] := isB_none X
      have hC6 : IsB X none 0 0 [] := isB_none X
      have HKP : ∀ w', Below X.heap.size X w' → Below X.heap.size X w' ∧ w'.cell? ⟨AB, 0, none⟩ = some (.string ⟨#[]⟩) ∧ w'.cell? ⟨AB, 1, none⟩ = some (.string ⟨#[]⟩) ∧ w'.cell? ⟨AB, 2, none⟩ = some (.string ⟨#[]⟩) ∧ w'.cell? ⟨AB, 3, none⟩ = some (.slice none 0 0) ∧ w'.cell? ⟨AB, 4, none⟩ = some (.slice none 0 0) ∧ w'.cell? ⟨BB, 0, none⟩ = some (.string ⟨#[]⟩) ∧ w'.cell? ⟨BB, 1, none⟩ = some (.string ⟨#[]⟩) ∧ w'.cell? ⟨BB, 2, none⟩ = some (.string ⟨#[]⟩) ∧ w'.cell? ⟨BB, 3, none⟩ = some (.slice none 0 0) ∧ w'.cell? ⟨BB, 4, none⟩ = some (.slice none 0 0) := fun w' hb => ⟨hb, (X6.on hb).cell 0, (X6.on hb).cell 1, (X6.on hb).cell 2, (X6.on hb).cell 3, (X6.on hb).cell 4, (Y6.on hb).cell 0, (Y6.on hb).cell 1, (Y6.on hb).cell 2, (Y6.on hb).cell 3, (Y6.on hb).cell 4⟩
      have HTX : ∀ w', Below X.heap.size X w' → Below w.heap.size w w' := fun w' hb => T6.trans (hb.mono T6.size)
      have HPa : Hid (∀ w', Below X.heap.size X w' → IsP w' none 0 0 []) := fun w' hb => hj6.below hb rfl
      have HPb : Hid (∀ w', Below X.heap.size X w' → IsP w' none 0 0 []) := fun w' hb => hi6.below hb rfl
      have HBa : Hid (∀ w', Below X.heap.size X w' → IsB w' none 0 0 []) := fun w' hb => hB6.below hb rfl
      have HBb : Hid (∀ w', Below X.heap.size X w' → IsB w' none 0 0 []) := fun w' hb => hC6.below hb rfl
      clear X6 Y6 hj6 hi6 hB6 hC6
      go_region_held3 (fun w' => Below X.heap.size X w' ∧ w'.cell? ⟨AB, 0, none⟩ = some (.string ⟨#[]⟩) ∧ w'.cell? ⟨AB, 1, none⟩ = some (.string ⟨#[]⟩) ∧ w'.cell? ⟨AB, 2, none⟩ = some (.string ⟨#[]⟩) ∧ w'.cell? ⟨AB, 3, none⟩ = some (.slice none 0 0) ∧ w'.cell? ⟨AB, 4, none⟩ = some (.slice none 0 0) ∧ w'.cell? ⟨BB, 0, none⟩ = some (.string ⟨#[]⟩) ∧ w'.cell? ⟨BB, 1, none⟩ = some (.string ⟨#[]⟩) ∧ w'.cell? ⟨BB, 2, none⟩ = some (.string ⟨#[]⟩) ∧ w'.cell? ⟨BB, 3, none⟩ = some (.slice none 0 0) ∧ w'.cell? ⟨BB, 4, none⟩ = some (.slice none 0 0))
        (first | exact HKP _ ((Below.refl _ X).drew) | assumption | (have hq0 := ‹Below _ _ _ ∧ _›; first | exact HKP _ (hq0.1.trans (hbB.mono hq0.1.size)) | exact HKP _ (hq0.1.trans (hbS.mono hq0.1.size)) | exact HKP _ (hq0.1.trans (hbA.mono hq0.1.size))))
        (first
          | (go_at_call 27; have hq0 := ‹Below _ _ _ ∧ _›; refine (HBk _ _ _ _ _ _ _ _ _ _ [] (Nat.zero_le _) (HPa.out _ hq0.1)).mono ?_; rintro e y7 ⟨⟨va7, vc7, rfl, hi7⟩, hbB⟩; clear hq0)
          | (go_at_call 26; have hq0 := ‹Below _ _ _ ∧ _›; refine (refSame5 ⟨#[]⟩ ⟨#[]⟩ ⟨#[]⟩ _ _ _ _ _ [] _ _ _ _ _ [] _ hi7 (HPb.out _ hq0.1) (HBa.out _ hq0.1) (HBb.out _ hq0.1)).mono ?_; rintro e y8 ⟨rfl, hbS⟩; clear hq0)
          | (go_at_call 10; have hq0 := ‹Below _ _ _ ∧ _›; refine (HAl _ (HTX _ hq0.1)).mono ?_; rintro e y9 ⟨rfl, hbA⟩; clear hq0))
      all_goals
        have hq9 := ‹Below _ _ _ ∧ _›
        go_wp2
        go_ret
        exact ⟨rfl, HTX _ hq9.1⟩
  · by_cases hlt : lightB m p q hn bn hs = true
    · rw [hlt] at HLi
      have iws : (10000 : Int) < (who.length : Int) + (sec.length : Int) := by have : ¬ who.length + sec.length ≤ 10000 := fun h => hgo ⟨hlt, h⟩; omega
      clear hgo hlt hP hB hm zh HOw
      generalize str m = xm at *
      generalize str p = xp at *
      generalize str q = xq at *
      generalize who.length = lw at *
      generalize sec.length = ls at *
      generalize str who = xw at *
      generalize str sec = xs at *
      go_enter Tryz.func6, Tryz.ntmps6
      go_wp2_with (first | (go_at_call 9; refine HLi.mono ?_; rintro e w1 ⟨rfl, hb1⟩; have T1 := T0.trans (hb1.mono T0.size)) | (go_at_call 10; refine (HAl _ T1).mono ?_; rintro e w4 ⟨rfl, hb4⟩))
      go_ret
      exact ⟨rfl, T1.trans (hb4.mono T1.size)⟩
    · have hlt' : lightB m p q hn bn hs = false := by simpa using hlt
      rw [hlt'] at HLi
      clear hgo hlt hlt' hP hB hm zh HOw
      generalize str m = xm at *
      generalize str p = xp at *
      generalize str q = xq at *
      generalize who.length = lw at *
      generalize sec.length = ls at *
      generalize str who = xw at *
      generalize str sec = xs at *
      go_enter Tryz.func6, Tryz.ntmps6
      go_wp2_with (first | (go_at_call 9; refine HLi.mono ?_; rintro e w1 ⟨rfl, hb1⟩; have T1 := T0.trans (hb1.mono T0.size)) | (go_at_call 10; refine (HAl _ T1).mono ?_; rintro e w4 ⟨rfl, hb4⟩))
      go_ret
      exact ⟨rfl, T1.trans (hb4.mono T1.size)⟩
end Go.Proofs.YtgjmaeodgcigdaaGreatDoor
