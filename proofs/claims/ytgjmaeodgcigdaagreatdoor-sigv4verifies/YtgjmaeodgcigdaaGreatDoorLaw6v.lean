/- The walk of Sigv4Verifies. -/
import Derived.Test.YtgjmaeodgcigdaaGreatDoorB40
import Derived.Test.YtgjmaeodgcigdaaGreatDoorR5t
import Derived.Test.YtgjmaeodgcigdaaGreatDoorB43
import Derived.Test.YtgjmaeodgcigdaaGreatDoorB24
namespace Go.Proofs.YtgjmaeodgcigdaaGreatDoor
open Go.RowKit

/-- what Verify tells, by the program and by the document -/
theorem ver_both (sec m p q : List UInt8) (hs : List Pr) (bd : List UInt8) (now : Nat) (zs : sec.length ≤ 100000) (zm : m.length ≤ 30000) (zp : p.length ≤ 30000) (zq : q.length ≤ 30000) (zb : bd.length ≤ 30000) (zh : ∀ i, i < hs.length → (nthP hs i).2.length ≤ 30000) (hnow : now < 18446744073709551616) :
    ∃ R : Int, (∀ (w : World) ha hn hc ba bn bc, IsP w ha hn hc hs → IsB w ba bn bc bd → MxS w → Calls Tryz.prog 28 #[.agg #[.string (str m), .string (str p), .string (str q), .slice ha hn hc, .slice ba bn bc], .string (str sec), .int .u64 (now : Int)] w fun e w' => e = .returned (.int .i64 R) ∧ Below w.heap.size w w') ∧
      (∀ (w : World) ha hn hc ba bn bc, IsP w ha hn hc hs → IsB w ba bn bc bd → Calls Tryz.prog 29 #[.agg #[.string (str m), .string (str p), .string (str q), .slice ha hn hc, .slice ba bn bc], .string (str sec), .int .u64 (now : Int)] w fun e w' => e = .returned (.int .i64 R) ∧ Below w.heap.size w w') := by
  obtain ⟨T, F, hr, hre⟩ := read_val (vDa hs)
  have hT : T < 18446744073709551616 := by
    rcases hr with ⟨h, _⟩ | ⟨_, h, _⟩
    · have := h.le; omega
    · omega
  have hF : F = 0 → (vDa hs).length = 16 := fun h => by
    rcases hr with ⟨h1, _⟩ | ⟨_, _, h1⟩
    · exact h1.length
    · rw [h1] at h; cases h
  obtain ⟨S, E, hsh, hs1, hs2⟩ := show_both T hT
  have hS : E = 0 → S.length = 16 := fun h => by
    rcases hsh with ⟨_, _, h1⟩ | ⟨_, h1, _⟩
    · rw [h1] at h; cases h
    · exact h1.length
  refine ⟨verE sec S E F T now ⟨m, p, q, hs, bd⟩, fun w ha hn hc ba bn bc hP hB hm => ?_, fun w ha hn hc ba bn bc hP hB => ?_⟩
  · refine codVerify sec m p q ha hn hc hs ba bn bc bd now T S E F w hP hB hm zs zm zp zq (by have := hB.len_eq; omega) zh hnow hT hF (fun w => ?_) hS hs1
    refine (codRead (str (vDa hs)) w).mono ?_
    rintro e w' ⟨he, hb⟩
    rw [str_list] at he
    exact ⟨hre e he, hb⟩
  · refine refVerify sec m p q ha hn hc hs ba bn bc bd now T S E F w hP hB zs zm zp zq (by have := hB.len_eq; omega) zh hnow hT hF (fun w => ?_) hS hs2
    refine (refRead (str (vDa hs)) w).mono ?_
    rintro e w' ⟨he, hb⟩
    rw [str_list] at he
    exact ⟨hre e he, hb⟩

set_option maxRecDepth 20000 in
set_option maxHeartbeats 8000000 in
theorem walkVerifies6 (sec m p q : List UInt8) (ha : Option Addr) (hn hc : Nat) (hs : List Pr) (ba : Option Addr) (bn bc : Nat) (bd : List UInt8) (now : Nat) (w : World)
    (hP : IsP w ha hn hc hs) (hB : IsB w ba bn bc bd) (hm : MxS w) (zs : sec.length ≤ 140737488351232) (zm : m.length ≤ 140737488351232) (zp : p.length ≤ 140737488351232) (zq : q.length ≤ 140737488351232) (zb : bn ≤ 140737488351232) (zn : hn * 32 ≤ 140737488351232) (zh : ∀ i, i < hs.length → (nthP hs i).1.length ≤ 140737488351232 ∧ (nthP hs i).2.length ≤ 140737488351232)
    (hnow : now < 18446744073709551616) :
    Calls Tryz.prog 7 #[.agg #[.string (str m), .string (str p), .string (str q), .slice ha hn hc, .slice ba bn bc], .string (str sec), .int .u64 (now : Int)] w fun e w' => e = .returned (.bool true) ∧ Below w.heap.size w w' := by
  have T0 : Below w.heap.size w (w.alloc (.cells #[.string (str m), .string (str p), .string (str q), .slice ha hn hc, .slice ba bn bc] 25)) := (Below.refl _ w).alloc (Nat.le_refl _) _
  have K0 := Blk.newAt w w.heap.size 25 _ [.string (str m), .string (str p), .string (str q), .slice ha hn hc, .slice ba bn bc] rfl rfl
  have c0 := K0.cell 0
  have c1 := K0.cell 1
  have c2 := K0.cell 2
  have c3 := K0.cell 3
  have c4 := K0.cell 4
  have HLi := lawLight6 m p q ha hn hc hs ba bn bc _ (hP.below T0 rfl) zm zp zq zb zh
  have HAl : ∀ W, Below w.heap.size w W → Calls Tryz.prog 10 #[] W fun e w' => e = .returned (.bool true) ∧ Below W.heap.size W w' := fun W hW => lawAlive6 W (hm.below hW hm.lt)
  have HOw : ∀ W, Below w.heap.size w W → Calls Tryz.prog 12 #[.agg #[.string (str m), .string (str p), .string (str q), .slice ha hn hc, .slice ba bn bc]] W fun e w' => (∃ va vc, e = .returned (.agg #[.string (str m), .string (str p), .string (str q), .slice va hn vc, .slice ba bn bc]) ∧ IsP w' va hn vc hs) ∧ Below W.heap.size W w' := fun W hW => (lawOwn5 (str m) (str p) (str q) ba bn bc ha hn hc hs W (hP.below hW rfl) (by omega)).mono (by
    rintro e w' ⟨v, rfl, ho, hb⟩
    have hl := hP.len_eq
    obtain ⟨va, vc, rfl, hi⟩ := ho.isP
    rw [hl] at hi ⊢
    exact ⟨⟨va, vc, rfl, hi⟩, hb⟩)
  have y2 : (str sec).size = sec.length := str_size sec
  have hlen := hP.len_eq
  by_cases hgo : lightB m p q hn bn hs = true ∧ sec.length ≤ 10000
  · obtain ⟨hlt, hws⟩ := hgo
    have SH := light_short hlt hlen
    rw [hlt] at HLi
    have iws : ¬ (10000 : Int) < (sec.length : Int) := by omega
    have hbl := hB.len_eq
    obtain ⟨R, HV, HR⟩ := ver_both sec m p q hs bd now (by omega) (by have := SH.m; omega) (by have := SH.p; omega) (by have := SH.q; omega) (by have := SH.b; omega) (fun i hi => Nat.le_trans (SH.h i hi).2 (by decide)) hnow
    have HBw : Hid (∀ W, Below w.heap.size w W → IsB W ba bn bc bd) := fun W hW => hB.below hW rfl
    have HPw : Hid (∀ W, Below w.heap.size w W → IsP W ha hn hc hs) := fun W hW => hP.below hW rfl
    have HMw : Hid (∀ W, Below w.heap.size w W → MxS W) := fun W hW => hm.below hW hm.lt
    have hRR : (R == R) = true := by simp
    clear SH hlt hm hP hB hws zh hbl hlen zm zp zq
    generalize str m = xm at *
    generalize str p = xp at *
    generalize str q = xq at *
    generalize sec.length = ls at *
    generalize str sec = xs at *
    go_enter Tryz.func7, Tryz.ntmps7
    go_upto_region 3 with (go_at_call 9; refine HLi.mono ?_; rintro e w1 ⟨rfl, hb1⟩)
    have T1 := T0.trans (hb1.mono T0.size)
    have K1 := K0.on hb1
    clear T0 K0 c0 c1 c2 c3 c4 HLi hb1
    have HKP : ∀ w', Below w1.heap.size w1 w' → Below w1.heap.size w1 w' ∧ w'.cell? ⟨w.heap.size, 0, none⟩ = some (.string xm) ∧ w'.cell? ⟨w.heap.size, 1, none⟩ = some (.string xp) ∧ w'.cell? ⟨w.heap.size, 2, none⟩ = some (.string xq) ∧ w'.cell? ⟨w.heap.size, 3, none⟩ = some (.slice ha hn hc) ∧ w'.cell? ⟨w.heap.size, 4, none⟩ = some (.slice ba bn bc) := fun w' hb => ⟨hb, (K1.on hb).cell 0, (K1.on hb).cell 1, (K1.on hb).cell 2, (K1.on hb).cell 3, (K1.on hb).cell 4⟩
    have HT1 : ∀ w', Below w1.heap.size w1 w' → Below w.heap.size w w' := fun w' hb => T1.trans (hb.mono T1.size)
    clear K1
    go_region_held3 (fun w' => Below w1.heap.size w1 w' ∧ w'.cell? ⟨w.heap.size, 0, none⟩ = some (.string xm) ∧ w'.cell? ⟨w.heap.size, 1, none⟩ = some (.string xp) ∧ w'.cell? ⟨w.heap.size, 2, none⟩ = some (.string xq) ∧ w'.cell? ⟨w.heap.size, 3, none⟩ = some (.slice ha hn hc) ∧ w'.cell? ⟨w.heap.size, 4, none⟩ = some (.slice ba bn bc))
      (first | exact HKP _ ((Below.refl _ w1).drew) | assumption | (have hq0 := ‹Below _ _ _ ∧ _›; first | exact HKP _ (hq0.1.trans (hbO.mono hq0.1.size)) | exact HKP _ (hq0.1.trans (hbV.mono hq0.1.size)) | exact HKP _ (hq0.1.trans (hbR.mono hq0.1.size)) | exact HKP _ (hq0.1.trans (hbA.mono hq0.1.size))))
      (first
        | (go_at_call 12; have hq0 := ‹Below _ _ _ ∧ _›; refine (HOw _ (HT1 _ hq0.1)).mono ?_; rintro e w2 ⟨⟨va2, vc2, rfl, hi2⟩, hbO⟩; clear hq0)
        | (go_at_call 28; have hq0 := ‹Below _ _ _ ∧ _›; refine (HV _ _ _ _ _ _ _ (by first | exact hi2 | exact hi2.below hbR rfl) (HBw.out _ (HT1 _ hq0.1)) (HMw.out _ (HT1 _ hq0.1))).mono ?_; rintro e w3 ⟨rfl, hbV⟩; clear hq0)
        | (go_at_call 29; have hq0 := ‹Below _ _ _ ∧ _›; refine (HR _ _ _ _ _ _ _ (HPw.out _ (HT1 _ hq0.1)) (HBw.out _ (HT1 _ hq0.1))).mono ?_; rintro e w4 ⟨rfl, hbR⟩; clear hq0)
        | (go_at_call 10; have hq0 := ‹Below _ _ _ ∧ _›; refine (HAl _ (HT1 _ hq0.1)).mono ?_; rintro e w5 ⟨rfl, hbA⟩; clear hq0))
    all_goals
      have hq9 := ‹Below _ _ _ ∧ _›
      go_wp2
      go_ret
      exact ⟨rfl, HT1 _ hq9.1⟩
  · by_cases hlt : lightB m p q hn bn hs = true
    · rw [hlt] at HLi
      have iws : (10000 : Int) < (sec.length : Int) := by have : ¬ sec.length ≤ 10000 := fun h => hgo ⟨hlt, h⟩; omega
      clear hgo hlt hP hB hm zh HOw zm zp zq
      generalize str m = xm at *
      generalize str p = xp at *
      generalize str q = xq at *
      generalize sec.length = ls at *
      generalize str sec = xs at *
      go_enter Tryz.func7, Tryz.ntmps7
      go_wp2_with (first | (go_at_call 9; refine HLi.mono ?_; rintro e w1 ⟨rfl, hb1⟩; have T1 := T0.trans (hb1.mono T0.size)) | (go_at_call 10; refine (HAl _ T1).mono ?_; rintro e w4 ⟨rfl, hb4⟩))
      go_ret
      exact ⟨rfl, T1.trans (hb4.mono T1.size)⟩
    · have hlt' : lightB m p q hn bn hs = false := by simpa using hlt
      rw [hlt'] at HLi
      clear hgo hlt hlt' hP hB hm zh HOw zm zp zq
      generalize str m = xm at *
      generalize str p = xp at *
      generalize str q = xq at *
      generalize sec.length = ls at *
      generalize str sec = xs at *
      go_enter Tryz.func7, Tryz.ntmps7
      go_wp2_with (first | (go_at_call 9; refine HLi.mono ?_; rintro e w1 ⟨rfl, hb1⟩; have T1 := T0.trans (hb1.mono T0.size)) | (go_at_call 10; refine (HAl _ T1).mono ?_; rintro e w4 ⟨rfl, hb4⟩))
      go_ret
      exact ⟨rfl, T1.trans (hb4.mono T1.size)⟩
end Go.Proofs.YtgjmaeodgcigdaaGreatDoor
