/- The walk of Sigv4Auths. -/
import Derived.Test.YtgjmaeodgcigdaaGreatDoorB40
import Derived.Test.YtgjmaeodgcigdaaGreatDoorC6z
import Derived.Test.YtgjmaeodgcigdaaGreatDoorS6B
import Derived.Test.YtgjmaeodgcigdaaGreatDoorC6B
namespace Go.Proofs.YtgjmaeodgcigdaaGreatDoor
open Go.RowKit

/-- what ReadAuth tells, by the program and by the document -/
theorem read_both (l : List UInt8) (hl : l.length ≤ 100000) : ∃ (xa xd : List UInt8) (n : Nat) (ts : List (List UInt8)) (xg : List UInt8) (R : Int), 
    (∀ (w : World), MxS w → Calls Tryz.prog 19 #[.string (str l)] w fun e w' => (∃ ta tc, e = .returned (.tuple #[.agg #[.string (str xa), .string (str xd), .slice ta n tc, .string (str xg)], .int .i64 R]) ∧ IsT w' ta n tc ts) ∧ Below w.heap.size w w') ∧
    (∀ (w : World), Calls Tryz.prog 20 #[.string (str l)] w fun e w' => (∃ ta tc, e = .returned (.tuple #[.agg #[.string (str xa), .string (str xd), .slice ta n tc, .string (str xg)], .int .i64 R]) ∧ IsT w' ta n tc ts) ∧ Below w.heap.size w w') := by
  cases hok : auOk l with
  | true =>
    refine ⟨auAc l, auDt l, (auTs l).length, auTs l, auSg l, 0, fun w hm => (codReadAuthU l w hl hm).mono ?_, fun w => (refReadAuth l w hl).mono ?_⟩
    · rintro e w' ⟨h, hb⟩
      rw [if_pos hok] at h
      obtain ⟨ta, tc, h1, h2, _⟩ := h
      exact ⟨⟨ta, tc, h1, h2⟩, hb⟩
    · rintro e w' ⟨h, hb⟩
      rw [if_pos hok] at h
      obtain ⟨ta, tc, h1, h2⟩ := h
      exact ⟨⟨ta, tc, h1, h2⟩, hb⟩
  | false =>
    refine ⟨[], [], 0, [], [], 20, fun w hm => (codReadAuthU l w hl hm).mono ?_, fun w => (refReadAuth l w hl).mono ?_⟩
    · rintro e w' ⟨h, hb⟩
      rw [if_neg (by rw [hok]; decide)] at h
      exact ⟨⟨none, 0, h, isT_nil _⟩, hb⟩
    · rintro e w' ⟨h, hb⟩
      rw [if_neg (by rw [hok]; decide)] at h
      exact ⟨⟨none, 0, h, isT_nil _⟩, hb⟩

set_option maxRecDepth 20000 in
set_option maxHeartbeats 16000000 in
theorem walkAuths6 (s ac dt : List UInt8) (ta : Option Addr) (tn tc : Nat) (ts : List (List UInt8)) (sg : List UInt8) (w : World) (hT : IsT w ta tn tc ts) (hm : MxS w) (zs : s.length ≤ 2000000) (za : ac.length ≤ 2000000) (zd : dt.length ≤ 2000000) (zt : ∀ i, i < ts.length → (nthT ts i).length ≤ 2000000) (zg : sg.length ≤ 2000000) :
    Calls Tryz.prog 5 #[.string (str s), .agg #[.string (str ac), .string (str dt), .slice ta tn tc, .string (str sg)]] w fun e w' => e = .returned (.bool true) ∧ Below w.heap.size w w' := by
  have T0 : Below w.heap.size w (w.alloc (.cells #[.string (str ac), .string (str dt), .slice ta tn tc, .string (str sg)] 45)) := (Below.refl _ w).alloc (Nat.le_refl _) _
  have K0 := Blk.newAt w w.heap.size 45 _ [.string (str ac), .string (str dt), .slice ta tn tc, .string (str sg)] rfl rfl
  have c2 := K0.cell 2
  have HAl : ∀ W, Below w.heap.size w W → Calls Tryz.prog 10 #[] W fun e w' => e = .returned (.bool true) ∧ Below W.heap.size W w' := fun W hW => lawAlive6 W (hm.below hW hm.lt)
  have hti : tn ≤ 9223372036854775807 := by have := hT.le; have := hT.max; unfold maxLen at this; omega
  have y1 : (str s).size = s.length := str_size s
  by_cases h5 : s.length ≤ 5000
  · have i5 : ¬ (5000 : Int) < (s.length : Int) := by omega
    by_cases h100 : tn ≤ 100
    · have i100 : ¬ (100 : Int) < (tn : Int) := by omega
      obtain ⟨xa, xd, n, us, xg, R, HC, HR⟩ := read_both s (by omega)
      have HMw : Hid (∀ W, Below w.heap.size w W → MxS W) := fun W hW => hm.below hW hm.lt
      have HS1 : ∀ W, Below w.heap.size w W → Calls Tryz.prog 22 #[.agg #[.string (str ac), .string (str dt), .slice ta tn tc, .string (str sg)]] W fun e w' => e = .returned (.string (str (authL ac dt ts sg))) ∧ Below W.heap.size W w' := fun W hW => codShowAuthB ac dt sg ta tn tc ts W (hT.below hW rfl) (by omega) zt za zd zg
      have HS2 : ∀ W, Below w.heap.size w W → Calls Tryz.prog 23 #[.agg #[.string (str ac), .string (str dt), .slice ta tn tc, .string (str sg)]] W fun e w' => e = .returned (.string (str (authL ac dt ts sg))) ∧ Below W.heap.size W w' := fun W hW => refShowAuthB ac dt sg ta tn tc ts W (hT.below hW rfl) (by omega) zt za zd zg
      have hRR : (R == R) = true := by simp
      generalize str (authL ac dt ts sg) = xS at *
      clear hT hm zs za zd zt zg h100 h5
      generalize str ac = x1 at *
      generalize str dt = x2 at *
      generalize str sg = x3 at *
      generalize s.length = ls at *
      generalize str s = xs at *
      generalize str xa = p1 at *
      generalize str xd = p2 at *
      generalize str xg = p3 at *
      go_enter Tryz.func5, Tryz.ntmps5
      go_upto_region 5 with (first
        | (go_at_call 19; refine (HC _ (HMw.out _ T0)).mono ?_; rintro e w1 ⟨⟨ua, uc, rfl, hi1⟩, hb1⟩; have T1 := T0.trans (hb1.mono T0.size))
        | (go_at_call 20; refine (HR _).mono ?_; rintro e w3 ⟨⟨va, vc, rfl, hi3⟩, hb3⟩))
      have A2' : Below w1.heap.size w1 (w1.alloc (.cells #[.string p1, .string p2, .slice ua n uc, .string p3] 46)) := (Below.refl _ w1).alloc (Nat.le_refl _) _
      have A4 : Below w3.heap.size w3 (w3.alloc (.cells #[.string p1, .string p2, .slice va n vc, .string p3] 45)) := (Below.refl _ w3).alloc (Nat.le_refl _) _
      have KA := ((Blk.newAt w1 w1.heap.size 46 _ [.string p1, .string p2, .slice ua n uc, .string p3] rfl rfl).on hb3).on A4
      have KB := Blk.newAt w3 w3.heap.size 45 _ [.string p1, .string p2, .slice va n vc, .string p3] rfl rfl
      have KC := (((K0.on hb1).on A2').on hb3).on A4
      have I1 := ((hi1.below A2' rfl).below hb3 rfl).below A4 rfl
      have I2 := hi3.below A4 rfl
      have T2 := T1.trans (A2'.mono T1.size)
      have T3 := T2.trans (hb3.mono T2.size)
      have T4 := T3.trans (A4.mono T3.size)
      clear T0 K0 c2 T1 T2 T3 hi1 hi3 hb1 hb3 A2' A4 HC HR
      generalize hW4 : w3.alloc (.cells #[.string p1, .string p2, .slice va n vc, .string p3] 45) = W4 at *
      clear hW4
      generalize w3.heap.size = A2 at *
      generalize w1.heap.size = A1 at *
      have HKP : ∀ w', Below W4.heap.size W4 w' → Below W4.heap.size W4 w' ∧ w'.cell? ⟨A1, 0, none⟩ = some (.string p1) ∧ w'.cell? ⟨A1, 1, none⟩ = some (.string p2) ∧ w'.cell? ⟨A1, 2, none⟩ = some (.slice ua n uc) ∧ w'.cell? ⟨A1, 3, none⟩ = some (.string p3) ∧ w'.cell? ⟨A2, 0, none⟩ = some (.string p1) ∧ w'.cell? ⟨A2, 1, none⟩ = some (.string p2) ∧ w'.cell? ⟨A2, 2, none⟩ = some (.slice va n vc) ∧ w'.cell? ⟨A2, 3, none⟩ = some (.string p3) ∧ w'.cell? ⟨w.heap.size, 0, none⟩ = some (.string x1) ∧ w'.cell? ⟨w.heap.size, 1, none⟩ = some (.string x2) ∧ w'.cell? ⟨w.heap.size, 2, none⟩ = some (.slice ta tn tc) ∧ w'.cell? ⟨w.heap.size, 3, none⟩ = some (.string x3) := fun w' hb => ⟨hb, (KA.on hb).cell 0, (KA.on hb).cell 1, (KA.on hb).cell 2, (KA.on hb).cell 3, (KB.on hb).cell 0, (KB.on hb).cell 1, (KB.on hb).cell 2, (KB.on hb).cell 3, (KC.on hb).cell 0, (KC.on hb).cell 1, (KC.on hb).cell 2, (KC.on hb).cell 3⟩
      have HT4 : ∀ w', Below W4.heap.size W4 w' → Below w.heap.size w w' := fun w' hb => T4.trans (hb.mono T4.size)
      have HTx : ∀ w', Below W4.heap.size W4 w' → Calls Tryz.prog 21 #[.slice ua n uc, .slice va n vc] w' fun e w'' => e = .returned (.bool true) ∧ Below w'.heap.size w' w'' := fun w' hb => lawTexts ua uc va vc n us w' (I1.below hb rfl) (I2.below hb rfl)
      clear KA KB KC I1 I2
      go_region_held3 (fun w' => Below W4.heap.size W4 w' ∧ w'.cell? ⟨A1, 0, none⟩ = some (.string p1) ∧ w'.cell? ⟨A1, 1, none⟩ = some (.string p2) ∧ w'.cell? ⟨A1, 2, none⟩ = some (.slice ua n uc) ∧ w'.cell? ⟨A1, 3, none⟩ = some (.string p3) ∧ w'.cell? ⟨A2, 0, none⟩ = some (.string p1) ∧ w'.cell? ⟨A2, 1, none⟩ = some (.string p2) ∧ w'.cell? ⟨A2, 2, none⟩ = some (.slice va n vc) ∧ w'.cell? ⟨A2, 3, none⟩ = some (.string p3) ∧ w'.cell? ⟨w.heap.size, 0, none⟩ = some (.string x1) ∧ w'.cell? ⟨w.heap.size, 1, none⟩ = some (.string x2) ∧ w'.cell? ⟨w.heap.size, 2, none⟩ = some (.slice ta tn tc) ∧ w'.cell? ⟨w.heap.size, 3, none⟩ = some (.string x3))
        (first | exact HKP _ ((Below.refl _ W4).drew) | assumption | (have hq0 := ‹Below _ _ _ ∧ _›; first | exact HKP _ (hq0.1.trans (hbT.mono hq0.1.size)) | exact HKP _ (hq0.1.trans (hbV.mono hq0.1.size)) | exact HKP _ (hq0.1.trans (hbR.mono hq0.1.size)) | exact HKP _ (hq0.1.trans (hbA.mono hq0.1.size))))
        (first
          | (go_at_call 21; have hq0 := ‹Below _ _ _ ∧ _›; refine (HTx _ hq0.1).mono ?_; rintro e y2 ⟨rfl, hbT⟩; clear hq0)
          | (go_at_call 22; have hq0 := ‹Below _ _ _ ∧ _›; refine (HS1 _ (HT4 _ hq0.1)).mono ?_; rintro e y3 ⟨rfl, hbV⟩; clear hq0)
          | (go_at_call 23; have hq0 := ‹Below _ _ _ ∧ _›; refine (HS2 _ (HT4 _ hq0.1)).mono ?_; rintro e y4 ⟨rfl, hbR⟩; clear hq0)
          | (go_at_call 10; have hq0 := ‹Below _ _ _ ∧ _›; refine (HAl _ (HT4 _ hq0.1)).mono ?_; rintro e y5 ⟨rfl, hbA⟩; clear hq0))
      all_goals
        have hq9 := ‹Below _ _ _ ∧ _›
        go_wp2
        go_ret
        exact ⟨rfl, HT4 _ hq9.1⟩
    · have i100 : (100 : Int) < (tn : Int) := by omega
      clear hT hm zs za zd zt zg h100 h5
      generalize str ac = x1 at *
      generalize str dt = x2 at *
      generalize str sg = x3 at *
      generalize s.length = ls at *
      generalize str s = xs at *
      go_enter Tryz.func5, Tryz.ntmps5
      go_wp2_with (go_at_call 10; refine (HAl _ T0).mono ?_; rintro e w9 ⟨rfl, hb9⟩)
      go_ret
      exact ⟨rfl, T0.trans (hb9.mono T0.size)⟩
  · have i5 : (5000 : Int) < (s.length : Int) := by omega
    clear hT hm zs za zd zt zg h5
    generalize str ac = x1 at *
    generalize str dt = x2 at *
    generalize str sg = x3 at *
    generalize s.length = ls at *
    generalize str s = xs at *
    go_enter Tryz.func5, Tryz.ntmps5
    go_wp2_with (go_at_call 10; refine (HAl _ T0).mono ?_; rintro e w9 ⟨rfl, hb9⟩)
    go_ret
    exact ⟨rfl, T0.trans (hb9.mono T0.size)⟩
end Go.Proofs.YtgjmaeodgcigdaaGreatDoor
