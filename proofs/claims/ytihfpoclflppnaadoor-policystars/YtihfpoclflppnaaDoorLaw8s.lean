/- The walk of PolicyStars. -/
import Derived.Test.YtihfpoclflppnaaDoorB37
namespace Go.Proofs.YtihfpoclflppnaaDoor
open Go.RowKit

def plainC (c : UInt8) : Bool := !(c == 42) && !(c == 63)
theorem plain_all {p : List UInt8} (h : p.all plainC = true) : ∀ c ∈ p, c ≠ 42 ∧ c ≠ 63 := fun c hc => by
  have := List.all_eq_true.1 h c hc
  unfold plainC at this
  simpa using this
theorem plain_take (p : List UInt8) (k : Nat) (h : k < p.length) : (p.take (k + 1)).all plainC = ((p.take k).all plainC && plainC (nth p k)) := by
  rw [take_snoc p k h, List.all_append]; simp
theorem mat_plain {p s : List UInt8} (h : p.all plainC = true) : matL p s = (p == s) := by
  refine matL_eq ?_
  rw [Mt.plain (plain_all h), beq_iff_eq]
theorem mat_star (s : List UInt8) : matL [42] s = true := Mt.star s
theorem mat_app {p q s t : List UInt8} (h1 : matL p s = true) (h2 : matL q t = true) : matL (p ++ q) (s ++ t) = true := Mt.app h1 h2

set_option maxRecDepth 20000 in
set_option maxHeartbeats 4000000 in
theorem walkStars8 (p q s t : List UInt8) (w : World) (hm : MxS w) (zp : p.length ≤ 140737488351232) (zq : q.length ≤ 140737488351232) (zs : s.length ≤ 140737488351232) (zt : t.length ≤ 140737488351232) :
    Calls Tryd.prog 7 #[.string (str p), .string (str q), .string (str s), .string (str t)] w fun e w' => e = .returned (.bool true) ∧ Below w.heap.size w w' := by
  have HL := fun W : World => lawLight8 none 0 0 [] _ _ _ [p, q, s, t] (W.alloc (.cells #[.string (str p), .string (str q), .string (str s), .string (str t)] 9)) (isRs_nil _) (isTx_new W [p, q, s, t]) reach_nil (fun i hi => by
    obtain rfl | rfl | rfl | rfl : i = 0 ∨ i = 1 ∨ i = 2 ∨ i = 3 := by have : i < 4 := hi; omega
    · exact zp
    · exact zq
    · exact zs
    · exact zt) (by simp) (by omega)
  change ∀ W : World, Calls Tryd.prog _ #[.slice none 0 0, .slice (some ⟨W.heap.size, 0, none⟩) 4 4] _ _ at HL
  have AL : ∀ W : World, Below W.heap.size W (W.alloc (.cells #[.string (str p), .string (str q), .string (str s), .string (str t)] 9)) := fun W => (Below.refl _ W).alloc (Nat.le_refl _) _
  have HA := fun W (h : MxS W) => lawAlive8 W h
  have HM : Hid (∀ W, Below w.heap.size w W → MxS W) := fun W hW => hm.below hW hm.lt
  cases hb : lightL [] [p, q, s, t] with
  | false =>
    rw [hb] at HL
    generalize str p = ps at *
    generalize str q = qs at *
    generalize str s = ss at *
    generalize str t = ts at *
    clear hb
    go_enter Tryd.func7, Tryd.ntmps7
    go_wp2_with fail
    refine (HL _).mono ?_
    rintro e x1 ⟨rfl, t1⟩
    have T1 := bel2 (AL w) t1
    go_wp2_with fail
    refine (HL _).mono ?_
    rintro e x2 ⟨rfl, t2⟩
    have T2 := bel2 (bel2 T1 (AL x1)) t2
    go_wp2_with fail
    refine (HA _ (HM.out _ T2)).mono ?_
    rintro e x3 ⟨rfl, t3⟩
    have T3 := bel2 T2 t3
    go_wp2_with fail
    go_ret
    exact ⟨rfl, T3⟩
  | true =>
    rw [hb] at HL
    have y1 := light_text hb (t := p) (by simp)
    have y2 := light_text hb (t := q) (by simp)
    have y3 := light_text hb (t := s) (by simp)
    have y4 := light_text hb (t := t) (by simp)
    have M0 := fun W => codMatch8 [42] s W (by simp) (by omega)
    rw [mat_star] at M0
    change ∀ W : World, Calls Tryd.prog _ #[.string ⟨#[42]⟩, _] _ _ at M0
    have M1 := fun W => codMatch8 p s W (by omega) (by omega)
    have M2 := fun W => codMatch8 q t W (by omega) (by omega)
    have M3 := fun W => codMatch8 (p ++ q) (s ++ t) W (by rw [List.length_append]; omega) (by rw [List.length_append]; omega)
    rw [show str (p ++ q) = str p ++ str q from (str_append2 p q).symm, show str (s ++ t) = str s ++ str t from (str_append2 s t).symm] at M3
    have HPl : Hid (p.all plainC = true → matL p s = (p == s)) := fun h => mat_plain h
    have HAp : Hid (matL p s = true → matL q t = true → matL (p ++ q) (s ++ t) = true) := fun h1 h2 => mat_app h1 h2
    have HEq : ((str p).toList == (str s).toList) = (p == s) := by rw [str_toList, str_toList]
    have HZ : Hid ((str p).size = p.length) := str_size p
    have HS : Hid ((str p).data.toList = p) := str_list p
    have z1 : ¬ 9223372036854775807 < (str p).size + (str q).size := by rw [str_size, str_size]; omega
    have z2 : ¬ 9223372036854775807 < (str s).size + (str t).size := by rw [str_size, str_size]; omega
    have hps : (str p).size ≤ 2000 := by rw [str_size]; exact y1
    generalize matL (p ++ q) (s ++ t) = m3 at *
    generalize matL q t = m2 at *
    generalize matL p s = m1 at *
    generalize (p == s) = eb at *
    generalize str p = ps at *
    generalize str q = qs at *
    generalize str s = ss at *
    generalize str t = ts at *
    clear hb hm y1 y2 y3 y4 zp zq zs zt
    go_enter Tryd.func7, Tryd.ntmps7
    go_wp2_with fail
    refine (HL _).mono ?_
    rintro e x1 ⟨rfl, t1⟩
    have T1 := bel2 (AL w) t1
    go_wp2_with fail
    refine (M0 _).mono ?_
    rintro e x2 ⟨rfl, t2⟩
    have T2 := bel2 T1 t2
    clear t1 t2 M0 HL AL
    go_wp2_with fail
    go_loopw [9, 10] (fun b i wr => ∃ (k : Nat) (c : Bool), k ≤ ps.size ∧ i = .int .i64 (k : Int) ∧ b = .bool c ∧ Hid (c = (p.take k).all plainC) ∧ wr = x2) (fun _ i _ => ps.size - (intOf i).toNat)
    case atStart => exact ⟨0, true, Nat.zero_le _, rfl, rfl, rfl, rfl⟩
    case round =>
      obtain ⟨k, c, hk, rfl, rfl, HC, hwr⟩ := hrel
      subst hwr
      by_cases hlt : k < ps.size
      · have hlt' : (k : Int) < (ps.size : Int) := by omega
        have hkl : k < p.length := by rw [← HZ.out]; exact hlt
        have hix := fun u => ixs ps (k : Int) (by omega) hlt' u
        have hcp : sb ps (k : Int) = nth p k := by unfold sb; rw [Int.toNat_natCast, HS.out]
        rw [hcp] at hix
        have HT := plain_take p k hkl
        rw [← HC.out] at HT
        have HT2 : Hid ((p.take (k + 1)).all plainC = (c && plainC (nth p k))) := HT
        clear HT HC hcp hkl HPl HAp HEq M1 M2 M3
        cases c with
        | false =>
          go_wp2_with fail
          go_roundw
          case rel => exact ⟨k + 1, false, by omega, by go_num, rfl, by unfold Hid; rw [HT2.out]; rfl, by first | rfl | trivial⟩
          case measure => simp [intOf]; omega
        | true =>
          by_cases h42 : nth p k = 42
          · have hz : ((nth p k).toNat : Int) = 42 := by rw [h42]; rfl
            have HV : Hid (false = (p.take (k + 1)).all plainC) := by unfold Hid; rw [HT2.out, h42]; rfl
            clear h42 HT2
            go_wp2_with fail
            go_roundw
            case rel => exact ⟨k + 1, false, by omega, by go_num, rfl, HV, by first | rfl | trivial⟩
            case measure => simp [intOf]; omega
          · have hz : ((((nth p k).toNat : Int)) == 42) = false := by
              rw [beq_eq_false_iff_ne]; intro h; exact h42 ((toNat8_inj _ 42).1 h)
            have hz' : ¬ ((nth p k).toNat : Int) = 42 := fun h => h42 ((toNat8_inj _ 42).1 h)
            by_cases h63 : nth p k = 63
            · have hy : ((nth p k).toNat : Int) = 63 := by rw [h63]; rfl
              have HV : Hid (false = (p.take (k + 1)).all plainC) := by unfold Hid; rw [HT2.out, h63]; rfl
              clear h42 h63 HT2 hz hz'
              go_wp2_with fail
              go_roundw
              case rel => exact ⟨k + 1, false, by omega, by go_num, rfl, HV, by first | rfl | trivial⟩
              case measure => simp [intOf]; omega
            · have hy : ((((nth p k).toNat : Int)) == 63) = false := by
                rw [beq_eq_false_iff_ne]; intro h; exact h63 ((toNat8_inj _ 63).1 h)
              have hy' : ¬ ((nth p k).toNat : Int) = 63 := fun h => h63 ((toNat8_inj _ 63).1 h)
              have HV : Hid (true = (p.take (k + 1)).all plainC) := by
                unfold Hid; rw [HT2.out]; unfold plainC
                have e1 : (nth p k == 42) = false := by rw [beq_eq_false_iff_ne]; exact h42
                have e2 : (nth p k == 63) = false := by rw [beq_eq_false_iff_ne]; exact h63
                rw [e1, e2]; rfl
              have hz3 : (((nth p k).toNat : Int) != 42) = true := by rw [bne, hz]; rfl
              have hy3 : (((nth p k).toNat : Int) != 63) = true := by rw [bne, hy]; rfl
              clear h42 h63 HT2
              go_wp2_with fail
              go_roundw
              case rel => exact ⟨k + 1, true, by omega, by go_num, by first | rfl | (rw [hz3, hy3]; rfl), HV, by first | rfl | trivial⟩
              case measure => simp [intOf]; omega
      · have hge : ¬ (k : Int) < (ps.size : Int) := by omega
        have HC2 : Hid (c = p.all plainC) := by
          have := HC.out
          rw [List.take_of_length_le (by rw [← HZ.out]; omega)] at this
          exact this
        have HP2 : Hid (c = true → m1 = eb) := fun h => HPl.out (by rw [← HC2.out]; exact h)
        clear HC HC2 HPl
        cases c with
        | false =>
          cases m1 with
          | false =>
            clear HP2
            go_wp2_with fail
            refine (M1 _).mono ?_
            rintro e z2 ⟨rfl, t2⟩
            have Z2 := bel2 T2 t2
            go_wp2_with fail
            refine (HA _ (HM.out _ Z2)).mono ?_
            rintro e z9 ⟨rfl, t9⟩
            have T9 := bel2 Z2 t9
            go_wp2_with fail
            go_ret
            exact ⟨rfl, T9⟩
          | true =>
            clear HP2
            go_wp2_with fail
            refine (M1 _).mono ?_
            rintro e z2 ⟨rfl, t2⟩
            have Z2 := bel2 T2 t2
            cases m2 with
            | false =>
              go_wp2_with fail
              refine (M2 _).mono ?_
              rintro e z3 ⟨rfl, t3⟩
              have Z3 := bel2 Z2 t3
              go_wp2_with fail
              refine (HA _ (HM.out _ Z3)).mono ?_
              rintro e z9 ⟨rfl, t9⟩
              have T9 := bel2 Z3 t9
              go_wp2_with fail
              go_ret
              exact ⟨rfl, T9⟩
            | true =>
              have h3 := HAp.out (by first | rfl | trivial) (by first | rfl | trivial)
              subst h3
              go_wp2_with fail
              refine (M2 _).mono ?_
              rintro e z3 ⟨rfl, t3⟩
              have Z3 := bel2 Z2 t3
              go_wp2_with fail
              refine (M3 _).mono ?_
              rintro e z4 ⟨rfl, t4⟩
              have Z4 := bel2 Z3 t4
              go_wp2_with fail
              refine (HA _ (HM.out _ Z4)).mono ?_
              rintro e z9 ⟨rfl, t9⟩
              have T9 := bel2 Z4 t9
              go_wp2_with fail
              go_ret
              exact ⟨rfl, T9⟩
        | true =>
          cases m1 with
          | false =>
            have he : false = eb := HP2.out (by first | rfl | trivial)
            subst he
            clear HP2
            go_wp2_with fail
            refine (M1 _).mono ?_
            rintro e z1 ⟨rfl, t1⟩
            have Z1 := bel2 T2 t1
            go_wp2_with fail
            refine (M1 _).mono ?_
            rintro e z2 ⟨rfl, t2⟩
            have Z2 := bel2 Z1 t2
            go_wp2_with fail
            refine (HA _ (HM.out _ Z2)).mono ?_
            rintro e z9 ⟨rfl, t9⟩
            have T9 := bel2 Z2 t9
            go_wp2_with fail
            go_ret
            exact ⟨rfl, T9⟩
          | true =>
            have he : true = eb := HP2.out (by first | rfl | trivial)
            subst he
            clear HP2
            go_wp2_with fail
            refine (M1 _).mono ?_
            rintro e z1 ⟨rfl, t1⟩
            have Z1 := bel2 T2 t1
            go_wp2_with fail
            refine (M1 _).mono ?_
            rintro e z2 ⟨rfl, t2⟩
            have Z2 := bel2 Z1 t2
            cases m2 with
            | false =>
              go_wp2_with fail
              refine (M2 _).mono ?_
              rintro e z3 ⟨rfl, t3⟩
              have Z3 := bel2 Z2 t3
              go_wp2_with fail
              refine (HA _ (HM.out _ Z3)).mono ?_
              rintro e z9 ⟨rfl, t9⟩
              have T9 := bel2 Z3 t9
              go_wp2_with fail
              go_ret
              exact ⟨rfl, T9⟩
            | true =>
              have h3 := HAp.out (by first | rfl | trivial) (by first | rfl | trivial)
              subst h3
              go_wp2_with fail
              refine (M2 _).mono ?_
              rintro e z3 ⟨rfl, t3⟩
              have Z3 := bel2 Z2 t3
              go_wp2_with fail
              refine (M3 _).mono ?_
              rintro e z4 ⟨rfl, t4⟩
              have Z4 := bel2 Z3 t4
              go_wp2_with fail
              refine (HA _ (HM.out _ Z4)).mono ?_
              rintro e z9 ⟨rfl, t9⟩
              have T9 := bel2 Z4 t9
              go_wp2_with fail
              go_ret
              exact ⟨rfl, T9⟩
end Go.Proofs.YtihfpoclflppnaaDoor
