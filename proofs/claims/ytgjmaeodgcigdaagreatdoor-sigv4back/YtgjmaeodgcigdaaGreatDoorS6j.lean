/- steleref06.Verify. -/
import Derived.Test.YtgjmaeodgcigdaaGreatDoorS6i
import Derived.Test.YtgjmaeodgcigdaaGreatDoorJ20
import Derived.Test.YtgjmaeodgcigdaaGreatDoorJ27
namespace Go.Proofs.YtgjmaeodgcigdaaGreatDoor
open Go.RowKit

def sAuthN : List UInt8 := [97, 117, 116, 104, 111, 114, 105, 122, 97, 116, 105, 111, 110]
def sDateN : List UInt8 := [120, 45, 97, 109, 122, 45, 100, 97, 116, 101]
def vAu (hs : List Pr) : List UInt8 := (findL hs sAuthN).getD []
def vDa (hs : List Pr) : List UInt8 := (findL hs sDateN).getD []
def isDat (t : List UInt8) : Bool := t == sDateN
def verE (sec S : List UInt8) (E F : Int) (T now : Nat) (r : Rq) : Int :=
  if auOk (vAu r.hs) = false then 20 else if ¬ F = 0 then 20 else if ((vDa r.hs).take 8 == auDt (vAu r.hs)) = false then 20
  else if (auTs (vAu r.hs)).any isDat = false then 20 else if nearN T now 900 = false then 21
  else if ¬ signE E r (auTs (vAu r.hs)) = 0 then signE E r (auTs (vAu r.hs)) else if (signT sec S E r (auTs (vAu r.hs)) == auSg (vAu r.hs)) = false then 20 else 0
theorem find_small {hs : List Pr} {n : List UInt8} {z : Nat} (zh : ∀ i, i < hs.length → (nthP hs i).2.length ≤ z) : ((findL hs n).getD []).length ≤ z := by
  cases h : findL hs n with
  | none => exact Nat.zero_le _
  | some v =>
    obtain ⟨i, hi, e⟩ := find_mem6 h
    rw [Option.getD_some, ← e]; exact zh i hi

set_option maxRecDepth 20000 in
set_option maxHeartbeats 4000000 in
theorem refVerify (sec m p q : List UInt8) (ha : Option Addr) (hn hc : Nat) (hs : List Pr) (ba : Option Addr) (bn bc : Nat) (bd : List UInt8) (now T : Nat) (S : List UInt8) (E F : Int) (w : World)
    (hP : IsP w ha hn hc hs) (hB : IsB w ba bn bc bd) (zs : sec.length ≤ 100000) (zm : m.length ≤ 30000) (zp : p.length ≤ 30000) (zq : q.length ≤ 30000) (zb : bn ≤ 30000) (zh : ∀ i, i < hs.length → (nthP hs i).2.length ≤ 30000)
    (hnow : now < 18446744073709551616) (hT : T < 18446744073709551616) (hF : F = 0 → (vDa hs).length = 16)
    (HRd : ∀ w, Calls Tryz.prog 71 #[.string (str (vDa hs))] w fun e w' => e = .returned (.tuple #[.int .u64 (T : Int), .int .i64 F]) ∧ Below w.heap.size w w')
    (hS : E = 0 → S.length = 16) (HSw : ∀ w, Calls Tryz.prog 52 #[.int .u64 (T : Int)] w fun e w' => e = .returned (.tuple #[.string (str S), .int .i64 E]) ∧ Below w.heap.size w w') :
    Calls Tryz.prog 29 #[.agg #[.string (str m), .string (str p), .string (str q), .slice ha hn hc, .slice ba bn bc], .string (str sec), .int .u64 (now : Int)] w fun e w' => e = .returned (.int .i64 (verE sec S E F T now ⟨m, p, q, hs, bd⟩)) ∧ Below w.heap.size w w' := by
  have T0 : Below w.heap.size w (w.alloc (.cells #[.string (str m), .string (str p), .string (str q), .slice ha hn hc, .slice ba bn bc] 25)) := (Below.refl _ w).alloc (Nat.le_refl _) _
  have K0 := Blk.newAt w w.heap.size 25 _ [.string (str m), .string (str p), .string (str q), .slice ha hn hc, .slice ba bn bc] rfl rfl
  have c0 := K0.cell 0
  have c1 := K0.cell 1
  have c2 := K0.cell 2
  have c3 := K0.cell 3
  have c4 := K0.cell 4
  have zv : (vAu hs).length ≤ 30000 := find_small zh
  have G1 : ∀ W, Below w.heap.size w W → Calls Tryz.prog 41 #[.agg #[.string (str m), .string (str p), .string (str q), .slice ha hn hc, .slice ba bn bc], .string ⟨#[97, 117, 116, 104, 111, 114, 105, 122, 97, 116, 105, 111, 110]⟩] W fun e w' => e = .returned (.tuple #[.string (str (vAu hs)), .bool (findL hs sAuthN).isSome]) ∧ Below W.heap.size W w' := fun W hW => refGet _ _ _ _ ha hn hc hs sAuthN W (hP.below hW rfl)
  have G2 : ∀ W, Below w.heap.size w W → Calls Tryz.prog 41 #[.agg #[.string (str m), .string (str p), .string (str q), .slice ha hn hc, .slice ba bn bc], .string ⟨#[120, 45, 97, 109, 122, 45, 100, 97, 116, 101]⟩] W fun e w' => e = .returned (.tuple #[.string (str (vDa hs)), .bool (findL hs sDateN).isSome]) ∧ Below W.heap.size W w' := fun W hW => refGet _ _ _ _ ha hn hc hs sDateN W (hP.below hW rfl)
  have HA := fun W => refReadAuth (vAu hs) W (by omega)
  generalize (findL hs sAuthN).isSome = q1 at *
  generalize (findL hs sDateN).isSome = q2 at *
  cases hok : auOk (vAu hs) with
  | false =>
    have HV : Hid (verE sec S E F T now ⟨m, p, q, hs, bd⟩ = 20) := by unfold Hid verE; rw [if_pos hok]
    simp only [hok, Bool.false_eq_true, if_false] at HA
    unfold authNone at HA
    generalize verE sec S E F T now ⟨m, p, q, hs, bd⟩ = R at *
    clear hP hB hok hF hS HSw
    generalize str (vAu hs) = xv at *
    generalize str (vDa hs) = xd at *
    generalize str m = xm at *
    generalize str p = xp at *
    generalize str q = xq at *
    go_enter Tryz.func29, Tryz.ntmps29
    go_wp2_with (first
      | (go_at_call 41; first
        | (have hmk := K3; refine (G2 _ T3).mono ?_; rintro e w4 ⟨rfl, hb4⟩; have T4 := T3.trans (hb4.mono T3.size))
        | (refine (G1 _ T0).mono ?_; rintro e w1 ⟨rfl, hb1⟩; have K1 := K0.on hb1; have T1 := T0.trans (hb1.mono T0.size)))
      | (go_at_call 20; refine (HA _).mono ?_; rintro e w2 ⟨rfl, hb2⟩; have K2 := K1.on hb2; have T2 := T1.trans (hb2.mono T1.size); have A3 : Below w2.heap.size w2 (w2.alloc (.cells #[.string ⟨#[]⟩, .string ⟨#[]⟩, .slice none 0 0, .string ⟨#[]⟩] 45)) := (Below.refl _ w2).alloc (Nat.le_refl _) _; have K3 := K2.on A3; have T3 := T2.trans (A3.mono T2.size); have d0 := K3.cell 0; have d1 := K3.cell 1; have d2 := K3.cell 2; have d3 := K3.cell 3; have d4 := K3.cell 4)
      | (go_at_call 71; refine (HRd _).mono ?_; rintro e w5 ⟨rfl, hb5⟩; have T5 := T4.trans (hb5.mono T4.size)))
    go_quiet (fail)
    go_wp2
    go_ret
    exact ⟨ret_i HV.out.symm, bel_drewN T5 _⟩
  | true =>
    simp only [hok, if_true] at HA
    have HV0 : Hid (¬ F = 0 → verE sec S E F T now ⟨m, p, q, hs, bd⟩ = 20) := fun h => by unfold verE; rw [if_neg (by rw [hok]; decide), if_pos h]
    have HV1 : Hid (F = 0 → ((vDa hs).take 8 == auDt (vAu hs)) = false → verE sec S E F T now ⟨m, p, q, hs, bd⟩ = 20) := fun h h1 => by unfold verE; rw [if_neg (by rw [hok]; decide), if_neg (not_not_intro h), if_pos h1]
    have HV2 : Hid (F = 0 → ((vDa hs).take 8 == auDt (vAu hs)) = true → verE sec S E F T now ⟨m, p, q, hs, bd⟩ = if (auTs (vAu hs)).any isDat = false then 20 else if nearN T now 900 = false then 21 else if ¬ signE E ⟨m, p, q, hs, bd⟩ (auTs (vAu hs)) = 0 then signE E ⟨m, p, q, hs, bd⟩ (auTs (vAu hs)) else if (signT sec S E ⟨m, p, q, hs, bd⟩ (auTs (vAu hs)) == auSg (vAu hs)) = false then 20 else 0) := fun h h1 => by unfold verE; rw [if_neg (by rw [hok]; decide), if_neg (not_not_intro h), if_neg (by rw [h1]; decide)]
    have HN := fun W => refNear T now 900 W hT hnow
    obtain ⟨z1, z2, z3, z4, z5, z6, z7⟩ := au_len (vAu hs)
    have zt : ∀ i, i < (auTs (vAu hs)).length → (nthT (auTs (vAu hs)) i).length ≤ 140737488351232 := fun i hi => by
      rw [nthT_eq _ i hi]
      exact Nat.le_trans (cutL_part 59 (auLs (vAu hs)) _ (List.getElem_mem hi)) (by omega)
    have HSi : ∀ W ta tc, Below w.heap.size w W → IsT W ta (auTs (vAu hs)).length tc (auTs (vAu hs)) → Calls Tryz.prog 15 #[.string (str sec), .agg #[.string (str m), .string (str p), .string (str q), .slice ha hn hc, .slice ba bn bc], .slice ta (auTs (vAu hs)).length tc, .int .u64 (T : Int)] W fun e w' => e = .returned (.tuple #[.string (str (signT sec S E ⟨m, p, q, hs, bd⟩ (auTs (vAu hs)))), .int .i64 (signE E ⟨m, p, q, hs, bd⟩ (auTs (vAu hs)))]) ∧ Below W.heap.size W w' := fun W ta tc hW hTs => refSign sec m p q ha hn hc hs ba bn bc bd ta _ tc _ T S E W (hP.below hW rfl) (hB.below hW rfl) hTs zs zm zp zq zb zh zt hS HSw
    have HX : F = 0 → (str (vDa hs)).size = 16 := fun h => by rw [str_size]; exact hF h
    have HQ1 : Hid ((((str (vDa hs)).extract 0 8).toList == (str (auDt (vAu hs))).toList) = ((vDa hs).take 8 == auDt (vAu hs))) := by unfold Hid; rw [ext_take, str_list, str_toList, str_toList]
    have HQ2 : Hid (((str (signT sec S E ⟨m, p, q, hs, bd⟩ (auTs (vAu hs)))).toList == (str (auSg (vAu hs))).toList) = (signT sec S E ⟨m, p, q, hs, bd⟩ (auTs (vAu hs)) == auSg (vAu hs))) := by unfold Hid; rw [str_toList, str_toList]
    generalize verE sec S E F T now ⟨m, p, q, hs, bd⟩ = R at *
    generalize signE E ⟨m, p, q, hs, bd⟩ (auTs (vAu hs)) = sE at *
    generalize (signT sec S E ⟨m, p, q, hs, bd⟩ (auTs (vAu hs)) == auSg (vAu hs)) = bG at *
    generalize str (signT sec S E ⟨m, p, q, hs, bd⟩ (auTs (vAu hs))) = xG at *
    generalize nearN T now 900 = bN at *
    generalize ((vDa hs).take 8 == auDt (vAu hs)) = bD at *
    clear hP hB hok hF hS HSw zt z1 z2 z3 z4 z5 z6 z7 zv zs zm zp zq zb zh
    generalize str (auAc (vAu hs)) = xa at *
    generalize str (auDt (vAu hs)) = xt at *
    generalize str (auSg (vAu hs)) = xg at *
    generalize auTs (vAu hs) = ts at *
    generalize str (vAu hs) = xv at *
    generalize str (vDa hs) = xd at *
    generalize str m = xm at *
    generalize str p = xp at *
    generalize str q = xq at *
    generalize str sec = xs at *
    go_enter Tryz.func29, Tryz.ntmps29
    go_upto_region 5 with (first
      | (go_at_call 41; first
        | (have hmk := K3; refine (G2 _ T3).mono ?_; rintro e w4 ⟨rfl, hb4⟩; have K4 := K3.on hb4; have T4 := T3.trans (hb4.mono T3.size); have X4 := X3.on hb4; have hi4 := hi3.below hb4 rfl)
        | (refine (G1 _ T0).mono ?_; rintro e w1 ⟨rfl, hb1⟩; have K1 := K0.on hb1; have T1 := T0.trans (hb1.mono T0.size)))
      | (go_at_call 20; refine (HA _).mono ?_; rintro e w2 ⟨⟨ta, tc, rfl, hi2⟩, hb2⟩; have K2 := K1.on hb2; have T2 := T1.trans (hb2.mono T1.size); have A3 : Below w2.heap.size w2 (w2.alloc (.cells #[.string xa, .string xt, .slice ta ts.length tc, .string xg] 45)) := (Below.refl _ w2).alloc (Nat.le_refl _) _; have X3 := Blk.newAt w2 w2.heap.size 45 _ [.string xa, .string xt, .slice ta ts.length tc, .string xg] rfl rfl; have hi3 := hi2.below A3 rfl; have K3 := K2.on A3; have T3 := T2.trans (A3.mono T2.size); have d0 := K3.cell 0; have d1 := K3.cell 1; have d2 := K3.cell 2; have d3 := K3.cell 3; have d4 := K3.cell 4)
      | (go_at_call 71; refine (HRd _).mono ?_; rintro e w5 ⟨rfl, hb5⟩; have K5 := K4.on hb5; have T5 := T4.trans (hb5.mono T4.size); have X5 := X4.on hb5; have hi5 := hi4.below hb5 rfl))
    clear G1 G2 HA HRd K0 K1 K2 K3 K4 T0 T1 T2 T3 T4 A3 X3 X4 hi2 hi3 hi4 hb1 hb2 hb4 hb5 c0 c1 c2 c3 c4 d0 d1 d2 d3 d4
    generalize w2.heap.size = B at *
    have e1 := X5.cell 1
    by_cases hF0 : F = 0
    · subst hF0
      have h16 := HX rfl
      have hq1 := HQ1.out
      clear HX HQ1 HV0
      cases bD with
      | false =>
        have HV : Hid (R = 20) := HV1.out rfl rfl
        go_quiet (fail)
        go_wp2
        go_ret
        exact ⟨ret_i HV.out.symm, bel_drewN T5 _⟩
      | true =>
        have HV : Hid (R = if ts.any isDat = false then 20 else if bN = false then 21 else if ¬ sE = 0 then sE else if bG = false then 20 else 0) := HV2.out rfl rfl
        go_quiet (fail)
        have TW := bel_drewN T5 nq
        have KW := K5.drewN nq
        have XW := X5.drewN nq
        have hiW := hi5.below (bel_drewN (Below.refl _ w5) nq) rfl
        clear T5 K5 X5 hi5 e1 HV1 HV2 hq1
        generalize w5.drewN nq = W at *
        have e1 := XW.cell 1
        have e2 := XW.cell 2
        have e3 := XW.cell 3
        have k0 := KW.cell 0
        have k1 := KW.cell 1
        have k2 := KW.cell 2
        have k3 := KW.cell 3
        have k4 := KW.cell 4
        have hnl : ts.length ≤ 9223372036854775807 := by have := hiW.le; have := hiW.max; unfold maxLen at this; omega
        generalize hn0 : ts.length = n at *
        have HNL : Hid (ts.length = n) := hn0
        clear hn0
        go_wp2
        go_loopw [15, 16] (fun v i wr => ∃ (k : Nat), k ≤ n ∧ i = .int .i64 k ∧ v = .bool ((ts.take k).any isDat) ∧ wr = W) (fun _ i _ => n - (intOf i).toNat)
        case atStart => exact ⟨0, Nat.zero_le _, rfl, rfl, rfl⟩
        case round =>
          obtain ⟨k, hk, rfl, rfl, rfl⟩ := hrel
          by_cases hlt : k < n
          · obtain ⟨b, off, rfl, hc0⟩ := hiW.cells (by omega)
            have g1 := hc0 k hlt
            have hb0 : (0 : Int) ≤ (k : Int) := by omega
            have hb1 : (k : Int) < (n : Int) := by omega
            have HT : Hid ((ts.take (k + 1)).any isDat = ((ts.take k).any isDat || isDat (nthT ts k))) := by unfold Hid; rw [takeT ts k (by rw [HNL.out]; exact hlt), List.any_append]; simp
            have hq : ((str (nthT ts k)).toList == [120, 45, 97, 109, 122, 45, 100, 97, 116, 101]) = isDat (nthT ts k) := by rw [str_toList]; rfl
            generalize isDat (nthT ts k) = bT at *
            generalize str (nthT ts k) = xk at *
            clear hc0
            cases hin : (ts.take k).any isDat with
            | true =>
              rw [hin] at HT
              go_wp2
              go_roundw
              case rel => exact ⟨k + 1, by omega, by go_num, by rw [HT.out]; rfl, by first | rfl | trivial⟩
              case measure => simp [intOf]; omega
            | false =>
              rw [hin] at HT
              go_wp2
              go_roundw
              case rel => exact ⟨k + 1, by omega, by go_num, by rw [HT.out, Bool.false_or, ← hq], by first | rfl | trivial⟩
              case measure => simp [intOf]; omega
          · have hge : ¬ (k : Int) < (n : Int) := by omega
            have hall : ts.take k = ts := List.take_of_length_le (by rw [HNL.out]; omega)
            rw [hall]
            clear hall hlt
            have hq2 := HQ2.out
            clear HQ2
            cases hin : ts.any isDat with
            | false =>
              have HR : Hid (R = 20) := by unfold Hid; rw [HV.out, if_pos hin]
              go_wp2
              go_ret
              exact ⟨ret_i HR.out.symm, TW⟩
            | true =>
              cases bN with
              | false =>
                have HR : Hid (R = 21) := by unfold Hid; rw [HV.out, hin]; rfl
                go_wp2_with (go_at_call 72; refine (HN _).mono ?_; rintro e w3 ⟨rfl, hww⟩; rw [hww]; clear hww w3)
                go_ret
                exact ⟨ret_i HR.out.symm, TW⟩
              | true =>
                by_cases hs0 : sE = 0
                · subst hs0
                  cases bG with
                  | false =>
                    have HR : Hid (R = 20) := by unfold Hid; rw [HV.out, hin]; rfl
                    go_wp2_with (first | (go_at_call 72; refine (HN _).mono ?_; rintro e w3 ⟨rfl, hww⟩; rw [hww]; clear hww w3) | (go_at_call 15; refine (HSi _ _ _ TW hiW).mono ?_; rintro e w6 ⟨rfl, hb6⟩; have X6 := XW.on hb6; have m3 := X6.cell 3))
                    go_ret
                    exact ⟨ret_i HR.out.symm, TW.trans (hb6.mono TW.size)⟩
                  | true =>
                    have HR : Hid (R = 0) := by unfold Hid; rw [HV.out, hin]; rfl
                    go_wp2_with (first | (go_at_call 72; refine (HN _).mono ?_; rintro e w3 ⟨rfl, hww⟩; rw [hww]; clear hww w3) | (go_at_call 15; refine (HSi _ _ _ TW hiW).mono ?_; rintro e w6 ⟨rfl, hb6⟩; have X6 := XW.on hb6; have m3 := X6.cell 3))
                    go_ret
                    exact ⟨ret_i HR.out.symm, TW.trans (hb6.mono TW.size)⟩
                · have hz : (sE == 0) = false := by simpa using hs0
                  have HR : Hid (R = sE) := by unfold Hid; rw [HV.out, hin, if_neg (by decide), if_neg (by decide), if_pos hs0]
                  go_wp2_with (first | (go_at_call 72; refine (HN _).mono ?_; rintro e w3 ⟨rfl, hww⟩; rw [hww]; clear hww w3) | (go_at_call 15; refine (HSi _ _ _ TW hiW).mono ?_; rintro e w6 ⟨rfl, hb6⟩))
                  go_ret
                  exact ⟨ret_i HR.out.symm, TW.trans (hb6.mono TW.size)⟩
    · have hz : (F == 0) = false := by simpa using hF0
      have HV : Hid (R = 20) := HV0.out hF0
      clear HV0 HV1 HV2 HX HQ1
      go_quiet (fail)
      go_wp2
      go_ret
      exact ⟨ret_i HV.out.symm, bel_drewN T5 _⟩
end Go.Proofs.YtgjmaeodgcigdaaGreatDoor
