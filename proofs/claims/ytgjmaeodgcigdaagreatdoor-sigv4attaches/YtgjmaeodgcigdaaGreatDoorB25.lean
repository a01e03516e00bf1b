/- steleref06.Verify. · The library's contracts at this dump, as the guide's tool lays them. · What uri.Find answers. · The library's contracts at this dump, as the guide's tool lays them. · What request.Get answers. · The library's contracts at this dump, as the guide's tool lays them. -/
import Derived.Test.YtgjmaeodgcigdaaGreatDoorB23
import Derived.Test.YtgjmaeodgcigdaaGreatDoorB19
import Derived.Test.YtgjmaeodgcigdaaGreatDoorB24
import Derived.Shelf.SlGeneric
import Derived.Shelf.SlicesQ.IndexFunc
import Derived.Test.YtgjmaeodgcigdaaGreatDoorProg
import Derived.Test.YtgjmaeodgcigdaaGreatDoorB0
import Derived.Lib.SliceRun
import Derived.Test.YtgjmaeodgcigdaaGreatDoorB5
import Derived.Shelf.SlSortCmp.NoneTotal
namespace Go.Proofs.YtgjmaeodgcigdaaGreatDoor
open Go.RowKit

def sAuthN : List UInt8 := [97, 117, 116, 104, 111, 114, 105, 122, 97, 116, 105, 111, 110]
def sDateN : List UInt8 := [120, 45, 97, 109, 122, 45, 100, 97, 116, 101]
def vAu (hs : List Pr) : List UInt8 := (findL hs sAuthN).getD []
def vDa (hs : List Pr) : List UInt8 := (findL hs sDateN).getD []
def isDat (t : List UInt8) : Bool := t == sDateN
def verE (sec S : List UInt8) (E F : Int) (T now : Nat) (r : Rq) : Int :=
  if auOk (vAu r.hs) = false then 20 else if ¬ F = 0 then 20 else if ((vDa r.hs).take 8 == auDt (vAu r.hs)) = false then 20
  else if (auTs (vAu r.hs)).any isDat = false then 20 else if nearN T now 900 = false then 21
  else if ¬ signE E r (auTs (vAu r.hs)) = 0 then signE E r (auTs (vAu r.hs)) else if (signT sec S E r (auTs (vAu r.hs)) == auSg (vAu r.hs)) = false then 20 else 0
theorem find_small {hs : List Pr} {n : List UInt8} {z : Nat} (zh : ∀ i, i < hs.length → (nthP hs i).2.length ≤ z) : ((findL hs n).getD []).length ≤ z := by
  cases h : findL hs n with
  | none => exact Nat.zero_le _
  | some v =>
    obtain ⟨i, hi, e⟩ := find_mem6 h
    rw [Option.getD_some, ← e]; exact zh i hi

set_option maxRecDepth 20000 in
set_option maxHeartbeats 4000000 in
theorem refVerify (sec m p q : List UInt8) (ha : Option Addr) (hn hc : Nat) (hs : List Pr) (ba : Option Addr) (bn bc : Nat) (bd : List UInt8) (now T : Nat) (S : List UInt8) (E F : Int) (w : World)
    (hP : IsP w ha hn hc hs) (hB : IsB w ba bn bc bd) (zs : sec.length ≤ 100000) (zm : m.length ≤ 30000) (zp : p.length ≤ 30000) (zq : q.length ≤ 30000) (zb : bn ≤ 30000) (zh : ∀ i, i < hs.length → (nthP hs i).2.length ≤ 30000)
    (hnow : now < 18446744073709551616) (hT : T < 18446744073709551616) (hF : F = 0 → (vDa hs).length = 16)
    (HRd : ∀ w, Calls Tryz.prog 71 #[.string (str (vDa hs))] w fun e w' => e = .returned (.tuple #[.int .u64 (T : Int), .int .i64 F]) ∧ Below w.heap.size w w')
    (hS : E = 0 → S.length = 16) (HSw : ∀ w, Calls Tryz.prog 52 #[.int .u64 (T : Int)] w fun e w' => e = .returned (.tuple #[.string (str S), .int .i64 E]) ∧ Below w.heap.size w w') :
    Calls Tryz.prog 29 #[.agg #[.string (str m), .string (str p), .string (str q), .slice ha hn hc, .slice ba bn bc], .string (str sec), .int .u64 (now : Int)] w fun e w' => e = .returned (.int .i64 (verE sec S E F T now ⟨m, p, q, hs, bd⟩)) ∧ Below w.heap.size w w' := by
  have T0 : Below w.heap.size w (w.alloc (.cells #[.string (str m), .string (str p), .string (str q), .slice ha hn hc, .slice ba bn bc] 25)) := (Below.refl _ w).alloc (Nat.le_refl _) _
  have K0 := Blk.newAt w w.heap.size 25 _ [.string (str m), .string (str p), .string (str q), .slice ha hn hc, .slice ba bn bc] rfl rfl
  have c0 := K0.cell 0
  have c1 := K0.cell 1
  have c2 := K0.cell 2
  have c3 := K0.cell 3
  have c4 := K0.cell 4
  have zv : (vAu hs).length ≤ 30000 := find_small zh
  have G1 : ∀ W, Below w.heap.size w W → Calls Tryz.prog 41 #[.agg #[.string (str m), .string (str p), .string (str q), .slice ha hn hc, .slice ba bn bc], .string ⟨#[97, 117, 116, 104, 111, 114, 105, 122, 97, 116, 105, 111, 110]⟩] W fun e w' => e = .returned (.tuple #[.string (str (vAu hs)), .bool (findL hs sAuthN).isSome]) ∧ Below W.heap.size W w' := fun W hW => refGet _ _ _ _ ha hn hc hs sAuthN W (hP.below hW rfl)
  have G2 : ∀ W, Below w.heap.size w W → Calls Tryz.prog 41 #[.agg #[.string (str m), .string (str p), .string (str q), .slice ha hn hc, .slice ba bn bc], .string ⟨#[120, 45, 97, 109, 122, 45, 100, 97, 116, 101]⟩] W fun e w' => e = .returned (.tuple #[.string (str (vDa hs)), .bool (findL hs sDateN).isSome]) ∧ Below W.heap.size W w' := fun W hW => refGet _ _ _ _ ha hn hc hs sDateN W (hP.below hW rfl)
  have HA := fun W => refReadAuth (vAu hs) W (by omega)
  generalize (findL hs sAuthN).isSome = q1 at *
  generalize (findL hs sDateN).isSome = q2 at *
  cases hok : auOk (vAu hs) with
  | false =>
    have HV : Hid (verE sec S E F T now ⟨m, p, q, hs, bd⟩ = 20) := by unfold Hid verE; rw [if_pos hok]
    simp only [hok, Bool.false_eq_true, if_false] at HA
    unfold authNone at HA
    generalize verE sec S E F T now ⟨m, p, q, hs, bd⟩ = R at *
    clear hP hB hok hF hS HSw
    generalize str (vAu hs) = xv at *
    generalize str (vDa hs) = xd at *
    generalize str m = xm at *
    generalize str p = xp at *
    generalize str q = xq at *
    go_enter Tryz.func29, Tryz.ntmps29
    go_wp2_with (first
      | (go_at_call 41; first
        | (have hmk := K3; refine (G2 _ T3).mono ?_; rintro e w4 ⟨rfl, hb4⟩; have T4 := T3.trans (hb4.mono T3.size))
        | (refine (G1 _ T0).mono ?_; rintro e w1 ⟨rfl, hb1⟩; have K1 := K0.on hb1; have T1 := T0.trans (hb1.mono T0.size)))
      | (go_at_call 20; refine (HA _).mono ?_; rintro e w2 ⟨rfl, hb2⟩; have K2 := K1.on hb2; have T2 := T1.trans (hb2.mono T1.size); have A3 : Below w2.heap.size w2 (w2.alloc (.cells #[.string ⟨#[]⟩, .string ⟨#[]⟩, .slice none 0 0, .string ⟨#[]⟩] 45)) := (Below.refl _ w2).alloc (Nat.le_refl _) _; have K3 := K2.on A3; have T3 := T2.trans (A3.mono T2.size); have d0 := K3.cell 0; have d1 := K3.cell 1; have d2 := K3.cell 2; have d3 := K3.cell 3; have d4 := K3.cell 4)
      | (go_at_call 71; refine (HRd _).mono ?_; rintro e w5 ⟨rfl, hb5⟩; have T5 := T4.trans (hb5.mono T4.size)))
    go_quiet (fail)
    go_wp2
    go_ret
    exact ⟨ret_i HV.out.symm, bel_drewN T5 _⟩
  | true =>
    simp only [hok, if_true] at HA
    have HV0 : Hid (¬ F = 0 → verE sec S E F T now ⟨m, p, q, hs, bd⟩ = 20) := fun h => by unfold verE; rw [if_neg (by rw [hok]; decide), if_pos h]
    have HV1 : Hid (F = 0 → ((vDa hs).take 8 == auDt (vAu hs)) = false → verE sec S E F T now ⟨m, p, q, hs, bd⟩ = 20) := fun h h1 => by unfold verE; rw [if_neg (by rw [hok]; decide), if_neg (not_not_intro h), if_pos h1]
    have HV2 : Hid (F = 0 → ((vDa hs).take 8 == auDt (vAu hs)) = true → verE sec S E F T now ⟨m, p, q, hs, bd⟩ = if (auTs (vAu hs)).any isDat = false then 20 else if nearN T now 900 = false then 21 else if ¬ signE E ⟨m, p, q, hs, bd⟩ (auTs (vAu hs)) = 0 then signE E ⟨m, p, q, hs, bd⟩ (auTs (vAu hs)) else if (signT sec S E ⟨m, p, q, hs, bd⟩ (auTs (vAu hs)) == auSg (vAu hs)) = false then 20 else 0) := fun h h1 => by unfold verE; rw [if_neg (by rw [hok]; decide), if_neg (not_not_intro h), if_neg (by rw [h1]; decide)]
    have HN := fun W => refNear T now 900 W hT hnow
    obtain ⟨z1, z2, z3, z4, z5, z6, z7⟩ := au_len (vAu hs)
    have zt : ∀ i, i < (auTs (vAu hs)).length → (nthT (auTs (vAu hs)) i).length ≤ 140737488351232 := fun i hi => by
      rw [nthT_eq _ i hi]
      exact Nat.le_trans (cutL_part 59 (auLs (vAu hs)) _ (List.getElem_mem hi)) (by omega)
    have HSi : ∀ W ta tc, Below w.heap.size w W → IsT W ta (auTs (vAu hs)).length tc (auTs (vAu hs)) → Calls Tryz.prog 15 #[.string (str sec), .agg #[.string (str m), .string (str p), .string (str q), .slice ha hn hc, .slice ba bn bc], .slice ta (auTs (vAu hs)).length tc, .int .u64 (T : Int)] W fun e w' => e = .returned (.tuple #[.string (str (signT sec S E ⟨m, p, q, hs, bd⟩ (auTs (vAu hs)))), .int .i64 (signE E ⟨m, p, q, hs, bd⟩ (auTs (vAu hs)))]) ∧ Below W.heap.size W w' := fun W ta tc hW hTs => refSign sec m p q ha hn hc hs ba bn bc bd ta _ tc _ T S E W (hP.below hW rfl) (hB.below hW rfl) hTs zs zm zp zq zb zh zt hS HSw
    have HX : F = 0 → (str (vDa hs)).size = 16 := fun h => by rw [str_size]; exact hF h
    have HQ1 : Hid ((((str (vDa hs)).extract 0 8).toList == (str (auDt (vAu hs))).toList) = ((vDa hs).take 8 == auDt (vAu hs))) := by unfold Hid; rw [ext_take, str_list, str_toList, str_toList]
    have HQ2 : Hid (((str (signT sec S E ⟨m, p, q, hs, bd⟩ (auTs (vAu hs)))).toList == (str (auSg (vAu hs))).toList) = (signT sec S E ⟨m, p, q, hs, bd⟩ (auTs (vAu hs)) == auSg (vAu hs))) := by unfold Hid; rw [str_toList, str_toList]
    generalize verE sec S E F T now ⟨m, p, q, hs, bd⟩ = R at *
    generalize signE E ⟨m, p, q, hs, bd⟩ (auTs (vAu hs)) = sE at *
    generalize (signT sec S E ⟨m, p, q, hs, bd⟩ (auTs (vAu hs)) == auSg (vAu hs)) = bG at *
    generalize str (signT sec S E ⟨m, p, q, hs, bd⟩ (auTs (vAu hs))) = xG at *
    generalize nearN T now 900 = bN at *
    generalize ((vDa hs).take 8 == auDt (vAu hs)) = bD at *
    clear hP hB hok hF hS HSw zt z1 z2 z3 z4 z5 z6 z7 zv zs zm zp zq zb zh
    generalize str (auAc (vAu hs)) = xa at *
    generalize str (auDt (vAu hs)) = xt at *
    generalize str (auSg (vAu hs)) = xg at *
    generalize auTs (vAu hs) = ts at *
    generalize str (vAu hs) = xv at *
    generalize str (vDa hs) = xd at *
    generalize str m = xm at *
    generalize str p = xp at *
    generalize str q = xq at *
    generalize str sec = xs at *
    go_enter Tryz.func29, Tryz.ntmps29
    go_upto_region 5 with (first
      | (go_at_call 41; first
        | (have hmk := K3; refine (G2 _ T3).mono ?_; rintro e w4 ⟨rfl, hb4⟩; have K4 := K3.on hb4; have T4 := T3.trans (hb4.mono T3.size); have X4 := X3.on hb4; have hi4 := hi3.below hb4 rfl)
        | (refine (G1 _ T0).mono ?_; rintro e w1 ⟨rfl, hb1⟩; have K1 := K0.on hb1; have T1 := T0.trans (hb1.mono T0.size)))
      | (go_at_call 20; refine (HA _).mono ?_; rintro e w2 ⟨⟨ta, tc, rfl, hi2⟩, hb2⟩; have K2 := K1.on hb2; have T2 := T1.trans (hb2.mono T1.size); have A3 : Below w2.heap.size w2 (w2.alloc (.cells #[.string xa, .string xt, .slice ta ts.length tc, .string xg] 45)) := (Below.refl _ w2).alloc (Nat.le_refl _) _; have X3 := Blk.newAt w2 w2.heap.size 45 _ [.string xa, .string xt, .slice ta ts.length tc, .string xg] rfl rfl; have hi3 := hi2.below A3 rfl; have K3 := K2.on A3; have T3 := T2.trans (A3.mono T2.size); have d0 := K3.cell 0; have d1 := K3.cell 1; have d2 := K3.cell 2; have d3 := K3.cell 3; have d4 := K3.cell 4)
      | (go_at_call 71; refine (HRd _).mono ?_; rintro e w5 ⟨rfl, hb5⟩; have K5 := K4.on hb5; have T5 := T4.trans (hb5.mono T4.size); have X5 := X4.on hb5; have hi5 := hi4.below hb5 rfl))
    clear G1 G2 HA HRd K0 K1 K2 K3 K4 T0 T1 T2 T3 T4 A3 X3 X4 hi2 hi3 hi4 hb1 hb2 hb4 hb5 c0 c1 c2 c3 c4 d0 d1 d2 d3 d4
    generalize w2.heap.size = B at *
    have e1 := X5.cell 1
    by_cases hF0 : F = 0
    · subst hF0
      have h16 := HX rfl
      have hq1 := HQ1.out
      clear HX HQ1 HV0
      cases bD with
      | false =>
        have HV : Hid (R = 20) := HV1.out rfl rfl
        go_quiet (fail)
        go_wp2
        go_ret
        exact ⟨ret_i HV.out.symm, bel_drewN T5 _⟩
      | true =>
        have HV : Hid (R = if ts.any isDat = false then 20 else if bN = false then 21 else if ¬ sE = 0 then sE else if bG = false then 20 else 0) := HV2.out rfl rfl
        go_quiet (fail)
        have TW := bel_drewN T5 nq
        have KW := K5.drewN nq
        have XW := X5.drewN nq
        have hiW := hi5.below (bel_drewN (Below.refl _ w5) nq) rfl
        clear T5 K5 X5 hi5 e1 HV1 HV2 hq1
        generalize w5.drewN nq = W at *
        have e1 := XW.cell 1
        have e2 := XW.cell 2
        have e3 := XW.cell 3
        have k0 := KW.cell 0
        have k1 := KW.cell 1
        have k2 := KW.cell 2
        have k3 := KW.cell 3
        have k4 := KW.cell 4
        have hnl : ts.length ≤ 9223372036854775807 := by have := hiW.le; have := hiW.max; unfold maxLen at this; omega
        generalize hn0 : ts.length = n at *
        have HNL : Hid (ts.length = n) := hn0
        clear hn0
        go_wp2
        go_loopw [15, 16] (fun v i wr => ∃ (k : Nat), k ≤ n ∧ i = .int .i64 k ∧ v = .bool ((ts.take k).any isDat) ∧ wr = W) (fun _ i _ => n - (intOf i).toNat)
        case atStart => exact ⟨0, Nat.zero_le _, rfl, rfl, rfl⟩
        case round =>
          obtain ⟨k, hk, rfl, rfl, rfl⟩ := hrel
          by_cases hlt : k < n
          · obtain ⟨b, off, rfl, hc0⟩ := hiW.cells (by omega)
            have g1 := hc0 k hlt
            have hb0 : (0 : Int) ≤ (k : Int) := by omega
            have hb1 : (k : Int) < (n : Int) := by omega
            have HT : Hid ((ts.take (k + 1)).any isDat = ((ts.take k).any isDat || isDat (nthT ts k))) := by unfold Hid; rw [takeT ts k (by rw [HNL.out]; exact hlt), List.any_append]; simp
            have hq : ((str (nthT ts k)).toList == [120, 45, 97, 109, 122, 45, 100, 97, 116, 101]) = isDat (nthT ts k) := by rw [str_toList]; rfl
            generalize isDat (nthT ts k) = bT at *
            generalize str (nthT ts k) = xk at *
            clear hc0
            cases hin : (ts.take k).any isDat with
            | true =>
              rw [hin] at HT
              go_wp2
              go_roundw
              case rel => exact ⟨k + 1, by omega, by go_num, by rw [HT.out]; rfl, by first | rfl | trivial⟩
              case measure => simp [intOf]; omega
            | false =>
              rw [hin] at HT
              go_wp2
              go_roundw
              case rel => exact ⟨k + 1, by omega, by go_num, by rw [HT.out, Bool.false_or, ← hq], by first | rfl | trivial⟩
              case measure => simp [intOf]; omega
          · have hge : ¬ (k : Int) < (n : Int) := by omega
            have hall : ts.take k = ts := List.take_of_length_le (by rw [HNL.out]; omega)
            rw [hall]
            clear hall hlt
            have hq2 := HQ2.out
            clear HQ2
            cases hin : ts.any isDat with
            | false =>
              have HR : Hid (R = 20) := by unfold Hid; rw [HV.out, if_pos hin]
              go_wp2
              go_ret
              exact ⟨ret_i HR.out.symm, TW⟩
            | true =>
              cases bN with
              | false =>
                have HR : Hid (R = 21) := by unfold Hid; rw [HV.out, hin]; rfl
                go_wp2_with (go_at_call 72; refine (HN _).mono ?_; rintro e w3 ⟨rfl, hww⟩; rw [hww]; clear hww w3)
                go_ret
                exact ⟨ret_i HR.out.symm, TW⟩
              | true =>
                by_cases hs0 : sE = 0
                · subst hs0
                  cases bG with
                  | false =>
                    have HR : Hid (R = 20) := by unfold Hid; rw [HV.out, hin]; rfl
                    go_wp2_with (first | (go_at_call 72; refine (HN _).mono ?_; rintro e w3 ⟨rfl, hww⟩; rw [hww]; clear hww w3) | (go_at_call 15; refine (HSi _ _ _ TW hiW).mono ?_; rintro e w6 ⟨rfl, hb6⟩; have X6 := XW.on hb6; have m3 := X6.cell 3))
                    go_ret
                    exact ⟨ret_i HR.out.symm, TW.trans (hb6.mono TW.size)⟩
                  | true =>
                    have HR : Hid (R = 0) := by unfold Hid; rw [HV.out, hin]; rfl
                    go_wp2_with (first | (go_at_call 72; refine (HN _).mono ?_; rintro e w3 ⟨rfl, hww⟩; rw [hww]; clear hww w3) | (go_at_call 15; refine (HSi _ _ _ TW hiW).mono ?_; rintro e w6 ⟨rfl, hb6⟩; have X6 := XW.on hb6; have m3 := X6.cell 3))
                    go_ret
                    exact ⟨ret_i HR.out.symm, TW.trans (hb6.mono TW.size)⟩
                · have hz : (sE == 0) = false := by simpa using hs0
                  have HR : Hid (R = sE) := by unfold Hid; rw [HV.out, hin, if_neg (by decide), if_neg (by decide), if_pos hs0]
                  go_wp2_with (first | (go_at_call 72; refine (HN _).mono ?_; rintro e w3 ⟨rfl, hww⟩; rw [hww]; clear hww w3) | (go_at_call 15; refine (HSi _ _ _ TW hiW).mono ?_; rintro e w6 ⟨rfl, hb6⟩))
                  go_ret
                  exact ⟨ret_i HR.out.symm, TW.trans (hb6.mono TW.size)⟩
    · have hz : (F == 0) = false := by simpa using hF0
      have HV : Hid (R = 20) := HV0.out hF0
      clear HV0 HV1 HV2 HX HQ1
      go_quiet (fail)
      go_wp2
      go_ret
      exact ⟨ret_i HV.out.symm, bel_drewN T5 _⟩
end Go.Proofs.YtgjmaeodgcigdaaGreatDoor
namespace Go.Proofs
open Go.Shelf
def Tryz.layIdx_ren : Go.Shelf.Ren := ⟨fun | 6 => 125 | n => n, fun | 22 => 71 | 23 => 122 | 25 => 170 | 3 => 3 | 0 => 0 | 4 => 4 | n => n, fun | n => n⟩
theorem Tryz.layIdx : Go.Proofs.SlLaysH0.n6 Tryz.prog Tryz.layIdx_ren := {
  mixed := by kernel_rfl
  f6 := ⟨Tryz.f125.name, by decide, Tryz.func125.trans (congrArg some (by kernel_rfl))⟩
  t0 := Tryz.underlying0
  a0 := Tryz.isAgg0
  z0 := Tryz.sizeOf0
  v0 := Tryz.zeroValue0
  t3 := Tryz.underlying3
  a3 := Tryz.isAgg3
  z3 := Tryz.sizeOf3
  v3 := Tryz.zeroValue3
  t4 := Tryz.underlying4
  a4 := Tryz.isAgg4
  z4 := Tryz.sizeOf4
  v4 := Tryz.zeroValue4
  t22 := Tryz.underlying71
  a22 := Tryz.isAgg71
  z22 := Tryz.sizeOf71
  v22 := Tryz.zeroValue71
  t25 := Tryz.underlying170
  a25 := Tryz.isAgg170
  z25 := Tryz.sizeOf170
  v25 := Tryz.zeroValue170 }
end Go.Proofs
namespace Go.Proofs.YtgjmaeodgcigdaaGreatDoor
open Go.RowKit Go.Shelf Go.Lib

/-- a pair's two cells -/
def prV (p : Pr) : List Value := [.string (str p.1), .string (str p.2)]
def isNm (nm : List UInt8) (p : Pr) : Bool := p.1 == nm

theorem find_cases (l : List Pr) (nm : List UInt8) :
    (Lib.idxBy (fun _ y => isNm nm y) l default = -1 ∧ findL l nm = none) ∨
    ∃ k : Nat, k < l.length ∧ Lib.idxBy (fun _ y => isNm nm y) l default = (k : Int) ∧ findL l nm = some (nthP l k).2 := by
  have gen : ∀ (l : List Pr) (i : Nat), (Lib.idxByFrom (fun _ y => isNm nm y) default l i = -1 ∧ findL l nm = none) ∨
    ∃ k : Nat, k < l.length ∧ Lib.idxByFrom (fun _ y => isNm nm y) default l i = ((i + k : Nat) : Int) ∧ findL l nm = some (nthP l k).2 := by
    intro l
    induction l with
    | nil => intro i; exact .inl ⟨rfl, rfl⟩
    | cons p l ih =>
      intro i
      by_cases h : p.1 = nm
      · refine .inr ⟨0, by simp, ?_, ?_⟩
        · simp [Lib.idxByFrom, isNm, h]
        · unfold findL; rw [List.find?_cons_of_pos (by simpa using h)]; rfl
      · have e1 : Lib.idxByFrom (fun _ y => isNm nm y) default (p :: l) i = Lib.idxByFrom (fun _ y => isNm nm y) default l (i + 1) := by
          rw [Lib.idxByFrom]; simp [isNm, h]
        have e2 : findL (p :: l) nm = findL l nm := by unfold findL; rw [List.find?_cons_of_neg (by simpa using h)]
        rw [e1, e2]
        rcases ih (i + 1) with ⟨h1, h2⟩ | ⟨k, hk, h1, h2⟩
        · exact .inl ⟨h1, h2⟩
        · exact .inr ⟨k + 1, by simp; omega, by rw [h1]; congr 1; omega, h2⟩
  have := gen l 0
  simpa [Lib.idxBy] using this

/-- the closure of Find -/
theorem codFind1 (nm : List UInt8) (B : Nat) (w : World) (hB : B < w.heap.size) (hcell : w.cell? ⟨B, 0, none⟩ = some (.string (str nm))) :
    PredBelow Tryz.prog 126 #[.pointer (some ⟨B, 0, none⟩)] (fun x : Pr => .agg (prV x).toArray) (isNm nm) w := fun W x hb => by
  have hc : W.cell? ⟨B, 0, none⟩ = some (.string (str nm)) := (hb.cell (p := ⟨B, 0, none⟩) hB).trans hcell
  have hBW : B < W.heap.size := Nat.lt_of_lt_of_le hB hb.size
  have hne : B ≠ W.heap.size := by omega
  have hq : ((str x.1).toList == (str nm).toList) = isNm nm x := by rw [str_beq]; rfl
  show Calls Tryz.prog 126 #[.agg #[.string (str x.1), .string (str x.2)], .pointer (some ⟨B, 0, none⟩)] W _
  generalize isNm nm x = r at *
  generalize str x.1 = s1 at *
  generalize str x.2 = s2 at *
  generalize str nm = s3 at *
  go_enter Tryz.func126, Tryz.ntmps126
  go_wp2
  go_ret
  exact ⟨rfl, hb.alloc hb.size _⟩

set_option maxHeartbeats 1000000 in
theorem idx_empty (a : Option Addr) (cap : Nat) (fv : Value) (w : World) :
    Calls Tryz.prog 125 #[.slice a 0 cap, fv] w fun e w' => e = .returned (.int .i64 (-1)) ∧ w' = w := by
  go_enter Tryz.func125, Tryz.ntmps125
  go_wp2
  refine wp_loop_rounds 1 ?_
  rw [rounds_succ]
  go_wp2
  go_ret
  exact ⟨rfl, rfl⟩

theorem bang_nthP (l : List Pr) (j : Nat) : l[j]! = nthP l j := by
  unfold nthP
  rw [List.getElem!_eq_getElem?_getD, List.getD_eq_getElem?_getD]; rfl

set_option maxHeartbeats 1000000 in
theorem codFind (a : Option Addr) (n cap : Nat) (l : List Pr) (nm : List UInt8) (w : World) (h : IsP w a n cap l) :
    Calls Tryz.prog 81 #[.slice a n cap, .string (str nm)] w fun e w' => e = .returned (.tuple #[.string (str ((findL l nm).getD [])), .bool (findL l nm).isSome]) ∧ Below w.heap.size w w' := by
  have T1 : Below w.heap.size w (w.alloc (.cells #[.string (str nm)] 9)) := (Below.refl _ w).alloc (Nat.le_refl _) _
  by_cases h0 : n = 0
  · subst h0
    have hl : l = [] := List.eq_nil_of_length_eq_zero h.len_eq
    subst hl
    clear h
    have e1 : str ((findL [] nm).getD []) = ⟨#[]⟩ := rfl
    have e2 : (findL [] nm).isSome = false := rfl
    rw [e1, e2]
    generalize str nm = s at *
    clear e1 e2
    have HI := idx_empty a cap
    go_enter Tryz.func81, Tryz.ntmps81
    go_wp2_with (go_at_call 125; refine (HI _ _).mono ?_; rintro e w' ⟨rfl, hww⟩; rw [hww]; clear hww w')
    go_ret2
    exact ⟨rfl, T1⟩
  · obtain ⟨b, off, rfl, hc⟩ := h.cells (by omega)
    have hm : n ≤ 9223372036854775807 := by have := h.le; have := h.max; unfold maxLen at this; omega
    have hlen := h.len_eq
    have hb : b < w.heap.size := cell_lt (hc 0 (by omega)).1
    have eg : ∀ args w, (callFunc 126 args).run Tryz.prog w = .ok (.enter 126 args) w := enters_of Tryz.func126 (by kernel_rfl) rfl
    have hcon := AnyQ.slices_IndexFunc Tryz.layIdx 2 Tryz.isAgg122 Tryz.sizeOf122 prV (fun _ => rfl) (isNm nm) 126 #[.pointer (some ⟨w.heap.size, 0, none⟩)] eg b off n cap l (w.alloc (.cells #[.string (str nm)] 9))
      (codFind1 nm w.heap.size _ (by simp) (by simp)) (by omega) hm (by simp; omega) (fun j hj i v hi => by
        refine Lib.cell?_alloc_some _ ?_
        have h1 := hc j (by omega)
        rw [bang_nthP] at hi
        match i, hi with
        | 0, hi => simp [prV] at hi; rw [← hi]; exact h1.1
        | 1, hi => simp [prV] at hi; rw [← hi]; exact h1.2
        | i + 2, hi => simp [prV] at hi)
    change Calls Tryz.prog 125 _ _ _ at hcon
    rw [List.take_of_length_le (by omega)] at hcon
    have HT : ∀ w', Below (w.alloc (.cells #[.string (str nm)] 9)).heap.size (w.alloc (.cells #[.string (str nm)] 9)) w' → Below w.heap.size w w' := fun w' hb' => T1.trans (hb'.mono (by simp))
    rcases find_cases l nm with ⟨h1, h2⟩ | ⟨k, hk, h1, h2⟩
    · rw [h1] at hcon
      rw [h2]
      clear hc h hlen h1 h2 eg T1
      change Calls _ _ _ _ fun e w' => e = .returned (.tuple #[.string ⟨#[]⟩, .bool false]) ∧ _
      generalize str nm = s at *
      go_enter Tryz.func81, Tryz.ntmps81
      go_wp2_with (go_at_call 125; refine hcon.mono ?_; rintro e w' ⟨rfl, hb'⟩)
      go_ret2
      exact ⟨rfl, HT _ hb'⟩
    · rw [h1] at hcon
      rw [h2]
      have hk' : k < n := by omega
      have hkz : (k : Int) < (n : Int) := by omega
      have hk0 : (0 : Int) ≤ (k : Int) := by omega
      have hcv : Hid (∀ w', Below w.heap.size w w' → w'.cell? ⟨b, off + k * 2 + 1, none⟩ = some (.string (str (nthP l k).2))) := fun w' hb' => (hb'.cell (p := ⟨b, off + k * 2 + 1, none⟩) hb).trans (hc k hk').2
      clear hc h hlen h1 h2 eg T1
      change Calls _ _ _ _ fun e w' => e = .returned (.tuple #[.string (str (nthP l k).2), .bool true]) ∧ _
      generalize str (nthP l k).2 = s2 at *
      generalize str nm = s at *
      go_enter Tryz.func81, Tryz.ntmps81
      go_wp2_with (go_at_call 125; refine hcon.mono ?_; rintro e w' ⟨rfl, hb'⟩; have hcell := hcv.out _ (HT _ hb'))
      go_ret2
      exact ⟨rfl, HT _ hb'⟩
end Go.Proofs.YtgjmaeodgcigdaaGreatDoor
namespace Go.Proofs
open Go.Shelf
def Tryz.layIdxH_ren : Go.Shelf.Ren := ⟨fun | 6 => 120 | n => n, fun | 22 => 32 | 23 => 68 | 25 => 165 | 3 => 3 | 0 => 0 | 4 => 4 | n => n, fun | n => n⟩
theorem Tryz.layIdxH : Go.Proofs.SlLaysH0.n6 Tryz.prog Tryz.layIdxH_ren := {
  mixed := by kernel_rfl
  f6 := ⟨Tryz.f120.name, by decide, Tryz.func120.trans (congrArg some (by kernel_rfl))⟩
  t0 := Tryz.underlying0
  a0 := Tryz.isAgg0
  z0 := Tryz.sizeOf0
  v0 := Tryz.zeroValue0
  t3 := Tryz.underlying3
  a3 := Tryz.isAgg3
  z3 := Tryz.sizeOf3
  v3 := Tryz.zeroValue3
  t4 := Tryz.underlying4
  a4 := Tryz.isAgg4
  z4 := Tryz.sizeOf4
  v4 := Tryz.zeroValue4
  t22 := Tryz.underlying32
  a22 := Tryz.isAgg32
  z22 := Tryz.sizeOf32
  v22 := Tryz.zeroValue32
  t25 := Tryz.underlying165
  a25 := Tryz.isAgg165
  z25 := Tryz.sizeOf165
  v25 := Tryz.zeroValue165 }
end Go.Proofs
namespace Go.Proofs.YtgjmaeodgcigdaaGreatDoor
open Go.RowKit Go.Shelf Go.Lib

/-- the closure of Find -/
theorem codGet1 (nm : List UInt8) (B : Nat) (w : World) (hB : B < w.heap.size) (hcell : w.cell? ⟨B, 0, none⟩ = some (.string (str nm))) :
    PredBelow Tryz.prog 121 #[.pointer (some ⟨B, 0, none⟩)] (fun x : Pr => .agg (prV x).toArray) (isNm nm) w := fun W x hb => by
  have hc : W.cell? ⟨B, 0, none⟩ = some (.string (str nm)) := (hb.cell (p := ⟨B, 0, none⟩) hB).trans hcell
  have hBW : B < W.heap.size := Nat.lt_of_lt_of_le hB hb.size
  have hne : B ≠ W.heap.size := by omega
  have hq : ((str x.1).toList == (str nm).toList) = isNm nm x := by rw [str_beq]; rfl
  show Calls Tryz.prog 121 #[.agg #[.string (str x.1), .string (str x.2)], .pointer (some ⟨B, 0, none⟩)] W _
  generalize isNm nm x = r at *
  generalize str x.1 = s1 at *
  generalize str x.2 = s2 at *
  generalize str nm = s3 at *
  go_enter Tryz.func121, Tryz.ntmps121
  go_wp2
  go_ret
  exact ⟨rfl, hb.alloc hb.size _⟩

set_option maxHeartbeats 1000000 in
theorem idxH_empty (a : Option Addr) (cap : Nat) (fv : Value) (w : World) :
    Calls Tryz.prog 120 #[.slice a 0 cap, fv] w fun e w' => e = .returned (.int .i64 (-1)) ∧ w' = w := by
  go_enter Tryz.func120, Tryz.ntmps120
  go_wp2
  refine wp_loop_rounds 1 ?_
  rw [rounds_succ]
  go_wp2
  go_ret
  exact ⟨rfl, rfl⟩

set_option maxHeartbeats 1000000 in
theorem codGet (m p q bd : Value) (a : Option Addr) (n cap : Nat) (l : List Pr) (nm : List UInt8) (w : World) (h : IsP w a n cap l) :
    Calls Tryz.prog 75 #[.agg #[m, p, q, .slice a n cap, bd], .string (str nm)] w fun e w' => e = .returned (.tuple #[.string (str ((findL l nm).getD [])), .bool (findL l nm).isSome]) ∧ Below w.heap.size w w' := by
  have T1 : ∀ s : Value, Below w.heap.size w ((w.alloc (.cells #[m, p, q, s, bd] 34)).alloc (.cells #[.string (str nm)] 9)) := fun s => ((Below.refl _ w).alloc (Nat.le_refl _) _).alloc (by simp) _
  by_cases h0 : n = 0
  · subst h0
    have hl : l = [] := List.eq_nil_of_length_eq_zero h.len_eq
    subst hl
    clear h
    have e1 : str ((findL [] nm).getD []) = ⟨#[]⟩ := rfl
    have e2 : (findL [] nm).isSome = false := rfl
    rw [e1, e2]
    generalize str nm = s at *
    clear e1 e2
    have HI := idxH_empty a cap
    go_enter Tryz.func75, Tryz.ntmps75
    go_wp2_with (go_at_call 120; refine (HI _ _).mono ?_; rintro e w' ⟨rfl, hww⟩; rw [hww]; clear hww w')
    go_ret2
    exact ⟨rfl, T1 _⟩
  · obtain ⟨b, off, rfl, hc⟩ := h.cells (by omega)
    have hm : n ≤ 9223372036854775807 := by have := h.le; have := h.max; unfold maxLen at this; omega
    have hlen := h.len_eq
    have hb : b < w.heap.size := cell_lt (hc 0 (by omega)).1
    have eg : ∀ args w, (callFunc 121 args).run Tryz.prog w = .ok (.enter 121 args) w := enters_of Tryz.func121 (by kernel_rfl) rfl
    have hcon := AnyQ.slices_IndexFunc Tryz.layIdxH 2 Tryz.isAgg68 Tryz.sizeOf68 prV (fun _ => rfl) (isNm nm) 121 #[.pointer (some ⟨w.heap.size + 1, 0, none⟩)] eg b off n cap l ((w.alloc (.cells #[m, p, q, .slice (some ⟨b, off, none⟩) n cap, bd] 34)).alloc (.cells #[.string (str nm)] 9))
      (codGet1 nm (w.heap.size + 1) _ (by simp) (by simp)) (by omega) hm (by simp; omega) (fun j hj i v hi => by
        refine Lib.cell?_alloc_some _ (Lib.cell?_alloc_some _ ?_)
        have h1 := hc j (by omega)
        rw [bang_nthP] at hi
        match i, hi with
        | 0, hi => simp [prV] at hi; rw [← hi]; exact h1.1
        | 1, hi => simp [prV] at hi; rw [← hi]; exact h1.2
        | i + 2, hi => simp [prV] at hi)
    change Calls Tryz.prog 120 _ _ _ at hcon
    rw [List.take_of_length_le (by omega)] at hcon
    have HT : ∀ w', Below ((w.alloc (.cells #[m, p, q, .slice (some ⟨b, off, none⟩) n cap, bd] 34)).alloc (.cells #[.string (str nm)] 9)).heap.size ((w.alloc (.cells #[m, p, q, .slice (some ⟨b, off, none⟩) n cap, bd] 34)).alloc (.cells #[.string (str nm)] 9)) w' → Below w.heap.size w w' := fun w' hb' => (T1 _).trans (hb'.mono (by simp; omega))
    have HR : Hid (∀ w', Below ((w.alloc (.cells #[m, p, q, .slice (some ⟨b, off, none⟩) n cap, bd] 34)).alloc (.cells #[.string (str nm)] 9)).heap.size ((w.alloc (.cells #[m, p, q, .slice (some ⟨b, off, none⟩) n cap, bd] 34)).alloc (.cells #[.string (str nm)] 9)) w' → w'.cell? ⟨w.heap.size, 3, none⟩ = some (.slice (some ⟨b, off, none⟩) n cap)) := fun w' hb' => (hb'.cell (p := ⟨w.heap.size, 3, none⟩) (by simp; omega)).trans (by simp [go_sem])
    rcases find_cases l nm with ⟨h1, h2⟩ | ⟨k, hk, h1, h2⟩
    · rw [h1] at hcon
      rw [h2]
      clear hc h hlen h1 h2 eg T1
      change Calls _ _ _ _ fun e w' => e = .returned (.tuple #[.string ⟨#[]⟩, .bool false]) ∧ _
      generalize str nm = s at *
      go_enter Tryz.func75, Tryz.ntmps75
      go_wp2_with (go_at_call 120; refine hcon.mono ?_; rintro e w' ⟨rfl, hb'⟩)
      go_ret2
      exact ⟨rfl, HT _ hb'⟩
    · rw [h1] at hcon
      rw [h2]
      have hk' : k < n := by omega
      have hkz : (k : Int) < (n : Int) := by omega
      have hk0 : (0 : Int) ≤ (k : Int) := by omega
      have hcv : Hid (∀ w', Below w.heap.size w w' → w'.cell? ⟨b, off + k * 2 + 1, none⟩ = some (.string (str (nthP l k).2))) := fun w' hb' => (hb'.cell (p := ⟨b, off + k * 2 + 1, none⟩) hb).trans (hc k hk').2
      clear hc h hlen h1 h2 eg T1
      change Calls _ _ _ _ fun e w' => e = .returned (.tuple #[.string (str (nthP l k).2), .bool true]) ∧ _
      generalize str (nthP l k).2 = s2 at *
      generalize str nm = s at *
      go_enter Tryz.func75, Tryz.ntmps75
      go_wp2_with (go_at_call 120; refine hcon.mono ?_; rintro e w' ⟨rfl, hb'⟩; have hcell := hcv.out _ (HT _ hb'); have hrc := HR.out _ hb')
      go_ret2
      exact ⟨rfl, HT _ hb'⟩
end Go.Proofs.YtgjmaeodgcigdaaGreatDoor
namespace Go.Proofs
open Go.Shelf
def Tryz.laySort_ren : Go.Shelf.Ren := ⟨fun | 6 => 83 | 15 => 128 | 14 => 127 | 28 => 158 | 29 => 159 | 20 => 150 | 21 => 151 | 22 => 152 | 23 => 153 | 24 => 154 | 25 => 155 | 26 => 156 | 27 => 157 | 46 => 184 | 47 => 185 | 48 => 186 | 49 => 187 | 50 => 188 | 57 => 198 | n => n, fun | 22 => 71 | 24 => 122 | 25 => 129 | 3 => 3 | 39 => 118 | 0 => 0 | 53 => 131 | 55 => 38 | 4 => 4 | 46 => 197 | 45 => 196 | 50 => 201 | 5 => 5 | 9 => 9 | 66 => 221 | 70 => 225 | 76 => 232 | 77 => 181 | n => n, fun | n => n⟩
theorem Tryz.laySort : Go.Proofs.SlLaysF0.n6 Tryz.prog Tryz.laySort_ren := {
  mixed := by kernel_rfl
  f6 := ⟨Tryz.f83.name, by decide, Tryz.func83.trans (congrArg some (by kernel_rfl))⟩
  f14 := ⟨Tryz.f127.name, by decide, Tryz.func127.trans (congrArg some (by kernel_rfl))⟩
  f15 := Tryz.func128.trans (congrArg some (by kernel_rfl))
  f20 := ⟨Tryz.f150.name, by decide, Tryz.func150.trans (congrArg some (by kernel_rfl))⟩
  f21 := ⟨Tryz.f151.name, by decide, Tryz.func151.trans (congrArg some (by kernel_rfl))⟩
  f22 := ⟨Tryz.f152.name, by decide, Tryz.func152.trans (congrArg some (by kernel_rfl))⟩
  f23 := ⟨Tryz.f153.name, by decide, Tryz.func153.trans (congrArg some (by kernel_rfl))⟩
  f24 := ⟨Tryz.f154.name, by decide, Tryz.func154.trans (congrArg some (by kernel_rfl))⟩
  f25 := ⟨Tryz.f155.name, by decide, Tryz.func155.trans (congrArg some (by kernel_rfl))⟩
  f26 := ⟨Tryz.f156.name, by decide, Tryz.func156.trans (congrArg some (by kernel_rfl))⟩
  f27 := ⟨Tryz.f157.name, by decide, Tryz.func157.trans (congrArg some (by kernel_rfl))⟩
  f28 := Tryz.func158.trans (congrArg some (by kernel_rfl))
  f29 := Tryz.func159.trans (congrArg some (by kernel_rfl))
  f46 := ⟨Tryz.f184.name, by decide, Tryz.func184.trans (congrArg some (by kernel_rfl))⟩
  f47 := Tryz.func185.trans (congrArg some (by kernel_rfl))
  f48 := Tryz.func186.trans (congrArg some (by kernel_rfl))
  f49 := ⟨Tryz.f187.name, by decide, Tryz.func187.trans (congrArg some (by kernel_rfl))⟩
  f50 := ⟨Tryz.f188.name, by decide, Tryz.func188.trans (congrArg some (by kernel_rfl))⟩
  f57 := ⟨Tryz.f198.name, by decide, Tryz.func198.trans (congrArg some (by kernel_rfl))⟩
  t0 := Tryz.underlying0
  a0 := Tryz.isAgg0
  z0 := Tryz.sizeOf0
  v0 := Tryz.zeroValue0
  t3 := Tryz.underlying3
  a3 := Tryz.isAgg3
  z3 := Tryz.sizeOf3
  v3 := Tryz.zeroValue3
  t4 := Tryz.underlying4
  a4 := Tryz.isAgg4
  z4 := Tryz.sizeOf4
  v4 := Tryz.zeroValue4
  t5 := Tryz.underlying5
  a5 := Tryz.isAgg5
  z5 := Tryz.sizeOf5
  v5 := Tryz.zeroValue5
  t9 := Tryz.underlying9
  a9 := Tryz.isAgg9
  z9 := Tryz.sizeOf9
  v9 := Tryz.zeroValue9
  t22 := Tryz.underlying71
  a22 := Tryz.isAgg71
  z22 := Tryz.sizeOf71
  v22 := Tryz.zeroValue71
  t25 := Tryz.underlying129
  a25 := Tryz.isAgg129
  z25 := Tryz.sizeOf129
  v25 := Tryz.zeroValue129
  t39 := Tryz.underlying118
  a39 := Tryz.isAgg118
  z39 := Tryz.sizeOf118
  v39 := Tryz.zeroValue118
  t45 := Tryz.underlying196
  a45 := Tryz.isAgg196
  z45 := Tryz.sizeOf196
  v45 := Tryz.zeroValue196
  t46 := Tryz.underlying197
  a46 := Tryz.isAgg197
  z46 := Tryz.sizeOf197
  v46 := Tryz.zeroValue197
  t50 := Tryz.underlying201
  a50 := Tryz.isAgg201
  z50 := Tryz.sizeOf201
  v50 := Tryz.zeroValue201
  t53 := Tryz.underlying131
  a53 := Tryz.isAgg131
  z53 := Tryz.sizeOf131
  v53 := Tryz.zeroValue131
  t55 := Tryz.underlying38
  a55 := Tryz.isAgg38
  z55 := Tryz.sizeOf38
  v55 := Tryz.zeroValue38
  t66 := Tryz.underlying221
  a66 := Tryz.isAgg221
  z66 := Tryz.sizeOf221
  v66 := Tryz.zeroValue221
  t70 := Tryz.underlying225
  a70 := Tryz.isAgg225
  z70 := Tryz.sizeOf225
  v70 := Tryz.zeroValue225
  t76 := Tryz.underlying232
  a76 := Tryz.isAgg232
  z76 := Tryz.sizeOf232
  v76 := Tryz.zeroValue232
  t77 := Tryz.underlying181
  a77 := Tryz.isAgg181
  z77 := Tryz.sizeOf181
  v77 := Tryz.zeroValue181 }
end Go.Proofs
