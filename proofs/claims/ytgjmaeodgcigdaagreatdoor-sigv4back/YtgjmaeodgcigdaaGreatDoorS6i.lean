/- steleref06.ReadAuth. -/
import Derived.Test.YtgjmaeodgcigdaaGreatDoorJ24
import Derived.Test.YtgjmaeodgcigdaaGreatDoorJ25
import Derived.Test.YtgjmaeodgcigdaaGreatDoorJ14
import Derived.Test.YtgjmaeodgcigdaaGreatDoorJ20
import Derived.Deep.CutRange
namespace Go.Proofs.YtgjmaeodgcigdaaGreatDoor
open Go.RowKit

def sLocAll : List UInt8 := [47, 108, 111, 99, 97, 108, 47, 115, 51, 47, 97, 119, 115, 52, 95, 114, 101, 113, 117, 101, 115, 116, 44, 32, 83, 105, 103, 110, 101, 100, 72, 101, 97, 100, 101, 114, 115, 61]
def auR1 (l : List UInt8) : List UInt8 := uptoB l sCred
def auAc (l : List UInt8) : List UInt8 := uptoA (auR1 l) [47]
def auR2 (l : List UInt8) : List UInt8 := uptoB (auR1 l) [47]
def auDt (l : List UInt8) : List UInt8 := uptoA (auR2 l) sLocAll
def auR3 (l : List UInt8) : List UInt8 := uptoB (auR2 l) sLocAll
def auLs (l : List UInt8) : List UInt8 := uptoA (auR3 l) sSignat
def auSg (l : List UInt8) : List UInt8 := uptoB (auR3 l) sSignat
def auTs (l : List UInt8) : List (List UInt8) := cutL 59 (auLs l)
def auOk (l : List UInt8) : Bool := (uptoI l sCred).isSome && (uptoI (auR1 l) [47]).isSome && (uptoI (auR2 l) sLocAll).isSome && (uptoI (auR3 l) sSignat).isSome && (uptoA l sCred).isEmpty && rightL (auAc l) (auDt l) (auTs l) (auSg l) && (authL (auAc l) (auDt l) (auTs l) (auSg l) == l)
theorem au_len (l : List UInt8) : (auR1 l).length ≤ l.length ∧ (auAc l).length ≤ l.length ∧ (auR2 l).length ≤ l.length ∧ (auDt l).length ≤ l.length ∧ (auR3 l).length ≤ l.length ∧ (auLs l).length ≤ l.length ∧ (auSg l).length ≤ l.length := by
  have h1 := uptoB_len l sCred
  have h2 := uptoA_len (auR1 l) [47]
  have h3 := uptoB_len (auR1 l) [47]
  have h4 := uptoA_len (auR2 l) sLocAll
  have h5 := uptoB_len (auR2 l) sLocAll
  have h6 := uptoA_len (auR3 l) sSignat
  have h7 := uptoB_len (auR3 l) sSignat
  unfold auAc auDt auLs auSg
  rw [show uptoB l sCred = auR1 l from rfl] at h1
  rw [show uptoB (auR1 l) [47] = auR2 l from rfl] at h3
  rw [show uptoB (auR2 l) sLocAll = auR3 l from rfl] at h5
  refine ⟨h1, ?_, ?_, ?_, ?_, ?_, ?_⟩ <;> omega
theorem IsT.other {w : World} {a : Option Addr} {n cap : Nat} {l : List (List UInt8)} (h : IsT w a n cap l) {B : Nat} (hne : ∀ b off, a = some ⟨b, off, none⟩ → B < b) (j : Nat) (v : Value) : IsT (w.setCell ⟨B, j, none⟩ v) a n cap l :=
  ⟨h.len_eq, h.le, h.max, h.nil, fun hp => by
    obtain ⟨b, off, e, hc⟩ := h.cells hp
    have hb := hne b off e
    refine ⟨b, off, e, fun i hi => ?_⟩
    rw [World.cell?_setCell_other _ _ _ _ (fun e' => by injection e' with e1; omega)]; exact hc i hi⟩
def authNone : Value := .agg #[.string ⟨#[]⟩, .string ⟨#[]⟩, .slice none 0 0, .string ⟨#[]⟩]
theorem right_names {ac dt sg : List UInt8} {ts : List (List UInt8)} (h : rightL ac dt ts sg = true) : namesL ts = true := by
  unfold rightL at h
  simp only [Bool.and_eq_true] at h
  exact h.1.1.2

set_option maxRecDepth 20000 in
set_option maxHeartbeats 4000000 in
theorem refReadAuth (l : List UInt8) (w : World) (hl : l.length ≤ 100000) :
    Calls Tryz.prog 20 #[.string (str l)] w fun e w' =>
      (if auOk l = true then ∃ ta tc, e = .returned (.tuple #[.agg #[.string (str (auAc l)), .string (str (auDt l)), .slice ta (auTs l).length tc, .string (str (auSg l))], .int .i64 0]) ∧ IsT w' ta (auTs l).length tc (auTs l)
       else e = .returned (.tuple #[authNone, .int .i64 20])) ∧ Below w.heap.size w w' := by
  obtain ⟨z1, z2, z3, z4, z5, z6, z7⟩ := au_len l
  have H1 : ∀ W, Calls Tryz.prog 60 #[.string (str l), .string ⟨#[65, 87, 83, 52, 45, 72, 77, 65, 67, 45, 83, 72, 65, 50, 53, 54, 32, 67, 114, 101, 100, 101, 110, 116, 105, 97, 108, 61]⟩] W fun e w' => e = .returned (.tuple #[.string (str (uptoA l sCred)), .string (str (auR1 l)), .bool (uptoI l sCred).isSome]) ∧ Below W.heap.size W w' := fun W => refUpto l sCred W (by omega) (by rw [show sCred.length = 28 from rfl]; omega)
  have H2 : ∀ W, Calls Tryz.prog 60 #[.string (str (auR1 l)), .string ⟨#[47]⟩] W fun e w' => e = .returned (.tuple #[.string (str (auAc l)), .string (str (auR2 l)), .bool (uptoI (auR1 l) [47]).isSome]) ∧ Below W.heap.size W w' := fun W => refUpto (auR1 l) [47] W (by omega) (by rw [show ([47] : List UInt8).length = 1 from rfl]; omega)
  have H3 : ∀ W, Calls Tryz.prog 60 #[.string (str (auR2 l)), .string ⟨#[47, 108, 111, 99, 97, 108, 47, 115, 51, 47, 97, 119, 115, 52, 95, 114, 101, 113, 117, 101, 115, 116, 44, 32, 83, 105, 103, 110, 101, 100, 72, 101, 97, 100, 101, 114, 115, 61]⟩] W fun e w' => e = .returned (.tuple #[.string (str (auDt l)), .string (str (auR3 l)), .bool (uptoI (auR2 l) sLocAll).isSome]) ∧ Below W.heap.size W w' := fun W => refUpto (auR2 l) sLocAll W (by omega) (by rw [show sLocAll.length = 38 from rfl]; omega)
  have H4 : ∀ W, Calls Tryz.prog 60 #[.string (str (auR3 l)), .string ⟨#[44, 32, 83, 105, 103, 110, 97, 116, 117, 114, 101, 61]⟩] W fun e w' => e = .returned (.tuple #[.string (str (auLs l)), .string (str (auSg l)), .bool (uptoI (auR3 l) sSignat).isSome]) ∧ Below W.heap.size W w' := fun W => refUpto (auR3 l) sSignat W (by omega) (by rw [show sSignat.length = 12 from rfl]; omega)
  have H5 : ∀ W, Calls Tryz.prog 61 #[.string (str (auLs l)), .int .u8 59] W fun e w' => (∃ ta tc, e = .returned (.slice ta (auTs l).length tc) ∧ IsT w' ta (auTs l).length tc (auTs l) ∧ ∀ b off, ta = some ⟨b, off, none⟩ → W.heap.size ≤ b) ∧ Below W.heap.size W w' := fun W => by
    have h := refCut (str (auLs l)) 59 W (by rw [str_size]; omega)
    rw [str_list] at h
    exact h.mono (by
      rintro e w' ⟨v, rfl, ho, hb⟩
      obtain ⟨g, _, e1, hg, _⟩ := ho.form (cutL_pos 59 (auLs l))
      obtain ⟨ta, tc, rfl, hi⟩ := ho.isT
      exact ⟨⟨ta, tc, rfl, hi, fun b off e2 => by subst e2; injection e1 with e3; injection e3 with e4; injection e4 with e5; omega⟩, hb⟩)
  have zt : ∀ i, i < (auTs l).length → (nthT (auTs l) i).length ≤ 100000 := fun i hi => by
    rw [nthT_eq _ i hi]
    exact Nat.le_trans (cutL_part 59 (auLs l) _ (List.getElem_mem hi)) (by omega)
  have H6 : ∀ W ta tc, IsT W ta (auTs l).length tc (auTs l) → Calls Tryz.prog 62 #[.agg #[.string (str (auAc l)), .string (str (auDt l)), .slice ta (auTs l).length tc, .string (str (auSg l))]] W fun e w' => e = .returned (.bool (rightL (auAc l) (auDt l) (auTs l) (auSg l))) ∧ Below W.heap.size W w' := fun W ta tc hT => refRight6 _ _ _ ta _ tc _ W hT (fun i hi => Nat.le_trans (zt i hi) (by omega)) (by omega) (by omega) (by omega)
  have H7 : rightL (auAc l) (auDt l) (auTs l) (auSg l) = true → ∀ W ta tc, IsT W ta (auTs l).length tc (auTs l) → Calls Tryz.prog 23 #[.agg #[.string (str (auAc l)), .string (str (auDt l)), .slice ta (auTs l).length tc, .string (str (auSg l))]] W fun e w' => e = .returned (.string (str (authL (auAc l) (auDt l) (auTs l) (auSg l)))) ∧ Below W.heap.size W w' := fun hr W ta tc hT => refShowAuth _ _ _ ta _ tc _ W hT (by have := (names_facts (right_names hr)).2; omega) zt (by omega) (by omega) (by omega)
  have HQ : Hid (((str (authL (auAc l) (auDt l) (auTs l) (auSg l))).toList == (str l).toList) = (authL (auAc l) (auDt l) (auTs l) (auSg l) == l)) := by unfold Hid; rw [str_toList, str_toList]
  have HE : Hid ((str (uptoA l sCred)).toList.isEmpty = (uptoA l sCred).isEmpty) := by unfold Hid; rw [str_toList]
  have HO : Hid (auOk l = ((uptoI l sCred).isSome && (uptoI (auR1 l) [47]).isSome && (uptoI (auR2 l) sLocAll).isSome && (uptoI (auR3 l) sSignat).isSome && (uptoA l sCred).isEmpty && rightL (auAc l) (auDt l) (auTs l) (auSg l) && (authL (auAc l) (auDt l) (auTs l) (auSg l) == l))) := rfl
  clear zt z1 z2 z3 z4 z5 z6 z7 hl
  generalize auOk l = ok at *
  generalize rightL (auAc l) (auDt l) (auTs l) (auSg l) = bR at *
  generalize (authL (auAc l) (auDt l) (auTs l) (auSg l) == l) = bS at *
  generalize str (authL (auAc l) (auDt l) (auTs l) (auSg l)) = xS at *
  generalize (uptoA l sCred).isEmpty = bE at *
  generalize (uptoI l sCred).isSome = b1 at *
  generalize (uptoI (auR1 l) [47]).isSome = b2 at *
  generalize (uptoI (auR2 l) sLocAll).isSome = b3 at *
  generalize (uptoI (auR3 l) sSignat).isSome = b4 at *
  generalize str (uptoA l sCred) = xh at *
  generalize str (auR1 l) = r1 at *
  generalize str (auR2 l) = r2 at *
  generalize str (auR3 l) = r3 at *
  generalize str (auAc l) = xa at *
  generalize str (auDt l) = xd at *
  generalize str (auLs l) = xl at *
  generalize str (auSg l) = xg at *
  generalize auTs l = ts at *
  generalize str l = s at *
  have K0 := Blk.newAt w w.heap.size 45 _ [.string ⟨#[]⟩, .string ⟨#[]⟩, .slice none 0 0, .string ⟨#[]⟩] rfl rfl
  have T0 : Below w.heap.size w (w.alloc (.cells #[.string ⟨#[]⟩, .string ⟨#[]⟩, .slice none 0 0, .string ⟨#[]⟩] 45)) := (Below.refl _ w).alloc (Nat.le_refl _) _
  go_enter Tryz.func20, Tryz.ntmps20
  go_upto_region 6 with (first
    | (go_at_call 61; refine (H5 _).mono ?_; rintro e w5 ⟨⟨ta, tc, rfl, hi5, hg5⟩, hb5⟩; have hg : ∀ b off, ta = some ⟨b, off, none⟩ → w.heap.size < b := fun b off h => Nat.lt_of_lt_of_le K4.lt (hg5 b off h); have K5 := K4.on hb5; have T5 := T4.trans (hb5.mono T4.size))
    | (go_at_call 60; first
      | (have hmk := K3; refine (H4 _).mono ?_; rintro e w4 ⟨rfl, hb4⟩; have K4 := K3.on hb4; have T4 := T3.trans (hb4.mono T3.size))
      | (have hmk := K2; refine (H3 _).mono ?_; rintro e w3 ⟨rfl, hb3⟩; have K3 := K2.on hb3; have T3 := T2.trans (hb3.mono T2.size))
      | (have hmk := K1; refine (H2 _).mono ?_; rintro e w2 ⟨rfl, hb2⟩; have K2 := K1.on hb2; have T2 := T1.trans (hb2.mono T1.size))
      | (refine (H1 _).mono ?_; rintro e w1 ⟨rfl, hb1⟩; have K1 := K0.on hb1; have T1 := T0.trans (hb1.mono T0.size))))
  have A6 : Below w5.heap.size w5 (w5.alloc (.cells #[.string xa, .string xd, .slice ta ts.length tc, .string xg] 45)) := (Below.refl _ w5).alloc (Nat.le_refl _) _
  have X6 := Blk.newAt w5 w5.heap.size 45 _ [.string xa, .string xd, .slice ta ts.length tc, .string xg] rfl rfl
  have K6 := K5.on A6
  have T6 := T5.trans (A6.mono T5.size)
  have hi6 := hi5.below A6 rfl
  clear A6 K0 K1 K2 K3 K4 K5 T0 T1 T2 T3 T4 hb1 hb2 hb3 hb4 hb5 H1 H2 H3 H4 H5 hi5 hg5
  have hne : w.heap.size ≤ w5.heap.size := T5.size
  clear T5
  have he := HE.out
  have hq := HQ.out
  clear HE HQ
  generalize hW : w5.alloc (.cells #[.string xa, .string xd, .slice ta ts.length tc, .string xg] 45) = W at *
  clear hW
  cases b1 with
  | false =>
    have hok : ¬ ok = true := by rw [HO.out]; simp
    have k0 := K6.cell 0
    have k1 := K6.cell 1
    have k2 := K6.cell 2
    have k3 := K6.cell 3
    have f0 := K6.frozen 0
    have f1 := K6.frozen 1
    have f2 := K6.frozen 2
    have f3 := K6.frozen 3
    go_wp2
    (try simp only [Exit.inBlock, Exit.then])
    refine bodyPost_ret (results_cellrow_tmp (P := Tryz.prog) rfl _ _ w.heap.size 45 #[.string ⟨#[]⟩, .string ⟨#[]⟩, .slice none 0 0, .string ⟨#[]⟩] (0, 0) _ rfl ((((K6.set 0 (.string ⟨#[]⟩)).set 1 (.string ⟨#[]⟩)).set 2 (.slice none 0 0)).set 3 (.string ⟨#[]⟩)) Tryz.underlying45 rfl (by kernel_rfl)) rfl ⟨?_, ((((T6.setCell (p := ⟨w.heap.size, 0, none⟩) (Nat.le_refl _) (.string ⟨#[]⟩)).setCell (p := ⟨w.heap.size, 1, none⟩) (Nat.le_refl _) (.string ⟨#[]⟩)).setCell (p := ⟨w.heap.size, 2, none⟩) (Nat.le_refl _) (.slice none 0 0)).setCell (p := ⟨w.heap.size, 3, none⟩) (Nat.le_refl _) (.string ⟨#[]⟩))⟩
    first | rfl | (rw [if_neg hok]; rfl)
  | true =>
    cases b2 with
    | false =>
      have hok : ¬ ok = true := by rw [HO.out]; simp
      have k0 := K6.cell 0
      have k1 := K6.cell 1
      have k2 := K6.cell 2
      have k3 := K6.cell 3
      have f0 := K6.frozen 0
      have f1 := K6.frozen 1
      have f2 := K6.frozen 2
      have f3 := K6.frozen 3
      go_wp2
      (try simp only [Exit.inBlock, Exit.then])
      refine bodyPost_ret (results_cellrow_tmp (P := Tryz.prog) rfl _ _ w.heap.size 45 #[.string ⟨#[]⟩, .string ⟨#[]⟩, .slice none 0 0, .string ⟨#[]⟩] (0, 0) _ rfl ((((K6.set 0 (.string ⟨#[]⟩)).set 1 (.string ⟨#[]⟩)).set 2 (.slice none 0 0)).set 3 (.string ⟨#[]⟩)) Tryz.underlying45 rfl (by kernel_rfl)) rfl ⟨?_, ((((T6.setCell (p := ⟨w.heap.size, 0, none⟩) (Nat.le_refl _) (.string ⟨#[]⟩)).setCell (p := ⟨w.heap.size, 1, none⟩) (Nat.le_refl _) (.string ⟨#[]⟩)).setCell (p := ⟨w.heap.size, 2, none⟩) (Nat.le_refl _) (.slice none 0 0)).setCell (p := ⟨w.heap.size, 3, none⟩) (Nat.le_refl _) (.string ⟨#[]⟩))⟩
      first | rfl | (rw [if_neg hok]; rfl)
    | true =>
      cases b3 with
      | false =>
        have hok : ¬ ok = true := by rw [HO.out]; simp
        have k0 := K6.cell 0
        have k1 := K6.cell 1
        have k2 := K6.cell 2
        have k3 := K6.cell 3
        have f0 := K6.frozen 0
        have f1 := K6.frozen 1
        have f2 := K6.frozen 2
        have f3 := K6.frozen 3
        go_wp2
        (try simp only [Exit.inBlock, Exit.then])
        refine bodyPost_ret (results_cellrow_tmp (P := Tryz.prog) rfl _ _ w.heap.size 45 #[.string ⟨#[]⟩, .string ⟨#[]⟩, .slice none 0 0, .string ⟨#[]⟩] (0, 0) _ rfl ((((K6.set 0 (.string ⟨#[]⟩)).set 1 (.string ⟨#[]⟩)).set 2 (.slice none 0 0)).set 3 (.string ⟨#[]⟩)) Tryz.underlying45 rfl (by kernel_rfl)) rfl ⟨?_, ((((T6.setCell (p := ⟨w.heap.size, 0, none⟩) (Nat.le_refl _) (.string ⟨#[]⟩)).setCell (p := ⟨w.heap.size, 1, none⟩) (Nat.le_refl _) (.string ⟨#[]⟩)).setCell (p := ⟨w.heap.size, 2, none⟩) (Nat.le_refl _) (.slice none 0 0)).setCell (p := ⟨w.heap.size, 3, none⟩) (Nat.le_refl _) (.string ⟨#[]⟩))⟩
        first | rfl | (rw [if_neg hok]; rfl)
      | true =>
        cases b4 with
        | false =>
          have hok : ¬ ok = true := by rw [HO.out]; simp
          have k0 := K6.cell 0
          have k1 := K6.cell 1
          have k2 := K6.cell 2
          have k3 := K6.cell 3
          have f0 := K6.frozen 0
          have f1 := K6.frozen 1
          have f2 := K6.frozen 2
          have f3 := K6.frozen 3
          go_wp2
          (try simp only [Exit.inBlock, Exit.then])
          refine bodyPost_ret (results_cellrow_tmp (P := Tryz.prog) rfl _ _ w.heap.size 45 #[.string ⟨#[]⟩, .string ⟨#[]⟩, .slice none 0 0, .string ⟨#[]⟩] (0, 0) _ rfl ((((K6.set 0 (.string ⟨#[]⟩)).set 1 (.string ⟨#[]⟩)).set 2 (.slice none 0 0)).set 3 (.string ⟨#[]⟩)) Tryz.underlying45 rfl (by kernel_rfl)) rfl ⟨?_, ((((T6.setCell (p := ⟨w.heap.size, 0, none⟩) (Nat.le_refl _) (.string ⟨#[]⟩)).setCell (p := ⟨w.heap.size, 1, none⟩) (Nat.le_refl _) (.string ⟨#[]⟩)).setCell (p := ⟨w.heap.size, 2, none⟩) (Nat.le_refl _) (.slice none 0 0)).setCell (p := ⟨w.heap.size, 3, none⟩) (Nat.le_refl _) (.string ⟨#[]⟩))⟩
          first | rfl | (rw [if_neg hok]; rfl)
        | true =>
          cases bE with
          | false =>
            have hok : ¬ ok = true := by rw [HO.out]; simp
            have k0 := K6.cell 0
            have k1 := K6.cell 1
            have k2 := K6.cell 2
            have k3 := K6.cell 3
            have f0 := K6.frozen 0
            have f1 := K6.frozen 1
            have f2 := K6.frozen 2
            have f3 := K6.frozen 3
            go_wp2
            (try simp only [Exit.inBlock, Exit.then])
            refine bodyPost_ret (results_cellrow_tmp (P := Tryz.prog) rfl _ _ w.heap.size 45 #[.string ⟨#[]⟩, .string ⟨#[]⟩, .slice none 0 0, .string ⟨#[]⟩] (0, 0) _ rfl ((((K6.set 0 (.string ⟨#[]⟩)).set 1 (.string ⟨#[]⟩)).set 2 (.slice none 0 0)).set 3 (.string ⟨#[]⟩)) Tryz.underlying45 rfl (by kernel_rfl)) rfl ⟨?_, ((((T6.setCell (p := ⟨w.heap.size, 0, none⟩) (Nat.le_refl _) (.string ⟨#[]⟩)).setCell (p := ⟨w.heap.size, 1, none⟩) (Nat.le_refl _) (.string ⟨#[]⟩)).setCell (p := ⟨w.heap.size, 2, none⟩) (Nat.le_refl _) (.slice none 0 0)).setCell (p := ⟨w.heap.size, 3, none⟩) (Nat.le_refl _) (.string ⟨#[]⟩))⟩
            first | rfl | (rw [if_neg hok]; rfl)
          | true =>
            have g0 := X6.cell 0
            have g1 := X6.cell 1
            have g2 := X6.cell 2
            have g3 := X6.cell 3
            cases bR with
            | false =>
              have hok : ¬ ok = true := by rw [HO.out]; simp
              go_wp2_with (go_at_call 62; refine (H6 _ _ _ hi6).mono ?_; rintro e w7 ⟨rfl, hb7⟩; have K7 := K6.on hb7; have T7 := T6.trans (hb7.mono T6.size); have X7 := X6.on hb7; have hi7 := hi6.below hb7 rfl; have k0 := K7.cell 0; have f0 := K7.frozen 0; have k1 := K7.cell 1; have f1 := K7.frozen 1; have k2 := K7.cell 2; have f2 := K7.frozen 2; have k3 := K7.cell 3; have f3 := K7.frozen 3)
              (try simp only [Exit.inBlock, Exit.then])
              refine bodyPost_ret (results_cellrow_tmp (P := Tryz.prog) rfl _ _ w.heap.size 45 #[.string ⟨#[]⟩, .string ⟨#[]⟩, .slice none 0 0, .string ⟨#[]⟩] (0, 0) _ rfl ((((K7.set 0 (.string ⟨#[]⟩)).set 1 (.string ⟨#[]⟩)).set 2 (.slice none 0 0)).set 3 (.string ⟨#[]⟩)) Tryz.underlying45 rfl (by kernel_rfl)) rfl ⟨?_, ((((T7.setCell (p := ⟨w.heap.size, 0, none⟩) (Nat.le_refl _) (.string ⟨#[]⟩)).setCell (p := ⟨w.heap.size, 1, none⟩) (Nat.le_refl _) (.string ⟨#[]⟩)).setCell (p := ⟨w.heap.size, 2, none⟩) (Nat.le_refl _) (.slice none 0 0)).setCell (p := ⟨w.heap.size, 3, none⟩) (Nat.le_refl _) (.string ⟨#[]⟩))⟩
              first | rfl | (rw [if_neg hok]; rfl)
            | true =>
              have H7' := H7 rfl
              clear H7
              cases bS with
              | false =>
                have hok : ¬ ok = true := by rw [HO.out]; simp
                go_wp2_with (first | (go_at_call 62; refine (H6 _ _ _ hi6).mono ?_; rintro e w7 ⟨rfl, hb7⟩; have K7 := K6.on hb7; have T7 := T6.trans (hb7.mono T6.size); have X7 := X6.on hb7; have hi7 := hi6.below hb7 rfl; have h0 := X7.cell 0; have h1 := X7.cell 1; have h2 := X7.cell 2; have h3 := X7.cell 3) | (go_at_call 23; refine (H7' _ _ _ hi7).mono ?_; rintro e w8 ⟨rfl, hb8⟩; have K8 := K7.on hb8; have T8 := T7.trans (hb8.mono T7.size); have X8 := X7.on hb8; have hi8 := hi7.below hb8 rfl; have k0 := K8.cell 0; have f0 := K8.frozen 0; have k1 := K8.cell 1; have f1 := K8.frozen 1; have k2 := K8.cell 2; have f2 := K8.frozen 2; have k3 := K8.cell 3; have f3 := K8.frozen 3))
                (try simp only [Exit.inBlock, Exit.then])
                refine bodyPost_ret (results_cellrow_tmp (P := Tryz.prog) rfl _ _ w.heap.size 45 #[.string ⟨#[]⟩, .string ⟨#[]⟩, .slice none 0 0, .string ⟨#[]⟩] (0, 0) _ rfl ((((K8.set 0 (.string ⟨#[]⟩)).set 1 (.string ⟨#[]⟩)).set 2 (.slice none 0 0)).set 3 (.string ⟨#[]⟩)) Tryz.underlying45 rfl (by kernel_rfl)) rfl ⟨?_, ((((T8.setCell (p := ⟨w.heap.size, 0, none⟩) (Nat.le_refl _) (.string ⟨#[]⟩)).setCell (p := ⟨w.heap.size, 1, none⟩) (Nat.le_refl _) (.string ⟨#[]⟩)).setCell (p := ⟨w.heap.size, 2, none⟩) (Nat.le_refl _) (.slice none 0 0)).setCell (p := ⟨w.heap.size, 3, none⟩) (Nat.le_refl _) (.string ⟨#[]⟩))⟩
                first | rfl | (rw [if_neg hok]; rfl)
              | true =>
                have hok : ok = true := by rw [HO.out]; rfl
                go_wp2_with (first | (go_at_call 62; refine (H6 _ _ _ hi6).mono ?_; rintro e w7 ⟨rfl, hb7⟩; have K7 := K6.on hb7; have T7 := T6.trans (hb7.mono T6.size); have X7 := X6.on hb7; have hi7 := hi6.below hb7 rfl; have h0 := X7.cell 0; have h1 := X7.cell 1; have h2 := X7.cell 2; have h3 := X7.cell 3) | (go_at_call 23; refine (H7' _ _ _ hi7).mono ?_; rintro e w8 ⟨rfl, hb8⟩; have K8 := K7.on hb8; have T8 := T7.trans (hb8.mono T7.size); have X8 := X7.on hb8; have hi8 := hi7.below hb8 rfl; have k0 := K8.cell 0; have f0 := K8.frozen 0; have k1 := K8.cell 1; have f1 := K8.frozen 1; have k2 := K8.cell 2; have f2 := K8.frozen 2; have k3 := K8.cell 3; have f3 := K8.frozen 3; have m0 := X8.cell 0; have m1 := X8.cell 1; have m2 := X8.cell 2; have m3 := X8.cell 3))
                (try simp only [Exit.inBlock, Exit.then])
                refine bodyPost_ret (results_cellrow_tmp (P := Tryz.prog) rfl _ _ w.heap.size 45 #[.string xa, .string xd, .slice ta ts.length tc, .string xg] (0, 0) _ rfl ((((K8.set 0 (.string xa)).set 1 (.string xd)).set 2 (.slice ta ts.length tc)).set 3 (.string xg)) Tryz.underlying45 rfl (by kernel_rfl)) rfl ⟨?_, ((((T8.setCell (p := ⟨w.heap.size, 0, none⟩) (Nat.le_refl _) (.string xa)).setCell (p := ⟨w.heap.size, 1, none⟩) (Nat.le_refl _) (.string xd)).setCell (p := ⟨w.heap.size, 2, none⟩) (Nat.le_refl _) (.slice ta ts.length tc)).setCell (p := ⟨w.heap.size, 3, none⟩) (Nat.le_refl _) (.string xg))⟩
                first | exact ⟨ta, tc, rfl, (((hi8.other hg 0 _).other hg 1 _).other hg 2 _).other hg 3 _⟩ | (rw [if_pos hok]; exact ⟨ta, tc, rfl, (((hi8.other hg 0 _).other hg 1 _).other hg 2 _).other hg 3 _⟩)
end Go.Proofs.YtgjmaeodgcigdaaGreatDoor
