/- What sigv4.Attach answers. -/
import Derived.Test.YtgjmaeodgcigdaaGreatDoorB35
namespace Go.Proofs.YtgjmaeodgcigdaaGreatDoor
open Go.RowKit

set_option maxRecDepth 20000 in
set_option maxHeartbeats 8000000 in
theorem codAttach (who sec m p q : List UInt8) (ha : Option Addr) (hn hc : Nat) (hs : List Pr) (ba : Option Addr) (bn bc : Nat) (bd : List UInt8) (t : Nat) (S : List UInt8) (E : Int) (w : World)
    (hP : IsP w ha hn hc hs) (hB : IsB w ba bn bc bd) (hm : MxS w) (zw : who.length ≤ 50000) (zs : sec.length ≤ 100000) (zm : m.length ≤ 30000) (zp : p.length ≤ 30000) (zq : q.length ≤ 30000) (zb : bn ≤ 30000) (zh : ∀ i, i < hs.length → (nthP hs i).2.length ≤ 30000) (zn : ∀ i, i < hs.length → (nthP hs i).1.length ≤ 140737488351232)
    (hS : E = 0 → S.length = 16) (HSw : ∀ w, Calls Tryz.prog 49 #[.int .u64 (t : Int)] w fun e w' => e = .returned (.tuple #[.string (str S), .int .i64 E]) ∧ Below w.heap.size w w') :
    Calls Tryz.prog 24 #[.agg #[.string (str m), .string (str p), .string (str q), .slice ha hn hc, .slice ba bn bc], .string (str who), .string (str sec), .int .u64 (t : Int)] w fun e w' =>
      (if attE who sec S E ⟨m, p, q, hs, bd⟩ = 0 then ∃ va vn vc ua un uc, e = .returned (.tuple #[.agg #[.string (str m), .string (str p), .string (str q), .slice va vn vc, .slice ua un uc], .int .i64 0]) ∧ IsP w' va vn vc (attO who sec S E ⟨m, p, q, hs, bd⟩) ∧ IsB w' ua un uc bd
       else e = .returned (.tuple #[rqNone, .int .i64 (attE who sec S E ⟨m, p, q, hs, bd⟩)])) ∧ Below w.heap.size w w' := by
  have T0 : Below w.heap.size w ((w.alloc (.cells #[.string (str m), .string (str p), .string (str q), .slice ha hn hc, .slice ba bn bc] 34)).alloc (.cells #[.string ⟨#[]⟩, .string ⟨#[]⟩, .string ⟨#[]⟩, .slice none 0 0, .slice none 0 0] 34)) := ((Below.refl _ w).alloc (Nat.le_refl _) _).alloc (by simp) _
  have K0 : Blk ((w.alloc (.cells #[.string (str m), .string (str p), .string (str q), .slice ha hn hc, .slice ba bn bc] 34)).alloc (.cells #[.string ⟨#[]⟩, .string ⟨#[]⟩, .string ⟨#[]⟩, .slice none 0 0, .slice none 0 0] 34)) w.heap.size 34 [.string (str m), .string (str p), .string (str q), .slice ha hn hc, .slice ba bn bc] := (Blk.newAt w _ _ _ _ rfl rfl).alloc _
  have R0 : Blk ((w.alloc (.cells #[.string (str m), .string (str p), .string (str q), .slice ha hn hc, .slice ba bn bc] 34)).alloc (.cells #[.string ⟨#[]⟩, .string ⟨#[]⟩, .string ⟨#[]⟩, .slice none 0 0, .slice none 0 0] 34)) (w.heap.size + 1) 34 [.string ⟨#[]⟩, .string ⟨#[]⟩, .string ⟨#[]⟩, .slice none 0 0, .slice none 0 0] := Blk.newAt _ _ _ _ _ (by simp) rfl
  have HL := hP.len_eq
  have HRm : ∀ W, Below w.heap.size w W → Calls Tryz.prog 63 #[.agg #[.string (str m), .string (str p), .string (str q), .slice ha hn hc, .slice ba bn bc]] W fun e w' => e = .returned (.bool (roomB hs)) ∧ Below W.heap.size W w' := fun W hW => codRoom _ _ _ _ ha hn hc hs W (hP.below hW rfl)
  by_cases hE0 : E = 0
  · subst hE0
    have h16 := hS rfl
    by_cases hroom : roomB hs = true
    · have hlen : hs.length ≤ 22 := by unfold roomB at hroom; simp only [Bool.and_eq_true, decide_eq_true_eq] at hroom; exact hroom.2.2
      have zh1 : ∀ i, i < (attH hs S).length → (nthP (attH hs S) i).2.length ≤ 30000 := fun i hi => by
        unfold attH at hi ⊢
        rw [nthP_eq _ i hi]
        rcases List.mem_append.1 (List.getElem_mem hi) with h | h
        · obtain ⟨j, hj, e⟩ := List.getElem_of_mem h
          rw [← e, ← nthP_eq hs j hj]; exact zh j hj
        · rw [List.mem_singleton] at h; rw [h]; show S.length ≤ 30000; omega
      have zt1 : ∀ i, i < (attT hs S).length → (nthT (attT hs S) i).length ≤ 140737488351232 := fun i hi => by
        rw [nthT_eq _ i hi]
        obtain ⟨pp, hpp, e⟩ := nms_mem (List.getElem_mem hi)
        rw [← e]
        unfold attH at hpp
        rcases List.mem_append.1 hpp with h | h
        · obtain ⟨j, hj, e⟩ := List.getElem_of_mem h
          rw [← e, ← nthP_eq hs j hj]; exact zn j hj
        · rw [List.mem_singleton] at h; rw [h]; show sDateN.length ≤ _; decide
      have htl : (attT hs S).length = hs.length + 1 := by unfold attT attH; rw [nms_length, List.length_append]; rfl
      have hal : (attH hs S).length = hs.length + 1 := by unfold attH; rw [List.length_append]; rfl
      have HSi : ∀ W va vc ta tc, Below w.heap.size w W → IsP W va (attH hs S).length vc (attH hs S) → IsT W ta (attT hs S).length tc (attT hs S) → Calls Tryz.prog 14 #[.string (str sec), .agg #[.string (str m), .string (str p), .string (str q), .slice va (attH hs S).length vc, .slice ba bn bc], .slice ta (attT hs S).length tc, .int .u64 (t : Int)] W fun e w' => e = .returned (.tuple #[.string (str (signT sec S 0 ⟨m, p, q, attH hs S, bd⟩ (attT hs S))), .int .i64 (signE 0 ⟨m, p, q, attH hs S, bd⟩ (attT hs S))]) ∧ Below W.heap.size W w' := fun W va vc ta tc hW hPW hTs => codSign sec m p q va _ vc _ ba bn bc bd ta _ tc _ t S 0 W hPW (hB.below hW rfl) hTs zs zm zp zq zb zh1 zt1 hS HSw
      have HNm : ∀ x4 W va vc, Below x4.heap.size x4 W → IsP x4 va (attH hs S).length vc (attH hs S) → Calls Tryz.prog 65 #[.agg #[.string (str m), .string (str p), .string (str q), .slice va (attH hs S).length vc, .slice ba bn bc]] W fun e w' => (∃ ta tc, e = .returned (.slice ta (attT hs S).length tc) ∧ IsT w' ta (attT hs S).length tc (attT hs S) ∧ ∀ b off, ta = some ⟨b, off, none⟩ → W.heap.size ≤ b ∧ b < w'.heap.size) ∧ Below W.heap.size W w' := fun x4 W va vc hW hPx => (codNames _ _ _ _ va _ vc _ W (hPx.below hW rfl) (by omega) (by omega)).mono (by
        rintro e w' ⟨v, rfl, ho, hb⟩
        obtain ⟨g, _, e1, hg, hg2⟩ := ho.form (by show 0 < (attT hs S).length; omega)
        obtain ⟨ta, tc, rfl, hi⟩ := ho.isT
        exact ⟨⟨ta, tc, rfl, hi, fun b off e2 => by subst e2; injection e1 with e3; injection e3 with e4; injection e4 with e5; omega⟩, hb⟩)
      have hex : (str S).extract 0 8 = str (S.take 8) := by rw [ext_take, str_list]
      have hs16 : (str S).size = 16 := by rw [str_size]; exact h16
      have HCo : ∀ (W : World), Below w.heap.size w W → Calls Tryz.prog 64 #[.slice (some ⟨W.heap.size + 1, 0, none⟩) 2 2] ((W.alloc (.cells #[.string ⟨#[120, 45, 97, 109, 122, 45, 100, 97, 116, 101]⟩, .string (str S)] 68)).alloc (.cells #[.slice ha hn hc, .slice (some ⟨W.heap.size, 0, none⟩) 1 1] 32)) fun e w' => ∃ va vc, e = .returned (.slice va (attH hs S).length vc) ∧ Hid (OwnP 68 w' (W.heap.size + 2) (.slice va (attH hs S).length vc) (attH hs S)) ∧ Hid (W.heap.size + 2 ≤ w'.heap.size) ∧ Below W.heap.size W w' := fun W hW => by
        have b1 : Below W.heap.size W ((W.alloc (.cells #[.string ⟨#[120, 45, 97, 109, 122, 45, 100, 97, 116, 101]⟩, .string (str S)] 68)).alloc (.cells #[.slice ha hn hc, .slice (some ⟨W.heap.size, 0, none⟩) 1 1] 32)) := ((Below.refl _ W).alloc (Nat.le_refl _) _).alloc (by simp) _
        have hsz : ((W.alloc (.cells #[.string ⟨#[120, 45, 97, 109, 122, 45, 100, 97, 116, 101]⟩, .string (str S)] 68)).alloc (.cells #[.slice ha hn hc, .slice (some ⟨W.heap.size, 0, none⟩) 1 1] 32)).heap.size = W.heap.size + 2 := by simp
        have h := codConcat (W.heap.size + 1) ha hn hc W.heap.size hs (sDateN, S) _ (Blk.newAt (W.alloc (.cells #[.string ⟨#[120, 45, 97, 109, 122, 45, 100, 97, 116, 101]⟩, .string (str S)] 68)) _ _ _ _ (by simp) rfl) ((hP.below hW rfl).below b1 rfl) ((Blk.newAt W _ _ _ _ rfl rfl).alloc _) (by omega)
        refine h.mono ?_
        rintro e w' ⟨v, rfl, ho, hb⟩
        rw [hsz] at ho
        obtain ⟨va, vc, rfl, _⟩ := ho.isP
        exact ⟨va, vc, rfl, ho, (by have := hb.size; rw [hsz] at this; exact this), b1.trans (hb.mono b1.size)⟩
      have hsg : (signT sec S 0 ⟨m, p, q, attH hs S, bd⟩ (attT hs S)).length ≤ 64 := by
        unfold signT signX
        split
        · rw [hexL_length, hm_length]; decide
        · exact Nat.zero_le _
      have hnames : signE 0 ⟨m, p, q, attH hs S, bd⟩ (attT hs S) = 0 → namesL (attT hs S) = true := fun h => by
        cases hh : namesL (attT hs S) with
        | true => rfl
        | false =>
          unfold signE at h
          rw [if_pos rfl] at h
          rw [(canon_no1 (r := ⟨m, p, q, attH hs S, bd⟩) hh).1] at h
          cases h
      have HSA : signE 0 ⟨m, p, q, attH hs S, bd⟩ (attT hs S) = 0 → ∀ W ta tc, IsT W ta (attT hs S).length tc (attT hs S) → Calls Tryz.prog 22 #[.agg #[.string (str who), .string (str (S.take 8)), .slice ta (attT hs S).length tc, .string (str (signT sec S 0 ⟨m, p, q, attH hs S, bd⟩ (attT hs S)))]] W fun e w' => e = .returned (.string (str (attX who sec S 0 ⟨m, p, q, hs, bd⟩))) ∧ Below W.heap.size W w' := fun h W ta tc hi => codShowAuth who (S.take 8) _ ta (attT hs S).length tc (attT hs S) W hi (by omega) (fun i hi => by have := (names_facts (hnames h)).1 i hi; omega) (by omega) (by rw [List.length_take]; omega) (by omega)
      have ltx : signE 0 ⟨m, p, q, attH hs S, bd⟩ (attT hs S) = 0 → (attX who sec S 0 ⟨m, p, q, hs, bd⟩).length ≤ 100000 := fun h => by
        have h1 := joinTo_le [59] (attT hs S) 64 (names_facts (hnames h)).1 (attT hs S).length (Nat.le_refl _)
        have h2 : (attT hs S).length * (64 + 1) ≤ 24 * (64 + 1) := Nat.mul_le_mul_right _ (by omega)
        have h3 : ([59] : List UInt8).length = 1 := rfl
        rw [h3] at h1
        have h4 : (joinS [59] (attT hs S)).length ≤ 1560 := by unfold joinS; omega
        have h5 : (signT sec S 0 (attR S ⟨m, p, q, hs, bd⟩) (attT hs S)).length ≤ 64 := hsg
        unfold attX authL scopeL
        simp only [List.length_append, List.length_take]
        have a1 : sCred.length = 28 := rfl
        have a2 : sScope.length = 22 := rfl
        have a3 : sSigned.length = 16 := rfl
        have a4 : sSignat.length = 12 := rfl
        have a5 : ([47] : List UInt8).length = 1 := rfl
        omega
      have HRA : signE 0 ⟨m, p, q, attH hs S, bd⟩ (attT hs S) = 0 → ∀ W, Below w.heap.size w W → Calls Tryz.prog 19 #[.string (str (attX who sec S 0 ⟨m, p, q, hs, bd⟩))] W fun e w' => (∃ x : Value, e = .returned (.tuple #[x, .int .i64 (if auOk (attX who sec S 0 ⟨m, p, q, hs, bd⟩) = true then 0 else 20)])) ∧ Below W.heap.size W w' := fun h W hW => (codReadAuthU _ W (ltx h) (hm.below hW hm.lt)).mono (by
        rintro e w' ⟨h1, hb⟩
        refine ⟨?_, hb⟩
        by_cases hk : auOk (attX who sec S 0 ⟨m, p, q, hs, bd⟩) = true
        · rw [if_pos hk] at h1
          obtain ⟨ta, tc, rfl, _⟩ := h1
          exact ⟨_, by rw [if_pos hk]⟩
        · rw [if_neg hk] at h1
          exact ⟨_, by rw [if_neg hk]; exact h1⟩)
      have HCl : ∀ W, Below w.heap.size w W → Calls Tryz.prog 66 #[.slice ba bn bc] W fun e w' => (∃ ua uc, e = .returned (.slice ua bd.length uc) ∧ Hid (OwnB w' W.heap.size (.slice ua bd.length uc) bd)) ∧ Below W.heap.size W w' := fun W hW => (codClone ba bn bc bd W (hB.below hW rfl) (by omega)).mono (by
        rintro e w' ⟨v, rfl, ho, hb⟩
        obtain ⟨ua, uc, rfl, hi⟩ := ho.isB
        exact ⟨⟨ua, uc, rfl, ho⟩, hb⟩)
      have HAE : Hid (attE who sec S 0 ⟨m, p, q, hs, bd⟩ = if ¬ signE 0 ⟨m, p, q, attH hs S, bd⟩ (attT hs S) = 0 then signE 0 ⟨m, p, q, attH hs S, bd⟩ (attT hs S) else if auOk (attX who sec S 0 ⟨m, p, q, hs, bd⟩) = false then 20 else 0) := by
        unfold Hid attE
        rw [if_neg (by decide), if_neg (by show ¬ roomB hs = false; rw [hroom]; decide)]
        rfl
      have HAO : Hid (attO who sec S 0 ⟨m, p, q, hs, bd⟩ = attH hs S ++ [(sAuthN, attX who sec S 0 ⟨m, p, q, hs, bd⟩)]) := rfl
      have HAL : Hid ((attH hs S).length ≤ 100) := by unfold Hid; omega
      rw [hroom] at HRm
      clear hal htl HL hlen
      clear hP hB hm zw zs zm zp zq zb zh zn hS zh1 zt1 hsg hnames ltx hroom
      generalize attE who sec S 0 ⟨m, p, q, hs, bd⟩ = aE at *
      generalize attO who sec S 0 ⟨m, p, q, hs, bd⟩ = aO at *
      generalize signE 0 ⟨m, p, q, attH hs S, bd⟩ (attT hs S) = sE at *
      generalize str (signT sec S 0 ⟨m, p, q, attH hs S, bd⟩ (attT hs S)) = xsg at *
      generalize auOk (attX who sec S 0 ⟨m, p, q, hs, bd⟩) = ok at *
      generalize attX who sec S 0 ⟨m, p, q, hs, bd⟩ = atx at *
      generalize str m = xm at *
      generalize str p = xp at *
      generalize str q = xq at *
      generalize str who = xw at *
      generalize str sec = xs at *
      generalize str (S.take 8) = x8 at *
      generalize str S = xS at *
      go_enter Tryz.func24, Tryz.ntmps24
      go_upto_region 6 with (first
        | (go_at_call 49; refine (HSw _).mono ?_; rintro e w1 ⟨rfl, hb1⟩; have T1 := T0.trans (hb1.mono T0.size); have K1 := K0.on hb1; have R1 := R0.on hb1; have ck0 := K1.cell 0; have ck1 := K1.cell 1; have ck2 := K1.cell 2; have ck3 := K1.cell 3; have ck4 := K1.cell 4)
        | (go_at_call 63; refine (HRm _ T1).mono ?_; rintro e w2 ⟨rfl, hb2⟩; have T2 := T1.trans (hb2.mono T1.size); have K2 := K1.on hb2; have R2 := R1.on hb2))
      clear HRm HSw K0 R0 T0 hb1 hb2 K1 R1 T1 ck0 ck1 ck2 ck3 ck4
      have l2 := K2.lt
      have r2 := R2.lt
      have k3 := K2.cell 3
      have HCo2 := HCo w2 T2
      clear HCo
      go_upto_region 7 with (go_at_call 64; refine HCo2.mono ?_; rintro e w3 ⟨va, vc, rfl, HO3, HI3, hb3⟩; have s3 := HI3.out; have K3 := K2.on hb3; have R3 := R2.on hb3; have T3 := T2.trans (hb3.mono T2.size); have g3 := K3.cell 3; have f3 := K3.frozen 3)
      have O4 := OwnP.els HO3.out (Else.set w.heap.size 3 w3 (.slice va (attH hs S).length vc)) (by omega)
      have K4 := K3.set 3 (.slice va (attH hs S).length vc)
      have R4 := R3.other ⟨w.heap.size, 3, none⟩ (.slice va (attH hs S).length vc) (by show w.heap.size + 1 ≠ w.heap.size; omega)
      have T4 := T3.setCell (p := ⟨w.heap.size, 3, none⟩) (Nat.le_refl _) (.slice va (attH hs S).length vc)
      have s4 : w2.heap.size + 2 ≤ (w3.setCell ⟨w.heap.size, 3, none⟩ (.slice va (attH hs S).length vc)).heap.size := by simpa [World.setCell] using s3
      have I4 : IsP (w3.setCell ⟨w.heap.size, 3, none⟩ (.slice va (attH hs S).length vc)) va (attH hs S).length vc (attH hs S) := by
        obtain ⟨a9, c9, e9, i9⟩ := O4.isP
        cases e9; exact i9
      clear HCo2 HO3 HI3 s3 hb3 K3 R3 T3 g3 f3 K2 R2 T2 k3
      generalize w3.setCell ⟨w.heap.size, 3, none⟩ (.slice va (attH hs S).length vc) = x4 at *
      replace K4 : Blk x4 w.heap.size 34 [.string xm, .string xp, .string xq, .slice va (attH hs S).length vc, .slice ba bn bc] := K4
      have k40 : x4.cell? ⟨w.heap.size, 0, none⟩ = some (.string xm) := K4.cell 0
      have k41 : x4.cell? ⟨w.heap.size, 1, none⟩ = some (.string xp) := K4.cell 1
      have k42 : x4.cell? ⟨w.heap.size, 2, none⟩ = some (.string xq) := K4.cell 2
      have k43 : x4.cell? ⟨w.heap.size, 3, none⟩ = some (.slice va (attH hs S).length vc) := K4.cell 3
      have k44 : x4.cell? ⟨w.heap.size, 4, none⟩ = some (.slice ba bn bc) := K4.cell 4
      have HNm2 : ∀ W, Below x4.heap.size x4 W → _ := fun W hW => HNm x4 W va vc hW I4
      clear HNm
      have own4 := O4.blk
      have l4 : w.heap.size < x4.heap.size := K4.lt
      have l5 : ¬ w.heap.size = x4.heap.size := by omega
      have l6 : w.heap.size ≠ x4.heap.size := by omega
      have l7 : x4.heap.size ≠ w.heap.size := by omega
      generalize hN1 : (attH hs S).length = n1 at *
      generalize hN2 : (attT hs S).length = n2 at *
      go_cut [12] from 35 (fun v wx => ∃ A ta tc, v = .pointer (some ⟨A, 0, none⟩) ∧ Hid (Blk wx A 46 [.string xw, .string x8, .slice ta n2 tc, .string ⟨#[]⟩]) ∧ Hid (IsT wx ta n2 tc (attT hs S)) ∧ Hid (∀ b off, ta = some ⟨b, off, none⟩ → b ≠ A) ∧ Hid (x4.heap.size ≤ A) ∧ Hid (Below x4.heap.size x4 wx))
      case first =>
        have HKP : ∀ w', Below x4.heap.size x4 w' → Below x4.heap.size x4 w' ∧ w'.cell? ⟨w.heap.size, 0, none⟩ = some (.string xm) ∧ w'.cell? ⟨w.heap.size, 1, none⟩ = some (.string xp) ∧ w'.cell? ⟨w.heap.size, 2, none⟩ = some (.string xq) ∧ w'.cell? ⟨w.heap.size, 3, none⟩ = some (.slice va n1 vc) ∧ w'.cell? ⟨w.heap.size, 4, none⟩ = some (.slice ba bn bc) := fun w' hb => ⟨hb, (K4.on hb).cell 0, (K4.on hb).cell 1, (K4.on hb).cell 2, (K4.on hb).cell 3, (K4.on hb).cell 4⟩
        go_region_held3 (fun w' => Below x4.heap.size x4 w' ∧ w'.cell? ⟨w.heap.size, 0, none⟩ = some (.string xm) ∧ w'.cell? ⟨w.heap.size, 1, none⟩ = some (.string xp) ∧ w'.cell? ⟨w.heap.size, 2, none⟩ = some (.string xq) ∧ w'.cell? ⟨w.heap.size, 3, none⟩ = some (.slice va n1 vc) ∧ w'.cell? ⟨w.heap.size, 4, none⟩ = some (.slice ba bn bc))
          (first | exact HKP _ ((Below.refl _ x4).drew) | assumption | (have hq0 := ‹Below _ _ _ ∧ _›; first | exact HKP _ (hq0.1.trans (hb5.mono hq0.1.size)) | exact HKP _ (hq0.1.alloc hq0.1.size _) | exact HKP _ (bel4 hq0.1 (Nat.le_refl _) _ _ _ _) | exact HKP _ ((((Below.refl x4.heap.size x4).drew).trans (hb5.mono (Nat.le_refl _))).alloc (((Below.refl x4.heap.size x4).drew).trans (hb5.mono (Nat.le_refl _))).size _)))
          (first | (go_at_call 65; have hq0 := ‹Below _ _ _ ∧ _›; refine (HNm2 _ hq0.1).mono ?_; rintro e x5 ⟨⟨ta, tc, rfl, hi5, hg5⟩, hb5⟩; clear hq0; try (have hk := @laid4 x4 _ _ _ hb5 (by rfl) (by rfl); obtain ⟨Hk, q0, u0, q1, u1, q2, u2, q3, u3⟩ := hk)))
        all_goals
          go_wp2_with fail
          go_meet
          case rel => first
            | (have hk2 := Hk; exact ⟨_, ta, tc, rfl, set4 Hk.out _ _ _ _, hi5.els (els4 _ _ _ _ _ _) (fun b off h => by have := (hg5 b off h).1; simp at this; omega), fun b off h => (by have := (hg5 b off h).1; simp at this; omega), Nat.le_refl _, bel4 ((((Below.refl x4.heap.size x4).alloc (Nat.le_refl _) _).drew).trans (hb5.mono (by simp))) (Nat.le_refl _) _ _ _ _⟩)
            | exact ⟨_, ta, tc, rfl, Blk.newAt _ _ _ _ _ rfl rfl, hi5.below ((Below.refl _ _).alloc (Nat.le_refl _) _) rfl, fun b off h => (by have := (hg5 b off h).2; omega), hb5.size, (((Below.refl x4.heap.size x4).drew).trans (hb5.mono (Nat.le_refl _))).alloc (((Below.refl x4.heap.size x4).drew).trans (hb5.mono (Nat.le_refl _))).size _⟩
      case rest =>
        obtain ⟨A, ta, tc, rfl, XA, HTs, HneA, HA, HB5⟩ := hcut
        have K5 := K4.on HB5.out
        have R5 := R4.on HB5.out
        have T5 := T4.trans (HB5.out.mono T4.size)
        have O5 := O4.on HB5.out
        have I5 := I4.below HB5.out rfl
        have r4 : w.heap.size + 1 < x4.heap.size := R4.lt
        have hA := HA.out
        have hA0 : w.heap.size ≠ A := by omega
        have hA1 : w.heap.size + 1 ≠ A := by omega
        have hA2 : w.heap.size ≤ A := by omega
        have a2 : wc.cell? ⟨A, 2, none⟩ = some (.slice ta n2 tc) := XA.out.cell 2
        have k50 : wc.cell? ⟨w.heap.size, 0, none⟩ = some (.string xm) := K5.cell 0
        have k51 : wc.cell? ⟨w.heap.size, 1, none⟩ = some (.string xp) := K5.cell 1
        have k52 : wc.cell? ⟨w.heap.size, 2, none⟩ = some (.string xq) := K5.cell 2
        have k53 : wc.cell? ⟨w.heap.size, 3, none⟩ = some (.slice va n1 vc) := K5.cell 3
        have k54 : wc.cell? ⟨w.heap.size, 4, none⟩ = some (.slice ba bn bc) := K5.cell 4
        clear HNm2 I4 K4 R4 T4 k40 k41 k42 k43 k44 HA
        go_upto_region 9 with (go_at_call 14; refine (HSi _ _ _ _ _ T5 I5 HTs.out).mono ?_; rintro e w6 ⟨rfl, hb6⟩; have X6 := XA.out.on hb6; have a3 : w6.cell? ⟨A, 3, none⟩ = some (.string ⟨#[]⟩) := X6.cell 3; have f3 := X6.frozen 3)
        have K7 := (K5.on hb6).other ⟨A, 3, none⟩ (.string xsg) hA0
        have R7 := (R5.on hb6).other ⟨A, 3, none⟩ (.string xsg) hA1
        have T7 := (T5.trans (hb6.mono T5.size)).setCell (p := ⟨A, 3, none⟩) hA2 (.string xsg)
        have O7 := (O5.on hb6).els2 (Else.set A 3 w6 (.string xsg)) (fun i hi => by have := (own4 i hi).2; omega)
        have TS7 := (HTs.out.below hb6 rfl).els (Else.set A 3 w6 (.string xsg)) HneA.out
        have X7 := X6.set 3 (.string xsg)
        have s7 : w2.heap.size + 2 ≤ (w6.setCell ⟨A, 3, none⟩ (.string xsg)).heap.size := by have h1 := HB5.out.size; have h2 := hb6.size; simp only [World.setCell, Array.size_modify]; omega
        clear HSi K5 R5 T5 O5 I5 XA HTs HneA HB5 O4 X6 a2 a3 f3 hb6 k50 k51 k52 k53 k54
        generalize w6.setCell ⟨A, 3, none⟩ (.string xsg) = x7 at *
        replace X7 : Blk x7 A 46 [.string xw, .string x8, .slice ta n2 tc, .string xsg] := X7
        by_cases hsE : sE = 0
        · subst hsE
          have HSA' := HSA rfl
          have HRA' := HRA rfl
          have m0 : x7.cell? ⟨A, 0, none⟩ = some (.string xw) := X7.cell 0
          have m1 : x7.cell? ⟨A, 1, none⟩ = some (.string x8) := X7.cell 1
          have m2 : x7.cell? ⟨A, 2, none⟩ = some (.slice ta n2 tc) := X7.cell 2
          have m3 : x7.cell? ⟨A, 3, none⟩ = some (.string xsg) := X7.cell 3
          go_upto_region 13 with (first
            | (go_at_call 22; refine (HSA' _ _ _ TS7).mono ?_; rintro e w8 ⟨rfl, hb8⟩; have T8 := T7.trans (hb8.mono T7.size))
            | (go_at_call 19; refine (HRA' _ T8).mono ?_; rintro e w9 ⟨⟨xx, rfl⟩, hb9⟩))
          have K9 := (K7.on hb8).on hb9
          have R9 := (R7.on hb8).on hb9
          have T9 := T8.trans (hb9.mono T8.size)
          have O9 := (O7.on hb8).on hb9
          have s9 : w2.heap.size + 2 ≤ w9.heap.size := by have h1 := hb8.size; have h2 := hb9.size; omega
          clear K7 R7 T7 T8 O7 TS7 X7 m0 m1 m2 m3 hb8 hb9 HSA HRA HSA' HRA'
          cases ok with
          | false =>
            have ha : aE = 20 := by rw [HAE.out]; rfl
            have zk0 := R9.cell 0
            have zf0 := R9.frozen 0
            have zk1 := R9.cell 1
            have zf1 := R9.frozen 1
            have zk2 := R9.cell 2
            have zf2 := R9.frozen 2
            have zk3 := R9.cell 3
            have zf3 := R9.frozen 3
            have zk4 := R9.cell 4
            have zf4 := R9.frozen 4
            go_wp2
            (try simp only [Exit.inBlock, Exit.then])
            refine bodyPost_ret (results_cellrow_tmp (P := Tryz.prog) rfl _ _ (w.heap.size + 1) 34 #[.string ⟨#[]⟩, .string ⟨#[]⟩, .string ⟨#[]⟩, .slice none 0 0, .slice none 0 0] (0, 0) _ rfl (((((R9.set 0 (.string ⟨#[]⟩)).set 1 (.string ⟨#[]⟩)).set 2 (.string ⟨#[]⟩)).set 3 (.slice none 0 0)).set 4 (.slice none 0 0)) Tryz.underlying34 rfl (by kernel_rfl)) rfl ⟨?_, (((((T9.setCell (p := ⟨w.heap.size + 1, 0, none⟩) (Nat.le_succ _) (.string ⟨#[]⟩)).setCell (p := ⟨w.heap.size + 1, 1, none⟩) (Nat.le_succ _) (.string ⟨#[]⟩)).setCell (p := ⟨w.heap.size + 1, 2, none⟩) (Nat.le_succ _) (.string ⟨#[]⟩)).setCell (p := ⟨w.heap.size + 1, 3, none⟩) (Nat.le_succ _) (.slice none 0 0)).setCell (p := ⟨w.heap.size + 1, 4, none⟩) (Nat.le_succ _) (.slice none 0 0))⟩
            first | rfl | (rw [if_neg (by rw [ha]; decide), ha]; rfl)
          | true =>
            have ha : aE = 0 := by rw [HAE.out]; rfl
            have b9 := O9.blk
            have g3 : w9.cell? ⟨w.heap.size, 3, none⟩ = some (.slice va n1 vc) := K9.cell 3
            have hl10 : (attH hs S ++ [(sAuthN, atx)]).length = n1 + 1 := by rw [List.length_append, hN1]; rfl
            go_upto_region 16 with (at_builtin; refine list_appQ 32 68 Tryz.underlying32 infoH6 _ rfl _ _ rfl (w2.heap.size + 2) _ (attH hs S) rfl (O9.alloc _) w9.heap.size sAuthN atx rfl (heap_alloc_new w9 _) (by have := HAL.out; omega) (by simp; omega) ?_; intro v10 w10 ho10 hg10; obtain ⟨va2, vc2, hv10, hi10⟩ := ho10.isP; rw [hl10] at hv10; subst hv10; have K10 := (K9.alloc _).grown hg10 (fun i hi => by have := (b9 i hi).1; omega); have h3 : w10.cell? ⟨w.heap.size, 3, none⟩ = some (.slice va n1 vc) := K10.cell 3; have h3f := K10.frozen 3)
            have R10 := (R9.alloc _).grown hg10 (fun i hi => by have := (b9 i hi).1; omega)
            have T10 := (T9.alloc T9.size _).grown hg10 (by have := T9.size; simp; omega) (fun i hi => by have := (b9 i hi).1; omega)
            have O11 := OwnP.els ho10 (Else.set w.heap.size 3 w10 (.slice va2 (n1 + 1) vc2)) (by omega)
            have K11 := K10.set 3 (.slice va2 (n1 + 1) vc2)
            have R11 := R10.other ⟨w.heap.size, 3, none⟩ (.slice va2 (n1 + 1) vc2) (by show w.heap.size + 1 ≠ w.heap.size; omega)
            have T11 := T10.setCell (p := ⟨w.heap.size, 3, none⟩) (Nat.le_refl _) (.slice va2 (n1 + 1) vc2)
            clear hl10 K9 R9 T9 O9 K10 R10 T10 h3 h3f g3 hg10 ho10 hi10 b9
            generalize w10.setCell ⟨w.heap.size, 3, none⟩ (.slice va2 (n1 + 1) vc2) = x11 at *
            replace K11 : Blk x11 w.heap.size 34 [.string xm, .string xp, .string xq, .slice va2 (n1 + 1) vc2, .slice ba bn bc] := K11
            have g4 : x11.cell? ⟨w.heap.size, 4, none⟩ = some (.slice ba bn bc) := K11.cell 4
            have r11 := R11.lt
            generalize hbl : bd.length = bl at *
            go_upto_region 17 with (go_at_call 66; refine (HCl _ T11).mono ?_; rintro e w12 ⟨⟨ua, uc, rfl, HOB⟩, hb12⟩; have K12 := K11.on hb12; have h4 : w12.cell? ⟨w.heap.size, 4, none⟩ = some (.slice ba bn bc) := K12.cell 4; have h4f := K12.frozen 4)
            have K13 := K12.set 4 (.slice ua bl uc)
            have R13 := (R11.on hb12).other ⟨w.heap.size, 4, none⟩ (.slice ua bl uc) (by show w.heap.size + 1 ≠ w.heap.size; omega)
            have T13 := (T11.trans (hb12.mono T11.size)).setCell (p := ⟨w.heap.size, 4, none⟩) (Nat.le_refl _) (.slice ua bl uc)
            have O13 := OwnP.els (O11.on hb12) (Else.set w.heap.size 4 w12 (.slice ua bl uc)) (by omega)
            have B13 := OwnB.els HOB.out (Else.set w.heap.size 4 w12 (.slice ua bl uc)) (by omega)
            clear K11 R11 T11 O11 K12 h4 h4f g4 hb12 HOB
            generalize w12.setCell ⟨w.heap.size, 4, none⟩ (.slice ua bl uc) = x13 at *
            replace K13 : Blk x13 w.heap.size 34 [.string xm, .string xp, .string xq, .slice va2 (n1 + 1) vc2, .slice ua bl uc] := K13
            have O14 := OwnP.els O13 (els5 x13 (w.heap.size + 1) (.string xm) (.string xp) (.string xq) (.slice va2 (n1 + 1) vc2) (.slice ua bl uc)) (by omega)
            have B14 := OwnB.els B13 (els5 x13 (w.heap.size + 1) (.string xm) (.string xp) (.string xq) (.slice va2 (n1 + 1) vc2) (.slice ua bl uc)) (by omega)
            have c0 : x13.cell? ⟨w.heap.size, 0, none⟩ = some (.string xm) := K13.cell 0
            have c1 : x13.cell? ⟨w.heap.size, 1, none⟩ = some (.string xp) := K13.cell 1
            have c2 : x13.cell? ⟨w.heap.size, 2, none⟩ = some (.string xq) := K13.cell 2
            have c3 : x13.cell? ⟨w.heap.size, 3, none⟩ = some (.slice va2 (n1 + 1) vc2) := K13.cell 3
            have c4 : x13.cell? ⟨w.heap.size, 4, none⟩ = some (.slice ua bl uc) := K13.cell 4
            have zk0 := R13.cell 0
            have zf0 := R13.frozen 0
            have zk1 := R13.cell 1
            have zf1 := R13.frozen 1
            have zk2 := R13.cell 2
            have zf2 := R13.frozen 2
            have zk3 := R13.cell 3
            have zf3 := R13.frozen 3
            have zk4 := R13.cell 4
            have zf4 := R13.frozen 4
            go_wp2
            (try simp only [Exit.inBlock, Exit.then])
            refine bodyPost_ret (results_cellrow_tmp (P := Tryz.prog) rfl _ _ (w.heap.size + 1) 34 #[.string xm, .string xp, .string xq, .slice va2 (n1 + 1) vc2, .slice ua bl uc] (0, 0) _ rfl (((((R13.set 0 (.string xm)).set 1 (.string xp)).set 2 (.string xq)).set 3 (.slice va2 (n1 + 1) vc2)).set 4 (.slice ua bl uc)) Tryz.underlying34 rfl (by kernel_rfl)) rfl ⟨?_, (((((T13.setCell (p := ⟨w.heap.size + 1, 0, none⟩) (Nat.le_succ _) (.string xm)).setCell (p := ⟨w.heap.size + 1, 1, none⟩) (Nat.le_succ _) (.string xp)).setCell (p := ⟨w.heap.size + 1, 2, none⟩) (Nat.le_succ _) (.string xq)).setCell (p := ⟨w.heap.size + 1, 3, none⟩) (Nat.le_succ _) (.slice va2 (n1 + 1) vc2)).setCell (p := ⟨w.heap.size + 1, 4, none⟩) (Nat.le_succ _) (.slice ua bl uc))⟩
            first | exact ⟨va2, n1 + 1, vc2, ua, bl, uc, rfl, by rw [HAO.out]; exact O14.toP, B14.toB⟩ | (rw [if_pos ha]; exact ⟨va2, n1 + 1, vc2, ua, bl, uc, rfl, by rw [HAO.out]; exact O14.toP, B14.toB⟩)
        · have ha : aE = sE := by rw [HAE.out, if_pos hsE]
          have hz : (sE == 0) = false := by simpa using hsE
          have zk0 := R7.cell 0
          have zf0 := R7.frozen 0
          have zk1 := R7.cell 1
          have zf1 := R7.frozen 1
          have zk2 := R7.cell 2
          have zf2 := R7.frozen 2
          have zk3 := R7.cell 3
          have zf3 := R7.frozen 3
          have zk4 := R7.cell 4
          have zf4 := R7.frozen 4
          go_wp2
          (try simp only [Exit.inBlock, Exit.then])
          refine bodyPost_ret (results_cellrow_tmp (P := Tryz.prog) rfl _ _ (w.heap.size + 1) 34 #[.string ⟨#[]⟩, .string ⟨#[]⟩, .string ⟨#[]⟩, .slice none 0 0, .slice none 0 0] (0, 0) _ rfl (((((R7.set 0 (.string ⟨#[]⟩)).set 1 (.string ⟨#[]⟩)).set 2 (.string ⟨#[]⟩)).set 3 (.slice none 0 0)).set 4 (.slice none 0 0)) Tryz.underlying34 rfl (by kernel_rfl)) rfl ⟨?_, (((((T7.setCell (p := ⟨w.heap.size + 1, 0, none⟩) (Nat.le_succ _) (.string ⟨#[]⟩)).setCell (p := ⟨w.heap.size + 1, 1, none⟩) (Nat.le_succ _) (.string ⟨#[]⟩)).setCell (p := ⟨w.heap.size + 1, 2, none⟩) (Nat.le_succ _) (.string ⟨#[]⟩)).setCell (p := ⟨w.heap.size + 1, 3, none⟩) (Nat.le_succ _) (.slice none 0 0)).setCell (p := ⟨w.heap.size + 1, 4, none⟩) (Nat.le_succ _) (.slice none 0 0))⟩
          first | rfl | (rw [if_neg (by rw [ha]; exact hsE), ha]; rfl)
    · have hr' : roomB hs = false := by simpa using hroom
      have e1 : attE who sec S 0 ⟨m, p, q, hs, bd⟩ = 11 := by unfold attE; rw [if_neg (by decide), if_pos hr']
      rw [hr'] at HRm
      simp only [e1, show ¬ (11 : Int) = 0 from by decide, if_false]
      unfold rqNone
      clear e1 hroom hP hB hm zh zn
      generalize str S = xS at *
      go_enter Tryz.func24, Tryz.ntmps24
      go_wp2_with (first
        | (go_at_call 49; refine (HSw _).mono ?_; rintro e w1 ⟨rfl, hb1⟩; have T1 := T0.trans (hb1.mono T0.size); have K1 := K0.on hb1; have R1 := R0.on hb1; have ck0 := K1.cell 0; have ck1 := K1.cell 1; have ck2 := K1.cell 2; have ck3 := K1.cell 3; have ck4 := K1.cell 4)
        | (go_at_call 63; refine (HRm _ T1).mono ?_; rintro e w2 ⟨rfl, hb2⟩; have T2 := T1.trans (hb2.mono T1.size); have R2 := R1.on hb2; have zk0 := R2.cell 0; have zf0 := R2.frozen 0; have zk1 := R2.cell 1; have zf1 := R2.frozen 1; have zk2 := R2.cell 2; have zf2 := R2.frozen 2; have zk3 := R2.cell 3; have zf3 := R2.frozen 3; have zk4 := R2.cell 4; have zf4 := R2.frozen 4))
      (try simp only [Exit.inBlock, Exit.then])
      refine bodyPost_ret (results_cellrow_tmp (P := Tryz.prog) rfl _ _ (w.heap.size + 1) 34 #[.string ⟨#[]⟩, .string ⟨#[]⟩, .string ⟨#[]⟩, .slice none 0 0, .slice none 0 0] (0, 0) _ rfl (((((R2.set 0 (.string ⟨#[]⟩)).set 1 (.string ⟨#[]⟩)).set 2 (.string ⟨#[]⟩)).set 3 (.slice none 0 0)).set 4 (.slice none 0 0)) Tryz.underlying34 rfl (by kernel_rfl)) rfl ⟨?_, (((((T2.setCell (p := ⟨w.heap.size + 1, 0, none⟩) (Nat.le_succ _) (.string ⟨#[]⟩)).setCell (p := ⟨w.heap.size + 1, 1, none⟩) (Nat.le_succ _) (.string ⟨#[]⟩)).setCell (p := ⟨w.heap.size + 1, 2, none⟩) (Nat.le_succ _) (.string ⟨#[]⟩)).setCell (p := ⟨w.heap.size + 1, 3, none⟩) (Nat.le_succ _) (.slice none 0 0)).setCell (p := ⟨w.heap.size + 1, 4, none⟩) (Nat.le_succ _) (.slice none 0 0))⟩
      rfl

  · have e1 : attE who sec S E ⟨m, p, q, hs, bd⟩ = E := by unfold attE; rw [if_pos hE0]
    have hz : (E == 0) = false := by simpa using hE0
    simp only [e1, hE0, if_false]
    unfold rqNone
    clear e1 hS HRm hP hB hm zh zn
    generalize str S = xS at *
    go_enter Tryz.func24, Tryz.ntmps24
    go_wp2_with (go_at_call 49; refine (HSw _).mono ?_; rintro e w1 ⟨rfl, hb1⟩; have T1 := T0.trans (hb1.mono T0.size); have R1 := R0.on hb1; have zk0 := R1.cell 0; have zf0 := R1.frozen 0; have zk1 := R1.cell 1; have zf1 := R1.frozen 1; have zk2 := R1.cell 2; have zf2 := R1.frozen 2; have zk3 := R1.cell 3; have zf3 := R1.frozen 3; have zk4 := R1.cell 4; have zf4 := R1.frozen 4)
    (try simp only [Exit.inBlock, Exit.then])
    refine bodyPost_ret (results_cellrow_tmp (P := Tryz.prog) rfl _ _ (w.heap.size + 1) 34 #[.string ⟨#[]⟩, .string ⟨#[]⟩, .string ⟨#[]⟩, .slice none 0 0, .slice none 0 0] (0, 0) _ rfl (((((R1.set 0 (.string ⟨#[]⟩)).set 1 (.string ⟨#[]⟩)).set 2 (.string ⟨#[]⟩)).set 3 (.slice none 0 0)).set 4 (.slice none 0 0)) Tryz.underlying34 rfl (by kernel_rfl)) rfl ⟨?_, (((((T1.setCell (p := ⟨w.heap.size + 1, 0, none⟩) (Nat.le_succ _) (.string ⟨#[]⟩)).setCell (p := ⟨w.heap.size + 1, 1, none⟩) (Nat.le_succ _) (.string ⟨#[]⟩)).setCell (p := ⟨w.heap.size + 1, 2, none⟩) (Nat.le_succ _) (.string ⟨#[]⟩)).setCell (p := ⟨w.heap.size + 1, 3, none⟩) (Nat.le_succ _) (.slice none 0 0)).setCell (p := ⟨w.heap.size + 1, 4, none⟩) (Nat.le_succ _) (.slice none 0 0))⟩
    rfl

end Go.Proofs.YtgjmaeodgcigdaaGreatDoor
