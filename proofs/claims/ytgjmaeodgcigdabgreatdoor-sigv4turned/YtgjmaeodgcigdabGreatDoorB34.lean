/- What sigv4.Canonical answers. · What sigv4.Sign answers. · What clock.Near answers. · What the document's Same answers, of any two slices of bytes. · What digest.Same answers, of any two slices of bytes. -/
import Derived.Test.YtgjmaeodgcigdabGreatDoorB28
import Derived.Test.YtgjmaeodgcigdabGreatDoorB33
import Derived.Test.YtgjmaeodgcigdabGreatDoorB7
import Derived.Test.YtgjmaeodgcigdabGreatDoorB26
import Derived.Test.YtgjmaeodgcigdabGreatDoorB25
import Derived.Test.YtgjmaeodgcigdabGreatDoorB17
import Derived.Test.YtgjmaeodgcigdabGreatDoorB20
import Derived.Test.YtgjmaeodgcigdabGreatDoorB23
import Derived.Test.YtgjmaeodgcigdabGreatDoorB0
namespace Go.Proofs.YtgjmaeodgcigdabGreatDoor
open Go.RowKit

theorem canon_join (m e c l j x : List UInt8) : joinS [10] [m, e, c, l, j, x] = m ++ [10] ++ e ++ [10] ++ c ++ [10] ++ l ++ [10] ++ j ++ [10] ++ x := by
  simp [joinS, joinTo, nthT]
theorem codSha (a : Option Addr) (n c : Nat) (l : List UInt8) (w : World) (h : IsB w a n c l) (hn : n < 4294967296) :
    Calls Tryz.prog 36 #[.slice a n c] w fun e w' => (∃ va vc, e = .returned (.slice va 32 vc) ∧ IsB w' va 32 vc (sha256L l)) ∧ Below w.heap.size w w' := (digSha256 a n c l w h hn).mono (by
  rintro e w' ⟨v, rfl, ho, hb⟩
  obtain ⟨va, vc, rfl, hi⟩ := ho.isB
  rw [sha256L_length] at hi ⊢
  exact ⟨⟨va, vc, rfl, hi⟩, hb⟩)

set_option maxRecDepth 20000 in
set_option maxHeartbeats 8000000 in
theorem codCanonical (m p q : List UInt8) (ha : Option Addr) (hn hc : Nat) (hs : List Pr) (ba : Option Addr) (bn bc : Nat) (bd : List UInt8) (ta : Option Addr) (tn tc : Nat) (ts : List (List UInt8)) (w : World)
    (hP : IsP w ha hn hc hs) (hB : IsB w ba bn bc bd) (hT : IsT w ta tn tc ts) (zm : m.length ≤ 30000) (zp : p.length ≤ 30000) (zq : q.length ≤ 30000) (zb : bn ≤ 30000) (zh : ∀ i, i < hs.length → (nthP hs i).2.length ≤ 30000) (zt : ∀ i, i < ts.length → (nthT ts i).length ≤ 140737488351232) :
    Calls Tryz.prog 32 #[.agg #[.string (str m), .string (str p), .string (str q), .slice ha hn hc, .slice ba bn bc], .slice ta tn tc] w fun e w' => e = .returned (.tuple #[.string (str (canonT ⟨m, p, q, hs, bd⟩ ts)), .int .i64 (canonE ⟨m, p, q, hs, bd⟩ ts)]) ∧ Below w.heap.size w w' := by
  have T0 : Below w.heap.size w (w.alloc (.cells #[.string (str m), .string (str p), .string (str q), .slice ha hn hc, .slice ba bn bc] 31)) := (Below.refl _ w).alloc (Nat.le_refl _) _
  have K0 := Blk.newAt w w.heap.size 31 _ [.string (str m), .string (str p), .string (str q), .slice ha hn hc, .slice ba bn bc] rfl rfl
  have HN := codRightNames ta tn tc ts _ (hT.below T0 rfl) zt
  have HL := hT.len_eq
  cases hnm : namesL ts with
  | false =>
    obtain ⟨e1, e2⟩ := canon_no1 (r := ⟨m, p, q, hs, bd⟩) hnm
    rw [e1, e2, show str [] = (⟨#[]⟩ : ByteArray) from rfl]
    rw [hnm] at HN
    clear e1 e2
    go_enter Tryz.func32, Tryz.ntmps32
    go_wp2_with (go_at_call 65; refine HN.mono ?_; rintro e w1 ⟨rfl, rfl⟩)
    go_ret2
    exact ⟨rfl, T0⟩
  | true =>
    rw [hnm] at HN
    obtain ⟨nl, n24⟩ := names_facts hnm
    have HLi := codLines (.string (str m)) (.string (str p)) (.string (str q)) (.slice ba bn bc) ha hn hc hs ta tn tc ts _ (hP.below T0 rfl) (hT.below T0 rfl) hnm zh
    have q0 := K0.cell 0
    have q1 := K0.cell 1
    have q2 := K0.cell 2
    have q3 := K0.cell 3
    have q4 := K0.cell 4
    have HTw : Hid (∀ W, Below w.heap.size w W → IsT W ta tn tc ts) := fun W hW => hT.below hW rfl
    have HBw : Hid (∀ W, Below w.heap.size w W → IsB W ba bn bc bd) := fun W hW => hB.below hW rfl
    cases hha : hasAll hs ts with
    | false =>
      obtain ⟨e1, e2⟩ := canon_no2 (r := ⟨m, p, q, hs, bd⟩) hnm hha
      rw [e1, e2, show str [] = (⟨#[]⟩ : ByteArray) from rfl]
      rw [hha] at HLi
      change Calls Tryz.prog 66 _ _ fun e w' => e = .returned (.tuple #[.string ⟨#[]⟩, .int .i64 11]) ∧ _ at HLi
      clear e1 e2 hP hB hT
      go_enter Tryz.func32, Tryz.ntmps32
      go_wp2_with (first | (go_at_call 65; refine HN.mono ?_; rintro e w1 ⟨rfl, rfl⟩) | (go_at_call 66; refine HLi.mono ?_; rintro e w2 ⟨rfl, hb2⟩))
      go_ret2
      exact ⟨rfl, T0.trans (hb2.mono T0.size)⟩
    | true =>
      rw [hha] at HLi
      have HN3 := canon_no3 (r := ⟨m, p, q, hs, bd⟩) hnm hha
      have HYE := canon_yes (r := ⟨m, p, q, hs, bd⟩) hnm hha
      have HDe : ∀ W, Calls Tryz.prog 67 #[.string (str p)] W fun e w' => e = .returned (.tuple #[.string (str (decS p)), .int .i64 (decC p)]) ∧ Below W.heap.size W w' := fun W => by
        have := codDecode (str p) W (by rw [str_size]; omega)
        rw [str_list] at this
        exact this
      have HQu : ∀ W, Calls Tryz.prog 68 #[.string (str q)] W fun e w' => (∃ qa qm qc, e = .returned (.tuple #[.slice qa qm qc, .int .i64 (queryC q)]) ∧ IsP w' qa qm qc (queryP q)) ∧ Below W.heap.size W w' := fun W => codQuery q W (by omega)
      obtain ⟨qn, qz⟩ := queryP_facts q zq
      have HEn : ∀ W, Calls Tryz.prog 69 #[.string (str (decS p)), .bool true] W fun e w' => e = .returned (.string (str (encL true (decS p)))) ∧ Below W.heap.size W w' := fun W => codEncodeL (decS p) true W (by have := decS_len p; omega)
      have HCa : ∀ qa qm qc W, IsP W qa qm qc (queryP q) → Calls Tryz.prog 70 #[.slice qa qm qc] W fun e w' => e = .returned (.string (str (canonL (queryP q)))) ∧ Below W.heap.size W w' := fun qa qm qc W hi => codCanon qa qm qc (queryP q) W hi (by have := hi.len_eq; omega) qz
      have l5 : (joinS [59] ts).length ≤ 10000 := by
        have h1 := joinTo_le [59] ts 64 nl ts.length (Nat.le_refl _)
        have h2 : ts.length * (64 + 1) ≤ 24 * (64 + 1) := Nat.mul_le_mul_right _ (by omega)
        unfold joinS
        have h3 : ([59] : List UInt8).length = 1 := rfl
        rw [h3] at h1
        omega
      have HJo : ∀ W, Below w.heap.size w W → Calls Tryz.prog 39 #[.slice ta tn tc, .string ⟨#[59]⟩] W fun e w' => e = .returned (.string (str (joinS [59] ts))) ∧ Below W.heap.size W w' := fun W hW => codJoinT [59] ta tn tc ts W (HTw.out W hW) (by omega) (by omega)
      have HSh : ∀ W, Below w.heap.size w W → Calls Tryz.prog 36 #[.slice ba bn bc] W fun e w' => (∃ va vc, e = .returned (.slice va 32 vc) ∧ IsB w' va 32 vc (sha256L bd)) ∧ Below W.heap.size W w' := fun W hW => codSha ba bn bc bd W (HBw.out W hW) (by omega)
      have HHx : ∀ va vc W, IsB W va 32 vc (sha256L bd) → Calls Tryz.prog 35 #[.slice va 32 vc] W fun e w' => e = .returned (.string (str (hexL (sha256L bd)))) ∧ Below W.heap.size W w' := fun va vc W hi => digHex va 32 vc (sha256L bd) W hi (by omega)
      have l1 := encL_length true (decS p)
      have l2 := decS_len p
      have l3 := canon_len qz
      have l3' : (queryP q).length * 180002 ≤ 24 * 180002 := Nat.mul_le_mul_right _ qn
      have l4 : (linesTo hs ts ts.length).length ≤ 1000000 := by
        have h1 := lines_len 30000 zh nl ts.length (Nat.le_refl _)
        have h2 : ts.length * (30000 + 66) ≤ 24 * (30000 + 66) := Nat.mul_le_mul_right _ (by omega)
        omega
      have l6 : (hexL (sha256L bd)).length = 64 := by rw [hexL_length, sha256L_length]
      have hcx : joinS [10] [m, encL true (decS p), canonL (queryP q), linesTo hs ts ts.length, joinS [59] ts, hexL (sha256L bd)] = canonX ⟨m, p, q, hs, bd⟩ ts := canon_join _ _ _ _ _ _
      have HJd : ∀ X Y : World, Y = X.alloc (.cells #[.string (str m), .string (str (encL true (decS p))), .string (str (canonL (queryP q))), .string (str (linesTo hs ts ts.length)), .string (str (joinS [59] ts)), .string (str (hexL (sha256L bd)))] 9) → Calls Tryz.prog 33 #[.slice (some ⟨X.heap.size, 0, none⟩) 6 6] Y fun e w' => e = .returned (.string (str (canonX ⟨m, p, q, hs, bd⟩ ts))) ∧ Below Y.heap.size Y w' := fun X Y hY => by
        have h1 := codJoined _ _ _ _ _ (isT_new X 9 [m, encL true (decS p), canonL (queryP q), linesTo hs ts ts.length, joinS [59] ts, hexL (sha256L bd)] (by simp)) (by simp) (by
          rw [hcx]
          unfold canonX
          simp only [List.length_append, List.length_cons, List.length_nil]
          omega)
        rw [hcx] at h1
        rw [hY]
        exact h1
      change Calls Tryz.prog 66 _ _ fun e w' => e = .returned (.tuple #[.string (str (linesTo hs ts ts.length)), .int .i64 0]) ∧ _ at HLi
      clear l1 l2 l3 l3' l4 l5 l6 qn qz hcx hP hB hT
      generalize linesTo hs ts ts.length = ll at *
      by_cases hd0 : decC p = 0
      · rw [hd0] at HDe
        by_cases hq0 : queryC q = 0
        · rw [hq0] at HQu
          obtain ⟨e1, e2⟩ := HYE ⟨hd0, hq0⟩
          rw [e1, e2]
          clear HN3 HYE e1 e2 hd0 hq0
          generalize canonX ⟨m, p, q, hs, bd⟩ ts = cx at *
          go_enter Tryz.func32, Tryz.ntmps32
          go_upto_region 12 with (first | (go_at_call 65; refine HN.mono ?_; rintro e w1 ⟨rfl, rfl⟩) | (go_at_call 66; refine HLi.mono ?_; rintro e w2 ⟨rfl, hb2⟩; have K2 := K0.on hb2; have c1 : w2.cell? ⟨w.heap.size, 1, none⟩ = some (.string (str p)) := K2.cell 1) | (go_at_call 67; refine (HDe _).mono ?_; rintro e w3 ⟨rfl, hb3⟩; have K3 := K2.on hb3; have c2 : w3.cell? ⟨w.heap.size, 2, none⟩ = some (.string (str q)) := K3.cell 2) | (go_at_call 68; refine (HQu _).mono ?_; rintro e w4 ⟨⟨qa, qm, qc, rfl, hi4⟩, hb4⟩))
          have T2 := T0.trans (hb2.mono T0.size)
          have T3 := T2.trans (hb3.mono T2.size)
          have T4 : Below w.heap.size w w4 := T3.trans (hb4.mono T3.size)
          have K4 := K3.on hb4
          have HKP : ∀ w', Below w4.heap.size w4 w' → Below w4.heap.size w4 w' ∧ w'.cell? ⟨w.heap.size, 0, none⟩ = some (.string (str m)) ∧ w'.cell? ⟨w.heap.size, 4, none⟩ = some (.slice ba bn bc) := fun w' hb => ⟨hb, (K4.on hb).cell 0, (K4.on hb).cell 4⟩
          clear HDe HQu HN HLi c1 c2 K0 K2 K3 K4 q0 q1 q2 q3 q4 hb2 hb3 hb4
          generalize str m = sm at *
          generalize str (encL true (decS p)) = se at *
          generalize str (canonL (queryP q)) = sc at *
          generalize str (decS p) = sd at *
          generalize str ll = sl at *
          generalize str (joinS [59] ts) = sj at *
          generalize str (hexL (sha256L bd)) = sx at *
          go_region_held3 (fun w' => Below w4.heap.size w4 w' ∧ w'.cell? ⟨w.heap.size, 0, none⟩ = some (.string sm) ∧ w'.cell? ⟨w.heap.size, 4, none⟩ = some (.slice ba bn bc))
            (first | exact HKP _ ((Below.refl _ w4).drew) | assumption | (have hq0 := ‹Below _ _ _ ∧ _›; first | exact HKP _ (hq0.1.trans (hbE.mono hq0.1.size)) | exact HKP _ (hq0.1.trans (hbC.mono hq0.1.size)) | exact HKP _ (hq0.1.trans (hbJ.mono hq0.1.size)) | exact HKP _ (hq0.1.trans (hbS.mono hq0.1.size)) | exact HKP _ (hq0.1.trans (hbH.mono hq0.1.size)) | exact HKP _ (hq0.1.trans (hbD.mono hq0.1.size)) | exact HKP _ (hq0.1.alloc hq0.1.size _)))
            (first
              | (go_at_call 69; refine (HEn _).mono ?_; rintro e w5 ⟨rfl, hbE⟩)
              | (go_at_call 70; have hq0 := ‹Below _ _ _ ∧ _›; refine (HCa _ _ _ _ (hi4.below hq0.1 rfl)).mono ?_; rintro e w6 ⟨rfl, hbC⟩; clear hq0)
              | (go_at_call 39; have hq0 := ‹Below _ _ _ ∧ _›; refine (HJo _ (T4.trans (hq0.1.mono T4.size))).mono ?_; rintro e w7 ⟨rfl, hbJ⟩; clear hq0)
              | (go_at_call 36; have hq0 := ‹Below _ _ _ ∧ _›; refine (HSh _ (T4.trans (hq0.1.mono T4.size))).mono ?_; rintro e w8 ⟨⟨va8, vc8, rfl, hi8⟩, hbS⟩; clear hq0)
              | (go_at_call 35; refine (HHx _ _ _ (by first | exact hi8 | exact hi8.below hbE rfl | exact hi8.below hbC rfl | exact hi8.below hbJ rfl | exact (hi8.below hbE rfl).below hbC rfl | exact (hi8.below hbC rfl).below hbE rfl | exact (hi8.below hbE rfl).below hbJ rfl | exact (hi8.below hbJ rfl).below hbE rfl | exact (hi8.below hbC rfl).below hbJ rfl | exact (hi8.below hbJ rfl).below hbC rfl | exact ((hi8.below hbE rfl).below hbC rfl).below hbJ rfl | exact ((hi8.below hbE rfl).below hbJ rfl).below hbC rfl | exact ((hi8.below hbC rfl).below hbE rfl).below hbJ rfl | exact ((hi8.below hbC rfl).below hbJ rfl).below hbE rfl | exact ((hi8.below hbJ rfl).below hbE rfl).below hbC rfl | exact ((hi8.below hbJ rfl).below hbC rfl).below hbE rfl)).mono ?_; rintro e w9 ⟨rfl, hbH⟩)
              | (go_at_call 33; refine (HJd _ _ rfl).mono ?_; rintro e w10 ⟨rfl, hbD⟩))
          all_goals
            have hq9 := ‹Below _ _ _ ∧ _›
            go_wp2
            go_ret2
            exact ⟨rfl, T4.trans (hq9.1.mono T4.size)⟩
        · obtain ⟨e1, e2⟩ := HN3 (fun h => hq0 h.2)
          rw [e1, e2, show str [] = (⟨#[]⟩ : ByteArray) from rfl]
          have hz : (queryC q == 0) = false := by simpa using hq0
          clear HN3 HYE e1 e2 hd0 HJd HHx HSh HJo HCa HEn
          generalize queryC q = ce at *
          go_enter Tryz.func32, Tryz.ntmps32
          go_wp2_with (first | (go_at_call 65; refine HN.mono ?_; rintro e w1 ⟨rfl, rfl⟩) | (go_at_call 66; refine HLi.mono ?_; rintro e w2 ⟨rfl, hb2⟩; have K2 := K0.on hb2; have c1 : w2.cell? ⟨w.heap.size, 1, none⟩ = some (.string (str p)) := K2.cell 1) | (go_at_call 67; refine (HDe _).mono ?_; rintro e w3 ⟨rfl, hb3⟩; have K3 := K2.on hb3; have c2 : w3.cell? ⟨w.heap.size, 2, none⟩ = some (.string (str q)) := K3.cell 2) | (go_at_call 68; refine (HQu _).mono ?_; rintro e w4 ⟨⟨qa, qm, qc, rfl, hi4⟩, hb4⟩))
          go_ret2
          have T2 := T0.trans (hb2.mono T0.size)
          have T3 := T2.trans (hb3.mono T2.size)
          exact ⟨rfl, T3.trans (hb4.mono T3.size)⟩
      · obtain ⟨e1, e2⟩ := HN3 (fun h => hd0 h.1)
        rw [e1, e2, show str [] = (⟨#[]⟩ : ByteArray) from rfl]
        have hz : (decC p == 0) = false := by simpa using hd0
        clear HN3 HYE e1 e2 HJd HHx HSh HJo HCa HEn HQu
        generalize decC p = ce at *
        go_enter Tryz.func32, Tryz.ntmps32
        go_wp2_with (first | (go_at_call 65; refine HN.mono ?_; rintro e w1 ⟨rfl, rfl⟩) | (go_at_call 66; refine HLi.mono ?_; rintro e w2 ⟨rfl, hb2⟩; have K2 := K0.on hb2; have c1 : w2.cell? ⟨w.heap.size, 1, none⟩ = some (.string (str p)) := K2.cell 1) | (go_at_call 67; refine (HDe _).mono ?_; rintro e w3 ⟨rfl, hb3⟩))
        go_ret2
        have T2 := T0.trans (hb2.mono T0.size)
        exact ⟨rfl, T2.trans (hb3.mono T2.size)⟩
end Go.Proofs.YtgjmaeodgcigdabGreatDoor
namespace Go.Proofs.YtgjmaeodgcigdabGreatDoor
open Go.RowKit

def sAlg0 : List UInt8 := [65, 87, 83, 52, 45, 72, 77, 65, 67, 45, 83, 72, 65, 50, 53, 54]
theorem sign_join (S sc x : List UInt8) : joinS [10] [sAlg0, S, sc, x] = sAlg ++ S ++ [10] ++ sc ++ [10] ++ x := by
  simp [joinS, joinTo, nthT, sAlg0, sAlg]

set_option maxRecDepth 20000 in
set_option maxHeartbeats 2000000 in
theorem codSign (sec m p q : List UInt8) (ha : Option Addr) (hn hc : Nat) (hs : List Pr) (ba : Option Addr) (bn bc : Nat) (bd : List UInt8) (ta : Option Addr) (tn tc : Nat) (ts : List (List UInt8)) (t : Nat) (S : List UInt8) (E : Int) (w : World)
    (hP : IsP w ha hn hc hs) (hB : IsB w ba bn bc bd) (hT : IsT w ta tn tc ts) (zs : sec.length ≤ 100000) (zm : m.length ≤ 30000) (zp : p.length ≤ 30000) (zq : q.length ≤ 30000) (zb : bn ≤ 30000) (zh : ∀ i, i < hs.length → (nthP hs i).2.length ≤ 30000) (zt : ∀ i, i < ts.length → (nthT ts i).length ≤ 140737488351232)
    (hS : E = 0 → S.length = 16) (HSw : ∀ w, Calls Tryz.prog 11 #[.int .u64 (t : Int)] w fun e w' => e = .returned (.tuple #[.string (str S), .int .i64 E]) ∧ Below w.heap.size w w') :
    Calls Tryz.prog 15 #[.string (str sec), .agg #[.string (str m), .string (str p), .string (str q), .slice ha hn hc, .slice ba bn bc], .slice ta tn tc, .int .u64 (t : Int)] w fun e w' => e = .returned (.tuple #[.string (str (signT sec S E ⟨m, p, q, hs, bd⟩ ts)), .int .i64 (signE E ⟨m, p, q, hs, bd⟩ ts)]) ∧ Below w.heap.size w w' := by
  have T0 : Below w.heap.size w (w.alloc (.cells #[.string (str m), .string (str p), .string (str q), .slice ha hn hc, .slice ba bn bc] 31)) := (Below.refl _ w).alloc (Nat.le_refl _) _
  have K0 := Blk.newAt w w.heap.size 31 _ [.string (str m), .string (str p), .string (str q), .slice ha hn hc, .slice ba bn bc] rfl rfl
  have HCa : ∀ W, Below w.heap.size w W → Calls Tryz.prog 32 #[.agg #[.string (str m), .string (str p), .string (str q), .slice ha hn hc, .slice ba bn bc], .slice ta tn tc] W fun e w' => e = .returned (.tuple #[.string (str (canonT ⟨m, p, q, hs, bd⟩ ts)), .int .i64 (canonE ⟨m, p, q, hs, bd⟩ ts)]) ∧ Below W.heap.size W w' := fun W hW => codCanonical m p q ha hn hc hs ba bn bc bd ta tn tc ts W (hP.below hW rfl) (hB.below hW rfl) (hT.below hW rfl) zm zp zq zb zh zt
  have lc := canonT_len (r := ⟨m, p, q, hs, bd⟩) (ts := ts) zm zp zq zh
  have HTT : Hid (∀ (E : Int), E = 0 → canonE ⟨m, p, q, hs, bd⟩ ts = 0 → signE E ⟨m, p, q, hs, bd⟩ ts = 0 ∧ signT sec S E ⟨m, p, q, hs, bd⟩ ts = hexL (hmL sha256L (keyL sec (S.take 8)) (signText S (canonT ⟨m, p, q, hs, bd⟩ ts)))) := fun E h1 h2 => by
    have e1 : signE E ⟨m, p, q, hs, bd⟩ ts = 0 := by unfold signE; rw [if_pos h1, h2]
    refine ⟨e1, ?_⟩
    unfold signT; rw [if_pos e1]; unfold signX canonT; rw [if_pos h2]
  have HT2 : Hid (∀ (E : Int), E = 0 → ¬ canonE ⟨m, p, q, hs, bd⟩ ts = 0 → signE E ⟨m, p, q, hs, bd⟩ ts = canonE ⟨m, p, q, hs, bd⟩ ts ∧ signT sec S E ⟨m, p, q, hs, bd⟩ ts = []) := fun E h1 h2 => by
    have e1 : signE E ⟨m, p, q, hs, bd⟩ ts = canonE ⟨m, p, q, hs, bd⟩ ts := by unfold signE; rw [if_pos h1]
    refine ⟨e1, ?_⟩
    unfold signT; rw [e1, if_neg h2]
  have HT3 : Hid (¬ E = 0 → signE E ⟨m, p, q, hs, bd⟩ ts = E ∧ signT sec S E ⟨m, p, q, hs, bd⟩ ts = []) := fun h1 => by
    have e1 : signE E ⟨m, p, q, hs, bd⟩ ts = E := by unfold signE; rw [if_neg h1]
    refine ⟨e1, ?_⟩
    unfold signT; rw [e1, if_neg h1]
  clear hP hB hT zm zp zq zb zh zt
  by_cases hE0 : E = 0
  · subst hE0
    have h16 := hS rfl
    by_cases hc0 : canonE ⟨m, p, q, hs, bd⟩ ts = 0
    · obtain ⟨e1, e2⟩ := HTT.out 0 rfl hc0
      rw [e1, e2]
      rw [hc0] at HCa
      clear HTT HT2 HT3 e1 e2 hc0 hS
      generalize canonT ⟨m, p, q, hs, bd⟩ ts = ct at *
      have hex : (str S).extract 0 8 = str (S.take 8) := by rw [ext_take, str_list]
      have l8 : (S.take 8).length = 8 := by rw [List.length_take]; omega
      have hs16 : (str S).size = 16 := by rw [str_size]; exact h16
      have HSc := fun W => codScope (S.take 8) W (by omega)
      have HKe := fun W => codKey sec (S.take 8) W zs (by omega)
      have lsc : (scopeL (S.take 8)).length = 30 := by unfold scopeL; rw [List.length_append, l8]; rfl
      have lx : (hexL (sha256L ct)).length = 64 := by rw [hexL_length, sha256L_length]
      have lst : (signText S ct).length ≤ 1000 := by
        unfold signText
        simp only [List.length_append, List.length_cons, List.length_nil, lsc, lx, h16]
        decide
      have HSh : ∀ W a n c, IsB W a n c ct → Calls Tryz.prog 36 #[.slice a n c] W fun e w' => (∃ va vc, e = .returned (.slice va 32 vc) ∧ IsB w' va 32 vc (sha256L ct)) ∧ Below W.heap.size W w' := fun W a n c hi => codSha a n c ct W hi (by have := hi.len_eq; omega)
      have HH1 : ∀ va vc W, IsB W va 32 vc (sha256L ct) → Calls Tryz.prog 35 #[.slice va 32 vc] W fun e w' => e = .returned (.string (str (hexL (sha256L ct)))) ∧ Below W.heap.size W w' := fun va vc W hi => digHex va 32 vc (sha256L ct) W hi (by omega)
      have hjs : joinS [10] [sAlg0, S, scopeL (S.take 8), hexL (sha256L ct)] = signText S ct := sign_join _ _ _
      have HJd : ∀ X : World, Calls Tryz.prog 33 #[.slice (some ⟨X.heap.size, 0, none⟩) 4 4] (X.alloc (.cells #[.string ⟨#[65, 87, 83, 52, 45, 72, 77, 65, 67, 45, 83, 72, 65, 50, 53, 54]⟩, .string (str S), .string (str (scopeL (S.take 8))), .string (str (hexL (sha256L ct)))] 9)) fun e w' => e = .returned (.string (str (signText S ct))) ∧ Below X.heap.size X w' := fun X => by
        have h1 := codJoined _ _ _ _ _ (isT_new X 9 [sAlg0, S, scopeL (S.take 8), hexL (sha256L ct)] (by simp)) (by simp) (by rw [hjs]; omega)
        rw [hjs] at h1
        refine h1.mono ?_
        rintro e w' ⟨rfl, hb⟩
        exact ⟨rfl, ((Below.refl _ X).alloc (Nat.le_refl _) _).trans (hb.mono (by simp))⟩
      have HHm : ∀ W a c a1 n1 c1, IsB W a 32 c (keyL sec (S.take 8)) → IsB W a1 n1 c1 (signText S ct) → Calls Tryz.prog 37 #[.slice a 32 c, .slice a1 n1 c1] W fun e w' => (∃ va vc, e = .returned (.slice va 32 vc) ∧ IsB w' va 32 vc (hmL sha256L (keyL sec (S.take 8)) (signText S ct))) ∧ Below W.heap.size W w' := fun W a c a1 n1 c1 h1 h2 => codHm a 32 c _ a1 n1 c1 _ W h1 h2 (by omega) (by have := h2.len_eq; omega)
      have HH2 : ∀ va vc W, IsB W va 32 vc (hmL sha256L (keyL sec (S.take 8)) (signText S ct)) → Calls Tryz.prog 35 #[.slice va 32 vc] W fun e w' => e = .returned (.string (str (hexL (hmL sha256L (keyL sec (S.take 8)) (signText S ct))))) ∧ Below W.heap.size W w' := fun va vc W hi => digHex va 32 vc _ W hi (by omega)
      have HCv := fun W => conv_ex W ct (by omega)
      have HCw := fun W => conv_ex W (signText S ct) (by omega)
      clear lst lx lsc l8 h16 hjs
      generalize str (signText S ct) = stx at *
      go_enter Tryz.func15, Tryz.ntmps15
      go_upto_region 8 with (first
        | (go_at_call 11; refine (HSw _).mono ?_; rintro e w1 ⟨rfl, hb1⟩; have T1 := T0.trans (hb1.mono T0.size); have K1 := K0.on hb1; have c0 := K1.cell 0; have c1 := K1.cell 1; have c2 := K1.cell 2; have c3 := K1.cell 3; have c4 := K1.cell 4)
        | (go_at_call 32; refine (HCa _ T1).mono ?_; rintro e w2 ⟨rfl, hb2⟩; have T2 := T1.trans (hb2.mono T1.size)))
      clear HCa HSw K0
      go_upto_region 9 with (first
        | (go_at_call 34; refine (HSc _).mono ?_; rintro e w3 ⟨rfl, hb3⟩; have T3 := T2.trans (hb3.mono T2.size); obtain ⟨cp5, x5, hcv5, hi5, hb5⟩ := HCv w3; have T5 := T3.trans (hb5.mono T3.size))
        | (go_at_call 36; refine (HSh _ _ _ _ hi5).mono ?_; rintro e w6 ⟨⟨va6, vc6, rfl, hi6⟩, hb6⟩; have T6 := T5.trans (hb6.mono T5.size))
        | (go_at_call 35; refine (HH1 _ _ _ hi6).mono ?_; rintro e w7 ⟨rfl, hb7⟩; have T7 := T6.trans (hb7.mono T6.size))
        | (go_at_call 33; refine (HJd _).mono ?_; rintro e w75 ⟨rfl, hb75⟩; have T75 := T7.trans (hb75.mono T7.size)))
      clear HSc HSh HH1 hcv5 hi5 HCv
      go_wp2_with (first
        | (go_at_call 38; refine (HKe _).mono ?_; rintro e w8 ⟨⟨va8, vc8, rfl, hi8⟩, hb8⟩; have T8 := T75.trans (hb8.mono T75.size); obtain ⟨cp9, x9, hcv9, hi9, hb9⟩ := HCw w8; have T9 := T8.trans (hb9.mono T8.size))
        | (go_at_call 37; refine (HHm _ _ _ _ _ _ (hi8.below hb9 rfl) hi9).mono ?_; rintro e w10 ⟨⟨va10, vc10, rfl, hi10⟩, hb10⟩; have T10 := T9.trans (hb10.mono T9.size))
        | (go_at_call 35; refine (HH2 _ _ _ hi10).mono ?_; rintro e w11 ⟨rfl, hb11⟩))
      go_ret2
      exact ⟨rfl, T10.trans (hb11.mono T10.size)⟩
    · obtain ⟨e1, e2⟩ := HT2.out 0 rfl hc0
      rw [e1, e2, show str [] = (⟨#[]⟩ : ByteArray) from rfl]
      have hz : (canonE ⟨m, p, q, hs, bd⟩ ts == 0) = false := by simpa using hc0
      clear HTT HT2 HT3 e1 e2 hc0
      generalize canonE ⟨m, p, q, hs, bd⟩ ts = ce at *
      go_enter Tryz.func15, Tryz.ntmps15
      go_wp2_with (first | (go_at_call 11; refine (HSw _).mono ?_; rintro e w1 ⟨rfl, hb1⟩; have T1 := T0.trans (hb1.mono T0.size); have K1 := K0.on hb1; have c0 := K1.cell 0; have c1 := K1.cell 1; have c2 := K1.cell 2; have c3 := K1.cell 3; have c4 := K1.cell 4) | (go_at_call 32; refine (HCa _ T1).mono ?_; rintro e w2 ⟨rfl, hb2⟩))
      go_ret2
      exact ⟨rfl, T1.trans (hb2.mono T1.size)⟩
  · obtain ⟨e1, e2⟩ := HT3.out hE0
    rw [e1, e2, show str [] = (⟨#[]⟩ : ByteArray) from rfl]
    have hz : (E == 0) = false := by simpa using hE0
    clear HTT HT2 HT3 e1 e2 hE0 hS
    go_enter Tryz.func15, Tryz.ntmps15
    go_wp2_with (go_at_call 11; refine (HSw _).mono ?_; rintro e w1 ⟨rfl, hb1⟩)
    go_ret2
    exact ⟨rfl, T0.trans (hb1.mono T0.size)⟩
end Go.Proofs.YtgjmaeodgcigdabGreatDoor
namespace Go.Proofs.YtgjmaeodgcigdabGreatDoor
open Go.RowKit

set_option maxHeartbeats 400000 in
theorem codNear (a b c : Nat) (w : World) (ha : a < 18446744073709551616) (hb : b < 18446744073709551616) :
    Calls Tryz.prog 20 #[.int .u64 (a : Int), .int .u64 (b : Int), .int .u64 (c : Int)] w fun e w' => e = .returned (.bool (nearN a b c)) ∧ w' = w := by
  rcases Nat.lt_trichotomy a b with h1 | h1 | h1
  · have H : Hid (nearN a b c = decide (b - a ≤ c)) := by unfold Hid nearN; rw [if_pos h1]
    have i1 : (a : Int) < (b : Int) := by omega
    have i2 : ¬ (b : Int) < (a : Int) := by omega
    clear h1
    go_enter Tryz.func20, Tryz.ntmps20
    go_wp2
    go_ret
    exact ⟨ret_b (by rw [H.out, decide_eq_decide]; omega), rfl⟩
  · have H : Hid (nearN a b c = decide (a - b ≤ c)) := by unfold Hid nearN; rw [if_neg (by omega)]
    subst h1
    go_enter Tryz.func20, Tryz.ntmps20
    go_wp2
    go_ret
    exact ⟨ret_b (by rw [H.out]; simp), rfl⟩
  · have H : Hid (nearN a b c = decide (a - b ≤ c)) := by unfold Hid nearN; rw [if_neg (by omega)]
    have i1 : (b : Int) < (a : Int) := by omega
    have i2 : ¬ (a : Int) < (b : Int) := by omega
    clear h1
    go_enter Tryz.func20, Tryz.ntmps20
    go_wp2
    go_ret
    exact ⟨ret_b (by rw [H.out, decide_eq_decide]; omega), rfl⟩
end Go.Proofs.YtgjmaeodgcigdabGreatDoor
namespace Go.Proofs.YtgjmaeodgcigdabGreatDoor
open Go.RowKit

/-- are two lists of bytes the same? -/
def eqB (l m : List UInt8) : Bool := l == m

/-- are the first k bytes the same? -/
def sameTo (x y : List UInt8) (k : Nat) : Bool := decide (∀ i, i < k → nth x i = nth y i)

theorem sameTo_zero (x y : List UInt8) : sameTo x y 0 = true := by simp [sameTo]
theorem sameTo_succ (x y : List UInt8) (k : Nat) : sameTo x y (k + 1) = (sameTo x y k && decide (nth x k = nth y k)) := by
  unfold sameTo
  rw [Bool.eq_iff_iff]
  simp only [decide_eq_true_eq, Bool.and_eq_true]
  constructor
  · intro h; exact ⟨fun i hi => h i (by omega), h k (by omega)⟩
  · rintro ⟨h1, h2⟩ i hi
    by_cases e : i = k
    · subst e; exact h2
    · exact h1 i (by omega)
theorem sameTo_whole (x y : List UInt8) (h : x.length = y.length) : sameTo x y x.length = eqB x y := by
  unfold sameTo eqB
  rw [Bool.eq_iff_iff]
  simp only [decide_eq_true_eq, beq_iff_eq]
  constructor
  · intro hs
    apply List.ext_getElem h
    intro i h1 h2
    have := hs i h1
    rwa [nth_eq x i h1, nth_eq y i h2] at this
  · rintro rfl i _; rfl
theorem sameTo_no (x y : List UInt8) (k : Nat) (hf : nth x k ≠ nth y k) : eqB x y = false := by
  unfold eqB
  rw [beq_eq_false_iff_ne]
  rintro rfl; exact hf rfl
theorem eqB_len (x y : List UInt8) (h : x.length ≠ y.length) : eqB x y = false := by
  unfold eqB
  rw [beq_eq_false_iff_ne]
  rintro rfl; exact h rfl
theorem eqB_self (x : List UInt8) : eqB x x = true := by simp [eqB]

theorem ret_bool {a b : Bool} (h : a = b) : Ending.returned (.bool a) = .returned (.bool b) := by rw [h]
end Go.Proofs.YtgjmaeodgcigdabGreatDoor
namespace Go.Proofs.YtgjmaeodgcigdabGreatDoor
open Go.RowKit

/-- what is gathered of the differences -/
def gath (x y : List UInt8) : Nat → UInt8
  | 0 => 0
  | k + 1 => gath x y k ||| (nth x k ^^^ nth y k)
theorem gath_zero (x y : List UInt8) (k : Nat) : gath x y k = 0 ↔ sameTo x y k = true := by
  induction k with
  | zero => simp [gath, sameTo_zero]
  | succ k ih => rw [gath, or_xor_zero, ih, sameTo_succ]; simp

set_option maxHeartbeats 400000 in
theorem digSame (a0 : Option Addr) (len0 cap0 : Nat) (l : List UInt8) (a1 : Option Addr) (len1 cap1 : Nat) (m : List UInt8) (w : World) (w0 : IsB w a0 len0 cap0 l) (w1 : IsB w a1 len1 cap1 m) :
    Calls Tryz.prog 21 #[.slice a0 len0 cap0, .slice a1 len1 cap1] w fun e w' => e = .returned (.bool (eqB l m)) ∧ ∃ n, w' = w.drewN n := by
  have hl0 := w0.le
  have hl1 := w1.le
  have hm0 := w0.max
  have hm1 := w1.max
  have e0 : Hid (l.length = len0) := w0.len_eq
  have e1 : Hid (m.length = len1) := w1.len_eq
  have c0 : Hid (IsB w a0 len0 cap0 l) := w0
  have c1 : Hid (IsB w a1 len1 cap1 m) := w1
  clear w0 w1
  unfold maxLen at hm0 hm1
  by_cases hne : len0 = len1
  · subst hne
    go_enter Tryz.func21, Tryz.ntmps21
    go_wp2
    go_loopw [5, 14] (fun d i w' => ∃ k n : Nat, k ≤ len0 ∧ i = .int .i64 k ∧ d = .int .u8 ((gath l m k).toNat : Int) ∧ w' = w.drewN n) (fun _ i _ => len0 - (intOf i).toNat)
    case atStart => exact ⟨0, 0, Nat.zero_le _, rfl, rfl, rfl⟩
    case round =>
      obtain ⟨k, n, hk, rfl, rfl, rfl⟩ := hrel
      by_cases hlt : k < len0
      · obtain ⟨b0, o0, rfl, hc0⟩ := c0.out.cells (by omega)
        obtain ⟨b1, o1, rfl, hc1⟩ := c1.out.cells (by omega)
        have g0 := hc0 k hlt
        have g1 := hc1 k hlt
        clear hc0 hc1
        have hlt' : (k : Int) < (len0 : Int) := by omega
        go_wp2
        go_quiet (fail)
        go_wp2
        go_roundw
        case rel => exact ⟨k + 1, _, by omega, by go_num, by rw [bits_xor8, bits_or8]; rfl, rfl⟩
        case measure => simp [intOf]; omega
      · go_wp2
        go_ret
        have : k = len0 := by omega
        subst this
        refine ⟨ret_bool ?_, _, rfl⟩
        rw [← sameTo_whole l m (by rw [e0.out, e1.out]), e0.out, Bool.eq_iff_iff, toNat8_zero]; exact gath_zero l m k
  · have hne' : ((len0 : Int) != (len1 : Int)) = true := by rw [bne_iff_ne]; omega
    go_enter Tryz.func21, Tryz.ntmps21
    go_wp2
    go_ret
    exact ⟨ret_bool (eqB_len l m (by rw [e0.out, e1.out]; exact hne)).symm, 0, rfl⟩
end Go.Proofs.YtgjmaeodgcigdabGreatDoor
