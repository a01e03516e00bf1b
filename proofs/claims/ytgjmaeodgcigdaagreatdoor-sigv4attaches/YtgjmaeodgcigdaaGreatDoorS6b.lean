/- What the document's Canonical answers. -/
import Derived.Test.YtgjmaeodgcigdaaGreatDoorB9
import Derived.Test.YtgjmaeodgcigdaaGreatDoorRefSha
import Derived.Test.YtgjmaeodgcigdaaGreatDoorB12
import Derived.Test.YtgjmaeodgcigdaaGreatDoorB13
import Derived.Test.YtgjmaeodgcigdaaGreatDoorB14
import Derived.Test.YtgjmaeodgcigdaaGreatDoorRefCanon
import Derived.Test.YtgjmaeodgcigdaaGreatDoorB15
import Derived.Test.YtgjmaeodgcigdaaGreatDoorB19
import Derived.Deep.CutRange
namespace Go.Proofs.YtgjmaeodgcigdaaGreatDoor
open Go.RowKit

theorem canon_no1 {r : Rq} {ts : List (List UInt8)} (h : namesL ts = false) : canonE r ts = 11 ∧ canonT r ts = [] := by
  have : canonE r ts = 11 := by unfold canonE; rw [if_pos h]
  exact ⟨this, by unfold canonT; rw [this]; rfl⟩
theorem canon_no2 {r : Rq} {ts : List (List UInt8)} (h1 : namesL ts = true) (h : hasAll r.hs ts = false) : canonE r ts = 11 ∧ canonT r ts = [] := by
  have : canonE r ts = 11 := by unfold canonE; rw [h1, if_neg (by decide), if_pos h]
  exact ⟨this, by unfold canonT; rw [this]; rfl⟩
theorem canon_no3 {r : Rq} {ts : List (List UInt8)} (h1 : namesL ts = true) (h2 : hasAll r.hs ts = true) (h : ¬ (decC r.p = 0 ∧ queryC r.q = 0)) : canonE r ts = 13 ∧ canonT r ts = [] := by
  have : canonE r ts = 13 := by unfold canonE; rw [h1, if_neg (by decide), h2, if_neg (by decide), if_neg h]
  exact ⟨this, by unfold canonT; rw [this]; rfl⟩
theorem canon_yes {r : Rq} {ts : List (List UInt8)} (h1 : namesL ts = true) (h2 : hasAll r.hs ts = true) (h : decC r.p = 0 ∧ queryC r.q = 0) : canonE r ts = 0 ∧ canonT r ts = canonX r ts := by
  have : canonE r ts = 0 := by unfold canonE; rw [h1, if_neg (by decide), h2, if_neg (by decide), if_pos h]
  exact ⟨this, by unfold canonT; rw [this, if_pos rfl]⟩
theorem ret_se6 {a b : ByteArray} {e f : Int} (h : a = b) (h2 : e = f) : Ending.returned (.tuple #[.string a, .int .i64 e]) = .returned (.tuple #[.string b, .int .i64 f]) := by rw [h, h2]
theorem decS_len (l : List UInt8) : (decS l).length ≤ l.length := by
  unfold decS
  cases h : decL l with
  | none => exact Nat.zero_le _
  | some m => exact decL_length _ l m (Nat.le_refl _) h
theorem decC_cases (l : List UInt8) : decC l = 0 ∨ decC l = 13 := by unfold decC; split <;> simp
theorem queryC_cases (l : List UInt8) : queryC l = 0 ∨ queryC l = 13 := by unfold queryC; split <;> simp
theorem queryP_facts (q : List UInt8) (hq : q.length ≤ 30000) : (queryP q).length ≤ 24 ∧ ∀ p ∈ queryP q, p.1.length ≤ 30000 ∧ p.2.length ≤ 30000 := by
  cases h : queryL q with
  | none => rw [(query_none h).1]; exact ⟨by decide, fun p hp => by cases hp⟩
  | some l =>
    rw [(query_some h).1]
    exact ⟨(query_good h).2, fun p hp => by have := query_len h p hp; omega⟩

set_option maxRecDepth 20000 in
set_option maxHeartbeats 4000000 in
theorem refCanonical (m p q : List UInt8) (ha : Option Addr) (hn hc : Nat) (hs : List Pr) (ba : Option Addr) (bn bc : Nat) (bd : List UInt8) (ta : Option Addr) (tn tc : Nat) (ts : List (List UInt8)) (w : World)
    (hP : IsP w ha hn hc hs) (hB : IsB w ba bn bc bd) (hT : IsT w ta tn tc ts) (zm : m.length ≤ 30000) (zp : p.length ≤ 30000) (zq : q.length ≤ 30000) (zb : bn ≤ 30000) (zh : ∀ i, i < hs.length → (nthP hs i).2.length ≤ 30000) (zt : ∀ i, i < ts.length → (nthT ts i).length ≤ 140737488351232) :
    Calls Tryz.prog 13 #[.agg #[.string (str m), .string (str p), .string (str q), .slice ha hn hc, .slice ba bn bc], .slice ta tn tc] w fun e w' => e = .returned (.tuple #[.string (str (canonT ⟨m, p, q, hs, bd⟩ ts)), .int .i64 (canonE ⟨m, p, q, hs, bd⟩ ts)]) ∧ Below w.heap.size w w' := by
  have T0 : Below w.heap.size w (w.alloc (.cells #[.string (str m), .string (str p), .string (str q), .slice ha hn hc, .slice ba bn bc] 25)) := (Below.refl _ w).alloc (Nat.le_refl _) _
  have K0 := Blk.newAt w w.heap.size 25 _ [.string (str m), .string (str p), .string (str q), .slice ha hn hc, .slice ba bn bc] rfl rfl
  have HN := refNames ta tn tc ts _ (hT.below T0 rfl) zt
  have HL := hT.len_eq
  have HTw : Hid (∀ W, Below w.heap.size w W → IsT W ta tn tc ts) := fun W hW => hT.below hW rfl
  have HPw : Hid (∀ W, Below w.heap.size w W → IsP W ha hn hc hs) := fun W hW => hP.below hW rfl
  have HBw : Hid (∀ W, Below w.heap.size w W → IsB W ba bn bc bd) := fun W hW => hB.below hW rfl
  have hni : tn ≤ 9223372036854775807 := by have := hT.le; have := hT.max; unfold maxLen at this; omega
  clear hP hB hT
  cases hnm : namesL ts with
  | false =>
    obtain ⟨e1, e2⟩ := canon_no1 (r := ⟨m, p, q, hs, bd⟩) hnm
    rw [e1, e2, show str [] = (⟨#[]⟩ : ByteArray) from rfl]
    rw [hnm] at HN
    clear e1 e2
    go_enter Tryz.func13, Tryz.ntmps13
    go_wp2_with (go_at_call 40; refine HN.mono ?_; rintro e w1 ⟨rfl, hb1⟩)
    go_ret2
    exact ⟨rfl, T0.trans (hb1.mono T0.size)⟩
  | true =>
    rw [hnm] at HN
    obtain ⟨nl, n24⟩ := names_facts hnm
    rw [HL] at n24
    have HLn : Hid (∀ k, k ≤ tn → (linesTo hs ts k).length ≤ 1000000) := fun k hk => by
      have h1 := lines_len 30000 zh nl k (by omega)
      have h2 : k * (30000 + 66) ≤ 24 * (30000 + 66) := Nat.mul_le_mul_right _ (by omega)
      omega
    have HNO : Hid (hasAll hs ts = false → canonE ⟨m, p, q, hs, bd⟩ ts = 11 ∧ canonT ⟨m, p, q, hs, bd⟩ ts = []) := fun h => canon_no2 (r := ⟨m, p, q, hs, bd⟩) hnm h
    have HN3 : Hid (hasAll hs ts = true → ¬ (decC p = 0 ∧ queryC q = 0) → canonE ⟨m, p, q, hs, bd⟩ ts = 13 ∧ canonT ⟨m, p, q, hs, bd⟩ ts = []) := fun h h' => canon_no3 (r := ⟨m, p, q, hs, bd⟩) hnm h h'
    have HYE : Hid (hasAll hs ts = true → decC p = 0 ∧ queryC q = 0 → canonE ⟨m, p, q, hs, bd⟩ ts = 0 ∧ canonT ⟨m, p, q, hs, bd⟩ ts = canonX ⟨m, p, q, hs, bd⟩ ts) := fun h h' => canon_yes (r := ⟨m, p, q, hs, bd⟩) hnm h h'
    generalize hce : canonE ⟨m, p, q, hs, bd⟩ ts = ce at *
    generalize hct : canonT ⟨m, p, q, hs, bd⟩ ts = ct at *
    clear hce hct
    go_enter Tryz.func13, Tryz.ntmps13
    go_wp2_with (go_at_call 40; refine HN.mono ?_; rintro e w1 ⟨rfl, hb1⟩)
    have T1 : Below w.heap.size w w1 := T0.trans (hb1.mono T0.size)
    have K1 := K0.on hb1
    clear HN T0 K0 hb1
    go_loopw [6, 7] (fun v i wr => ∃ (k : Nat), k ≤ tn ∧ i = .int .i64 k ∧ v = .string (str (linesTo hs ts k)) ∧ Hid ((ts.take k).all (fun t => (findL hs t).isSome) = true) ∧ Hid (Below w.heap.size w wr ∧ Blk wr w.heap.size 25 [.string (str m), .string (str p), .string (str q), .slice ha hn hc, .slice ba bn bc])) (fun _ i _ => tn - (intOf i).toNat)
    case atStart => exact ⟨0, Nat.zero_le _, rfl, rfl, rfl, T1, K1⟩
    case round =>
      obtain ⟨k, hk, rfl, rfl, HD, HW⟩ := hrel
      clear T1 K1
      by_cases hlt : k < tn
      · obtain ⟨b, off, rfl, hcl⟩ := (HTw.out wr HW.out.1).cells (by omega)
        have c1 := hcl k hlt
        have hb0 : (0 : Int) ≤ (k : Int) := by omega
        have hb1 : (k : Int) < (tn : Int) := by omega
        have hkl : k < ts.length := by rw [HL]; exact hlt
        have HG : ∀ W, Below w.heap.size w W → Calls Tryz.prog 41 #[.agg #[.string (str m), .string (str p), .string (str q), .slice ha hn hc, .slice ba bn bc], .string (str (nthT ts k))] W fun e w' => e = .returned (.tuple #[.string (str ((findL hs (nthT ts k)).getD [])), .bool (findL hs (nthT ts k)).isSome]) ∧ Below W.heap.size W w' := fun W hW => refGet (.string (str m)) (.string (str p)) (.string (str q)) (.slice ba bn bc) ha hn hc hs (nthT ts k) W (HPw.out W hW)
        have hKr := HW.out.2
        have hbl : b < wr.heap.size := cell_lt c1
        have HKP0 : ∀ w', Below wr.heap.size wr w' → Blk w' w.heap.size 25 [.string (str m), .string (str p), .string (str q), .slice ha hn hc, .slice ba bn bc] ∧ w'.cell? ⟨b, off + k, none⟩ = some (.string (str (nthT ts k))) := fun w' hb => ⟨hKr.on hb, (hb.cell (p := ⟨b, off + k, none⟩) hbl).trans c1⟩
        cases hf : findL hs (nthT ts k) with
        | none =>
          obtain ⟨e1, e2⟩ := HNO.out (has_no6 hkl hf)
          rw [hf] at HG
          have HE1 : Hid (ce = 11) := e1
          have HE2 : Hid (ct = []) := e2
          clear HNO HN3 HYE e1 e2 hcl c1 HL hKr
          generalize str m = sm at *
          generalize str p = sp at *
          generalize str q = sq at *
          generalize str (nthT ts k) = s1 at *
          have HKP : ∀ w', Below wr.heap.size wr w' → Below wr.heap.size wr w' ∧ w'.cell? ⟨w.heap.size, 0, none⟩ = some (.string sm) ∧ w'.cell? ⟨w.heap.size, 1, none⟩ = some (.string sp) ∧ w'.cell? ⟨w.heap.size, 2, none⟩ = some (.string sq) ∧ w'.cell? ⟨w.heap.size, 3, none⟩ = some (.slice ha hn hc) ∧ w'.cell? ⟨w.heap.size, 4, none⟩ = some (.slice ba bn bc) ∧ w'.cell? ⟨b, off + k, none⟩ = some (.string s1) := fun w' hb => ⟨hb, (HKP0 w' hb).1.cell 0, (HKP0 w' hb).1.cell 1, (HKP0 w' hb).1.cell 2, (HKP0 w' hb).1.cell 3, (HKP0 w' hb).1.cell 4, (HKP0 w' hb).2⟩
          clear HKP0
          change ∀ W, Below w.heap.size w W → Calls Tryz.prog 41 _ W fun e w' => e = .returned (.tuple #[.string ⟨#[]⟩, .bool false]) ∧ Below W.heap.size W w' at HG
          go_wp2
          go_region_held3 (fun w' => Below wr.heap.size wr w' ∧ w'.cell? ⟨w.heap.size, 0, none⟩ = some (.string sm) ∧ w'.cell? ⟨w.heap.size, 1, none⟩ = some (.string sp) ∧ w'.cell? ⟨w.heap.size, 2, none⟩ = some (.string sq) ∧ w'.cell? ⟨w.heap.size, 3, none⟩ = some (.slice ha hn hc) ∧ w'.cell? ⟨w.heap.size, 4, none⟩ = some (.slice ba bn bc) ∧ w'.cell? ⟨b, off + k, none⟩ = some (.string s1))
            (first | exact HKP _ ((Below.refl _ wr).drew) | assumption | (have hq0 := ‹Below _ _ _ ∧ _›; exact HKP _ (hq0.1.trans (hbx.mono hq0.1.size))))
            (first | (go_at_call 41; have hq0 := ‹Below _ _ _ ∧ _›; refine (HG _ (HW.out.1.trans (hq0.1.mono HW.out.1.size))).mono ?_; rintro e w3 ⟨rfl, hbx⟩; clear hq0))
          all_goals
            have hq9 := ‹Below _ _ _ ∧ _›
            go_wp2
            go_ret2
            exact ⟨ret_se6 (by rw [HE2.out]; rfl) HE1.out.symm, HW.out.1.trans (hq9.1.mono HW.out.1.size)⟩
        | some vv =>
          rw [hf] at HG
          have HA : Hid ((ts.take (k + 1)).all (fun t => (findL hs t).isSome) = true) := by unfold Hid; rw [takeT ts k hkl, List.all_append, HD.out]; simp [hf]
          have HT : Hid (str (linesTo hs ts k) ++ str (nthT ts k) ++ ⟨#[58]⟩ ++ str vv ++ ⟨#[10]⟩ = str (linesTo hs ts (k + 1))) := by
            unfold Hid
            rw [show (⟨#[58]⟩ : ByteArray) = str [58] from rfl, show (⟨#[10]⟩ : ByteArray) = str [10] from rfl, str_append2, str_append2, str_append2, str_append2, linesTo]
            unfold lineT
            rw [hf]
            simp only [Option.getD_some, List.append_assoc]
          have l1 := HLn.out k hk
          have l2 := nl k hkl
          have l3 : vv.length ≤ 30000 := by
            obtain ⟨i, hi, e⟩ := find_mem6 hf
            have := zh i hi
            rw [e] at this; exact this
          have z1 : ¬ 9223372036854775807 < (str (linesTo hs ts k)).size + (str (nthT ts k)).size := by rw [str_size, str_size]; omega
          have z2 : ¬ 9223372036854775807 < (str (linesTo hs ts k)).size + (str (nthT ts k)).size + 1 := by rw [str_size, str_size]; omega
          have z3 : ¬ 9223372036854775807 < (str (linesTo hs ts k)).size + (str (nthT ts k)).size + 1 + (str vv).size := by rw [str_size, str_size, str_size]; omega
          have z4 : ¬ 9223372036854775807 < (str (linesTo hs ts k)).size + (str (nthT ts k)).size + 1 + (str vv).size + 1 := by rw [str_size, str_size, str_size]; omega
          have HKB : Hid (∀ w', Below wr.heap.size wr w' → Blk w' w.heap.size 25 [.string (str m), .string (str p), .string (str q), .slice ha hn hc, .slice ba bn bc]) := fun w' hb => (HKP0 w' hb).1
          clear HNO HN3 HYE hcl HL l1 l2 l3 hf hKr
          generalize str m = sm at *
          generalize str p = sp at *
          generalize str q = sq at *
          generalize str (nthT ts k) = s1 at *
          generalize str (linesTo hs ts k) = s0 at *
          have HKP : ∀ w', Below wr.heap.size wr w' → Below wr.heap.size wr w' ∧ w'.cell? ⟨w.heap.size, 0, none⟩ = some (.string sm) ∧ w'.cell? ⟨w.heap.size, 1, none⟩ = some (.string sp) ∧ w'.cell? ⟨w.heap.size, 2, none⟩ = some (.string sq) ∧ w'.cell? ⟨w.heap.size, 3, none⟩ = some (.slice ha hn hc) ∧ w'.cell? ⟨w.heap.size, 4, none⟩ = some (.slice ba bn bc) ∧ w'.cell? ⟨b, off + k, none⟩ = some (.string s1) := fun w' hb => ⟨hb, (HKP0 w' hb).1.cell 0, (HKP0 w' hb).1.cell 1, (HKP0 w' hb).1.cell 2, (HKP0 w' hb).1.cell 3, (HKP0 w' hb).1.cell 4, (HKP0 w' hb).2⟩
          clear HKP0
          change ∀ W, Below w.heap.size w W → Calls Tryz.prog 41 _ W fun e w' => e = .returned (.tuple #[.string (str vv), .bool true]) ∧ Below W.heap.size W w' at HG
          generalize str vv = sv2 at *
          go_wp2
          go_region_held3 (fun w' => Below wr.heap.size wr w' ∧ w'.cell? ⟨w.heap.size, 0, none⟩ = some (.string sm) ∧ w'.cell? ⟨w.heap.size, 1, none⟩ = some (.string sp) ∧ w'.cell? ⟨w.heap.size, 2, none⟩ = some (.string sq) ∧ w'.cell? ⟨w.heap.size, 3, none⟩ = some (.slice ha hn hc) ∧ w'.cell? ⟨w.heap.size, 4, none⟩ = some (.slice ba bn bc) ∧ w'.cell? ⟨b, off + k, none⟩ = some (.string s1))
            (first | exact HKP _ ((Below.refl _ wr).drew) | assumption | (have hq0 := ‹Below _ _ _ ∧ _›; exact HKP _ (hq0.1.trans (hbx.mono hq0.1.size))))
            (first | (go_at_call 41; have hq0 := ‹Below _ _ _ ∧ _›; refine (HG _ (HW.out.1.trans (hq0.1.mono HW.out.1.size))).mono ?_; rintro e w3 ⟨rfl, hbx⟩; clear hq0))
          all_goals
            have hq9 := ‹Below _ _ _ ∧ _›
            obtain ⟨hB9, -, -, -, -, -, hc9⟩ := hq9
            go_wp2
            go_roundw
            case rel => exact ⟨k + 1, hlt, by go_num, by rw [HT.out], HA, HW.out.1.trans (hB9.mono HW.out.1.size), HKB.out _ hB9⟩
            case measure => simp [intOf]; omega
      · have hge : ¬ (k : Int) < (tn : Int) := by omega
        have hkn : k = tn := by omega
        subst hkn
        have hall : hasAll hs ts = true := by
          have := HD.out
          rw [List.take_of_length_le (by rw [HL]; exact Nat.le_refl _)] at this
          exact this
        have HN3' := HN3.out hall
        have HYE' := HYE.out hall
        obtain ⟨qn, qz⟩ := queryP_facts q zq
        have HDe : ∀ W, Calls Tryz.prog 42 #[.string (str p)] W fun e w' => e = .returned (.tuple #[.string (str (decS p)), .int .i64 (decC p)]) ∧ Below W.heap.size W w' := fun W => refDecodeL p W (by omega)
        have HQu : ∀ W, Calls Tryz.prog 43 #[.string (str q)] W fun e w' => (∃ qa qm qc, e = .returned (.tuple #[.slice qa qm qc, .int .i64 (queryC q)]) ∧ IsP w' qa qm qc (queryP q)) ∧ Below W.heap.size W w' := fun W => by
          have := refQuery (str q) W (by rw [str_size]; omega)
          rw [str_list] at this
          exact this
        have HEn : ∀ W, Calls Tryz.prog 44 #[.string (str (decS p)), .bool true] W fun e w' => e = .returned (.string (str (encL true (decS p)))) ∧ Below W.heap.size W w' := fun W => by
          have := refEncode (str (decS p)) true W (by rw [str_size]; have := decS_len p; omega)
          rw [str_list] at this
          exact this
        have HCa : ∀ qa qm qc W, IsP W qa qm qc (queryP q) → Calls Tryz.prog 45 #[.slice qa qm qc] W fun e w' => e = .returned (.string (str (canonL (queryP q)))) ∧ Below W.heap.size W w' := fun qa qm qc W hi => refCanon qa qm qc (queryP q) W hi (by have := hi.len_eq; omega) qz
        have HJo : ∀ W, Below w.heap.size w W → Calls Tryz.prog 46 #[.slice ta k tc, .string ⟨#[59]⟩] W fun e w' => e = .returned (.string (str (joinS [59] ts))) ∧ w' = W := fun W hW => refJoin ta k tc ts [59] W (HTw.out W hW) (by omega) (by decide) (fun i hi => by have := nl i hi; omega)
        have HSh : ∀ W, Below w.heap.size w W → Calls Tryz.prog 48 #[.slice ba bn bc] W fun e w' => (∃ va vc, e = .returned (.slice va 32 vc) ∧ IsB w' va 32 vc (sha256L bd)) ∧ Below W.heap.size W w' := fun W hW => (refSha256 ba bn bc bd W (HBw.out W hW) (by omega)).mono (by
          rintro e w' ⟨v, rfl, ho, hb⟩
          obtain ⟨va, vc, rfl, hi⟩ := ho.isB
          rw [sha256L_length] at hi ⊢
          exact ⟨⟨va, vc, rfl, hi⟩, hb⟩)
        have HHx : ∀ va vc W, IsB W va 32 vc (sha256L bd) → Calls Tryz.prog 47 #[.slice va 32 vc] W fun e w' => e = .returned (.string (str (hexL (sha256L bd)))) ∧ Below W.heap.size W w' := fun va vc W hi => refHex va 32 vc (sha256L bd) W hi (by omega)
        have l1 := encL_length true (decS p)
        have l2 := decS_len p
        have l3 := canon_len qz
        have l3' : (queryP q).length * 180002 ≤ 24 * 180002 := Nat.mul_le_mul_right _ qn
        have l4 := HLn.out k (Nat.le_refl _)
        have l5 : (joinS [59] ts).length ≤ 10000 := by
          have h1 := joinTo_le [59] ts 64 nl ts.length (Nat.le_refl _)
          have h2 : ts.length * (64 + 1) ≤ 24 * (64 + 1) := Nat.mul_le_mul_right _ (by omega)
          unfold joinS
          have h3 : ([59] : List UInt8).length = 1 := rfl
          rw [h3] at h1
          omega
        have l6 : (hexL (sha256L bd)).length = 64 := by rw [hexL_length, sha256L_length]
        have y1 : ¬ 9223372036854775807 < (str m).size + 1 := by rw [str_size]; omega
        have y2 : ¬ 9223372036854775807 < (str m).size + 1 + (str (encL true (decS p))).size := by rw [str_size, str_size]; omega
        have y3 : ¬ 9223372036854775807 < (str m).size + 1 + (str (encL true (decS p))).size + 1 := by rw [str_size, str_size]; omega
        have y4 : ¬ 9223372036854775807 < (str m).size + 1 + (str (encL true (decS p))).size + 1 + (str (canonL (queryP q))).size := by rw [str_size, str_size, str_size]; omega
        have y5 : ¬ 9223372036854775807 < (str m).size + 1 + (str (encL true (decS p))).size + 1 + (str (canonL (queryP q))).size + 1 := by rw [str_size, str_size, str_size]; omega
        have HH : str m ++ ⟨#[10]⟩ ++ str (encL true (decS p)) ++ ⟨#[10]⟩ ++ str (canonL (queryP q)) ++ ⟨#[10]⟩ = str (m ++ [10] ++ encL true (decS p) ++ [10] ++ canonL (queryP q) ++ [10]) := by
          rw [show (⟨#[10]⟩ : ByteArray) = str [10] from rfl, str_append2, str_append2, str_append2, str_append2, str_append2]
        have HX : Hid (str (m ++ [10] ++ encL true (decS p) ++ [10] ++ canonL (queryP q) ++ [10]) ++ str (linesTo hs ts k) ++ ⟨#[10]⟩ ++ str (joinS [59] ts) ++ ⟨#[10]⟩ ++ str (hexL (sha256L bd)) = str (canonX ⟨m, p, q, hs, bd⟩ ts)) := by
          unfold Hid canonX
          dsimp only
          rw [show (⟨#[10]⟩ : ByteArray) = str [10] from rfl, str_append2, str_append2, str_append2, str_append2, str_append2, HL]
        have lh : (m ++ [10] ++ encL true (decS p) ++ [10] ++ canonL (queryP q) ++ [10]).length ≤ 5000000 := by simp only [List.length_append, List.length_cons, List.length_nil]; omega
        generalize m ++ [10] ++ encL true (decS p) ++ [10] ++ canonL (queryP q) ++ [10] = hd at *
        have x1 : ¬ 9223372036854775807 < (str hd).size + (str (linesTo hs ts k)).size := by rw [str_size, str_size]; omega
        have x2 : ¬ 9223372036854775807 < (str hd).size + (str (linesTo hs ts k)).size + 1 := by rw [str_size, str_size]; omega
        have x3 : ¬ 9223372036854775807 < (str hd).size + (str (linesTo hs ts k)).size + 1 + (str (joinS [59] ts)).size := by rw [str_size, str_size, str_size]; omega
        have x4 : ¬ 9223372036854775807 < (str hd).size + (str (linesTo hs ts k)).size + 1 + (str (joinS [59] ts)).size + 1 := by rw [str_size, str_size, str_size]; omega
        have x5 : ¬ 9223372036854775807 < (str hd).size + (str (linesTo hs ts k)).size + 1 + (str (joinS [59] ts)).size + 1 + (str (hexL (sha256L bd))).size := by rw [str_size, str_size, str_size, str_size]; omega
        have hKr := HW.out.2
        have c1 : wr.cell? ⟨w.heap.size, 1, none⟩ = some (.string (str p)) := hKr.cell 1
        clear l1 l2 l3 l3' l4 l5 l6 lh qz qn HLn HNO HN3 HYE HD
        by_cases hok : decC p = 0 ∧ queryC q = 0
        · obtain ⟨e1, e2⟩ := HYE' hok
          have HE1 : Hid (ce = 0) := e1
          have HE2 : Hid (ct = canonX ⟨m, p, q, hs, bd⟩ ts) := e2
          rw [hok.1] at HDe
          rw [hok.2] at HQu
          clear HN3' HYE' e1 e2 hok
          go_upto_region 15 with (first | (go_at_call 42; refine (HDe _).mono ?_; rintro e w3 ⟨rfl, hb3⟩; have hK3 := hKr.on hb3; have c2 : w3.cell? ⟨w.heap.size, 2, none⟩ = some (.string (str q)) := hK3.cell 2) | (go_at_call 43; refine (HQu _).mono ?_; rintro e w4 ⟨⟨qa, qm, qc, rfl, hi4⟩, hb4⟩))
          have T4 : Below w.heap.size w w4 := (HW.out.1.trans (hb3.mono HW.out.1.size)).trans (hb4.mono (HW.out.1.trans (hb3.mono HW.out.1.size)).size)
          have K4 := hK3.on hb4
          have HKP : ∀ w', Below w4.heap.size w4 w' → Below w4.heap.size w4 w' ∧ w'.cell? ⟨w.heap.size, 0, none⟩ = some (.string (str m)) := fun w' hb => ⟨hb, (K4.on hb).cell 0⟩
          have HK4 : Hid (∀ w', Below w4.heap.size w4 w' → Blk w' w.heap.size 25 [.string (str m), .string (str p), .string (str q), .slice ha hn hc, .slice ba bn bc]) := fun w' hb => K4.on hb
          clear HDe HQu hKr c1 c2 hK3 K4
          generalize str m = sm at *
          generalize str (encL true (decS p)) = se at *
          generalize str (canonL (queryP q)) = sc at *
          generalize str (decS p) = sd at *
          generalize str hd = sh at *
          generalize str (linesTo hs ts k) = sl at *
          generalize str (joinS [59] ts) = sj at *
          generalize str (hexL (sha256L bd)) = sx at *
          go_region_held3 (fun w' => Below w4.heap.size w4 w' ∧ w'.cell? ⟨w.heap.size, 0, none⟩ = some (.string sm))
            (first | exact HKP _ ((Below.refl _ w4).drew) | assumption | (have hq0 := ‹Below _ _ _ ∧ _›; exact HKP _ (hq0.1.trans (hbx.mono hq0.1.size))))
            (first | (go_at_call 44; refine (HEn _).mono ?_; rintro e w5 ⟨rfl, hbx⟩) | (go_at_call 45; have hq0 := ‹Below _ _ _ ∧ _›; refine (HCa _ _ _ _ (hi4.below hq0.1 rfl)).mono ?_; rintro e w6 ⟨rfl, hbx⟩; clear hq0))
          all_goals
            have hq9 := ‹Below _ _ _ ∧ _›
            have T6 : Below w.heap.size w w6 := T4.trans (hq9.1.mono T4.size)
            have K6 := HK4.out _ hq9.1
            have HKQ : ∀ w', Below w6.heap.size w6 w' → Below w6.heap.size w6 w' ∧ w'.cell? ⟨w.heap.size, 4, none⟩ = some (.slice ba bn bc) := fun w' hb => ⟨hb, (K6.on hb).cell 4⟩
            clear hq9 HKP HK4 K6
            go_upto_region 16 with fail
            go_region_held3 (fun w' => Below w6.heap.size w6 w' ∧ w'.cell? ⟨w.heap.size, 4, none⟩ = some (.slice ba bn bc))
              (first | exact HKQ _ ((Below.refl _ w6).drew) | assumption | (have hq0 := ‹Below _ _ _ ∧ _›; exact HKQ _ (hq0.1.trans (hby.mono hq0.1.size))))
              (first | (go_at_call 46; have hq0 := ‹Below _ _ _ ∧ _›; refine (HJo _ (T6.trans (hq0.1.mono T6.size))).mono ?_; rintro e w7 ⟨rfl, hww⟩; rw [hww]; clear hww w7 hq0) | (go_at_call 48; have hq0 := ‹Below _ _ _ ∧ _›; refine (HSh _ (T6.trans (hq0.1.mono T6.size))).mono ?_; rintro e w8 ⟨⟨va8, vc8, rfl, hi8⟩, hby⟩; clear hq0) | (go_at_call 47; refine (HHx _ _ _ hi8).mono ?_; rintro e w9 ⟨rfl, hby⟩))
            all_goals
              have hq9 := ‹Below _ _ _ ∧ _›
              go_wp2
              go_ret2
              exact ⟨ret_se6 (by rw [HX.out, HE2.out]) HE1.out.symm, T6.trans (hq9.1.mono T6.size)⟩
        · obtain ⟨e1, e2⟩ := HN3' hok
          have HE1 : Hid (ce = 13) := e1
          have HE2 : Hid (ct = []) := e2
          clear HN3' HYE' e1 e2 HH
          by_cases hd0 : decC p = 0
          · have hq13 : queryC q = 13 := by rcases queryC_cases q with h | h; exact absurd ⟨hd0, h⟩ hok; exact h
            rw [hd0] at HDe
            rw [hq13] at HQu
            go_wp2_with (first | (go_at_call 42; refine (HDe _).mono ?_; rintro e w3 ⟨rfl, hb3⟩; have hK3 := hKr.on hb3; have c2 : w3.cell? ⟨w.heap.size, 2, none⟩ = some (.string (str q)) := hK3.cell 2) | (go_at_call 43; refine (HQu _).mono ?_; rintro e w4 ⟨⟨qa, qm, qc, rfl, hi4⟩, hb4⟩))
            go_ret2
            exact ⟨ret_se6 (by rw [HE2.out]; rfl) HE1.out.symm, (HW.out.1.trans (hb3.mono HW.out.1.size)).trans (hb4.mono (HW.out.1.trans (hb3.mono HW.out.1.size)).size)⟩
          · have hd13 : decC p = 13 := by rcases decC_cases p with h | h; exact absurd h hd0; exact h
            rw [hd13] at HDe
            go_wp2_with (first | (go_at_call 42; refine (HDe _).mono ?_; rintro e w3 ⟨rfl, hb3⟩; have hK3 := hKr.on hb3; have c2 : w3.cell? ⟨w.heap.size, 2, none⟩ = some (.string (str q)) := hK3.cell 2) | (go_at_call 43; refine (HQu _).mono ?_; rintro e w4 ⟨⟨qa, qm, qc, rfl, hi4⟩, hb4⟩))
            go_ret2
            exact ⟨ret_se6 (by rw [HE2.out]; rfl) HE1.out.symm, (HW.out.1.trans (hb3.mono HW.out.1.size)).trans (hb4.mono (HW.out.1.trans (hb3.mono HW.out.1.size)).size)⟩
end Go.Proofs.YtgjmaeodgcigdaaGreatDoor
