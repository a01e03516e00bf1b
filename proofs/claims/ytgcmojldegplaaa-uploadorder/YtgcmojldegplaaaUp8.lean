/- The walk of UploadPuts, over any upload that keeps the document. -/
import Derived.Test.YtgcmojldegplaaaUp7
namespace Go.Proofs.Ytgcmojldegplaaa
open Go.RowKit

attribute [local go_sem] undef
def pwL (l : List Pa) (n : Int) (d : List UInt8) : List Pa := if putE16 n d = 0 then putPs l n d else []
def pwU (u : UpH) (n : Int) (d : List UInt8) : UpH := if putE16 n d = 0 then u else ⟨⟨#[]⟩, ⟨#[]⟩, 0, 0⟩
theorem PwPost.form {u : UpH} {l : List Pa} {n : Int} {d : List UInt8} {w : World} {e : Ending} (h : PwPost u l n d w e) :
    ∃ a m cap l', e = .returned (.tuple #[.agg (upc (pwU u n d) (.slice a m cap)).toArray, .int .i64 (putE16 n d)]) ∧ IsPs16 w a m cap l' ∧ l'.map Prod.fst = pwL l n d := by
  unfold pwU pwL
  by_cases h0 : putE16 n d = 0
  · obtain ⟨a, m, cap, l', rfl, hi, he⟩ := h.yes h0
    rw [if_pos h0, if_pos h0, h0]
    exact ⟨a, m, cap, l', rfl, hi, he⟩
  · rw [if_neg h0, if_neg h0]
    exact ⟨none, 0, 0, [], h.no h0, isPs16_none _, rfl⟩
theorem putE_ok {n : Int} {d : List UInt8} (h : putE16 n d = 0) : 1 ≤ n ∧ n ≤ 4 ∧ d.length ≤ 1536 := by
  unfold putE16 at h
  by_cases h1 : n < 1 ∨ 4 < n
  · rw [if_pos h1] at h; cases h
  · rw [if_neg h1] at h
    by_cases h2 : 1536 < d.length
    · rw [if_pos h2] at h; cases h
    · exact ⟨by omega, by omega, by omega⟩
theorem right_go_put : ∀ (l : List Pa) (q n : Int) (d : List UInt8), rightGo q l = true → q < n → 1 ≤ n → n ≤ 4 → d.length ≤ 1536 → rightGo q (putPs l n d) = true
  | [], q, n, d, _, h1, h2, h3, h4 => by
    simp [putPs, rightGo, h1, h2, h3, h4]
  | p :: l, q, n, d, h, h1, h2, h3, h4 => by
    obtain ⟨a, b, c, e, f⟩ := right_cons h
    unfold putPs
    rcases Int.lt_trichotomy p.n n with hlt | heq | hgt
    · rw [List.takeWhile_cons_of_pos (by simpa using hlt), List.dropWhile_cons_of_pos (by simpa using hlt), List.cons_append]
      unfold rightGo
      have := right_go_put l p.n n d f hlt h2 h3 h4
      unfold putPs at this
      rw [this]
      simp [a, b, c, e]
    · rw [List.takeWhile_cons_of_neg (by simp; omega), List.dropWhile_cons_of_neg (by simp; omega), List.dropWhile_cons_of_pos (by simp; omega), List.nil_append]
      have hl : l.dropWhile (fun p => decide (p.n ≤ n)) = l := by
        cases l with
        | nil => rfl
        | cons x l =>
          obtain ⟨_, _, _, e', _⟩ := right_cons f
          rw [List.dropWhile_cons_of_neg (by simp; omega)]
      rw [hl]
      unfold rightGo
      rw [← heq, f]
      simp [a, b, h4, e]
    · rw [List.takeWhile_cons_of_neg (by simp; omega), List.dropWhile_cons_of_neg (by simp; omega), List.dropWhile_cons_of_neg (by simp; omega), List.nil_append]
      have h5 : rightGo n (p :: l) = true := by
        unfold rightGo
        rw [f]
        simp [a, b, c, hgt]
      unfold rightGo
      rw [h5]
      simp [h1, h2, h3, h4]
theorem right_pw (l : List Pa) (n : Int) (d : List UInt8) (h : rightPs l = true) : rightPs (pwL l n d) = true := by
  unfold pwL
  by_cases h0 : putE16 n d = 0
  · rw [if_pos h0]
    obtain ⟨h1, h2, h3⟩ := putE_ok h0
    exact right_go_put l 0 n d h (by omega) h1 h2 h3
  · rw [if_neg h0]; rfl
set_option maxRecDepth 20000 in
set_option maxHeartbeats 8000000 in
theorem puts16 (S : UpOK) (u : UpH) (a : Option Addr) (n cap : Nat) (l : List Pq) (nn : Int) (db : Option Addr) (dm dc : Nat) (data : List UInt8) (w : World) (h : IsPs16 w a n cap l) (hd : IsB w db dm dc data)
    (hl : ∀ p ∈ l, p.1.d.length ≤ 140737488351232) (hn : n ≤ 140737488351232) (hm : dm ≤ 140737488351232) (hnn : -9223372036854775808 ≤ nn ∧ nn ≤ 9223372036854775807) :
    Calls Try.prog 3 #[.agg (upc u (.slice a n cap)).toArray, .int .i64 nn, .slice db dm dc] w fun e w' => e = .returned (.bool true) ∧ Below w.heap.size w w' := by
  have HO := mkHid (OneB.new w 25 (upc u (.slice a n cap)))
  have HX := mkHid h
  have HD := mkHid hd
  have HNn := mkHid hnn
  have CL := fun W hW => lawLight16 u a n cap l W (h.below hW) hl hn
  clear h hd hl hn hnn
  obtain ⟨bkt, key, id, time⟩ := u
  simp only [upc] at *
  go_enter Try.func3, Try.ntmps3
  go_upto_region 1 with fail
  generalize World.alloc _ _ = y at *
  obtain ⟨x0, x1, x2, x3, x4⟩ := HO.out.cellsU
  have C0 := CL y HO.out.bel
  clear CL
  by_cases hlt : (decide (n ≤ 100) && decide (totalPs (l.map Prod.fst) ≤ 100000)) = true
  rotate_left
  · rw [Bool.eq_false_iff.2 hlt] at C0
    clear hlt
    go_wp2_with fail
    refine (C0).mono ?_
    rintro e y1 ⟨rfl, hb⟩
    have HO1 := mkHid (HO.out.on hb)
    clear hb x0 x1 x2 x3 x4
    obtain ⟨x0, x1, x2, x3, x4⟩ := HO1.out.cellsU
    clear C0 HO
    go_wp2_with fail
    refine (lawAlive16 S _).mono ?_
    rintro e yA ⟨rfl, hb⟩
    have H9 := mkHid (HO1.out.on hb)
    clear hb
    go_wp2_with fail
    go_ret
    exact ⟨rfl, H9.out.bel⟩
  rw [hlt] at C0
  have hn100 : n ≤ 100 := by simp at hlt; exact hlt.1
  have Hn := mkHid hn100
  clear hlt hn100
  by_cases hdm : 100000 < dm
  · have hdmd : decide ((100000 : Int) < (dm : Int)) = true := decide_eq_true (by omega)
    clear hm
    go_wp2_with fail
    refine (C0).mono ?_
    rintro e y1 ⟨rfl, hb⟩
    have HO1 := mkHid (HO.out.on hb)
    clear hb x0 x1 x2 x3 x4
    obtain ⟨x0, x1, x2, x3, x4⟩ := HO1.out.cellsU
    clear C0 HO
    go_wp2_with fail
    refine (lawAlive16 S _).mono ?_
    rintro e yA ⟨rfl, hb⟩
    have H9 := mkHid (HO1.out.on hb)
    clear hb
    go_wp2_with fail
    go_ret
    exact ⟨rfl, H9.out.bel⟩
  have hdmd : decide ((100000 : Int) < (dm : Int)) = false := decide_eq_false (by omega)
  clear hdm hm
  go_wp2_with fail
  refine (C0).mono ?_
  rintro e y1 ⟨rfl, hb⟩
  have HO1 := mkHid (HO.out.on hb)
  clear hb x0 x1 x2 x3 x4
  obtain ⟨x0, x1, x2, x3, x4⟩ := HO1.out.cellsU
  clear C0 HO
  have C1 : ∀ W, Below y1.heap.size y1 W → _ := fun W hW => S.right ⟨bkt, key, id, time⟩ a n cap l W ((HX.out.below HO1.out.bel).below hW) (by have := Hn.out; omega)
  have C2 : ∀ W, Below y1.heap.size y1 W → _ := fun W hW => refRight16 ⟨bkt, key, id, time⟩ a n cap l W ((HX.out.below HO1.out.bel).below hW) (by have := Hn.out; omega)
  simp only [upc] at C1 C2
  have HKP : ∀ w', Below y1.heap.size y1 w' →  Below y1.heap.size y1 w' ∧ w'.cell? ⟨w.heap.size, 0, none⟩ = some (.string bkt) ∧ w'.cell? ⟨w.heap.size, 1, none⟩ = some (.string key) ∧ w'.cell? ⟨w.heap.size, 2, none⟩ = some (.int .u64 (id : Int)) ∧ w'.cell? ⟨w.heap.size, 3, none⟩ = some (.int .u64 (time : Int)) ∧ w'.cell? ⟨w.heap.size, 4, none⟩ = some (.slice a n cap) := fun w' hW => ⟨hW, (HO1.out.on hW).cellsU⟩
  have Hr := mkHid (rfl : rightPs (l.map Prod.fst) = rightPs (l.map Prod.fst))
  obtain ⟨R, hR⟩ : ∃ R, R = rightPs (l.map Prod.fst) := ⟨_, rfl⟩
  rw [← hR] at C1 C2
  have HR := mkHid hR
  clear hR Hr x0 x1 x2 x3 x4
  go_wp2_with fail
  go_region_held3 (fun w' => Below y1.heap.size y1 w' ∧ w'.cell? ⟨w.heap.size, 0, none⟩ = some (.string bkt) ∧ w'.cell? ⟨w.heap.size, 1, none⟩ = some (.string key) ∧ w'.cell? ⟨w.heap.size, 2, none⟩ = some (.int .u64 (id : Int)) ∧ w'.cell? ⟨w.heap.size, 3, none⟩ = some (.int .u64 (time : Int)) ∧ w'.cell? ⟨w.heap.size, 4, none⟩ = some (.slice a n cap))
    (first | exact HKP _ ((Below.refl _ y1).drew) | assumption | (have hq0 := ‹Below _ _ _ ∧ _›; first | exact HKP _ (hq0.1.trans (hb0.mono hq0.1.size)) | exact HKP _ (hq0.1.trans (hb1.mono hq0.1.size))))
    (first
      | (go_at_call 8; refine (C1 _ (‹Below _ _ _ ∧ _›).1).mono ?_; rintro e w4 ⟨rfl, hb0⟩)
      | (go_at_call 9; refine (C2 _ (‹Below _ _ _ ∧ _›).1).mono ?_; rintro e w4 ⟨rfl, hb1⟩))
  all_goals
    have hq9 := ‹Below _ _ _ ∧ _›
    have HO2 := mkHid (HO1.out.on hq9.1)
    have C3 := C2 _ hq9.1
    obtain ⟨hbq, x0, x1, x2, x3, x4⟩ := hq9
    clear HKP C1 C2 hbq HO1
    cases hRb : R with
    | false =>
      subst hRb
      go_wp2_with fail
      refine (C3).mono ?_
      rintro e y5 ⟨rfl, hb⟩
      have HO5 := mkHid (HO2.out.on hb)
      clear hb x0 x1 x2 x3 x4
      obtain ⟨x0, x1, x2, x3, x4⟩ := HO5.out.cellsU
      clear C3 HO2
      go_wp2_with fail
      refine (lawAlive16 S _).mono ?_
      rintro e yA ⟨rfl, hb⟩
      have H9 := mkHid (HO5.out.on hb)
      clear hb
      go_wp2_with fail
      go_ret
      exact ⟨rfl, H9.out.bel⟩
    | true =>
      subst hRb
      go_wp2_with fail
      refine (C3).mono ?_
      rintro e y5 ⟨rfl, hb⟩
      have HO5 := mkHid (HO2.out.on hb)
      clear hb x0 x1 x2 x3 x4
      obtain ⟨x0, x1, x2, x3, x4⟩ := HO5.out.cellsU
      clear C3 HO2
      have C4 := S.put ⟨bkt, key, id, time⟩ a n cap l nn db dm dc data y5 (HX.out.below HO5.out.bel) HR.out.symm (HD.out.below HO5.out.bel rfl) HNn.out.1 HNn.out.2
      simp only [upc] at C4
      go_wp2_with fail
      refine C4.mono ?_
      rintro e y6 ⟨hp, hb⟩
      obtain ⟨a6, m6, p6, l6, rfl, hi6, he6⟩ := hp.form
      have HI6 := mkHid hi6
      have HE6 := mkHid he6
      have HO6 := mkHid (HO5.out.on hb)
      clear hb x0 x1 x2 x3 x4 C4 HO5 hp hi6 he6
      obtain ⟨U2, hU2⟩ : ∃ U2, U2 = pwU ⟨bkt, key, id, time⟩ nn data := ⟨_, rfl⟩
      rw [← hU2]
      have HU2 := mkHid hU2
      clear hU2
      obtain ⟨b2, k2, i2, t2⟩ := U2
      simp only [upc]
      go_upto_region 8 with fail
      have HA7 := mkHid (OneB.new y6 25 [.string b2, .string k2, .int .u64 (i2 : Int), .int .u64 (t2 : Int), .slice a6 m6 p6])
      have HO7 := mkHid (HO6.out.on ((Below.refl _ y6).alloc (Nat.le_refl _) (.cells #[.string b2, .string k2, .int .u64 (i2 : Int), .int .u64 (t2 : Int), .slice a6 m6 p6] 25)))
      generalize World.alloc y6 _ = y7 at *
      clear HO6
      obtain ⟨x0, x1, x2, x3, x4⟩ := HO7.out.cellsU
      have C5 := refPutW ⟨bkt, key, id, time⟩ a n cap l nn db dm dc data y7 (HX.out.below HO7.out.bel) HR.out.symm (HD.out.below HO7.out.bel rfl) HNn.out.1 HNn.out.2
      simp only [upc] at C5
      go_wp2_with fail
      refine C5.mono ?_
      rintro e y8 ⟨hp, hb⟩
      obtain ⟨a8, m8, p8, l8, rfl, hi8, he8⟩ := hp.form
      have HI8 := mkHid hi8
      have HE8 : Hid (l6.map Prod.fst = l8.map Prod.fst) := HE6.out.trans he8.symm
      have HO8 := mkHid (HO7.out.on hb)
      have HA8 := mkHid (HA7.out.on hb)
      clear hb x0 x1 x2 x3 x4 C5 HO7 HA7 hp hi8 he8
      rw [← HU2.out]
      simp only [upc]
      go_upto_region 9 with fail
      have hbn : Below y8.heap.size y8 (y8.alloc (.cells #[.string b2, .string k2, .int .u64 (i2 : Int), .int .u64 (t2 : Int), .slice a8 m8 p8] 25)) := (Below.refl _ y8).alloc (Nat.le_refl _) _
      have HB9 := mkHid (OneB.new y8 25 [.string b2, .string k2, .int .u64 (i2 : Int), .int .u64 (t2 : Int), .slice a8 m8 p8])
      have HO9 := mkHid (HO8.out.on hbn)
      have HA9 := mkHid (HA8.out.on hbn)
      generalize World.alloc y8 _ = y9 at *
      clear HO8 HA8 hbn
      have z0 := HA9.out.k.cell 0
      have z1 := HA9.out.k.cell 1
      have z2 := HA9.out.k.cell 2
      have z3 := HA9.out.k.cell 3
      have z4 := HA9.out.k.cell 4
      have v0 := HB9.out.k.cell 0
      have v1 := HB9.out.k.cell 1
      have v2 := HB9.out.k.cell 2
      have v3 := HB9.out.k.cell 3
      have v4 := HB9.out.k.cell 4
      simp only [List.getElem?_cons_zero, List.getElem?_cons_succ] at z0 z1 z2 z3 z4 v0 v1 v2 v3 v4
      have hi9 := HI6.out.below HA9.out.bel
      have hj9 := HI8.out.below HB9.out.bel
      have hr6 : rightPs (l6.map Prod.fst) = true := by rw [HE6.out]; exact right_pw _ _ _ HR.out.symm
      have hmm : m6 = m8 := by have := congrArg List.length HE8.out; rw [List.length_map, List.length_map, hi9.row.len, hj9.row.len] at this; exact this
      subst hmm
      have C6 := refSame16 ⟨b2, k2, i2, t2⟩ a6 m6 p6 l6 a8 p8 l8 y9 hi9 hj9 HE8.out (by have := hi9.len4 hr6; omega)
      simp only [upc] at C6
      have HI9 := mkHid hi9
      have Hr6 := mkHid hr6
      clear hi9 hj9 hr6
      generalize putE16 nn data = pe at *
      go_wp2_with fail
      refine C6.mono ?_
      rintro e y10 ⟨rfl, hb⟩
      have HO10 := mkHid (HO9.out.on hb)
      have HA10 := mkHid (HA9.out.on hb)
      have hi10 := HI9.out.below hb
      have C7 := S.right ⟨b2, k2, i2, t2⟩ a6 m6 p6 l6 y10 hi10 (by have := hi10.len4 Hr6.out; omega)
      rw [Hr6.out] at C7
      simp only [upc] at C7
      clear hb C6 hi10 HO9 HA9 HB9 z0 z1 z2 z3 z4 v0 v1 v2 v3 v4
      have z0 := HA10.out.k.cell 0
      have z1 := HA10.out.k.cell 1
      have z2 := HA10.out.k.cell 2
      have z3 := HA10.out.k.cell 3
      have z4 := HA10.out.k.cell 4
      simp only [List.getElem?_cons_zero, List.getElem?_cons_succ] at z0 z1 z2 z3 z4
      by_cases hpe : pe = 0
      · subst hpe
        go_wp2_with fail
        refine C7.mono ?_
        rintro e y11 ⟨rfl, hb⟩
        have HO11 := mkHid (HO10.out.on hb)
        clear hb C7 z0 z1 z2 z3 z4 HA10 HO10
        go_wp2_with fail
        refine (lawAlive16 S _).mono ?_
        rintro e yA ⟨rfl, hb⟩
        have H9 := mkHid (HO11.out.on hb)
        clear hb
        go_wp2_with fail
        go_ret
        exact ⟨rfl, H9.out.bel⟩
      · have hped : (pe != 0) = true := by simpa using hpe
        clear C7 z0 z1 z2 z3 z4 HA10
        go_wp2_with fail
        refine (lawAlive16 S _).mono ?_
        rintro e yA ⟨rfl, hb⟩
        have H9 := mkHid (HO10.out.on hb)
        clear hb
        go_wp2_with fail
        go_ret
        exact ⟨rfl, H9.out.bel⟩
end Go.Proofs.Ytgcmojldegplaaa
