/- AuditForged: the walk. -/
import Derived.Test.YtbclhaleibjkgabAu12
import Derived.Test.YtbclhaleibjkgabC0
import Derived.Test.YtbclhaleibjkgabB43
import Derived.Test.YtbclhaleibjkgabAu28
namespace Go.Proofs.Ytbclhaleibjkgab
open Go.RowKit

attribute [local go_sem] undef
/-- are two rows the same so far? -/
noncomputable def eqTo14 (A B : List Rc) (k : Nat) : Bool := @decide (A.length = B.length ∧ A.take k = B.take k) (Classical.propDecidable _)
theorem eqTo_iff14 (A B : List Rc) (k : Nat) : eqTo14 A B k = true ↔ A.length = B.length ∧ A.take k = B.take k := by unfold eqTo14; exact @decide_eq_true_iff _ (Classical.propDecidable _)
theorem eqTo_zero14 (A B : List Rc) : eqTo14 A B 0 = decide (A.length = B.length) := by
  rw [Bool.eq_iff_iff, eqTo_iff14, decide_eq_true_iff]; simp
theorem eqTo_step14 {A B : List Rc} {k : Nat} {x y : Rc} (h : eqTo14 A B k = true) (hx : A[k]? = some x) (hy : B[k]? = some y) : eqTo14 A B (k + 1) = sameRc x y := by
  obtain ⟨h1, h2⟩ := (eqTo_iff14 _ _ _).1 h
  rw [Bool.eq_iff_iff, eqTo_iff14, sameRc_iff, List.take_add_one, List.take_add_one, hx, hy, h2]
  simp [h1]
theorem eqTo_end14 {A B : List Rc} {k : Nat} (h : A.length ≤ k ∨ eqTo14 A B k = false) : eqTo14 A B k = true ↔ A = B := by
  rw [eqTo_iff14]
  constructor
  · rintro ⟨h1, h2⟩
    rcases h with h | h
    · rwa [List.take_of_length_le h, List.take_of_length_le (by omega)] at h2
    · rw [(eqTo_iff14 _ _ _).2 ⟨h1, h2⟩] at h; cases h
  · rintro rfl; exact ⟨rfl, rfl⟩
theorem forgedL14 {A B : List Rc} {h : List UInt8} (ha : verL A h = true) (hb : verL B h = true) (na : ∀ r ∈ A, RcN r ∧ rcLen r ≤ 20000) (nb : ∀ r ∈ B, RcN r ∧ rcLen r ≤ 20000) :
    (A = B ∧ colL A B = none) ∨ (A ≠ B ∧ ∃ r s, colL A B = some (r, s) ∧ showRc r ≠ showRc s ∧ digRc r = digRc s ∧ rcLen r ≤ 20000 ∧ rcLen s ≤ 20000) := by
  rcases forged14 A.reverse B.reverse h ha hb (fun r hr => na r (List.mem_reverse.1 hr)) (fun r hr => nb r (List.mem_reverse.1 hr)) with ⟨e1, e2⟩ | ⟨e1, r, s, e2, e3, e4, e5, e6⟩
  · exact .inl ⟨List.reverse_inj.1 e1, e2⟩
  · exact .inr ⟨fun e => e1 (by rw [e]), r, s, e2, e5, e6, (na r (List.mem_reverse.1 e3)).2, (nb s (List.mem_reverse.1 e4)).2⟩
set_option maxRecDepth 20000 in
set_option maxHeartbeats 20000000 in
theorem forgedW14 (a : Option Addr) (n cap : Nat) (l : List Rq14) (b : Option Addr) (m cap' : Nat) (l' : List Rq14) (hv : Value) (hd : List UInt8) (w : World) (h : IsRl w a n l) (h' : IsRl w b m l') (hz : ∀ x ∈ l, RcZ x.1) (hz' : ∀ x ∈ l', RcZ x.1) (hn : n ≤ 140737488351232) (hm : m ≤ 140737488351232) (hh : IsV w hv hd) :
    Calls Try.prog 4 #[.slice a n cap, .slice b m cap', hv] w fun e w' => e = .returned (.bool true) ∧ Below w.heap.size w w' := by
  have HLa := fun W (hW : Below w.heap.size w W) => lawLight14 a n cap l W (h.below hW) hz hn
  have HLb := fun W (hW : Below w.heap.size w W) => lawLight14 b m cap' l' W (h'.below hW) hz' hm
  have HL2a := mkHid (@light_of14 l)
  have HL2b := mkHid (@light_of14 l')
  have HX := mkHid h
  have HX' := mkHid h'
  have HH := mkHid hh
  clear h h' hz hz' hn hm hh
  generalize lightR (l.map Prod.fst) = LA at *
  generalize lightR (l'.map Prod.fst) = LB at *
  have HB0 : Hid (Below w.heap.size w w) := Below.refl _ w
  cases LA with
  | false =>
    clear HLb HL2a HL2b HX HX'
    go_enter Try.func4, Try.ntmps4
    go_wp2_with fail
    refine (HLa w HB0.out).mono ?_
    rintro e y1 ⟨rfl, hb⟩
    have HB1 := mkHid (HB0.out.trans (hb.mono HB0.out.size))
    clear HB0
    clear hb
    go_wp2_with fail
    refine (lawAlive14 y1).mono ?_
    rintro e la ⟨rfl, hla⟩
    have HLa := mkHid (HB1.out.trans (hla.mono HB1.out.size))
    clear hla
    go_wp2_with fail
    go_ret
    exact ⟨rfl, HLa.out⟩
  | true =>
  cases LB with
  | false =>
    clear HL2a HL2b HX HX'
    go_enter Try.func4, Try.ntmps4
    go_wp2_with fail
    refine (HLa w HB0.out).mono ?_
    rintro e y1 ⟨rfl, hb⟩
    have HB1 := mkHid (HB0.out.trans (hb.mono HB0.out.size))
    clear hb
    go_wp2_with fail
    refine (HLb y1 HB1.out).mono ?_
    rintro e y2 ⟨rfl, hb⟩
    have HB2 := mkHid (HB1.out.trans (hb.mono HB1.out.size))
    clear hb
    go_wp2_with fail
    refine (lawAlive14 y2).mono ?_
    rintro e la ⟨rfl, hla⟩
    have HLa := mkHid (HB2.out.trans (hla.mono HB2.out.size))
    clear hla
    go_wp2_with fail
    go_ret
    exact ⟨rfl, HLa.out⟩
  | true =>
  obtain ⟨hsa, hna⟩ := HL2a.out rfl
  obtain ⟨hsb, hnb⟩ := HL2b.out rfl
  rw [HX.out.len] at hna
  rw [HX'.out.len] at hnb
  have HVa := fun W (hW : Below w.heap.size w W) => codVerify14 a n cap l hv hd W (HX.out.below hW) (isV_below14 HH.out hW) hsa (by omega)
  have HVb := fun W (hW : Below w.heap.size w W) => codVerify14 b m cap' l' hv hd W (HX'.out.below hW) (isV_below14 HH.out hW) hsb (by omega)
  have HCc := fun W (hW : Below w.heap.size w W) => codCollision14 a n cap l b m cap' l' W (HX.out.below hW) (HX'.out.below hW) hsa hsb (by omega) (by omega)
  have HFo : Hid (verL (l.map Prod.fst) hd = true → verL (l'.map Prod.fst) hd = true → _) := fun ha hb => forgedL14 ha hb (fun r hr => by obtain ⟨x, hx, rfl⟩ := List.mem_map.1 hr; exact ⟨(HX.out.recs x hx).num, hsa x hx⟩) (fun r hr => by obtain ⟨x, hx, rfl⟩ := List.mem_map.1 hr; exact ⟨(HX'.out.recs x hx).num, hsb x hx⟩)
  have HSm := fun x y (hx : x ∈ l) (hy : y ∈ l') W (hW : Below w.heap.size w W) => refSame14 x.1 y.1 x.2 y.2 W ((HX.out.recs x hx).below hW) ((HX'.out.recs y hy).below hW)
  clear hsa hsb HL2a HL2b HH
  have HVn : Hid (∀ A, verN A hd = if verL A hd = true then 0 else 53) := fun A => rfl
  have HEa := HVn.out (l.map Prod.fst)
  have HEb := HVn.out (l'.map Prod.fst)
  clear HVn
  by_cases hva : verL (l.map Prod.fst) hd = true
  rotate_left
  · rw [if_neg hva] at HEa
    rw [HEa] at HVa
    clear HEa HEb HVb HCc HFo HSm HX HX' hna hnb hva
    go_enter Try.func4, Try.ntmps4
    go_wp2_with fail
    refine (HLa w HB0.out).mono ?_
    rintro e y1 ⟨rfl, hb⟩
    have HB1 := mkHid (HB0.out.trans (hb.mono HB0.out.size))
    clear hb
    go_wp2_with fail
    refine (HLb y1 HB1.out).mono ?_
    rintro e y2 ⟨rfl, hb⟩
    have HB2 := mkHid (HB1.out.trans (hb.mono HB1.out.size))
    clear hb
    go_wp2_with fail
    refine (HVa y2 HB2.out).mono ?_
    rintro e y3 ⟨rfl, hb⟩
    have HB3 := mkHid (HB2.out.trans (hb.mono HB2.out.size))
    clear hb
    go_wp2_with fail
    refine (lawAlive14 y3).mono ?_
    rintro e la ⟨rfl, hla⟩
    have HLa := mkHid (HB3.out.trans (hla.mono HB3.out.size))
    clear hla
    go_wp2_with fail
    go_ret
    exact ⟨rfl, HLa.out⟩
  rw [if_pos hva] at HEa
  rw [HEa] at HVa
  by_cases hvb : verL (l'.map Prod.fst) hd = true
  rotate_left
  · rw [if_neg hvb] at HEb
    rw [HEb] at HVb
    clear HEa HEb HCc HFo HSm HX HX' hna hnb hva hvb
    go_enter Try.func4, Try.ntmps4
    go_wp2_with fail
    refine (HLa w HB0.out).mono ?_
    rintro e y1 ⟨rfl, hb⟩
    have HB1 := mkHid (HB0.out.trans (hb.mono HB0.out.size))
    clear hb
    go_wp2_with fail
    refine (HLb y1 HB1.out).mono ?_
    rintro e y2 ⟨rfl, hb⟩
    have HB2 := mkHid (HB1.out.trans (hb.mono HB1.out.size))
    clear hb
    go_wp2_with fail
    refine (HVa y2 HB2.out).mono ?_
    rintro e y3 ⟨rfl, hb⟩
    have HB3 := mkHid (HB2.out.trans (hb.mono HB2.out.size))
    clear hb
    go_wp2_with fail
    refine (HVb y3 HB3.out).mono ?_
    rintro e y4 ⟨rfl, hb⟩
    have HB4 := mkHid (HB3.out.trans (hb.mono HB3.out.size))
    clear hb
    go_wp2_with fail
    refine (lawAlive14 y4).mono ?_
    rintro e la ⟨rfl, hla⟩
    have HLa := mkHid (HB4.out.trans (hla.mono HB4.out.size))
    clear hla
    go_wp2_with fail
    go_ret
    exact ⟨rfl, HLa.out⟩
  rw [if_pos hvb] at HEb
  rw [HEb] at HVb
  have HFx := mkHid (HFo.out hva hvb)
  have HQ0 : Hid (decide (n = m) = eqTo14 (l.map Prod.fst) (l'.map Prod.fst) 0) := by unfold Hid; rw [eqTo_zero14, List.length_map, List.length_map, HX.out.len, HX'.out.len]
  have HQs : Hid (∀ (k : Nat) (x y : Rq14), eqTo14 (l.map Prod.fst) (l'.map Prod.fst) k = true → l[k]? = some x → l'[k]? = some y → eqTo14 (l.map Prod.fst) (l'.map Prod.fst) (k + 1) = sameRc x.1 y.1) := fun k x y hq hx hy => eqTo_step14 hq (by rw [List.getElem?_map, hx]; rfl) (by rw [List.getElem?_map, hy]; rfl)
  have HQe : Hid (∀ k, n ≤ k ∨ eqTo14 (l.map Prod.fst) (l'.map Prod.fst) k = false → (eqTo14 (l.map Prod.fst) (l'.map Prod.fst) k = true ↔ l.map Prod.fst = l'.map Prod.fst)) := fun k hk => eqTo_end14 (by rw [List.length_map, HX.out.len]; exact hk)
  have HQl : Hid (∀ k, eqTo14 (l.map Prod.fst) (l'.map Prod.fst) k = true → n = m) := fun k hk => by have := ((eqTo_iff14 _ _ _).1 hk).1; rw [List.length_map, List.length_map, HX.out.len, HX'.out.len] at this; exact this
  clear HEa HEb HFo hva hvb
  unfold CoPost14 at HCc
  have HFc : Hid ((l.map Prod.fst = l'.map Prod.fst ∧ (colL (l.map Prod.fst) (l'.map Prod.fst)).isSome = false) ∨ (l.map Prod.fst ≠ l'.map Prod.fst ∧ (colL (l.map Prod.fst) (l'.map Prod.fst)).isSome = true ∧ coX14 (l.map Prod.fst) (l'.map Prod.fst) ≠ coY14 (l.map Prod.fst) (l'.map Prod.fst) ∧ sha256L (coX14 (l.map Prod.fst) (l'.map Prod.fst)) = sha256L (coY14 (l.map Prod.fst) (l'.map Prod.fst)) ∧ (coX14 (l.map Prod.fst) (l'.map Prod.fst)).length < 4294967296 ∧ (coY14 (l.map Prod.fst) (l'.map Prod.fst)).length < 4294967296)) := by
    rcases HFx.out with ⟨e1, e2⟩ | ⟨e1, r, s, e2, e3, e4, e5, e6⟩
    · exact .inl ⟨e1, (col_none14 e2).2.2⟩
    · obtain ⟨f1, f2, f3⟩ := col_some14 e2
      rw [f1, f2]
      exact .inr ⟨e1, f3, e3, e4, by rw [showRc_len]; show 70 + rcLen r < _; omega, by rw [showRc_len]; show 70 + rcLen s < _; omega⟩
  clear HFx
  generalize coX14 _ _ = CX at *
  generalize coY14 _ _ = CY at *
  generalize (colL _ _).isSome = FO at *
  obtain ⟨EQ, hEQ⟩ : ∃ EQ : Nat → Bool, EQ = eqTo14 (l.map Prod.fst) (l'.map Prod.fst) := ⟨_, rfl⟩
  rw [← hEQ] at HQ0 HQs HQe HQl
  clear hEQ
  have HXa := mkHid HX.out
  have HXb := mkHid HX'.out
  have HRa : Hid (∀ k, k < n → ∃ B off x, a = some ⟨B, off, none⟩ ∧ l[k]? = some x ∧ x ∈ l ∧ ∀ W, Below w.heap.size w W → W.rangeAt B (off + k * 10) (rcc x.1 x.2)) := fun k hk => by
    obtain ⟨B, off, e, hc⟩ := HXa.out.cells (by omega)
    obtain ⟨x, hx⟩ : ∃ x, l[k]? = some x := ⟨l[k]'(by rw [HXa.out.len]; exact hk), List.getElem?_eq_getElem _⟩
    exact ⟨B, off, x, e, hx, List.mem_of_getElem? hx, fun W hW => range_below14 (hc k x hx) hW⟩
  have HRb : Hid (∀ k, k < m → ∃ B off x, b = some ⟨B, off, none⟩ ∧ l'[k]? = some x ∧ x ∈ l' ∧ ∀ W, Below w.heap.size w W → W.rangeAt B (off + k * 10) (rcc x.1 x.2)) := fun k hk => by
    obtain ⟨B, off, e, hc⟩ := HXb.out.cells (by omega)
    obtain ⟨x, hx⟩ : ∃ x, l'[k]? = some x := ⟨l'[k]'(by rw [HXb.out.len]; exact hk), List.getElem?_eq_getElem _⟩
    exact ⟨B, off, x, e, hx, List.mem_of_getElem? hx, fun W hW => range_below14 (hc k x hx) hW⟩
  clear HX HX' HXa HXb
  go_enter Try.func4, Try.ntmps4
  go_wp2_with fail
  refine (HLa w HB0.out).mono ?_
  rintro e y1 ⟨rfl, hb⟩
  have HB1 := mkHid (HB0.out.trans (hb.mono HB0.out.size))
  clear hb
  go_wp2_with fail
  refine (HLb y1 HB1.out).mono ?_
  rintro e y2 ⟨rfl, hb⟩
  have HB2 := mkHid (HB1.out.trans (hb.mono HB1.out.size))
  clear hb
  go_wp2_with fail
  refine (HVa y2 HB2.out).mono ?_
  rintro e y3 ⟨rfl, hb⟩
  have HB3 := mkHid (HB2.out.trans (hb.mono HB2.out.size))
  clear hb
  go_wp2_with fail
  refine (HVb y3 HB3.out).mono ?_
  rintro e y4 ⟨rfl, hb⟩
  have HB4 := mkHid (HB3.out.trans (hb.mono HB3.out.size))
  clear hb
  clear HLa HLb HVa HVb HB0 HB1 HB2 HB3
  have hnm : (((n : Int) == (m : Int)) : Bool) = EQ 0 := by
    rw [← HQ0.out, Bool.eq_iff_iff, beq_iff_eq, decide_eq_true_iff]; omega
  go_upto_region 6 with fail
  clear hnm HQ0
  rw [show (Value.tuple #[] : Value) = undef from rfl]
  go_wp2_with fail
  go_loopw [7, 8] (fun v i wr => ∃ (k : Nat), k ≤ n ∧ i = .int .i64 (k : Int) ∧ v = .bool (EQ k) ∧ Hid (Below w.heap.size w wr)) (fun _ i _ => n - (Go.RowKit.intOf i).toNat)
  case atStart => exact ⟨0, Nat.zero_le _, rfl, rfl, HB4⟩
  case round =>
    clear HB4
    obtain ⟨k, hk, rfl, rfl, HB⟩ := hrel
    by_cases hend : n ≤ k ∨ EQ k = false
    · have HE := mkHid (HQe.out k hend)
      clear HQs HQe HQl HRa HRb HSm
      by_cases hlt : k < n
      · have hlt' : (k : Int) < (n : Int) := by omega
        have hq : EQ k = false := by rcases hend with h | h; omega; exact h
        rw [hq] at HE ⊢
        clear hq hend hlt
        obtain ⟨hF, hne, hsh, hl1, hl2⟩ : FO = true ∧ CX ≠ CY ∧ sha256L CX = sha256L CY ∧ CX.length < 4294967296 ∧ CY.length < 4294967296 := by
          rcases HFc.out with ⟨h, _⟩ | ⟨_, h⟩
          · exact absurd (HE.out.2 h) (by simp)
          · exact h
        subst hF
        have Hne : Hid (eqB CX CY = false) := by unfold Hid; rw [eqB_dec14]; exact decide_eq_false hne
        have Hsh : Hid (eqB (sha256L CX) (sha256L CY) = true) := by unfold Hid; rw [eqB_dec14]; exact decide_eq_true hsh
        have Hl1 := mkHid hl1
        have Hl2 := mkHid hl2
        clear HE HFc hne hsh hl1 hl2
        go_wp2_with fail
        refine (HCc wr HB.out).mono ?_
        rintro e y5 ⟨v1, v2, rfl, hv1, hv2, hb⟩
        have HB5 := mkHid (HB.out.trans (hb.mono HB.out.size))
        have HV1 := mkHid hv1
        have HV2 := mkHid hv2
        clear hv1 hv2 HCc
        clear hb
        have hsm := refSameW14 v1 v2 CX CY y5 HV1.out HV2.out
        rw [Hne.out] at hsm
        go_wp2_with fail
        refine (hsm).mono ?_
        rintro e y6 ⟨rfl, hb⟩
        have HB6 := mkHid (HB5.out.trans (hb.mono HB5.out.size))
        have HV1b := mkHid (isV_below14 HV1.out hb)
        have HV2b := mkHid (isV_below14 HV2.out hb)
        clear hsm
        clear hb
        go_wp2_with fail
        refine (refSha256V v1 CX y6 HV1b.out Hl1.out).mono ?_
        rintro e y7 ⟨d1, rfl, ho, hb⟩
        have HB7 := mkHid (HB6.out.trans (hb.mono HB6.out.size))
        have HW1 := mkHid ho.isV
        have HV2c := mkHid (isV_below14 HV2b.out hb)
        clear ho
        clear hb
        go_wp2_with fail
        refine (refSha256V v2 CY y7 HV2c.out Hl2.out).mono ?_
        rintro e y8 ⟨d2, rfl, ho, hb⟩
        have HB8 := mkHid (HB7.out.trans (hb.mono HB7.out.size))
        have HW2 := mkHid ho.isV
        have HW1b := mkHid (isV_below14 HW1.out hb)
        clear ho
        clear hb
        have hsm := refSameW14 d1 d2 _ _ y8 HW1b.out HW2.out
        rw [Hsh.out] at hsm
        go_wp2_with fail
        refine (hsm).mono ?_
        rintro e y9 ⟨rfl, hb⟩
        have HB9 := mkHid (HB8.out.trans (hb.mono HB8.out.size))
        clear hsm
        clear hb
        go_wp2_with fail
        refine (lawAlive14 y9).mono ?_
        rintro e la ⟨rfl, hla⟩
        have HLa := mkHid (HB9.out.trans (hla.mono HB9.out.size))
        clear hla
        go_wp2_with fail
        go_ret
        exact ⟨rfl, HLa.out⟩
      · have hlt' : ¬ (k : Int) < (n : Int) := by omega
        clear hend hlt
        generalize EQ k = q at *
        cases q with
        | true =>
          have hF : FO = false := by
            rcases HFc.out with ⟨_, h⟩ | ⟨h, _⟩
            · exact h
            · exact absurd (HE.out.1 rfl) h
          subst hF
          clear HE HFc
          go_wp2_with fail
          refine (HCc wr HB.out).mono ?_
          rintro e y5 ⟨v1, v2, rfl, -, -, hb⟩
          have HB5 := mkHid (HB.out.trans (hb.mono HB.out.size))
          clear hb
          go_wp2_with fail
          refine (lawAlive14 y5).mono ?_
          rintro e la ⟨rfl, hla⟩
          have HLa := mkHid (HB5.out.trans (hla.mono HB5.out.size))
          clear hla
          go_wp2_with fail
          go_ret
          exact ⟨rfl, HLa.out⟩
        | false =>
          obtain ⟨hF, hne, hsh, hl1, hl2⟩ : FO = true ∧ CX ≠ CY ∧ sha256L CX = sha256L CY ∧ CX.length < 4294967296 ∧ CY.length < 4294967296 := by
            rcases HFc.out with ⟨h, _⟩ | ⟨_, h⟩
            · exact absurd (HE.out.2 h) (by simp)
            · exact h
          subst hF
          have Hne : Hid (eqB CX CY = false) := by unfold Hid; rw [eqB_dec14]; exact decide_eq_false hne
          have Hsh : Hid (eqB (sha256L CX) (sha256L CY) = true) := by unfold Hid; rw [eqB_dec14]; exact decide_eq_true hsh
          have Hl1 := mkHid hl1
          have Hl2 := mkHid hl2
          clear HE HFc hne hsh hl1 hl2
          go_wp2_with fail
          refine (HCc wr HB.out).mono ?_
          rintro e y5 ⟨v1, v2, rfl, hv1, hv2, hb⟩
          have HB5 := mkHid (HB.out.trans (hb.mono HB.out.size))
          have HV1 := mkHid hv1
          have HV2 := mkHid hv2
          clear hv1 hv2 HCc
          clear hb
          have hsm := refSameW14 v1 v2 CX CY y5 HV1.out HV2.out
          rw [Hne.out] at hsm
          go_wp2_with fail
          refine (hsm).mono ?_
          rintro e y6 ⟨rfl, hb⟩
          have HB6 := mkHid (HB5.out.trans (hb.mono HB5.out.size))
          have HV1b := mkHid (isV_below14 HV1.out hb)
          have HV2b := mkHid (isV_below14 HV2.out hb)
          clear hsm
          clear hb
          go_wp2_with fail
          refine (refSha256V v1 CX y6 HV1b.out Hl1.out).mono ?_
          rintro e y7 ⟨d1, rfl, ho, hb⟩
          have HB7 := mkHid (HB6.out.trans (hb.mono HB6.out.size))
          have HW1 := mkHid ho.isV
          have HV2c := mkHid (isV_below14 HV2b.out hb)
          clear ho
          clear hb
          go_wp2_with fail
          refine (refSha256V v2 CY y7 HV2c.out Hl2.out).mono ?_
          rintro e y8 ⟨d2, rfl, ho, hb⟩
          have HB8 := mkHid (HB7.out.trans (hb.mono HB7.out.size))
          have HW2 := mkHid ho.isV
          have HW1b := mkHid (isV_below14 HW1.out hb)
          clear ho
          clear hb
          have hsm := refSameW14 d1 d2 _ _ y8 HW1b.out HW2.out
          rw [Hsh.out] at hsm
          go_wp2_with fail
          refine (hsm).mono ?_
          rintro e y9 ⟨rfl, hb⟩
          have HB9 := mkHid (HB8.out.trans (hb.mono HB8.out.size))
          clear hsm
          clear hb
          go_wp2_with fail
          refine (lawAlive14 y9).mono ?_
          rintro e la ⟨rfl, hla⟩
          have HLa := mkHid (HB9.out.trans (hla.mono HB9.out.size))
          clear hla
          go_wp2_with fail
          go_ret
          exact ⟨rfl, HLa.out⟩
    · have hlt : k < n := by omega
      have hq : EQ k = true := by
        cases h : EQ k with
        | true => rfl
        | false => exact absurd (.inr h) hend
      have hnm := HQl.out k hq
      obtain ⟨Ba, oa, x, hae, hx, hxm, hra⟩ := HRa.out k hlt
      obtain ⟨Bb, ob, y, hbe, hy, hym, hrb⟩ := HRb.out k (by omega)
      have HSx := mkHid (HSm x y hxm hym)
      have HQn : Hid (EQ (k + 1) = sameRc x.1 y.1) := HQs.out k x y hq hx hy
      have HI_cx := info14 x.1 x.2
      have HI_cy := info14 y.1 y.2
      have HS0 : Hid (∀ W, Below w.heap.size w W → W.rangeAt Ba (oa + k * 10) (rcc x.1 x.2) ∧ W.rangeAt Bb (ob + k * 10) (rcc y.1 y.2)) := fun W hW => ⟨hra W hW, hrb W hW⟩
      subst hae hbe
      have hlt' : (k : Int) < (n : Int) := by omega
      have hltm : (k : Int) < (m : Int) := by omega
      have hk0 : (0 : Int) ≤ (k : Int) := by omega
      have Hlt := mkHid hlt
      clear hx hy hxm hym hra hrb hend hlt HSm HQs HQe HFc HCc HRa HRb hnm HQl
      generalize sameRc x.1 y.1 = SB at *
      generalize rcc x.1 x.2 = cx at *
      generalize rcc y.1 y.2 = cy at *
      rw [hq]
      clear hq
      go_upto_region 9 with fail
      have HBd := mkHid (HB.out.trans ((Below.refl wr.heap.size wr).drew.mono HB.out.size))
      refine wp_region_noPanic ?_
      refine wp_region_held_drew (S := fun w' => w'.rangeAt Ba (oa + k * 10) cx ∧ w'.rangeAt Bb (ob + k * 10) cy) (by kernel_rfl) (HS0.out _ HBd.out) (fun hHeld => ?_)
      refine takeH (some 46) (i := 0) (v := .slice (some ⟨Ba, oa, none⟩) n cap) rfl (by kernel_rfl) (by kernel_rfl) (by kernel_rfl) (fun _ _ _ h => h) (Or.inl ⟨by rfl, ?_⟩) hHeld rfl ?_
      · intro w1 hSw; go_simp
      (try simp only [Act.put, List.setIfInBounds_toArray, List.set_cons_zero, List.set_cons_succ])
      refine takeH (some 47) (i := 1) (v := .int .i64 (k : Int)) rfl (by kernel_rfl) (by kernel_rfl) (by kernel_rfl) (fun _ _ _ h => h) (Or.inl ⟨by rfl, ?_⟩) hHeld rfl ?_
      · intro w1 hSw; go_simp
      (try simp only [Act.put, List.setIfInBounds_toArray, List.set_cons_zero, List.set_cons_succ])
      refine takeH (some 48) (i := 2) (v := .pointer (some ⟨Ba, oa + k * 10, none⟩)) rfl (by kernel_rfl) (by kernel_rfl) (by kernel_rfl) (fun _ _ _ h => h) (Or.inl ⟨by rfl, ?_⟩) hHeld rfl ?_
      · intro w1 hSw; go_simp
      (try simp only [Act.put, List.setIfInBounds_toArray, List.set_cons_zero, List.set_cons_succ])
      refine takeH (some 49) (i := 3) (v := .agg (cx).toArray) rfl (by kernel_rfl) (by kernel_rfl) (by kernel_rfl) (fun _ _ _ h => h) (yieldsIf_load_mid (by rfl) 29 (.tmp 48) (by rfl) (Ba) (oa + k * 10) (by rfl) (cx) _ (fun w1 hw1 => hw1.1) Try.underlying29 rfl HI_cx) hHeld rfl ?_
      (try simp only [Act.put, List.setIfInBounds_toArray, List.set_cons_zero, List.set_cons_succ])
      refine takeH (some 50) (i := 4) (v := .slice (some ⟨Bb, ob, none⟩) m cap') rfl (by kernel_rfl) (by kernel_rfl) (by kernel_rfl) (fun _ _ _ h => h) (Or.inl ⟨by rfl, ?_⟩) hHeld rfl ?_
      · intro w1 hSw; go_simp
      (try simp only [Act.put, List.setIfInBounds_toArray, List.set_cons_zero, List.set_cons_succ])
      refine takeH (some 51) (i := 5) (v := .int .i64 (k : Int)) rfl (by kernel_rfl) (by kernel_rfl) (by kernel_rfl) (fun _ _ _ h => h) (Or.inl ⟨by rfl, ?_⟩) hHeld rfl ?_
      · intro w1 hSw; go_simp
      (try simp only [Act.put, List.setIfInBounds_toArray, List.set_cons_zero, List.set_cons_succ])
      refine takeH (some 52) (i := 6) (v := .pointer (some ⟨Bb, ob + k * 10, none⟩)) rfl (by kernel_rfl) (by kernel_rfl) (by kernel_rfl) (fun _ _ _ h => h) (Or.inl ⟨by rfl, ?_⟩) hHeld rfl ?_
      · intro w1 hSw; go_simp
      (try simp only [Act.put, List.setIfInBounds_toArray, List.set_cons_zero, List.set_cons_succ])
      refine takeH (some 53) (i := 7) (v := .agg (cy).toArray) rfl (by kernel_rfl) (by kernel_rfl) (by kernel_rfl) (fun _ _ _ h => h) (yieldsIf_load_mid (by rfl) 29 (.tmp 52) (by rfl) (Bb) (ob + k * 10) (by rfl) (cy) _ (fun w1 hw1 => hw1.2) Try.underlying29 rfl HI_cy) hHeld rfl ?_
      (try simp only [Act.put, List.setIfInBounds_toArray, List.set_cons_zero, List.set_cons_succ])
      refine wpAnyH_ready (rs := [8]) (by kernel_rfl) (by simp) (AllReadyH.cons rfl (fun K hK => ?_) AllReadyH.nil)
      go_simp
      go_wp2_with (go_at_call 12; refine (HSx.out _ HBd.out).mono ?_; rintro e y5 ⟨rfl, hb⟩)
      have HB5 := mkHid (HBd.out.trans (hb.mono HBd.out.size))
      refine hK.out _ _ (HS0.out _ HB5.out) (fun hHeld => ?_)
      (try simp only [Act.put, List.setIfInBounds_toArray, List.set_cons_zero, List.set_cons_succ])
      clear hK K hb
      refine takeH (some 7) (i := 9) (v := .bool SB) rfl (by kernel_rfl) (by kernel_rfl) (by kernel_rfl) (fun _ _ _ h => h) (Or.inl ⟨by rfl, ?_⟩) hHeld rfl ?_
      · intro w1 hSw; go_simp
      (try simp only [Act.put, List.setIfInBounds_toArray, List.set_cons_zero, List.set_cons_succ])
      refine wpAnyH_done (by kernel_rfl) ?_ _
      refine NoPanic.normal ?_
      clear hHeld HSx HS0 HI_cx HI_cy
      go_wp2_with fail
      rw [show (Value.tuple #[] : Value) = undef from rfl]
      go_roundw
      case rel => exact ⟨k + 1, Hlt.out, by go_num, by rw [HQn.out], HB5⟩
      case measure => simp [Go.RowKit.intOf]; omega
end Go.Proofs.Ytbclhaleibjkgab
