/- AuditCollides: the walk. -/
import Derived.Test.YtbclhaleibjkgaaAu12
import Derived.Test.YtbclhaleibjkgaaC0
import Derived.Test.YtbclhaleibjkgaaB43
import Derived.Test.YtbclhaleibjkgaaAu28
namespace Go.Proofs.Ytbclhaleibjkgaa
open Go.RowKit

theorem refSameB14x (v1 v2 : Value) (l : List UInt8) (w : World) (h1 : IsV w v1 l) (h2 : IsV w v2 l) : Calls Try.prog 10 #[v1, v2] w fun e w' => e = .returned (.bool true) ∧ Below w.heap.size w w' := by
  refine Calls.mono (refSameV v1 v2 l l w h1 h2) ?_
  rintro e w' ⟨rfl, n, rfl⟩
  exact ⟨by unfold eqB; simp, bel_drewN (Below.refl _ _) n⟩
attribute [local go_sem] undef
set_option maxRecDepth 20000 in
set_option maxHeartbeats 8000000 in
theorem collides14 (a : Option Addr) (n cap : Nat) (l : List Rq14) (b : Option Addr) (m cap' : Nat) (l' : List Rq14) (w : World) (h : IsRl w a n l) (h' : IsRl w b m l') (hz : ∀ x ∈ l, RcZ x.1) (hz' : ∀ x ∈ l', RcZ x.1) (hn : n ≤ 140737488351232) (hm : m ≤ 140737488351232) :
    Calls Try.prog 7 #[.slice a n cap, .slice b m cap'] w fun e w' => e = .returned (.bool true) ∧ Below w.heap.size w w' := by
  have HLa := fun W (hW : Below w.heap.size w W) => lawLight14 a n cap l W (h.below hW) hz hn
  have HLb := fun W (hW : Below w.heap.size w W) => lawLight14 b m cap' l' W (h'.below hW) hz' hm
  have HL2a := mkHid (@light_of14 l)
  have HL2b := mkHid (@light_of14 l')
  have HX := mkHid h
  have HX' := mkHid h'
  clear h h' hz hz' hn hm
  generalize lightR (l.map Prod.fst) = LA at *
  generalize lightR (l'.map Prod.fst) = LB at *
  have HB0 : Hid (Below w.heap.size w w) := Below.refl _ w
  cases LA with
  | false =>
    clear HLb HL2a HL2b HX HX'
    go_enter Try.func7, Try.ntmps7
    go_wp2_with fail
    refine (HLa w HB0.out).mono ?_
    rintro e y1 ⟨rfl, hb⟩
    have HB1 := mkHid (HB0.out.trans (hb.mono HB0.out.size))
    clear HB0
    clear hb
    go_wp2_with fail
    refine (lawAlive14 y1).mono ?_
    rintro e la ⟨rfl, hla⟩
    have HLa := mkHid (HB1.out.trans (hla.mono HB1.out.size))
    clear hla
    go_wp2_with fail
    go_ret
    exact ⟨rfl, HLa.out⟩
  | true =>
  cases LB with
  | false =>
    clear HL2a HL2b HX HX'
    go_enter Try.func7, Try.ntmps7
    go_wp2_with fail
    refine (HLa w HB0.out).mono ?_
    rintro e y1 ⟨rfl, hb⟩
    have HB1 := mkHid (HB0.out.trans (hb.mono HB0.out.size))
    clear hb
    go_wp2_with fail
    refine (HLb y1 HB1.out).mono ?_
    rintro e y2 ⟨rfl, hb⟩
    have HB2 := mkHid (HB1.out.trans (hb.mono HB1.out.size))
    clear hb
    go_wp2_with fail
    refine (lawAlive14 y2).mono ?_
    rintro e la ⟨rfl, hla⟩
    have HLa := mkHid (HB2.out.trans (hla.mono HB2.out.size))
    clear hla
    go_wp2_with fail
    go_ret
    exact ⟨rfl, HLa.out⟩
  | true =>
  obtain ⟨hsa, hna⟩ := HL2a.out rfl
  obtain ⟨hsb, hnb⟩ := HL2b.out rfl
  rw [HX.out.len] at hna
  rw [HX'.out.len] at hnb
  have HCc := fun W (hW : Below w.heap.size w W) => codCollision14 a n cap l b m cap' l' W (HX.out.below hW) (HX'.out.below hW) hsa hsb (by omega) (by omega)
  have HCd := fun W (hW : Below w.heap.size w W) => refCollision14 a n cap l b m cap' l' W (HX.out.below hW) (HX'.out.below hW) hsa hsb (by omega) (by omega)
  clear hsa hsb hna hnb HL2a HL2b HX HX'
  unfold CoPost14 at HCc HCd
  generalize coX14 _ _ = CX at *
  generalize coY14 _ _ = CY at *
  generalize (colL _ _).isSome = FO at *
  go_enter Try.func7, Try.ntmps7
  go_wp2_with fail
  refine (HLa w HB0.out).mono ?_
  rintro e y1 ⟨rfl, hb⟩
  have HB1 := mkHid (HB0.out.trans (hb.mono HB0.out.size))
  clear hb
  go_wp2_with fail
  refine (HLb y1 HB1.out).mono ?_
  rintro e y2 ⟨rfl, hb⟩
  have HB2 := mkHid (HB1.out.trans (hb.mono HB1.out.size))
  clear hb
  go_wp2_with fail
  refine (HCc y2 HB2.out).mono ?_
  rintro e y3 ⟨v1, v2, rfl, hv1, hv2, hb⟩
  have HB3 := mkHid (HB2.out.trans (hb.mono HB2.out.size))
  have HV1 := mkHid hv1
  have HV2 := mkHid hv2
  clear hv1 hv2 HCc
  clear hb
  go_wp2_with fail
  refine (HCd y3 HB3.out).mono ?_
  rintro e y4 ⟨u1, u2, rfl, hu1, hu2, hb⟩
  have HB4 := mkHid (HB3.out.trans (hb.mono HB3.out.size))
  have HU1 := mkHid hu1
  have HU2 := mkHid hu2
  have HV1b := mkHid (isV_below14 HV1.out hb)
  have HV2b := mkHid (isV_below14 HV2.out hb)
  clear hu1 hu2 HCd HV1 HV2
  clear hb
  go_wp2_with fail
  refine (refSameB14x _ _ _ _ HV1b.out HU1.out).mono ?_
  rintro e y5 ⟨rfl, hb⟩
  have HB5 := mkHid (HB4.out.trans (hb.mono HB4.out.size))
  have HU2b := mkHid (isV_below14 HU2.out hb)
  have HV2c := mkHid (isV_below14 HV2b.out hb)
  clear hb
  go_wp2_with fail
  refine (refSameB14x _ _ _ _ HV2c.out HU2b.out).mono ?_
  rintro e y6 ⟨rfl, hb⟩
  have HB6 := mkHid (HB5.out.trans (hb.mono HB5.out.size))
  clear hb
  go_wp2_with fail
  refine (lawAlive14 y6).mono ?_
  rintro e la ⟨rfl, hla⟩
  have HLa := mkHid (HB6.out.trans (hla.mono HB6.out.size))
  clear hla
  go_wp2_with fail
  go_ret
  exact ⟨rfl, HLa.out⟩
end Go.Proofs.Ytbclhaleibjkgaa
