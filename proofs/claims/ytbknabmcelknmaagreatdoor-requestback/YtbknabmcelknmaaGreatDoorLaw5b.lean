/- For every request and all bytes: what is shown is parsed as it was, and what was parsed can be shown, unless it is too long then. -/
import Derived.Test.YtbknabmcelknmaaGreatDoorR5u
import Derived.Test.YtbknabmcelknmaaGreatDoorR5y
import Derived.Test.YtbknabmcelknmaaGreatDoorJ36
import Derived.Deep.CutRange
namespace Go.Proofs.YtbknabmcelknmaaGreatDoor
open Go.RowKit

/-- a request of the program's in a world; one of the document's -/
structure IsRq (e : TypeId) (w : World) (v : Value) (r : Rq) : Prop where
  is : ∃ ha hc ba bc, v = .agg #[.string (str r.m), .string (str r.p), .string (str r.q), .slice ha r.hs.length hc, .slice ba r.b.length bc] ∧ IsP w ha r.hs.length hc r.hs ∧ IsB w ba r.b.length bc r.b

/-- Parse, with what it tells -/
theorem back_parse (w : World) (hE : Env w) (hg : 9 ≤ w.heap.size) (W : World) (hW : Below w.heap.size w W) (v : Value) (l : List UInt8) (hv : IsV W v l) :
    Calls Tryz.prog 9 #[v] W fun x w' => ∃ ha hc ba bc, x = .returned (.tuple #[.agg #[.string (str (parseC l).2.m), .string (str (parseC l).2.p), .string (str (parseC l).2.q), .slice ha (parseC l).2.hs.length hc, .slice ba (parseC l).2.b.length bc], .int .i64 (parseC l).1]) ∧ IsP w' ha (parseC l).2.hs.length hc (parseC l).2.hs ∧ IsB w' ba (parseC l).2.b.length bc (parseC l).2.b ∧ Below W.heap.size W w' := by
  obtain ⟨va, vc, rfl, hi⟩ := hv
  refine (codParse va _ vc l W hi (hE.below hW) (Nat.le_trans hg hW.size)).mono ?_
  rintro x w' ⟨⟨v, bv, rfl, hown, hIV, -⟩, hb⟩
  obtain ⟨ha, hc, rfl, hP⟩ := hown.isP
  obtain ⟨ba, bc, rfl, hB⟩ := hIV
  exact ⟨ha, hc, ba, bc, rfl, hP, hB, hb⟩
/-- Back -/
theorem back_back (m p q : ByteArray) (ha : Option Addr) (n hc : Nat) (ba : Option Addr) (bn bc : Nat) (hs : List Pr) (W : World) (hP : IsP W ha n hc hs) (hn : n ≤ 4398046510976) :
    Calls Tryz.prog 12 #[.agg #[.string m, .string p, .string q, .slice ha n hc, .slice ba bn bc]] W fun e w' => ∃ va vc, e = .returned (.agg #[.string m, .string p, .string q, .slice va n vc, .slice ba bn bc]) ∧ IsP w' va n vc hs ∧ Below W.heap.size W w' := by
  refine (lawBack5 m p q ba bn bc ha n hc hs W hP hn).mono ?_
  rintro e w' ⟨v, rfl, hown, hb⟩
  obtain ⟨va, vc, rfl, hi⟩ := hown.isP
  rw [hP.len_eq] at hi ⊢
  exact ⟨va, vc, rfl, hi, hb⟩
/-- Own -/
theorem back_own (m p q : ByteArray) (ha : Option Addr) (n hc : Nat) (ba : Option Addr) (bn bc : Nat) (hs : List Pr) (W : World) (hP : IsP W ha n hc hs) (hn : n ≤ 4398046510976) :
    Calls Tryz.prog 15 #[.agg #[.string m, .string p, .string q, .slice ha n hc, .slice ba bn bc]] W fun e w' => ∃ va vc, e = .returned (.agg #[.string m, .string p, .string q, .slice va n vc, .slice ba bn bc]) ∧ IsP w' va n vc hs ∧ Below W.heap.size W w' := by
  refine (lawOwn5 m p q ba bn bc ha n hc hs W hP hn).mono ?_
  rintro e w' ⟨v, rfl, hown, hb⟩
  obtain ⟨va, vc, rfl, hi⟩ := hown.isP
  rw [hP.len_eq] at hi ⊢
  exact ⟨va, vc, rfl, hi, hb⟩

set_option maxRecDepth 20000 in
set_option maxHeartbeats 4000000 in
theorem walkBack (m p q : List UInt8) (ha : Option Addr) (hn hc : Nat) (hs : List Pr) (ba : Option Addr) (bn bc : Nat) (bd : List UInt8) (ca : Option Addr) (cn cc : Nat) (cb : List UInt8) (w : World)
    (hP : IsP w ha hn hc hs) (hB : IsB w ba bn bc bd) (hC : IsB w ca cn cc cb) (hnn : hn ≤ 4398046510976) (hpl : p.length ≤ 140737488351232) (hql : q.length ≤ 140737488351232) (hsz : ∀ i, i < hs.length → (nthP hs i).1.length ≤ 140737488351232 ∧ (nthP hs i).2.length ≤ 140737488351232) (hE : Env w) (hg : 9 ≤ w.heap.size) :
    Calls Tryz.prog 8 #[.agg #[.string (str m), .string (str p), .string (str q), .slice ha hn hc, .slice ba bn bc], .slice ca cn cc] w fun e w' => e = .returned (.bool true) ∧ Below w.heap.size w w' := by
  have T0 : Below w.heap.size w (w.alloc (.cells #[.string (str m), .string (str p), .string (str q), .slice ha hn hc, .slice ba bn bc] 31)) := (Below.refl _ w).alloc (Nat.le_refl _) _
  have K0 := Blk.newAt w w.heap.size 31 _ [.string (str m), .string (str p), .string (str q), .slice ha hn hc, .slice ba bn bc] rfl rfl
  have HLn := hP.len_eq
  have HBn := hB.len_eq
  have HA : ∀ w1, Below w.heap.size w w1 → Calls Tryz.prog 13 #[] w1 fun e w' => e = .returned (.bool true) ∧ Below w1.heap.size w1 w' := fun w1 hb => lawAlive w1 (hE.below hb) (Nat.le_trans hg hb.size)
  have HPs := back_parse w hE hg
  have zs : (str p).size = p.length := str_size p
  have zq : (str q).size = q.length := str_size q
  have x3 : (w.alloc (.cells #[.string (str m), .string (str p), .string (str q), .slice ha hn hc, .slice ba bn bc] 31)).cell? ⟨w.heap.size, 3, none⟩ = some (.slice ha hn hc) := K0.cell 3
  generalize hW0 : (w.alloc (.cells #[.string (str m), .string (str p), .string (str q), .slice ha hn hc, .slice ba bn bc] 31)) = W0 at *
  have HW0 : Hid ((w.alloc (.cells #[.string (str m), .string (str p), .string (str q), .slice ha hn hc, .slice ba bn bc] 31)) = W0) := hW0
  clear hW0
  go_enter Tryz.func8, Tryz.ntmps8
  go_upto_region 1 with fail
  rw [HW0.out]
  have y1 : W0.cell? ⟨w.heap.size, 1, none⟩ = some (.string (str p)) := K0.cell 1
  have y2 : W0.cell? ⟨w.heap.size, 2, none⟩ = some (.string (str q)) := K0.cell 2
  have y4 : W0.cell? ⟨w.heap.size, 4, none⟩ = some (.slice ba bn bc) := K0.cell 4
  go_cut [34] from 15 (fun v wx => (∃ c : Bool, v = .bool c ∧ Hid (c = true → hn ≤ 100 ∧ bn ≤ 10000 ∧ p.length + q.length ≤ 10000)) ∧ wx = W0)
  case first =>
    by_cases c1 : (hn : Int) ≤ 100
    · by_cases c2 : (bn : Int) ≤ 10000
      · go_wp2
        go_meet
        case rel => exact ⟨⟨_, rfl, fun e => ⟨by omega, by omega, by have := of_decide_eq_true e; omega⟩⟩, rfl⟩
      · go_wp2
        go_meet
        case rel => exact ⟨⟨false, rfl, fun e => by cases e⟩, rfl⟩
    · go_wp2
      go_meet
      case rel => exact ⟨⟨false, rfl, fun e => by cases e⟩, rfl⟩
  case rest =>
    obtain ⟨⟨c, rfl, HCd⟩, rfl⟩ := hcut
    have HPw : ∀ W, Below w.heap.size w W → IsP W ha hn hc hs := fun W hW => hP.below hW rfl
    have HBw : ∀ W, Below w.heap.size w W → IsB W ba bn bc bd := fun W hW => hB.below hW rfl
    have HCw : ∀ W, Below w.heap.size w W → IsV W (.slice ca cn cc) cb := fun W hW => (hC.below hW rfl).isV
    have y0 : wc.cell? ⟨w.heap.size, 0, none⟩ = some (.string (str m)) := K0.cell 0
    have HK0 : Hid (Blk wc w.heap.size 31 [.string (str m), .string (str p), .string (str q), .slice ha hn hc, .slice ba bn bc]) := K0
    clear hP hB hC K0 HW0
    go_upto_if 34 with fail
    go_cut [5, 6, 7, 8] from 34 (fun _ _ _ _ wx => Hid (Below w.heap.size w wx))
    case first =>
      cases c with
      | false =>
        go_wp2
        go_meet
        case rel => exact T0
      | true =>
        obtain ⟨c1, c2, c3⟩ := HCd.out rfl
        have HOw : ∀ W, Below w.heap.size w W → Calls Tryz.prog 15 #[.agg #[.string (str m), .string (str p), .string (str q), .slice ha hn hc, .slice ba bn bc]] W fun e w' => ∃ va vc, e = .returned (.agg #[.string (str m), .string (str p), .string (str q), .slice va hn vc, .slice ba bn bc]) ∧ IsP w' va hn vc hs ∧ Below W.heap.size W w' := fun W hW => back_own (str m) (str p) (str q) ha hn hc ba bn bc hs W (HPw W hW) hnn
        have HSw : ∀ W va vc, Below w.heap.size w W → IsP W va hn vc hs → Calls Tryz.prog 14 #[.agg #[.string (str m), .string (str p), .string (str q), .slice va hn vc, .slice ba bn bc]] W fun e w' => ShowOut ⟨m, p, q, hs, bd⟩ e w' W.heap.size ∧ Below W.heap.size W w' := fun W va vc hW hi => codShow m p q va hn vc hs ba bn bc bd W hi (HBw W hW) (by omega) (by omega) (by omega) (by omega) hsz (hE.below hW) (Nat.le_trans hg hW.size)
        by_cases hse : showCE ⟨m, p, q, hs, bd⟩ = 0
        · obtain ⟨eb, ep⟩ := show_ok hse
          have HPr : ∀ W v, Below w.heap.size w W → IsV W v (rtext ⟨m, p, q, hs, bd⟩) → Calls Tryz.prog 9 #[v] W fun x w' => ∃ xa xc xba xbc, x = .returned (.tuple #[.agg #[.string (str m), .string (str p), .string (str q), .slice xa hn xc, .slice xba bn xbc], .int .i64 0]) ∧ IsP w' xa hn xc hs ∧ IsB w' xba bn xbc bd ∧ Below W.heap.size W w' := fun W v hW hv => by
            have := HPs W hW v _ hv
            rw [ep] at this
            dsimp only at this
            rw [HLn, HBn] at this
            exact this
          have HSs : ∀ W va vc, Below w.heap.size w W → IsP W va hn vc hs → Calls Tryz.prog 14 #[.agg #[.string (str m), .string (str p), .string (str q), .slice va hn vc, .slice ba bn bc]] W fun e w' => (∃ v, e = .returned (.tuple #[v, .int .i64 0]) ∧ IsV w' v (rtext ⟨m, p, q, hs, bd⟩)) ∧ Below W.heap.size W w' := fun W va vc hW hi => (HSw W va vc hW hi).mono (by
            rintro e w' ⟨⟨v, rfl, h1, -⟩, hb⟩
            rw [hse, eb] at *
            exact ⟨⟨v, rfl, h1⟩, hb⟩)
          have HRs : ∀ va vc xba xbc W, IsP W va hn vc hs → IsP W ha hn hc hs → IsB W xba bn xbc bd → IsB W ba bn bc bd → Calls Tryz.prog 11 #[.agg #[.string (str m), .string (str p), .string (str q), .slice va hn vc, .slice xba bn xbc], .agg #[.string (str m), .string (str p), .string (str q), .slice ha hn hc, .slice ba bn bc]] W fun e w' => e = .returned (.bool true) ∧ Below W.heap.size W w' := fun va vc xba xbc W h1 h2 h3 h4 => refSame5 (str m) (str p) (str q) va vc ha hc hn hs xba xbc ba bc bn bd W h1 h2 h3 h4
          have HBk : ∀ xa xc xba xbc W, IsP W xa hn xc hs → Calls Tryz.prog 12 #[.agg #[.string (str m), .string (str p), .string (str q), .slice xa hn xc, .slice xba bn xbc]] W fun e w' => ∃ va vc, e = .returned (.agg #[.string (str m), .string (str p), .string (str q), .slice va hn vc, .slice xba bn xbc]) ∧ IsP w' va hn vc hs ∧ Below W.heap.size W w' := fun xa xc xba xbc W h1 => back_back (str m) (str p) (str q) xa hn xc xba bn xbc hs W h1 hnn
          clear HSw HPs eb ep hse
          generalize rtext ⟨m, p, q, hs, bd⟩ = rt at *
          generalize str m = sm at *
          generalize str p = sp at *
          generalize str q = sq at *
          go_upto_region 5 with (first | (go_at_call 15; refine (HOw _ T0).mono ?_; rintro e w1 ⟨va1, vc1, rfl, hP1, hb1⟩) | (go_at_call 14; refine (HSs _ _ _ (T0.trans (hb1.mono T0.size)) hP1).mono ?_; rintro e w2 ⟨⟨v2, rfl, hv2⟩, hb2⟩) | (go_at_call 9; refine (HPr _ _ ((T0.trans (hb1.mono T0.size)).trans (hb2.mono (T0.trans (hb1.mono T0.size)).size)) hv2).mono ?_; rintro e w3 ⟨xa, xc, xba, xbc, rfl, hP3, hB3, hb3⟩))
          have T2 : Below w.heap.size w w2 := (T0.trans (hb1.mono T0.size)).trans (hb2.mono (T0.trans (hb1.mono T0.size)).size)
          have T3 : Below w.heap.size w w3 := T2.trans (hb3.mono T2.size)
          have KX := Blk.newAt w3 w3.heap.size 25 _ [.string sm, .string sp, .string sq, .slice xa hn xc, .slice xba bn xbc] rfl rfl
          have KR : Blk (w3.alloc (.cells #[.string sm, .string sp, .string sq, .slice xa hn xc, .slice xba bn xbc] 25)) w.heap.size 31 [.string sm, .string sp, .string sq, .slice ha hn hc, .slice ba bn bc] := (((HK0.out.on hb1).on hb2).on hb3).alloc _
          have TR : Below w.heap.size w (w3.alloc (.cells #[.string sm, .string sp, .string sq, .slice xa hn xc, .slice xba bn xbc] 25)) := T3.alloc T3.size _
          have hPR := hP3.small (.cells #[.string sm, .string sp, .string sq, .slice xa hn xc, .slice xba bn xbc] 25)
          have hBR := hB3.below ((Below.refl _ w3).alloc (Nat.le_refl _) (.cells #[.string sm, .string sp, .string sq, .slice xa hn xc, .slice xba bn xbc] 25)) rfl
          generalize (w3.alloc (.cells #[.string sm, .string sp, .string sq, .slice xa hn xc, .slice xba bn xbc] 25)) = WR at *
          have HKP : ∀ w', Below WR.heap.size WR w' → Below WR.heap.size WR w' ∧ w'.cell? ⟨w3.heap.size, 0, none⟩ = some (.string sm) ∧ w'.cell? ⟨w3.heap.size, 1, none⟩ = some (.string sp) ∧ w'.cell? ⟨w3.heap.size, 2, none⟩ = some (.string sq) ∧ w'.cell? ⟨w3.heap.size, 3, none⟩ = some (.slice xa hn xc) ∧ w'.cell? ⟨w3.heap.size, 4, none⟩ = some (.slice xba bn xbc) ∧ w'.cell? ⟨w.heap.size, 0, none⟩ = some (.string sm) ∧ w'.cell? ⟨w.heap.size, 1, none⟩ = some (.string sp) ∧ w'.cell? ⟨w.heap.size, 2, none⟩ = some (.string sq) ∧ w'.cell? ⟨w.heap.size, 3, none⟩ = some (.slice ha hn hc) ∧ w'.cell? ⟨w.heap.size, 4, none⟩ = some (.slice ba bn bc) := fun w' hb => ⟨hb, (KX.on hb).cell 0, (KX.on hb).cell 1, (KX.on hb).cell 2, (KX.on hb).cell 3, (KX.on hb).cell 4, (KR.on hb).cell 0, (KR.on hb).cell 1, (KR.on hb).cell 2, (KR.on hb).cell 3, (KR.on hb).cell 4⟩
          have HTR : ∀ w', Below WR.heap.size WR w' → Below w.heap.size w w' := fun w' hb => TR.trans (hb.mono TR.size)
          clear KX KR TR
          go_region_held3 (fun w' => Below WR.heap.size WR w' ∧ w'.cell? ⟨w3.heap.size, 0, none⟩ = some (.string sm) ∧ w'.cell? ⟨w3.heap.size, 1, none⟩ = some (.string sp) ∧ w'.cell? ⟨w3.heap.size, 2, none⟩ = some (.string sq) ∧ w'.cell? ⟨w3.heap.size, 3, none⟩ = some (.slice xa hn xc) ∧ w'.cell? ⟨w3.heap.size, 4, none⟩ = some (.slice xba bn xbc) ∧ w'.cell? ⟨w.heap.size, 0, none⟩ = some (.string sm) ∧ w'.cell? ⟨w.heap.size, 1, none⟩ = some (.string sp) ∧ w'.cell? ⟨w.heap.size, 2, none⟩ = some (.string sq) ∧ w'.cell? ⟨w.heap.size, 3, none⟩ = some (.slice ha hn hc) ∧ w'.cell? ⟨w.heap.size, 4, none⟩ = some (.slice ba bn bc))
            (first | exact HKP _ ((Below.refl _ WR).drew) | assumption | (have hq0 := ‹Below _ _ _ ∧ _›; exact HKP _ (hq0.1.trans (hbx.mono hq0.1.size))))
            (first | (go_at_call 12; have hq0 := ‹Below _ _ _ ∧ _›; refine (HBk _ _ _ _ _ (hPR.below hq0.1 rfl)).mono ?_; rintro e w5 ⟨va5, vc5, rfl, hP5, hbx⟩; have hq5 := hq0.1.trans (hbx.mono hq0.1.size); clear hq0) | (go_at_call 11; refine (HRs _ _ _ _ _ hP5 (HPw _ (HTR _ hq5)) (hBR.below hq5 rfl) (HBw _ (HTR _ hq5))).mono ?_; rintro e w6 ⟨rfl, hbx⟩))
          all_goals
            have hq9 := ‹Below _ _ _ ∧ _›
            go_wp2
            go_meet
            case rel => exact HTR _ hq9.1
        · have hz : (showCE ⟨m, p, q, hs, bd⟩ == 0) = false := by simpa using hse
          clear HPs
          unfold ShowOut at HSw
          generalize showCB ⟨m, p, q, hs, bd⟩ = sb at *
          generalize showCE ⟨m, p, q, hs, bd⟩ = se at *
          generalize str m = sm at *
          generalize str p = sp at *
          generalize str q = sq at *
          go_wp2_with (first | (go_at_call 15; refine (HOw _ T0).mono ?_; rintro e w1 ⟨va1, vc1, rfl, hP1, hb1⟩) | (go_at_call 14; refine (HSw _ _ _ (T0.trans (hb1.mono T0.size)) hP1).mono ?_; rintro e w2 ⟨⟨v2, rfl, hv2, -⟩, hb2⟩))
          go_meet
          case rel => exact (T0.trans (hb1.mono T0.size)).trans (hb2.mono (T0.trans (hb1.mono T0.size)).size)
    case rest =>
      have T1 : Below w.heap.size w wc := hcut.out
      have hv1 := HCw wc T1
      have HP1 := HPs wc T1 _ cb hv1
      by_cases hpe : (parseC cb).1 = 0
      · obtain ⟨z1, z2, z3, z4, z5⟩ := parse_sizes hpe
        have HSE := parse_again hpe
        rw [hpe] at HP1
        generalize (parseC cb).2 = r2 at *
        obtain ⟨rm, rp, rq, rh, rb⟩ := r2
        dsimp only at HP1 z1 z2 z3 z4 z5 HSE
        have HSw : ∀ W va vc vba vbc, Below w.heap.size w W → IsP W va rh.length vc rh → IsB W vba rb.length vbc rb → Calls Tryz.prog 14 #[.agg #[.string (str rm), .string (str rp), .string (str rq), .slice va rh.length vc, .slice vba rb.length vbc]] W fun e w' => ShowOut ⟨rm, rp, rq, rh, rb⟩ e w' W.heap.size ∧ Below W.heap.size W w' := fun W va vc vba vbc hW hi hj => codShow rm rp rq va rh.length vc rh vba rb.length vbc rb W hi hj (by omega) (by omega) (by omega) (by omega) z5 (hE.below hW) (Nat.le_trans hg hW.size)
        unfold ShowOut at HSw
        rcases HSE with hse | hse
        · obtain ⟨eb, ep⟩ := show_ok hse
          rw [hse, eb] at HSw
          have HPr : ∀ W v, Below w.heap.size w W → IsV W v (rtext ⟨rm, rp, rq, rh, rb⟩) → Calls Tryz.prog 9 #[v] W fun x w' => ∃ xa xc xba xbc, x = .returned (.tuple #[.agg #[.string (str rm), .string (str rp), .string (str rq), .slice xa rh.length xc, .slice xba rb.length xbc], .int .i64 0]) ∧ IsP w' xa rh.length xc rh ∧ IsB w' xba rb.length xbc rb ∧ Below W.heap.size W w' := fun W v hW hv => by
            have := HPs W hW v _ hv
            rw [ep] at this
            exact this
          have HBk : ∀ xa xc xba xbc W, IsP W xa rh.length xc rh → Calls Tryz.prog 12 #[.agg #[.string (str rm), .string (str rp), .string (str rq), .slice xa rh.length xc, .slice xba rb.length xbc]] W fun e w' => ∃ va vc, e = .returned (.agg #[.string (str rm), .string (str rp), .string (str rq), .slice va rh.length vc, .slice xba rb.length xbc]) ∧ IsP w' va rh.length vc rh ∧ Below W.heap.size W w' := fun xa xc xba xbc W h1 => back_back (str rm) (str rp) (str rq) xa rh.length xc xba rb.length xbc rh W h1 (by omega)
          have HRs : ∀ va vc xba xbc ua uc yba ybc W, IsP W va rh.length vc rh → IsP W ua rh.length uc rh → IsB W xba rb.length xbc rb → IsB W yba rb.length ybc rb → Calls Tryz.prog 11 #[.agg #[.string (str rm), .string (str rp), .string (str rq), .slice va rh.length vc, .slice xba rb.length xbc], .agg #[.string (str rm), .string (str rp), .string (str rq), .slice ua rh.length uc, .slice yba rb.length ybc]] W fun e w' => e = .returned (.bool true) ∧ Below W.heap.size W w' := fun va vc xba xbc ua uc yba ybc W h1 h2 h3 h4 => refSame5 (str rm) (str rp) (str rq) va vc ua uc rh.length rh xba xbc yba ybc rb.length rb W h1 h2 h3 h4
          clear HPs eb ep hse hpe HPw HBw HCw
          generalize rtext ⟨rm, rp, rq, rh, rb⟩ = rt at *
          generalize str rm = sm at *
          generalize str rp = sp at *
          generalize str rq = sq at *
          generalize rh.length = kn at *
          generalize rb.length = kb at *
          go_upto_region 14 with (first | (go_at_call 14; refine (HSw _ _ _ _ _ TA hPA hBA).mono ?_; rintro e w2 ⟨⟨v2, rfl, hv2, -⟩, hb2⟩; have T2 := TA.trans (hb2.mono TA.size); have K2 := KA.on hb2) | (go_at_call 9; first | (have hmk := hv2; refine (HPr _ _ T2 hv2).mono ?_; rintro e w3 ⟨ya, yc, yba, ybc, rfl, hP3, hB3, hb3⟩; have T3 := T2.trans (hb3.mono T2.size)) | (refine HP1.mono ?_; rintro e w1 ⟨xa, xc, xba, xbc, rfl, hP1, hB1, hb1⟩; have TA : Below w.heap.size w (w1.alloc (.cells #[.string sm, .string sp, .string sq, .slice xa kn xc, .slice xba kb xbc] 25)) := (T1.trans (hb1.mono T1.size)).alloc (T1.trans (hb1.mono T1.size)).size _; have hPA := hP1.small (.cells #[.string sm, .string sp, .string sq, .slice xa kn xc, .slice xba kb xbc] 25); have hBA := hB1.below ((Below.refl _ w1).alloc (Nat.le_refl _) (.cells #[.string sm, .string sp, .string sq, .slice xa kn xc, .slice xba kb xbc] 25)) rfl; have KA := Blk.newAt w1 w1.heap.size 25 _ [.string sm, .string sp, .string sq, .slice xa kn xc, .slice xba kb xbc] rfl rfl; have a0 := KA.cell 0; have a1 := KA.cell 1; have a2 := KA.cell 2; have a3 := KA.cell 3; have a4 := KA.cell 4)))
          have KX : Blk (w3.alloc (.cells #[.string sm, .string sp, .string sq, .slice ya kn yc, .slice yba kb ybc] 25)) w1.heap.size 25 [.string sm, .string sp, .string sq, .slice xa kn xc, .slice xba kb xbc] := (K2.on hb3).alloc _
          have KY := Blk.newAt w3 w3.heap.size 25 _ [.string sm, .string sp, .string sq, .slice ya kn yc, .slice yba kb ybc] rfl rfl
          have TR : Below w.heap.size w (w3.alloc (.cells #[.string sm, .string sp, .string sq, .slice ya kn yc, .slice yba kb ybc] 25)) := T3.alloc T3.size _
          have hPX := ((hPA.below hb2 rfl).below hb3 rfl).small (.cells #[.string sm, .string sp, .string sq, .slice ya kn yc, .slice yba kb ybc] 25)
          have hBX := ((hBA.below hb2 rfl).below hb3 rfl).below ((Below.refl _ w3).alloc (Nat.le_refl _) (.cells #[.string sm, .string sp, .string sq, .slice ya kn yc, .slice yba kb ybc] 25)) rfl
          have hPY := hP3.small (.cells #[.string sm, .string sp, .string sq, .slice ya kn yc, .slice yba kb ybc] 25)
          have hBY := hB3.below ((Below.refl _ w3).alloc (Nat.le_refl _) (.cells #[.string sm, .string sp, .string sq, .slice ya kn yc, .slice yba kb ybc] 25)) rfl
          generalize (w3.alloc (.cells #[.string sm, .string sp, .string sq, .slice ya kn yc, .slice yba kb ybc] 25)) = WR at *
          have HKP : ∀ w', Below WR.heap.size WR w' → Below WR.heap.size WR w' ∧ w'.cell? ⟨w1.heap.size, 0, none⟩ = some (.string sm) ∧ w'.cell? ⟨w1.heap.size, 1, none⟩ = some (.string sp) ∧ w'.cell? ⟨w1.heap.size, 2, none⟩ = some (.string sq) ∧ w'.cell? ⟨w1.heap.size, 3, none⟩ = some (.slice xa kn xc) ∧ w'.cell? ⟨w1.heap.size, 4, none⟩ = some (.slice xba kb xbc) ∧ w'.cell? ⟨w3.heap.size, 0, none⟩ = some (.string sm) ∧ w'.cell? ⟨w3.heap.size, 1, none⟩ = some (.string sp) ∧ w'.cell? ⟨w3.heap.size, 2, none⟩ = some (.string sq) ∧ w'.cell? ⟨w3.heap.size, 3, none⟩ = some (.slice ya kn yc) ∧ w'.cell? ⟨w3.heap.size, 4, none⟩ = some (.slice yba kb ybc) := fun w' hb => ⟨hb, (KX.on hb).cell 0, (KX.on hb).cell 1, (KX.on hb).cell 2, (KX.on hb).cell 3, (KX.on hb).cell 4, (KY.on hb).cell 0, (KY.on hb).cell 1, (KY.on hb).cell 2, (KY.on hb).cell 3, (KY.on hb).cell 4⟩
          have HTR : ∀ w', Below WR.heap.size WR w' → Below w.heap.size w w' := fun w' hb => TR.trans (hb.mono TR.size)
          clear KX KY TR a0 a1 a2 a3 a4 HSw HPr HP1
          go_region_held3 (fun w' => Below WR.heap.size WR w' ∧ w'.cell? ⟨w1.heap.size, 0, none⟩ = some (.string sm) ∧ w'.cell? ⟨w1.heap.size, 1, none⟩ = some (.string sp) ∧ w'.cell? ⟨w1.heap.size, 2, none⟩ = some (.string sq) ∧ w'.cell? ⟨w1.heap.size, 3, none⟩ = some (.slice xa kn xc) ∧ w'.cell? ⟨w1.heap.size, 4, none⟩ = some (.slice xba kb xbc) ∧ w'.cell? ⟨w3.heap.size, 0, none⟩ = some (.string sm) ∧ w'.cell? ⟨w3.heap.size, 1, none⟩ = some (.string sp) ∧ w'.cell? ⟨w3.heap.size, 2, none⟩ = some (.string sq) ∧ w'.cell? ⟨w3.heap.size, 3, none⟩ = some (.slice ya kn yc) ∧ w'.cell? ⟨w3.heap.size, 4, none⟩ = some (.slice yba kb ybc))
            (first | exact HKP _ ((Below.refl _ WR).drew) | assumption | (have hq0 := ‹Below _ _ _ ∧ _›; exact HKP _ (hq0.1.trans (hbx.mono hq0.1.size))))
            (first | (go_at_call 12; first | (have hmk := hP8; refine (HBk _ _ _ _ _ (hPY.below hq8 rfl)).mono ?_; rintro e w9 ⟨va9, vc9, rfl, hP9, hbx⟩; have hP89 := hP8.below hbx rfl; have hq9 := hq8.trans (hbx.mono hq8.size)) | (have hq0 := ‹Below _ _ _ ∧ _›; refine (HBk _ _ _ _ _ (hPX.below hq0.1 rfl)).mono ?_; rintro e w8 ⟨va8, vc8, rfl, hP8, hbx⟩; have hq8 := hq0.1.trans (hbx.mono hq0.1.size); clear hq0)) | (go_at_call 11; refine (HRs _ _ _ _ _ _ _ _ _ hP89 hP9 (hBX.below hq9 rfl) (hBY.below hq9 rfl)).mono ?_; rintro e w10 ⟨rfl, hbx⟩) | (go_at_call 13; have hq0 := ‹Below _ _ _ ∧ _›; refine (HA _ (HTR _ hq0.1)).mono ?_; rintro e w11 ⟨rfl, hbx⟩; clear hq0))
          all_goals
            have hq9 := ‹Below _ _ _ ∧ _›
            go_wp2
            go_ret
            exact ⟨rfl, HTR _ hq9.1⟩
        · have eb := show_no (r := ⟨rm, rp, rq, rh, rb⟩) (by rw [hse]; decide)
          rw [hse, eb] at HSw
          clear HPs eb hse hpe HPw HBw HCw
          generalize str rm = sm at *
          generalize str rp = sp at *
          generalize str rq = sq at *
          generalize rh.length = kn at *
          generalize rb.length = kb at *
          go_wp2_with (first | (go_at_call 14; refine (HSw _ _ _ _ _ TA hPA hBA).mono ?_; rintro e w2 ⟨⟨v2, rfl, hv2, -⟩, hb2⟩; obtain ⟨va2, vc2, rfl, -⟩ := hv2; have T2 := TA.trans (hb2.mono TA.size)) | (go_at_call 9; refine HP1.mono ?_; rintro e w1 ⟨xa, xc, xba, xbc, rfl, hP1, hB1, hb1⟩; have TA : Below w.heap.size w (w1.alloc (.cells #[.string sm, .string sp, .string sq, .slice xa kn xc, .slice xba kb xbc] 25)) := (T1.trans (hb1.mono T1.size)).alloc (T1.trans (hb1.mono T1.size)).size _; have hPA := hP1.small (.cells #[.string sm, .string sp, .string sq, .slice xa kn xc, .slice xba kb xbc] 25); have hBA := hB1.below ((Below.refl _ w1).alloc (Nat.le_refl _) (.cells #[.string sm, .string sp, .string sq, .slice xa kn xc, .slice xba kb xbc] 25)) rfl; have KA := Blk.newAt w1 w1.heap.size 25 _ [.string sm, .string sp, .string sq, .slice xa kn xc, .slice xba kb xbc] rfl rfl; have a0 := KA.cell 0; have a1 := KA.cell 1; have a2 := KA.cell 2; have a3 := KA.cell 3; have a4 := KA.cell 4) | (go_at_call 13; refine (HA _ T2).mono ?_; rintro e w11 ⟨rfl, hb11⟩))
          go_ret
          exact ⟨rfl, T2.trans (hb11.mono T2.size)⟩
      · have HPx : Calls Tryz.prog 9 #[.slice ca cn cc] wc fun x w' => ∃ xa xc xba xbc, x = .returned (.tuple #[.agg #[.string ⟨#[]⟩, .string ⟨#[]⟩, .string ⟨#[]⟩, .slice xa 0 xc, .slice xba 0 xbc], .int .i64 (parseC cb).1]) ∧ IsP w' xa 0 xc [] ∧ IsB w' xba 0 xbc [] ∧ Below wc.heap.size wc w' := by
          rw [parse_none hpe] at HP1
          exact HP1
        have hz : ((parseC cb).1 == 0) = false := by simpa using hpe
        generalize (parseC cb).1 = pe at *
        have HBk : ∀ xa xc xba xbc W, IsP W xa 0 xc [] → Calls Tryz.prog 12 #[.agg #[.string ⟨#[]⟩, .string ⟨#[]⟩, .string ⟨#[]⟩, .slice xa 0 xc, .slice xba 0 xbc]] W fun e w' => ∃ va vc, e = .returned (.agg #[.string ⟨#[]⟩, .string ⟨#[]⟩, .string ⟨#[]⟩, .slice va 0 vc, .slice xba 0 xbc]) ∧ IsP w' va 0 vc [] ∧ Below W.heap.size W w' := fun xa xc xba xbc W h1 => back_back ⟨#[]⟩ ⟨#[]⟩ ⟨#[]⟩ xa 0 xc xba 0 xbc [] W h1 (by omega)
        have HRs : ∀ va vc xba xbc W, IsP W va 0 vc [] → IsB W xba 0 xbc [] → Calls Tryz.prog 11 #[.agg #[.string ⟨#[]⟩, .string ⟨#[]⟩, .string ⟨#[]⟩, .slice va 0 vc, .slice xba 0 xbc], .agg #[.string ⟨#[]⟩, .string ⟨#[]⟩, .string ⟨#[]⟩, .slice none 0 0, .slice none 0 0]] W fun e w' => e = .returned (.bool true) ∧ Below W.heap.size W w' := fun va vc xba xbc W h1 h3 => refSame5 ⟨#[]⟩ ⟨#[]⟩ ⟨#[]⟩ va vc none 0 0 [] xba xbc none 0 0 [] W h1 (isP_nil W) h3 (isB_none W)
        clear HPs HP1 hpe HPw HBw HCw
        go_wp2_with (first | (go_at_call 9; refine HPx.mono ?_; rintro e w1 ⟨xa, xc, xba, xbc, rfl, hP1, hB1, hb1⟩; have TA : Below w.heap.size w (w1.alloc (.cells #[.string ⟨#[]⟩, .string ⟨#[]⟩, .string ⟨#[]⟩, .slice xa 0 xc, .slice xba 0 xbc] 25)) := (T1.trans (hb1.mono T1.size)).alloc (T1.trans (hb1.mono T1.size)).size _; have hPA := hP1.small (.cells #[.string ⟨#[]⟩, .string ⟨#[]⟩, .string ⟨#[]⟩, .slice xa 0 xc, .slice xba 0 xbc] 25); have hBA := hB1.below ((Below.refl _ w1).alloc (Nat.le_refl _) (.cells #[.string ⟨#[]⟩, .string ⟨#[]⟩, .string ⟨#[]⟩, .slice xa 0 xc, .slice xba 0 xbc] 25)) rfl) | (go_at_call 12; refine (HBk _ _ _ _ _ hPA).mono ?_; rintro e w2 ⟨va2, vc2, rfl, hP2, hb2⟩; have T2 := TA.trans (hb2.mono TA.size)) | (go_at_call 11; refine (HRs _ _ _ _ _ hP2 (hBA.below hb2 rfl)).mono ?_; rintro e w3 ⟨rfl, hb3⟩; have T3 := T2.trans (hb3.mono T2.size)) | (go_at_call 13; refine (HA _ T3).mono ?_; rintro e w11 ⟨rfl, hb11⟩))
        go_ret
        exact ⟨rfl, T3.trans (hb11.mono T3.size)⟩
end Go.Proofs.YtbknabmcelknmaaGreatDoor
