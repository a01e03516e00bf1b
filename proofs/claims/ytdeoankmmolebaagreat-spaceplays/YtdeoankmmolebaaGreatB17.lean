/- The document's head, sum and seal. · The document's steps: writes, then a flush. -/
import Derived.Test.YtdeoankmmolebaaGreatB13
import Derived.Test.YtdeoankmmolebaaGreatRefSha
import Derived.Test.YtdeoankmmolebaaGreatB6
namespace Go.Proofs.YtdeoankmmolebaaGreat
open Go.RowKit

theorem map_getD (l : List Wg) (k : Nat) : (l.map plW).getD k (0, []) = plW (nthG l k) := by
  unfold nthG
  rw [List.getD_eq_getElem?_getD, List.getD_eq_getElem?_getD, List.getElem?_map]
  cases l[k]? <;> rfl
/-- writes as they lie in a world -/
structure GsAt (w : World) (base : Nat) (v : Value) (l : List Wg) : Prop where
  own : OwnG 98 w base v l
  bys : Bys w base l
theorem GsAt.on {w w' : World} {base : Nat} {v : Value} {l : List Wg} (h : GsAt w base v l) (hb : Below w.heap.size w w') : GsAt w' base v l := ⟨h.own.on hb, h.bys.keep (ts := []) (KeepT.of_below hb) (by simp)⟩

theorem refUintV (v : Value) (l : List UInt8) (n : Nat) (w : World) (h : IsV w v l) (hl : l.length ≤ 140737488351232) :
    Calls Tryz.prog 130 #[v, .int .u64 (n : Int)] w fun e w' => ∃ v', e = .returned v' ∧ OwnB w' w.heap.size v' (uintL l n) ∧ Below w.heap.size w w' := by
  obtain ⟨a, cap, rfl, hi⟩ := h
  exact refUint a l.length cap l n w hi hl
theorem refListV (v : Value) (l : List UInt8) (n : Int) (w : World) (h : IsV w v l) (hl : l.length ≤ 140737488351232) :
    Calls Tryz.prog 131 #[v, .int .i64 n] w fun e w' => ∃ v', e = .returned v' ∧ OwnB w' w.heap.size v' (listL l n) ∧ Below w.heap.size w w' := by
  obtain ⟨a, cap, rfl, hi⟩ := h
  exact refList a l.length cap l n w hi hl
theorem refBytesV (v v2 : Value) (l b : List UInt8) (w : World) (h : IsV w v l) (h2 : IsV w v2 b) (hl : l.length ≤ 1099511627776) (hb : b.length ≤ 1099511627776) :
    Calls Tryz.prog 108 #[v, v2] w fun e w' => ∃ v', e = .returned v' ∧ OwnB w' w.heap.size v' (bytesL l b) ∧ Below w.heap.size w w' := by
  obtain ⟨a, cap, rfl, hi⟩ := h
  obtain ⟨a2, cap2, rfl, hi2⟩ := h2
  exact refBytes2 a l.length cap l a2 b.length cap2 b w hi hi2 hl hb
theorem refShaV (v : Value) (l : List UInt8) (w : World) (h : IsV w v l) (hl : l.length < 4294967296) :
    Calls Tryz.prog 132 #[v] w fun e w' => ∃ v', e = .returned v' ∧ OwnB w' w.heap.size v' (sha256L l) ∧ Below w.heap.size w w' := by
  obtain ⟨a, cap, rfl, hi⟩ := h
  exact refSha256 a l.length cap l w hi hl

set_option maxRecDepth 20000 in
set_option maxHeartbeats 2000000 in
theorem refHead10 (seq : Nat) (v : Value) (l : List Wg) (base : Nat) (w : World) (h : GsAt w base v l) (hl : l.length ≤ 1000) (ha : ∀ g ∈ l, g.at_ ≤ 1000000) :
    Calls Tryz.prog 109 #[.int .u64 (seq : Int), v] w fun e w' => ∃ v', e = .returned v' ∧ OwnB w' w.heap.size v' (headJ seq (l.map plW)) ∧ Below w.heap.size w w' := by
  obtain ⟨a, cap, rfl, hle, hmx, hnl, hcs⟩ := h.own.form
  have HCs : Hid (0 < l.length → ∃ g, a = some ⟨g, 0, none⟩ ∧ base ≤ g ∧ g < w.heap.size ∧ ∀ i, i < l.length → w.cell? ⟨g, i * 2, none⟩ = some (.int .i64 ((nthG l i).at_ : Int)) ∧ w.cell? ⟨g, i * 2 + 1, none⟩ = some (.slice (nthG l i).ad (nthG l i).b.length (nthG l i).cap)) := hcs
  have HA := mkHid ha
  have HZ : ∀ W, Calls Tryz.prog 129 #[.slice none 0 0, .string ⟨#[115, 116, 101, 108, 101]⟩] W fun e w' => ∃ v, e = .returned v ∧ OwnB w' W.heap.size v (textL [] steleB) ∧ Below W.heap.size W w' := fun W => refText none 0 0 [] ⟨#[115, 116, 101, 108, 101]⟩ W (isB_none W) (by omega) (by decide)
  have HT0 : Hid ((textL [] steleB).length = 10) := by unfold Hid textL behL; simp [beL_length, steleB]
  obtain ⟨n, hn⟩ : ∃ n, n = l.length := ⟨_, rfl⟩
  have HN := mkHid hn
  rw [← hn] at hl hle ⊢
  have HL : Hid (headJ seq (l.map plW) = headTo seq (l.map plW) n) := by unfold Hid headJ; rw [List.length_map, ← hn]
  have HM : Hid ((l.map plW).length = n) := by unfold Hid; rw [List.length_map, ← hn]
  have H0 : Hid (headTo seq (l.map plW) 0 = listL (uintL (textL [] steleB) seq) (n : Int)) := by unfold Hid; rw [headTo_zero, HM.out]
  clear hcs h ha hn hmx hnl hle
  generalize textL [] steleB = t0 at *
  go_enter Tryz.func109, Tryz.ntmps109
  go_wp2_with fail
  refine (HZ w).mono ?_
  rintro e w1 ⟨v1, rfl, ho1, hb1⟩
  have HB1 := mkHid hb1
  have HI1 := mkHid ho1.isV
  clear ho1 hb1 HZ
  go_wp2_with fail
  refine (refUintV v1 t0 seq w1 HI1.out (by rw [HT0.out]; omega)).mono ?_
  rintro e w2 ⟨v2, rfl, ho2, hb2⟩
  have HB2 : Hid (Below w.heap.size w w2) := HB1.out.trans (hb2.mono HB1.out.size)
  have HI2 := mkHid ho2.isV
  clear ho2 hb2 HB1 HI1
  go_wp2_with fail
  refine (refListV v2 _ (n : Int) w2 HI2.out (by rw [uintL_length, HT0.out]; omega)).mono ?_
  rintro e w3 ⟨v3, rfl, ho3, hb3⟩
  have HB3 : Hid (Below w.heap.size w w3) := HB2.out.trans (hb3.mono HB2.out.size)
  have HI3 : Hid (OwnB w3 w.heap.size v3 (headTo seq (l.map plW) 0)) := by unfold Hid; rw [H0.out]; exact ho3.base HB2.out.size
  clear ho3 hb3 HB2 HI2
  go_wp2_with fail
  go_loopw [5, 6] (fun v i wr => ∃ k : Nat, k ≤ n ∧ i = .int .i64 (k : Int) ∧ Hid (OwnB wr w.heap.size v (headTo seq (l.map plW) k)) ∧ Hid (Below w.heap.size w wr)) (fun _ i _ => n - (intOf i).toNat)
  case atStart => exact ⟨0, Nat.zero_le _, rfl, HI3, HB3⟩
  case round =>
    obtain ⟨k, hk, rfl, HO, HB⟩ := hrel
    by_cases hlt : k < n
    · obtain ⟨g, rfl, hg1, hg2, hc⟩ := HCs.out (by rw [← HN.out]; omega)
      have HkL : Hid (k < l.length) := by unfold Hid; rw [← HN.out]; exact hlt
      have c0 := (HB.out.cell (p := ⟨g, k * 2, none⟩) hg2).trans (hc k HkL.out).1
      have hlt' : (k : Int) < (n : Int) := by omega
      have hk0 : (0 : Int) ≤ (k : Int) := by omega
      have HSu : Hid (headTo seq (l.map plW) (k + 1) = uintL (headTo seq (l.map plW) k) (nthG l k).at_) := by
        have := headTo_succ seq (l.map plW) k (by rw [HM.out]; exact hlt)
        unfold Hid; rw [this, map_getD]; rfl
      have HLe : Hid ((headTo seq (l.map plW) k).length ≤ 140737488351232) := by unfold Hid; rw [headTo_length _ _ _ (by rw [HM.out]; exact hk)]; omega
      have hat := HA.out (nthG l k) (by rw [nthG_eq l k HkL.out]; exact List.getElem_mem HkL.out)
      have hw : IntKind.u64.wrap ((nthG l k).at_ : Int) = ((nthG l k).at_ : Int) := wrap64_nat _ (by omega)
      clear hc
      generalize (nthG l k).at_ = ak at *
      generalize headTo seq (l.map plW) k = hk1 at *
      go_wp2_with fail
      refine (refUintV u5 hk1 ak wr HO.out.isV HLe.out).mono ?_
      rintro e w4 ⟨v4, rfl, ho4, hb4⟩
      have HB4 : Hid (Below w.heap.size w w4) := HB.out.trans (hb4.mono HB.out.size)
      have HI4 : Hid (OwnB w4 w.heap.size v4 (headTo seq (l.map plW) (k + 1))) := by unfold Hid; rw [HSu.out]; exact ho4.base HB.out.size
      clear ho4 hb4 HO HB
      go_wp2_with fail
      go_roundw
      case rel => exact ⟨k + 1, by omega, by go_num, HI4, HB4⟩
      case measure => simp [intOf]; omega
    · have hge : ¬ (k : Int) < (n : Int) := by omega
      have hkn : k = n := by omega
      subst hkn
      go_wp2_with fail
      go_ret
      exact ⟨_, rfl, by rw [HL.out]; exact HO.out, HB.out⟩
end Go.Proofs.YtdeoankmmolebaaGreat
namespace Go.Proofs.YtdeoankmmolebaaGreat
open Go.RowKit

theorem drop_cons (l : Qs) (k : Nat) (h : k < l.length) : l.drop k = l.getD k (0, []) :: l.drop (k + 1) := by
  rw [List.getD_eq_getElem?_getD, List.getElem?_eq_getElem h, List.drop_eq_getElem_cons h]; rfl
theorem GsAt.keepX {X : Nat → Prop} {w w' : World} {base : Nat} {v : Value} {l : List Wg} (h : GsAt w base v l) (hx : ∀ k, v.ownBlock = some k → X k) (hT : KeepT RD w w') (hB : KeepB X w w') : GsAt w' base v l := by
  refine ⟨⟨h.own.1, ?_⟩, h.bys.keep hT (by decide)⟩
  rcases h.own.2 with h2 | ⟨g, cap, cur, h3, h4, h5, h6⟩
  · exact .inl h2
  · exact .inr ⟨g, cap, cur, h3, h4, (hB.x g (hx g (by rw [h3]; rfl)) (Array.getElem?_eq_some_iff.1 h5).1).trans h5, h6⟩
theorem GsAt.cells {w : World} {base : Nat} {a : Option Addr} {len cap : Nat} {l : List Wg} (h : GsAt w base (.slice a len cap) l) (k : Nat) (hk : k < l.length) :
    ∃ g, a = some ⟨g, 0, none⟩ ∧ w.cell? ⟨g, k * 2, none⟩ = some (.int .i64 ((nthG l k).at_ : Int)) ∧ w.cell? ⟨g, k * 2 + 1, none⟩ = some (.slice (nthG l k).ad 512 (nthG l k).cap) ∧ (nthG l k).b.length = 512 ∧ IsB w (nthG l k).ad 512 (nthG l k).cap (nthG l k).b := by
  obtain ⟨a', cap', e, _, _, _, hcs⟩ := h.own.form
  injection e with e1 e2 e3
  subst e1 e3
  obtain ⟨g, rfl, _, _, hc⟩ := hcs (by omega)
  have hmem : nthG l k ∈ l := by rw [nthG_eq l k hk]; exact List.getElem_mem hk
  have hby := h.bys _ hmem
  obtain ⟨ab, cb, eb, hib⟩ := hby.2.isB
  simp only [Value.slice.injEq] at eb
  obtain ⟨rfl, _, rfl⟩ := eb
  refine ⟨g, rfl, (hc k hk).1, ?_, hby.1, ?_⟩
  · rw [(hc k hk).2, hby.1]
  · rw [hby.1] at hib; exact hib

set_option maxRecDepth 20000 in
set_option maxHeartbeats 4000000 in
theorem refSteps10 {X : Nat → Prop} (D base m : Nat) (p : Pl) (v : Value) (l : List Wg) (w : World) (h : IsRk X w D base m p) (hm : m + l.length ≤ 90000) (hg : GsAt w base v l) (hx : ∀ k, v.ownBlock = some k → X k) (ha : ∀ g ∈ l, g.at_ ≤ 1000000) :
    Calls Tryz.prog 111 #[.pointer (some ⟨D, 0, none⟩), v] w fun e w' => e = .returned (.int .i64 (stepsE p (l.map plW))) ∧ IsRk X w' D base (m + l.length + 1) (stepsP p (l.map plW)) ∧ KeepT RD w w' ∧ KeepB X w w' ∧ Below base w w' := by
  obtain ⟨a, cap, hv, hle, hmx, hnl, _⟩ := hg.own.form
  subst hv
  have HI0 := mkHid h
  have HG0 := mkHid hg
  have HX := mkHid hx
  have HA := mkHid ha
  obtain ⟨n, hn⟩ : ∃ n, n = l.length := ⟨_, rfl⟩
  have HN := mkHid hn
  rw [← hn] at hm hle HX HG0 ⊢
  have HM : Hid ((l.map plW).length = n) := by unfold Hid; rw [List.length_map, ← hn]
  clear h hg hx ha hn hmx hnl hle
  go_enter Tryz.func111, Tryz.ntmps111
  go_wp2_with fail
  go_loopw [5] (fun i wr => ∃ (k : Nat) (pk : Pl), k ≤ n ∧ i = .int .i64 (k : Int) ∧ Hid (IsRk X wr D base (m + k) pk) ∧ Hid (stepsP p (l.map plW) = stepsP pk ((l.map plW).drop k) ∧ stepsE p (l.map plW) = stepsE pk ((l.map plW).drop k)) ∧ Hid (KeepT RD w wr) ∧ Hid (KeepB X w wr) ∧ Hid (Below base w wr)) (fun i _ => n - (intOf i).toNat)
  case atStart => exact ⟨0, p, Nat.zero_le _, rfl, HI0, ⟨by rw [List.drop_zero], by rw [List.drop_zero]⟩, KeepT.refl _ _, KeepB.refl _ _, Below.refl _ _⟩
  case round =>
    obtain ⟨k, pk, hk, rfl, HI, HS, HT, HK, HB⟩ := hrel
    by_cases hlt : k < n
    · have HkL : Hid (k < l.length) := by unfold Hid; rw [← HN.out]; exact hlt
      have HG := mkHid (HG0.out.keepX HX.out HT.out HK.out)
      obtain ⟨g, rfl, c0, c1, h512, hib⟩ := HG.out.cells k HkL.out
      have hXg : X g := HX.out g rfl
      have hlt' : (k : Int) < (n : Int) := by omega
      have hk0 : (0 : Int) ≤ (k : Int) := by omega
      have HD : Hid ((l.map plW).drop k = ((nthG l k).at_, (nthG l k).b) :: (l.map plW).drop (k + 1)) := by
        unfold Hid; rw [drop_cons _ k (by rw [HM.out]; exact hlt), map_getD]; rfl
      rw [HD.out] at HS
      have hd0 : Below wr.heap.size wr wr.drew := (Below.refl _ wr).drew
      have hmem : nthG l k ∈ l := by rw [nthG_eq l k HkL.out]; exact List.getElem_mem HkL.out
      have HBy : Hid (∀ W, KeepT RD wr.drew W → IsB W (nthG l k).ad 512 (nthG l k).cap (nthG l k).b) := fun W hW => by
        have h7 := (HG.out.bys.keep (KeepT.of_below (ts := []) hd0) (by simp)).keep hW (by decide) _ hmem
        obtain ⟨ab, cb, eb, hib7⟩ := h7.2.isB
        simp only [Value.slice.injEq] at eb
        obtain ⟨rfl, _, rfl⟩ := eb
        rw [h7.1] at hib7; exact hib7
      have HWr := rkWrite D base (m + k) pk ((nthG l k).at_ : Int) (nthG l k).ad (nthG l k).cap (nthG l k).b wr.drew (HI.out.on hd0) (by omega) (by rw [h512]; omega) (fun W hW _ => by rw [h512]; exact HBy.out W hW)
      rw [h512] at HWr
      have HSx : Hid (∀ x, KeepB X wr.drew x → x.cell? ⟨g, k * 2, none⟩ = some (.int .i64 ((nthG l k).at_ : Int)) ∧ x.cell? ⟨g, k * 2 + 1, none⟩ = some (.slice (nthG l k).ad 512 (nthG l k).cap)) := fun x hx => by
        have hgl : g < wr.heap.size := cell_lt c0
        have e := hx.x g hXg hgl
        exact ⟨(World.cell?_of_block (a := ⟨g, k * 2, none⟩) e).trans c0, (World.cell?_of_block (a := ⟨g, k * 2 + 1, none⟩) e).trans c1⟩
      clear hib h512 hmem HBy HG
      generalize (nthG l k).ad = ad at *
      generalize (nthG l k).cap = cb at *
      generalize (nthG l k).b = bb at *
      generalize (nthG l k).at_ = ak at *
      have HKn : Hid (m + k + 1 = m + (k + 1)) := by unfold Hid; omega
      cases hz : decide (pk.wrE (ak : Int) bb = 0) with
      | true =>
        have hz0 : pk.wrE (ak : Int) bb = 0 := of_decide_eq_true hz
        have HS2 : Hid (stepsP p (l.map plW) = stepsP (pk.write (ak : Int) bb) ((l.map plW).drop (k + 1)) ∧ stepsE p (l.map plW) = stepsE (pk.write (ak : Int) bb) ((l.map plW).drop (k + 1))) := by
          have := HS.out
          simp only [stepsP, stepsE, hz0, if_true] at this
          exact this
        rw [hz0] at HWr
        clear HS hz hz0
        go_wp2_with fail
        go_region_held3 (fun w' => w'.cell? ⟨g, k * 2, none⟩ = some (.int .i64 (ak : Int)) ∧ w'.cell? ⟨g, k * 2 + 1, none⟩ = some (.slice ad 512 cb))
          (first | exact ⟨c0, c1⟩ | assumption | exact HSx.out _ hkb.out)
          (first | (go_at_call 42; refine HWr.mono ?_; rintro e x1 ⟨rfl, hi1, ht1, hkb1, hb1⟩; have hkb := mkHid hkb1; have hfr := mkHid (And.intro hi1 (And.intro ht1 hb1)); clear hi1 ht1 hkb1 hb1))
        go_wp2_with fail
        go_roundw
        case rel => exact ⟨k + 1, pk.write (ak : Int) bb, by omega, by go_num, by rw [← HKn.out]; exact hfr.out.1, HS2, (HT.out.trans (KeepT.of_below hd0)).trans hfr.out.2.1, (HK.out.trans (KeepB.of_below hd0)).trans hkb.out, (HB.out.trans ((Below.refl _ wr).drew)).trans hfr.out.2.2⟩
        case measure => simp [intOf]; omega
      | false =>
        have hz0 : ¬ pk.wrE (ak : Int) bb = 0 := of_decide_eq_false hz
        have HS2 : Hid (stepsP p (l.map plW) = pk.write (ak : Int) bb ∧ stepsE p (l.map plW) = pk.wrE (ak : Int) bb) := by
          have := HS.out
          simp only [stepsP, stepsE, hz0, if_false] at this
          exact this
        clear HS hz
        generalize pk.wrE (ak : Int) bb = z at *
        have hzb : (z == 0) = false := by rw [beq_eq_false_iff_ne]; exact hz0
        go_wp2_with fail
        go_region_held3 (fun w' => w'.cell? ⟨g, k * 2, none⟩ = some (.int .i64 (ak : Int)) ∧ w'.cell? ⟨g, k * 2 + 1, none⟩ = some (.slice ad 512 cb))
          (first | exact ⟨c0, c1⟩ | assumption | exact HSx.out _ hkb.out)
          (first | (go_at_call 42; refine HWr.mono ?_; rintro e x1 ⟨rfl, hi1, ht1, hkb1, hb1⟩; have hkb := mkHid hkb1; have hfr := mkHid (And.intro hi1 (And.intro ht1 hb1)); clear hi1 ht1 hkb1 hb1))
        go_wp2_with fail
        go_ret
        refine ⟨by rw [HS2.out.2]; rfl, by rw [HS2.out.1]; exact hfr.out.1.more (by omega), (HT.out.trans (KeepT.of_below hd0)).trans hfr.out.2.1, (HK.out.trans (KeepB.of_below hd0)).trans hkb.out, (HB.out.trans ((Below.refl _ wr).drew)).trans hfr.out.2.2⟩
    · have hge : ¬ (k : Int) < (n : Int) := by omega
      have hkn : k = n := by omega
      subst hkn
      have HS2 : Hid (stepsP p (l.map plW) = pk.flush ∧ stepsE p (l.map plW) = pk.flE) := by
        have := HS.out
        rw [List.drop_of_length_le (by rw [HM.out]; exact Nat.le_refl _)] at this
        exact this
      have HFl := rkFlush D base (m + k) pk wr HI.out (by omega)
      clear HS
      go_wp2_with fail
      refine HFl.mono ?_
      rintro e x1 ⟨rfl, hi1, ht1, hkb1, hb1⟩
      have hfr := mkHid (And.intro hi1 (And.intro ht1 (And.intro hkb1 hb1)))
      clear hi1 ht1 hkb1 hb1
      go_wp2_with fail
      go_ret
      exact ⟨by rw [HS2.out.2]; rfl, by rw [HS2.out.1]; exact hfr.out.1, HT.out.trans hfr.out.2.1, HK.out.trans hfr.out.2.2.1, HB.out.trans hfr.out.2.2.2⟩
end Go.Proofs.YtdeoankmmolebaaGreat
