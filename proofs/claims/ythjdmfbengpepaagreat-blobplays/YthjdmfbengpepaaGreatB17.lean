/- What the document's Mount answers. · The document's journal and transactions: Is, Read. · The document's transaction: Read. · The document's Commit: plain; the slots. -/
import Derived.Test.YthjdmfbengpepaaGreatJr6
namespace Go.Proofs.YthjdmfbengpepaaGreat
open Go.RowKit

/-- what a mount answers -/
def MtPost (e0 : Int) (sq : Nat) (D H : Nat) (e : Ending) (w' : World) : Prop :=
  if e0 = 0 then ∃ J, e = .returned (.tuple #[.pointer (some ⟨J, 0, none⟩), .int .i64 0]) ∧ H ≤ J ∧ Blk w' J 85 [.pointer (some ⟨D, 0, none⟩), .int .u64 (sq : Int), .bool false]
  else e = .returned (.tuple #[.pointer none, .int .i64 e0])

set_option maxRecDepth 20000 in
set_option maxHeartbeats 8000000 in
theorem refMount10 {X : Nat → Prop} (D base m : Nat) (p : Pl) (w : World) (h : IsRk X w D base m p) (hm : m ≤ 80000) (hn64 : 64 ≤ p.n) (hn4 : p.n ≤ 4096) :
    Calls Tryz.prog 10 #[.pointer (some ⟨D, 0, none⟩)] w fun e w' => MtPost (mountE p) (mountS p) D w.heap.size e w' ∧ IsRk X w' D base (m + 50) (mountP p) ∧ KeepT RD w w' ∧ KeepB X w w' ∧ Below base w w' := by
  have HR := rkRead D base m p 0 w h (by omega)
  have HH := mkHid h
  have Hlow := mkHid h.low
  clear h
  by_cases h0 : p.rdE 0 = 0
  · rw [h0] at HR
    cases hho : heldJ p with
    | none =>
      have HE : Hid (mountE p = 0 ∧ mountS p = 0 ∧ mountP p = p) := by unfold Hid mountE mountS mountP; rw [hho, if_neg (by simp [h0]), if_neg (by simp [h0])]; exact ⟨rfl, rfl, rfl⟩
      have HHe := fun W (hb : Below w.heap.size w W) => refHeld10 D base m p W (HH.out.on hb) (by omega) hn64 hn4
      rw [hho] at HHe
      clear h0 hho
      go_enter Tryz.func10, Tryz.ntmps10
      go_wp2_with fail
      refine HR.mono ?_
      rintro e w1 ⟨v1, rfl, ho1, hb1⟩
      have HB1 := mkHid hb1
      clear hb1 ho1 HR
      go_wp2_with fail
      refine (HHe w1 HB1.out).mono ?_
      rintro e w2 ⟨hp2, hb2⟩
      have HB2 : Hid (Below w.heap.size w w2) := HB1.out.trans (hb2.mono HB1.out.size)
      obtain rfl : e = .returned (.tuple #[.int .u64 0, .slice none 0 0, .bool false]) := hp2
      clear hb2 HHe HB1
      go_wp2_with fail
      go_ret2
      have hbl : Below w.heap.size w (w2.alloc (.cells #[.pointer (some ⟨D, 0, none⟩), .int .u64 0, .bool false] 85)) := HB2.out.alloc HB2.out.size _
      refine ⟨?_, by rw [HE.out.2.2]; exact (HH.out.on hbl).more (by omega), KeepT.of_below hbl, KeepB.of_below hbl, hbl.mono Hlow.out⟩
      rw [HE.out.1, HE.out.2.1, MtPost, if_pos rfl]
      exact ⟨_, rfl, HB2.out.size, Blk.newAt w2 _ _ _ _ rfl rfl⟩
    | some q =>
      obtain ⟨sq, L⟩ := q
      have HE : Hid (mountE p = stepsE p L ∧ mountS p = sq ∧ mountP p = stepsP p L) := by unfold Hid mountE mountS mountP; rw [hho, if_neg (by simp [h0]), if_neg (by simp [h0])]; exact ⟨rfl, rfl, rfl⟩
      have HLn := mkHid (heldJ_len hho)
      have HHe := fun W (hb : Below w.heap.size w W) => refHeld10 D base m p W (HH.out.on hb) (by omega) hn64 hn4
      rw [hho] at HHe
      rw [HE.out.1, HE.out.2.1, HE.out.2.2]
      clear h0 hho HE
      go_enter Tryz.func10, Tryz.ntmps10
      go_wp2_with fail
      refine HR.mono ?_
      rintro e w1 ⟨v1, rfl, ho1, hb1⟩
      have HB1 := mkHid hb1
      clear hb1 ho1 HR
      go_wp2_with fail
      refine (HHe w1 HB1.out).mono ?_
      rintro e w2 ⟨hp2, hb2⟩
      have HB2 : Hid (Below w.heap.size w w2) := HB1.out.trans (hb2.mono HB1.out.size)
      obtain ⟨v, l, he, hg, hll⟩ := hp2
      subst he
      have HG0 : Hid (GsAt w2 w.heap.size v l) := ⟨hg.own.base HB1.out.size, fun x hx => ⟨(hg.bys x hx).1, (hg.bys x hx).2.base HB1.out.size⟩⟩
      have HLL := mkHid hll
      clear hb2 hg hll HHe HB1
      obtain ⟨a, cap, hv, hle, hmx, hnl, _⟩ := HG0.out.own.form
      subst hv
      obtain ⟨n, hn⟩ : ∃ n, n = l.length := ⟨_, rfl⟩
      have HN := mkHid hn
      have hn48 : n ≤ 48 := by have := HLn.out.1; rw [← HLL.out, List.length_map] at this; omega
      rw [← hn] at HG0 ⊢
      have HM : Hid (L.length = n) := by unfold Hid; rw [← HLL.out, List.length_map, ← hn]
      have hYt : ∀ k, (Value.slice a n cap).ownBlock = some k → w.heap.size ≤ k ∧ k < w2.heap.size := fun k hk => by rw [hn] at hk HG0; exact HG0.out.own.blk k hk
      obtain ⟨Y, hY⟩ : ∃ Y : Nat → Prop, Y = fun k => X k ∨ (w.heap.size ≤ k ∧ k < w2.heap.size) := ⟨_, rfl⟩
      have HX : Hid (∀ k, (Value.slice a n cap).ownBlock = some k → Y k) := fun k hk => by rw [hY]; exact .inr (hYt k hk)
      have HI0 : Hid (IsRk Y w2 D base m p) := by
        have hlt : ∀ k, X k → k < w.heap.size := by obtain ⟨_, _, _, _, _, _, _, _, f⟩ := HH.out; exact f
        refine HH.out.wider HB2.out (fun k hk => ?_)
        rw [hY] at hk
        rcases hk with hk | hk
        · exact ⟨.inl hk, Nat.lt_of_lt_of_le (hlt k hk) HB2.out.size⟩
        · exact ⟨.inr hk.1, hk.2⟩
      have HXY : Hid (∀ k, X k → Y k) := fun k hk => by rw [hY]; exact .inl hk
      have HEnd : Hid (∀ e x, (MtPost (stepsE p L) sq D w.heap.size e x ∧ IsRk Y x D base (m + 50) (stepsP p L) ∧ KeepT RD w2 x ∧ KeepB Y w2 x ∧ Below base w2 x) → MtPost (stepsE p L) sq D w.heap.size e x ∧ IsRk X x D base (m + 50) (stepsP p L) ∧ KeepT RD w x ∧ KeepB X w x ∧ Below base w x) := fun e x hx =>
        ⟨hx.1, hx.2.1.thin HXY.out, (KeepT.of_below HB2.out).trans hx.2.2.1, (KeepB.of_below HB2.out).trans (hx.2.2.2.1.less HXY.out), (HB2.out.mono Hlow.out).trans hx.2.2.2.2⟩
      clear hn hmx hnl hle hYt hY
      generalize hw2 : w2 = w0 at *
      clear hw2
      go_wp2_with fail
      go_loopw [9] (fun i wr => ∃ (k : Nat) (pk : Pl), k ≤ n ∧ i = .int .i64 (k : Int) ∧ Hid (IsRk Y wr D base (m + k) pk) ∧ Hid (stepsP p L = stepsP pk (L.drop k) ∧ stepsE p L = stepsE pk (L.drop k)) ∧ Hid (KeepT RD w0 wr) ∧ Hid (KeepB Y w0 wr) ∧ Hid (Below base w0 wr)) (fun i _ => n - (intOf i).toNat)
      case atStart => exact ⟨0, p, Nat.zero_le _, rfl, HI0, ⟨by rw [List.drop_zero], by rw [List.drop_zero]⟩, KeepT.refl _ _, KeepB.refl _ _, Below.refl _ _⟩
      case round =>
        obtain ⟨k, pk, hk, rfl, HI, HS, HT, HK, HB⟩ := hrel
        by_cases hlt : k < n
        · have HkL : Hid (k < l.length) := by unfold Hid; rw [← HN.out]; exact hlt
          have HG := mkHid (HG0.out.keepX HX.out HT.out HK.out)
          obtain ⟨g, rfl, c0, c1, h512, hib⟩ := HG.out.cells k HkL.out
          have hXg : Y g := HX.out g rfl
          have hlt' : (k : Int) < (n : Int) := by omega
          have hk0 : (0 : Int) ≤ (k : Int) := by omega
          have HD : Hid (L.drop k = ((nthG l k).at_, (nthG l k).b) :: L.drop (k + 1)) := by
            unfold Hid; rw [drop_cons _ k (by rw [HM.out]; exact hlt)]; have := map_getD l k; rw [HLL.out] at this; rw [this]; rfl
          rw [HD.out] at HS
          have hd0 : Below wr.heap.size wr wr.drew := (Below.refl _ wr).drew
          have hmem : nthG l k ∈ l := by rw [nthG_eq l k HkL.out]; exact List.getElem_mem HkL.out
          have HBy : Hid (∀ W, KeepT RD wr.drew W → IsB W (nthG l k).ad 512 (nthG l k).cap (nthG l k).b) := fun W hW => by
            have h7 := (HG.out.bys.keep (KeepT.of_below (ts := []) hd0) (by simp)).keep hW (by decide) _ hmem
            obtain ⟨ab, cb, eb, hib7⟩ := h7.2.isB
            simp only [Value.slice.injEq] at eb
            obtain ⟨rfl, _, rfl⟩ := eb
            rw [h7.1] at hib7; exact hib7
          have HWr := rkWrite (X := Y) D base (m + k) pk ((nthG l k).at_ : Int) (nthG l k).ad (nthG l k).cap (nthG l k).b wr.drew (HI.out.on hd0) (by omega) (by rw [h512]; omega) (fun W hW _ => by rw [h512]; exact HBy.out W hW)
          rw [h512] at HWr
          have HSx : Hid (∀ x, KeepB Y wr.drew x → x.cell? ⟨g, k * 2, none⟩ = some (.int .i64 ((nthG l k).at_ : Int)) ∧ x.cell? ⟨g, k * 2 + 1, none⟩ = some (.slice (nthG l k).ad 512 (nthG l k).cap)) := fun x hx => by
            have hgl : g < wr.heap.size := cell_lt c0
            have e := hx.x g hXg hgl
            exact ⟨(World.cell?_of_block (a := ⟨g, k * 2, none⟩) e).trans c0, (World.cell?_of_block (a := ⟨g, k * 2 + 1, none⟩) e).trans c1⟩
          clear hib h512 hmem HBy HG
          generalize (nthG l k).ad = ad at *
          generalize (nthG l k).cap = cb at *
          generalize (nthG l k).b = bb at *
          generalize (nthG l k).at_ = ak at *
          have HKn : Hid (m + k + 1 = m + (k + 1)) := by unfold Hid; omega
          cases hz : decide (pk.wrE (ak : Int) bb = 0) with
          | true =>
            have hz0 : pk.wrE (ak : Int) bb = 0 := of_decide_eq_true hz
            have HS2 : Hid (stepsP p L = stepsP (pk.write (ak : Int) bb) (L.drop (k + 1)) ∧ stepsE p L = stepsE (pk.write (ak : Int) bb) (L.drop (k + 1))) := by
              have := HS.out
              simp only [stepsP, stepsE, hz0, if_true] at this
              exact this
            rw [hz0] at HWr
            clear HS hz hz0
            go_wp2_with fail
            go_region_held3 (fun w' => w'.cell? ⟨g, k * 2, none⟩ = some (.int .i64 (ak : Int)) ∧ w'.cell? ⟨g, k * 2 + 1, none⟩ = some (.slice ad 512 cb))
              (first | exact ⟨c0, c1⟩ | assumption | exact HSx.out _ hkb.out)
              (first | (go_at_call 38; refine HWr.mono ?_; rintro e x1 ⟨rfl, hi1, ht1, hkb1, hb1⟩; have hkb := mkHid hkb1; have hfr := mkHid (And.intro hi1 (And.intro ht1 hb1)); clear hi1 ht1 hkb1 hb1))
            go_wp2_with fail
            go_roundw
            case rel => exact ⟨k + 1, pk.write (ak : Int) bb, by omega, by go_num, by rw [← HKn.out]; exact hfr.out.1, HS2, (HT.out.trans (KeepT.of_below hd0)).trans hfr.out.2.1, (HK.out.trans (KeepB.of_below hd0)).trans hkb.out, (HB.out.trans ((Below.refl _ wr).drew)).trans hfr.out.2.2⟩
            case measure => simp [intOf]; omega
          | false =>
            have hz0 : ¬ pk.wrE (ak : Int) bb = 0 := of_decide_eq_false hz
            have HS2 : Hid (stepsP p L = pk.write (ak : Int) bb ∧ stepsE p L = pk.wrE (ak : Int) bb) := by
              have := HS.out
              simp only [stepsP, stepsE, hz0, if_false] at this
              exact this
            clear HS hz
            generalize pk.wrE (ak : Int) bb = z at *
            have hzb : (z == 0) = false := by rw [beq_eq_false_iff_ne]; exact hz0
            go_wp2_with fail
            go_region_held3 (fun w' => w'.cell? ⟨g, k * 2, none⟩ = some (.int .i64 (ak : Int)) ∧ w'.cell? ⟨g, k * 2 + 1, none⟩ = some (.slice ad 512 cb))
              (first | exact ⟨c0, c1⟩ | assumption | exact HSx.out _ hkb.out)
              (first | (go_at_call 38; refine HWr.mono ?_; rintro e x1 ⟨rfl, hi1, ht1, hkb1, hb1⟩; have hkb := mkHid hkb1; have hfr := mkHid (And.intro hi1 (And.intro ht1 hb1)); clear hi1 ht1 hkb1 hb1))
            go_wp2_with fail
            go_ret2
            refine HEnd.out _ _ ⟨?_, by rw [HS2.out.1]; exact hfr.out.1.more (by omega), (HT.out.trans (KeepT.of_below hd0)).trans hfr.out.2.1, (HK.out.trans (KeepB.of_below hd0)).trans hkb.out, (HB.out.trans ((Below.refl _ wr).drew)).trans hfr.out.2.2⟩
            rw [MtPost, HS2.out.2, if_neg hz0]
            rfl
        · have hge : ¬ (k : Int) < (n : Int) := by omega
          have hkn : k = n := by omega
          subst hkn
          have HS2 : Hid (stepsP p L = pk.flush ∧ stepsE p L = pk.flE) := by
            have := HS.out
            rw [List.drop_of_length_le (by rw [HM.out]; exact Nat.le_refl _)] at this
            exact this
          have HFl := rkFlush (X := Y) D base (m + k) pk wr HI.out (by omega)
          clear HS
          cases hoff : pk.off with
          | true =>
            have HF5 : Hid (pk.flE = 51) := by unfold Hid Pl.flE; rw [hoff]; rfl
            rw [HF5.out] at HFl
            clear hoff
            go_wp2_with fail
            refine HFl.mono ?_
            rintro e x1 ⟨rfl, hi1, ht1, hkb1, hb1⟩
            have hfr := mkHid (And.intro hi1 (And.intro ht1 (And.intro hkb1 hb1)))
            clear hi1 ht1 hkb1 hb1
            go_wp2_with fail
            go_ret2
            refine HEnd.out _ _ ⟨?_, by rw [HS2.out.1]; exact hfr.out.1.more (by omega), HT.out.trans hfr.out.2.1, HK.out.trans hfr.out.2.2.1, HB.out.trans hfr.out.2.2.2⟩
            rw [MtPost, HS2.out.2, HF5.out, if_neg (by omega)]
            rfl
          | false =>
            have HF5 : Hid (pk.flE = 0) := by unfold Hid Pl.flE; rw [hoff]; rfl
            rw [HF5.out] at HFl
            clear hoff
            go_wp2_with fail
            refine HFl.mono ?_
            rintro e x1 ⟨rfl, hi1, ht1, hkb1, hb1⟩
            have hfr := mkHid (And.intro hi1 (And.intro ht1 (And.intro hkb1 hb1)))
            have hsz : Hid (w.heap.size ≤ x1.heap.size) := Nat.le_trans HB2.out.size (Nat.le_trans HT.out.size ht1.size)
            clear hi1 ht1 hkb1 hb1
            go_wp2_with fail
            go_ret2
            have hbl : Below x1.heap.size x1 (x1.alloc (.cells #[.pointer (some ⟨D, 0, none⟩), .int .u64 (sq : Int), .bool false] 85)) := (Below.refl _ x1).alloc (Nat.le_refl _) _
            refine HEnd.out _ _ ⟨?_, by rw [HS2.out.1]; exact (hfr.out.1.on hbl).more (by omega), (HT.out.trans hfr.out.2.1).trans (KeepT.of_below hbl), (HK.out.trans hfr.out.2.2.1).trans (KeepB.of_below hbl), (HB.out.trans hfr.out.2.2.2).trans (hbl.mono hfr.out.1.low)⟩
            rw [MtPost, HS2.out.2, HF5.out, if_pos rfl]
            exact ⟨_, rfl, hsz.out, Blk.newAt x1 _ _ _ _ rfl rfl⟩
  · have HE : Hid (mountE p = p.rdE 0 ∧ mountP p = p) := by unfold Hid mountE mountP; rw [if_pos h0, if_pos h0]; exact ⟨rfl, rfl⟩
    rw [HE.out.1, HE.out.2]
    generalize p.rdE 0 = z at *
    have hzb : (z == 0) = false := by rw [beq_eq_false_iff_ne]; exact h0
    go_enter Tryz.func10, Tryz.ntmps10
    go_wp2_with fail
    refine HR.mono ?_
    rintro e w1 ⟨v1, rfl, ho1, hb1⟩
    have HB1 := mkHid hb1
    clear hb1 ho1
    go_wp2_with fail
    go_ret2
    refine ⟨?_, (HH.out.on HB1.out).more (by omega), KeepT.of_below HB1.out, KeepB.of_below HB1.out, HB1.out.mono Hlow.out⟩
    rw [MtPost, if_neg h0]
    rfl
end Go.Proofs.YthjdmfbengpepaaGreat
namespace Go.Proofs.YthjdmfbengpepaaGreat
open Go.RowKit

/-- the document's journal in a world -/
def RjAt (w : World) (J D seq : Nat) (dead : Bool) : Prop := Blk w J 85 [.pointer (some ⟨D, 0, none⟩), .int .u64 (seq : Int), .bool dead]
/-- a transaction of it -/
structure RtAt (w : World) (U J base : Nat) (vL : Value) (ls : List Wg) (over : Bool) : Prop where
  blk : Blk w U 92 [.pointer (some ⟨J, 0, none⟩), vL, .bool over]
  gs : GsAt w base vL ls

set_option maxRecDepth 20000 in
theorem refIs10 (J D seq n : Nat) (dead : Bool) (i : Int) (w : World) (hj : RjAt w J D seq dead) (hc : w.cell? ⟨D, 0, none⟩ = some (.int .i64 (n : Int))) :
    Calls Tryz.prog 90 #[.pointer (some ⟨J, 0, none⟩), .int .i64 i] w fun e w' => e = .returned (.bool (areaI n i)) ∧ w' = w := by
  have c0 : w.cell? ⟨J, 0, none⟩ = some (.pointer (some ⟨D, 0, none⟩)) := Blk.cell hj 0
  clear hj
  by_cases h0 : 49 ≤ i
  · have d0 : decide (49 ≤ i) = true := decide_eq_true h0
    have HV : Hid (decide (i < (n : Int)) = areaI n i) := by
      unfold Hid areaI; congr 1; exact propext ⟨fun h => ⟨h0, h⟩, fun h => h.2⟩
    go_enter Tryz.func90, Tryz.ntmps90
    go_wp2
    go_ret
    exact ⟨ret_b (by first | rfl | exact HV.out), rfl⟩
  · have d0 : decide (49 ≤ i) = false := decide_eq_false h0
    have h0' : i < 49 := by omega
    have HV : Hid (false = areaI n i) := by unfold Hid areaI; exact (decide_eq_false (fun h => h0 h.1)).symm
    go_enter Tryz.func90, Tryz.ntmps90
    go_wp2
    go_ret
    exact ⟨ret_b (by first | rfl | exact HV.out), rfl⟩
def jrE (p : Pl) (i : Int) : Int := if areaI p.n i = false then 50 else p.rdE i
def jrB (p : Pl) (i : Int) : List UInt8 := if areaI p.n i = false then [] else p.rdB i
set_option maxRecDepth 20000 in
theorem refJRead10 {X : Nat → Prop} (J D base m seq : Nat) (dead : Bool) (p : Pl) (i : Int) (w : World) (hj : RjAt w J D seq dead) (h : IsRk X w D base m p) (hm : m ≤ 100000) :
    Calls Tryz.prog 40 #[.pointer (some ⟨J, 0, none⟩), .int .i64 i] w fun e w' => ∃ v, e = .returned (.tuple #[v, .int .i64 (jrE p i)]) ∧ OwnB w' w.heap.size v (jrB p i) ∧ Below w.heap.size w w' := by
  have HI := refIs10 J D seq p.n dead i w hj h.cellN
  have HR := rkRead D base m p i w h hm
  have c0 : w.cell? ⟨J, 0, none⟩ = some (.pointer (some ⟨D, 0, none⟩)) := Blk.cell hj 0
  clear hj h
  cases ha : areaI p.n i with
  | false =>
    have HE : Hid (jrE p i = 50 ∧ jrB p i = []) := by unfold Hid jrE jrB; rw [ha]; exact ⟨rfl, rfl⟩
    rw [ha] at HI
    rw [HE.out.1, HE.out.2]
    clear ha HR
    go_enter Tryz.func40, Tryz.ntmps40
    go_wp2_with fail
    refine HI.mono ?_
    rintro e w1 ⟨rfl, rfl⟩
    go_wp2_with fail
    go_ret2
    exact ⟨_, rfl, OwnB.nil _ _, Below.refl _ _⟩
  | true =>
    have HE : Hid (jrE p i = p.rdE i ∧ jrB p i = p.rdB i) := by unfold Hid jrE jrB; rw [ha]; exact ⟨rfl, rfl⟩
    rw [ha] at HI
    rw [HE.out.1, HE.out.2]
    clear ha HE
    generalize p.rdE i = z at *
    generalize p.rdB i = rb at *
    go_enter Tryz.func40, Tryz.ntmps40
    go_wp2_with fail
    refine HI.mono ?_
    rintro e w1 ⟨rfl, hw1⟩
    obtain rfl := hw1.symm
    go_wp2_with fail
    refine HR.mono ?_
    rintro e w2 ⟨v, rfl, ho, hb⟩
    have HO := mkHid ho
    have HB := mkHid hb
    clear ho hb HR HI
    go_wp2_with fail
    go_ret2
    exact ⟨_, rfl, HO.out, HB.out⟩
end Go.Proofs.YthjdmfbengpepaaGreat
namespace Go.Proofs.YthjdmfbengpepaaGreat
open Go.RowKit

theorem find_some (ls : List Wg) (i : Int) (k : Nat) (hk : k < ls.length) (hno : ∀ j, j < k → ¬ ((nthG ls j).at_ : Int) = i) (hat : ((nthG ls k).at_ : Int) = i) : Tl.find (ls.map plW) i = some (nthG ls k).b := by
  induction ls generalizing k with
  | nil => simp at hk
  | cons g ls ih =>
    unfold Tl.find
    rw [List.map_cons, List.find?_cons]
    cases k with
    | zero =>
      have h0 : ((plW g).1 : Int) = i := hat
      rw [show (((plW g).1 : Int) == i) = true by simpa using h0]
      rfl
    | succ k =>
      have h0 : ¬ ((plW g).1 : Int) = i := hno 0 (by omega)
      rw [show (((plW g).1 : Int) == i) = false by simpa using h0]
      exact ih k (by simpa using hk) (fun j hj => hno (j + 1) (by omega)) hat
theorem find_none (ls : List Wg) (i : Int) (hno : ∀ j, j < ls.length → ¬ ((nthG ls j).at_ : Int) = i) : Tl.find (ls.map plW) i = none := by
  induction ls with
  | nil => rfl
  | cons g ls ih =>
    unfold Tl.find
    rw [List.map_cons, List.find?_cons]
    have h0 : ¬ ((plW g).1 : Int) = i := hno 0 (by simp)
    rw [show (((plW g).1 : Int) == i) = false by simpa using h0]
    exact ih (fun j hj => hno (j + 1) (by simpa using hj))

set_option maxRecDepth 20000 in
set_option maxHeartbeats 2000000 in
theorem refTRead10 {X : Nat → Prop} (U J D base m seq : Nat) (dead over : Bool) (vL : Value) (ls : List Wg) (p : Pl) (i : Int) (w : World) (ht : RtAt w U J base vL ls over) (hj : RjAt w J D seq dead) (h : IsRk X w D base m p) (hm : m ≤ 100000) (hl : ls.length ≤ 1000) :
    Calls Tryz.prog 96 #[.pointer (some ⟨U, 0, none⟩), .int .i64 i] w fun e w' => ∃ v, e = .returned (.tuple #[v, .int .i64 (Tl.rdE ⟨ls.map plW, over⟩ ⟨p, seq, dead⟩ i)]) ∧ OwnB w' w.heap.size v (Tl.rdB ⟨ls.map plW, over⟩ ⟨p, seq, dead⟩ i) ∧ Below w.heap.size w w' := by
  obtain ⟨a, cap, hv, _, _, _, _⟩ := ht.gs.own.form
  subst hv
  have HR := refJRead10 J D base m seq dead p i w hj h hm
  have HT := mkHid ht
  have u0 : w.cell? ⟨U, 0, none⟩ = some (.pointer (some ⟨J, 0, none⟩)) := ht.blk.cell 0
  have u1 : w.cell? ⟨U, 1, none⟩ = some (.slice a ls.length cap) := ht.blk.cell 1
  obtain ⟨n, hn⟩ : ∃ n, n = ls.length := ⟨_, rfl⟩
  have HN := mkHid hn
  rw [← hn] at u1 hl
  generalize hE : Tl.rdE ⟨ls.map plW, over⟩ ⟨p, seq, dead⟩ i = tE
  generalize hB : Tl.rdB ⟨ls.map plW, over⟩ ⟨p, seq, dead⟩ i = tB
  have HTE := mkHid hE
  have HTB := mkHid hB
  clear ht hj h hn hE hB
  go_enter Tryz.func96, Tryz.ntmps96
  go_wp2_with fail
  go_loopw [6] (fun iv wr => ∃ k : Nat, k ≤ n ∧ iv = .int .i64 (k : Int) ∧ Hid (∀ j, j < k → ¬ ((nthG ls j).at_ : Int) = i) ∧ wr = w) (fun iv _ => n - (intOf iv).toNat)
  case atStart => exact ⟨0, Nat.zero_le _, rfl, fun j hj => absurd hj (Nat.not_lt_zero _), rfl⟩
  case round =>
    obtain ⟨k, hk, rfl, HNo, hwr⟩ := hrel
    subst hwr
    by_cases hlt : k < n
    · have HkL : Hid (k < ls.length) := by unfold Hid; rw [← HN.out]; exact hlt
      obtain ⟨g, rfl, c0, c1, h512, hib⟩ := HT.out.gs.cells k HkL.out
      have hlt' : (k : Int) < (n : Int) := by omega
      have hk0 : (0 : Int) ≤ (k : Int) := by omega
      by_cases hat : ((nthG ls k).at_ : Int) = i
      · have HF := mkHid (find_some ls i k HkL.out HNo.out hat)
        have HE : Hid (tE = 0 ∧ tB = (nthG ls k).b) := by unfold Hid; rw [← HTE.out, ← HTB.out]; unfold Tl.rdE Tl.rdB; rw [HF.out]; exact ⟨rfl, rfl⟩
        rw [hat] at c0
        have HI : Hid (IsB wr (nthG ls k).ad 512 (nthG ls k).cap (nthG ls k).b) := hib
        have HIa : Hid (IsB (wr.alloc (.cells #[] 5)) (nthG ls k).ad 512 (nthG ls k).cap (nthG ls k).b) := hib.below ((Below.refl _ wr).alloc (Nat.le_refl _) _) rfl
        have u1a := (((Below.refl _ wr).alloc (Nat.le_refl _) (.cells #[] 5)).cell (p := ⟨U, 1, none⟩) (cell_lt u1)).trans u1
        have c1a := (((Below.refl _ wr).alloc (Nat.le_refl _) (.cells #[] 5)).cell (p := ⟨g, k * 2 + 1, none⟩) (cell_lt c1)).trans c1
        clear hat HF HNo hib HR
        generalize (nthG ls k).ad = ad at *
        generalize (nthG ls k).cap = cb at *
        generalize (nthG ls k).b = bb at *
        go_wp2_with (at_builtin; refine list_appS _ rfl (.tmp 26) (.tmp 34) rfl wr.heap.size (.slice (some ⟨wr.heap.size, 0, none⟩) 0 0) [] rfl (OwnB.empty wr _ (Nat.le_refl _)) ad 512 cb bb rfl HIa.out (by simp) (by simp) ?_; intro v1 w1 ho1 hg1; have HD1 : Hid (Below wr.heap.size wr w1) := grow_bel ((Below.refl _ wr).alloc (Nat.le_refl _) _) (OwnB.empty wr _ (Nat.le_refl _)) hg1; have HO1 := mkHid ho1; clear ho1 hg1)
        go_ret2
        exact ⟨v1, by rw [HE.out.1]; rfl, by rw [HE.out.2]; exact HO1.out, HD1.out⟩
      · have hai' : (((nthG ls k).at_ : Int) == i) = false := by rw [beq_eq_false_iff_ne]; exact hat
        have HNo2 : Hid (∀ j, j < k + 1 → ¬ ((nthG ls j).at_ : Int) = i) := fun j hj => by
          by_cases e : j = k
          · subst e; exact hat
          · exact HNo.out j (by omega)
        clear HNo hib
        generalize (nthG ls k).at_ = at2 at *
        go_wp2_with fail
        go_roundw
        case rel => exact ⟨k + 1, by omega, by go_num, HNo2, by first | rfl | trivial⟩
        case measure => simp [intOf]; omega
    · have hge : ¬ (k : Int) < (n : Int) := by omega
      have hkn : k = n := by omega
      subst hkn
      have HF := mkHid (find_none ls i (fun j hj => HNo.out j (by rw [HN.out]; exact hj)))
      have HE : Hid (tE = jrE p i ∧ tB = jrB p i) := by unfold Hid; rw [← HTE.out, ← HTB.out]; unfold Tl.rdE Tl.rdB; rw [HF.out]; exact ⟨rfl, rfl⟩
      rw [← HE.out.1, ← HE.out.2] at HR
      clear HF HE HNo
      go_wp2_with fail
      refine HR.mono ?_
      rintro e w2 ⟨v, rfl, ho, hb⟩
      have HO := mkHid ho
      have HB := mkHid hb
      clear ho hb HR
      go_wp2_with fail
      go_ret2
      exact ⟨_, rfl, HO.out, HB.out⟩
end Go.Proofs.YthjdmfbengpepaaGreat
namespace Go.Proofs.YthjdmfbengpepaaGreat
open Go.RowKit

/-- the next number -/
def nxt (s : Nat) : Nat := (s + 1) % 18446744073709551616
def slotQ (l : Qs) : Qs := (List.range l.length).map fun i => (1 + i, (l.getD i (0, [])).2)
/-- the three steps of a commit -/
def cmA (t : Tl) (j : Jl) : Pl × Int := (stepsP j.p (slotQ t.l), stepsE j.p (slotQ t.l))
def cmB (t : Tl) (j : Jl) : Pl × Int := if (cmA t j).2 = 0 then (stepsP (cmA t j).1 [(0, sealJ (nxt j.seq) t.l)], stepsE (cmA t j).1 [(0, sealJ (nxt j.seq) t.l)]) else cmA t j
def cmC (t : Tl) (j : Jl) : Pl × Int := if (cmB t j).2 = 0 then (stepsP (cmB t j).1 t.l, stepsE (cmB t j).1 t.l) else cmB t j
def cmE (t : Tl) (j : Jl) : Int := if t.over = true ∨ j.dead = true then 51 else if t.l = [] then 0 else (cmC t j).2
def cmJ (t : Tl) (j : Jl) : Jl :=
  if t.over = true ∨ j.dead = true then j else if t.l = [] then j else if (cmC t j).2 = 0 then ⟨(cmC t j).1, nxt j.seq, j.dead⟩ else ⟨(cmC t j).1, j.seq, true⟩
def cmT (t : Tl) (j : Jl) : Tl := if t.over = true ∨ j.dead = true then t else { t with over := true }

def slotG (ls : List Wg) (k : Nat) : List Wg := (List.range k).map fun i => ⟨1 + i, (nthG ls i).b, (nthG ls i).ad, (nthG ls i).cap⟩
theorem slotG_succ (ls : List Wg) (k : Nat) : slotG ls (k + 1) = slotG ls k ++ [⟨1 + k, (nthG ls k).b, (nthG ls k).ad, (nthG ls k).cap⟩] := by
  unfold slotG; rw [List.range_succ, List.map_append]; rfl
theorem slotG_length (ls : List Wg) (k : Nat) : (slotG ls k).length = k := by simp [slotG]
theorem slotG_map (ls : List Wg) : (slotG ls ls.length).map plW = slotQ (ls.map plW) := by
  unfold slotG slotQ
  rw [List.map_map, List.length_map]
  refine List.map_congr_left (fun i _ => ?_)
  rw [map_getD]; rfl
theorem slotG_bys {w : World} {base : Nat} {ls : List Wg} (h : Bys w base ls) (k : Nat) (hk : k ≤ ls.length) : Bys w base (slotG ls k) := fun g hg => by
  obtain ⟨i, hi, rfl⟩ := List.mem_map.1 hg
  have hil : i < ls.length := Nat.lt_of_lt_of_le (List.mem_range.1 hi) hk
  have := h (nthG ls i) (by rw [nthG_eq ls i hil]; exact List.getElem_mem hil)
  exact this
theorem slotG_at (ls : List Wg) (k : Nat) (hk : k ≤ 1000) : ∀ g ∈ slotG ls k, g.at_ ≤ 1000000 := fun g hg => by
  obtain ⟨i, hi, rfl⟩ := List.mem_map.1 hg
  have := List.mem_range.1 hi
  show 1 + i ≤ _
  omega
abbrev CT : List TypeId := [81, 88, 92, 85]
/-- how things stand in a commit -/
structure CmAt (X : Nat → Prop) (w0 w : World) (U J D base m seq : Nat) (vL : Value) (ls : List Wg) (p : Pl) : Prop where
  t : RtAt w U J base vL ls true
  j : RjAt w J D seq false
  k : IsRk X w D base m p
  keep : KeepT CT w0 w
  kb : KeepB X w0 w
  bel : Below base w0 w
theorem CmAt.on {X : Nat → Prop} {w0 w w' : World} {U J D base m seq : Nat} {vL : Value} {ls : List Wg} {p : Pl} (h : CmAt X w0 w U J D base m seq vL ls p) (hb : Below w.heap.size w w') : CmAt X w0 w' U J D base m seq vL ls p :=
  ⟨⟨h.t.blk.on hb, h.t.gs.on hb⟩, Blk.on h.j hb, h.k.on hb, h.keep.trans (KeepT.of_below hb), h.kb.trans (KeepB.of_below hb), h.bel.trans (hb.mono h.k.low)⟩
theorem GsAt.ownX {X : Nat → Prop} {w w' : World} {base : Nat} {v : Value} {l : List Wg} (h : GsAt w base v l) (hx : ∀ k, v.ownBlock = some k → X k) (hT : KeepT RD w w') (hB : KeepB X w w') : GsAt w' base v l := h.keepX hx hT hB
end Go.Proofs.YthjdmfbengpepaaGreat
