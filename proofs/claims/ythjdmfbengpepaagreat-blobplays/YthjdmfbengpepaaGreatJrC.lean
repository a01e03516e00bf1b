/- The document's transaction: Write. (Made by mktxw10.py.) -/
import Derived.Test.YthjdmfbengpepaaGreatB22
import Derived.Test.YthjdmfbengpepaaGreatPd7
import Derived.Deep.CutBlock
import Derived.Deep.CutRange
namespace Go.Proofs.YthjdmfbengpepaaGreat
open Go.RowKit

theorem SrcG.one {w : World} {B : Nat} {g : Wg} (hb : Blk w B 88 [.int .i64 (g.at_ : Int), .slice g.ad 512 g.cap]) (h5 : g.b.length = 512) : SrcG w (some ⟨B, 0, none⟩) 1 1 [g] :=
 ⟨rfl, (fun e => by cases e), fun ad e j u hu => by
  obtain rfl := Option.some.inj e
  rw [Addr.add_lit, Nat.zero_add, hb.cell]
  rw [← hu, ← h5]; rfl⟩
theorem kbw {t : TypeId} {W W' : World} {base bW : Nat} {v : Value} {l : List Wg} {cs : List Value} {tb : Nat} (hg : W.grownBy W' v.ownBlock) (hB : Blk W bW tb cs) (ho : OwnG t W base v l) (hlt : bW < base) : Blk W' bW tb cs := (hg.block bW hB.lt (fun e5 => Nat.not_le_of_lt hlt (ho.blk bW e5.symm).1)).trans hB
theorem ret_i10 {a b : Int} (h : a = b) : Ending.returned (.int .i64 a) = .returned (.int .i64 b) := by rw [h]
set_option maxRecDepth 20000 in
set_option maxHeartbeats 8000000 in
theorem refTWrite10 {X : Nat → Prop} (U J D base m seq : Nat) (dead over : Bool) (vL : Value) (ls : List Wg) (p : Pl) (i : Int) (ba : Option Addr) (bc : Nat) (b : List UInt8) (w : World) (ht : RtAt w U J base vL ls over) (hU : base ≤ U) (hj : RjAt w J D seq dead) (h : IsRk X w D base m p) (hl : ls.length ≤ 48) (hB : IsB w ba b.length bc b) :
  Calls Tryz.prog 108 #[.pointer (some ⟨U, 0, none⟩), .int .i64 i, .slice ba b.length bc] w fun e w' => e = .returned (.int .i64 (Tl.wrE ⟨ls.map plW, over⟩ ⟨p, seq, dead⟩ i b)) ∧ (∃ vL' ls', RtAt w' U J base vL' ls' over ∧ ls'.map plW = (Tl.write ⟨ls.map plW, over⟩ ⟨p, seq, dead⟩ i b).l ∧ ∀ k, vL'.ownBlock = some k → vL.ownBlock = some k ∨ w.heap.size ≤ k) ∧ KeepE (fun k => k = U ∨ vL.ownBlock = some k) w w' ∧ Below base w w' := by
 have HI := refIs10 J D seq p.n dead i w hj h.cellN
 have u0 : w.cell? ⟨U, 0, none⟩ = some (.pointer (some ⟨J, 0, none⟩)) := ht.blk.cell 0
 have u2 : w.cell? ⟨U, 2, none⟩ = some (.bool over) := ht.blk.cell 2
 have j2 : w.cell? ⟨J, 2, none⟩ = some (.bool dead) := Blk.cell hj 2
 have HT := mkHid ht
 have HSame : Hid (Tl.wrE ⟨ls.map plW, over⟩ ⟨p, seq, dead⟩ i b ≠ 0 → ∃ vL' ls', RtAt w U J base vL' ls' over ∧ ls'.map plW = (Tl.write ⟨ls.map plW, over⟩ ⟨p, seq, dead⟩ i b).l ∧ ∀ k, vL'.ownBlock = some k → vL.ownBlock = some k ∨ w.heap.size ≤ k) := fun hz => ⟨vL, ls, ht, by unfold Tl.write; rw [if_neg hz], fun _ h => .inl h⟩
 by_cases hod : over = true ∨ dead = true
 ·
  have HE : Hid (Tl.wrE ⟨ls.map plW, over⟩ ⟨p, seq, dead⟩ i b = 51) := by unfold Hid Tl.wrE; rw [if_pos hod]
  cases over with
  | true =>
   clear hod ht hj h hB
   go_enter Tryz.func108, Tryz.ntmps108
   go_wp2_with fail
   go_ret
   exact ⟨ret_i10 HE.out.symm, HSame.out (by rw [HE.out]; decide), KeepE.refl _ _, Below.refl _ _⟩
  | false =>
   obtain rfl : dead = true := by rcases hod with h | h; cases h; exact h
   clear hod ht hj h hB
   go_enter Tryz.func108, Tryz.ntmps108
   go_wp2_with fail
   go_ret
   exact ⟨ret_i10 HE.out.symm, HSame.out (by rw [HE.out]; decide), KeepE.refl _ _, Below.refl _ _⟩
 ·
  obtain rfl : over = false := by cases over with | false => rfl | true => exact absurd (.inl rfl) hod
  obtain rfl : dead = false := by cases dead with | false => rfl | true => exact absurd (.inr rfl) hod
  cases ha : areaI p.n i with
  | false =>
   have HE : Hid (Tl.wrE ⟨ls.map plW, false⟩ ⟨p, seq, false⟩ i b = 50) := by unfold Hid Tl.wrE; rw [if_neg hod, if_pos ha]
   rw [ha] at HI
   clear hod ht hj h hB ha
   go_enter Tryz.func108, Tryz.ntmps108
   go_wp2_with fail
   refine HI.mono ?_
   rintro e w1 ⟨rfl, rfl⟩
   go_wp2_with fail
   go_ret
   exact ⟨ret_i10 HE.out.symm, HSame.out (by rw [HE.out]; decide), KeepE.refl _ _, Below.refl _ _⟩
  | true =>
  rw [ha] at HI
  by_cases h512 : b.length = 512
  ·
   obtain ⟨iN, rfl⟩ : ∃ k : Nat, i = (k : Int) := ⟨i.toNat, by unfold areaI at ha; have := of_decide_eq_true ha; omega⟩
   have HE0 : Hid (Tl.wrE ⟨ls.map plW, false⟩ ⟨p, seq, false⟩ (iN : Int) b = if hitQ (ls.map plW) iN = false ∧ 48 ≤ ls.length then 44 else 0) := by
    unfold Hid Tl.wrE; rw [if_neg hod, if_neg (by rw [ha]; decide), if_neg (by simp [h512]), Int.toNat_natCast, List.length_map]
   obtain ⟨a, cap, hv, hle, _, hnl, _⟩ := ht.gs.own.form
   subst hv
   have u1 : w.cell? ⟨U, 1, none⟩ = some (.slice a ls.length cap) := ht.blk.cell 1
   have hUl : U < w.heap.size := ht.blk.lt
   obtain ⟨n, hn⟩ : ∃ n, n = ls.length := ⟨_, rfl⟩
   have HN := mkHid hn
   rw [← hn] at u1 hl hle HT ht
   have HAa : Hid (a = none ∨ ∃ g, a = some ⟨g, 0, none⟩) := by
    rcases HT.out.gs.own.2 with ⟨h1, _⟩ | ⟨g, _, _, h1, _⟩
    ·
     injection h1 with e1; exact .inl e1
    ·
     injection h1 with e1; exact .inr ⟨g, e1⟩
   rw [h512]
   rw [h512] at hB
   have HIB := mkHid hB
   have H512 := mkHid h512
   have HNl := mkHid hnl
   generalize hW : Tl.wrE ⟨ls.map plW, false⟩ ⟨p, seq, false⟩ (iN : Int) b = tE at *
   have HWE := mkHid hW
   clear hod ht hj h hB ha h512 hn hnl hW
   go_enter Tryz.func108, Tryz.ntmps108
   go_wp2_with fail
   refine HI.mono ?_
   rintro e w1 ⟨rfl, hw1⟩
   obtain rfl := hw1.symm
   clear HI
   go_wp2_with fail
   go_loopw [7] (fun iv wr => ∃ k : Nat, k ≤ n ∧ iv = .int .i64 (k : Int) ∧ Hid (∀ j, j < k → (nthG ls j).at_ < iN) ∧ wr = w) (fun iv _ => n - (intOf iv).toNat)
   case atStart => exact ⟨0, Nat.zero_le _, rfl, fun j hj => absurd hj (Nat.not_lt_zero _), rfl⟩
   case round =>
    obtain ⟨k, hk, rfl, HNo, hwr⟩ := hrel
    subst hwr
    by_cases hgo : k < n ∧ (nthG ls k).at_ < iN
    ·
     obtain ⟨hlt, hat⟩ := hgo
     have HkL : Hid (k < ls.length) := by unfold Hid; rw [← HN.out]; exact hlt
     obtain ⟨g, rfl, c0, _, _, _⟩ := HT.out.gs.cells k HkL.out
     have hlt' : (k : Int) < (n : Int) := by omega
     have hk0 : (0 : Int) ≤ (k : Int) := by omega
     have hat' : ((nthG ls k).at_ : Int) < (iN : Int) := by omega
     have HNo2 : Hid (∀ j, j < k + 1 → (nthG ls j).at_ < iN) := fun j hj => by
      by_cases e : j = k
      ·
       subst e; exact hat
      ·
       exact HNo.out j (by omega)
     clear HNo hat
     generalize (nthG ls k).at_ = at2 at *
     go_wp2_with fail
     go_roundw
     case rel => exact ⟨k + 1, by omega, by go_num, HNo2, by first | rfl | trivial⟩
     case measure => simp [intOf]; omega
    ·
     have HPos : Hid (k = posG ls iN) := posG_uniq ls iN k (by rw [← HN.out]; exact hk) HNo.out (by
      by_cases hlt : k < n
      ·
       exact .inr (fun h => hgo ⟨hlt, h⟩)
      ·
       left; rw [← HN.out]; omega)
     have hbE : Below wr.heap.size wr (wr.alloc (.cells #[] 5)) := (Below.refl _ wr).alloc (Nat.le_refl _) _
     have HIa : Hid (IsB (wr.alloc (.cells #[] 5)) ba 512 bc b) := HIB.out.below hbE rfl
     clear hgo HNo
     go_upto_region 8 with fail
     go_cut [50] from 32 (fun v wx => v = .bool false ∧ wx = wr)
     case first =>
      by_cases hlt : k < n
      ·
       have HkL : Hid (k < ls.length) := by unfold Hid; rw [← HN.out]; exact hlt
       obtain ⟨g, rfl, c0, _, _, _⟩ := HT.out.gs.cells k HkL.out
       have hlt' : (k : Int) < (n : Int) := by omega
       have hk0 : (0 : Int) ≤ (k : Int) := by omega
       have hge : ¬ ((nthG ls k).at_ : Int) < (iN : Int) := by
        have := posG_at ls iN (by rw [← HPos.out]; exact HkL.out)
        rw [← HPos.out] at this; omega
       go_wp2_with fail
       go_meet
       case rel => exact ⟨rfl, rfl⟩
      ·
       have hlt' : ¬ (k : Int) < (n : Int) := by omega
       go_wp2_with fail
       go_meet
       case rel => exact ⟨rfl, rfl⟩
     case rest =>
      obtain ⟨rfl, hwc⟩ := hcut
      subst hwc
      rename World => w0
      go_upto_region 11 with (at_builtin; refine list_appS _ rfl (.tmp 54) (.tmp 55) rfl w0.heap.size (.slice (some ⟨w0.heap.size, 0, none⟩) 0 0) [] rfl (OwnB.empty w0 _ (Nat.le_refl _)) ba 512 bc b rfl HIa.out (by simp) (by simp) ?_; intro v1 w1 ho1 hg1; have HD1 : Hid (Below w0.heap.size w0 w1) := grow_bel hbE (OwnB.empty w0 _ (Nat.le_refl _)) hg1; obtain ⟨a1, c1, ev1, _⟩ := ho1.isB; rw [List.nil_append] at ho1 ev1; rw [H512.out] at ev1; subst ev1; have HO1 := mkHid ho1; clear ho1 hg1)
      have HYB : Hid (Below w0.heap.size w0 (w1.alloc (.cells #[.int .i64 (iN : Int), .slice a1 512 c1] 88))) := HD1.out.alloc HD1.out.size _
      have HbB0 : Hid (Blk (w1.alloc (.cells #[.int .i64 (iN : Int), .slice a1 512 c1] 88)) w1.heap.size 88 [.int .i64 (iN : Int), .slice a1 512 c1]) := Blk.newAt w1 _ _ _ _ rfl rfl
      have HOY : Hid (OwnB (w1.alloc (.cells #[.int .i64 (iN : Int), .slice a1 512 c1] 88)) w0.heap.size (.slice a1 512 c1) b) := HO1.out.alloc _
      have HbU : Hid (w0.heap.size ≤ w1.heap.size) := HD1.out.size
      clear HO1 HD1 HIa hbE
      generalize w1.heap.size = bW at *
      generalize w1.alloc (.cells #[.int .i64 (iN : Int), .slice a1 512 c1] 88) = Y at *
      have HUB : Hid (Blk Y U 92 [.pointer (some ⟨J, 0, none⟩), .slice a n cap, .bool false]) := HT.out.blk.on HYB.out
      have HGY := mkHid (HT.out.gs.on HYB.out)
      have HT2 := mkHid HGY.out.own
      have y1 : Y.cell? ⟨U, 1, none⟩ = some (.slice a n cap) := HUB.out.cell 1
      have HbB : Hid (Blk Y.drew bW 88 [.int .i64 (iN : Int), .slice a1 512 c1]) := HbB0.out
      have HbW : Hid (bW < Y.heap.size) := HbB0.out.lt
      clear HbB0 u1 u0 u2 j2
      obtain ⟨hb, hhb⟩ : ∃ hb : Bool, hb = decide (k < n ∧ (nthG ls k).at_ = iN) := ⟨_, rfl⟩
      have HHb := mkHid hhb
      clear hhb
      go_cut [76] from 58 (fun v wx => v = .bool hb ∧ wx = Y)
      case first =>
       by_cases hlt : k < n
       ·
        have HkL : Hid (k < ls.length) := by unfold Hid; rw [← HN.out]; exact hlt
        obtain ⟨g, rfl, c0, _, _, _⟩ := HGY.out.cells k HkL.out
        have hlt' : (k : Int) < (n : Int) := by omega
        have hk0 : (0 : Int) ≤ (k : Int) := by omega
        by_cases hat : (nthG ls k).at_ = iN
        ·
         have hbt : hb = true := by rw [HHb.out]; exact decide_eq_true ⟨hlt, hat⟩
         rw [hat] at c0
         subst hbt
         clear hat
         go_wp2_with fail
         go_meet
         case rel => exact ⟨rfl, rfl⟩
        ·
         have hbt : hb = false := by rw [HHb.out]; exact decide_eq_false (fun h => hat h.2)
         have hat' : (((nthG ls k).at_ : Int) == (iN : Int)) = false := by rw [beq_eq_false_iff_ne]; omega
         have hat2 : ¬ ((nthG ls k).at_ : Int) = (iN : Int) := by omega
         subst hbt
         go_wp2_with fail
         go_meet
         case rel => exact ⟨rfl, rfl⟩
       ·
        have hlt' : ¬ (k : Int) < (n : Int) := by omega
        have hbt : hb = false := by rw [HHb.out]; exact decide_eq_false (fun h => hlt h.1)
        subst hbt
        go_wp2_with fail
        go_meet
        case rel => exact ⟨rfl, rfl⟩
      case rest =>
      obtain ⟨rfl, hwy⟩ := hcut
      subst hwy
      rename World => Y
      cases hb with
      | true =>
       have hkat := of_decide_eq_true HHb.out.symm
       have HkL : Hid (k < ls.length) := by unfold Hid; rw [← HN.out]; exact hkat.1
       obtain ⟨g, hag, c0, c1', _, _⟩ := HGY.out.cells k HkL.out
       subst hag
       have hlt' : (k : Int) < (n : Int) := by have := hkat.1; omega
       have hk0 : (0 : Int) ≤ (k : Int) := by omega
       obtain ⟨hq1, hq2⟩ := put_hit ls iN ⟨iN, b, a1, c1⟩ rfl (by rw [← HPos.out]; exact HkL.out) (by rw [← HPos.out]; exact hkat.2)
       rw [← HPos.out] at hq2
       have HE : Hid (tE = 0) := by unfold Hid; rw [HE0.out, hq1, if_neg (by simp)]
       have hgb : Blk Y.drew U 92 [.pointer (some ⟨J, 0, none⟩), .slice (some ⟨g, 0, none⟩) n cap, .bool false] := HUB.out
       have hgU : g ≠ U := by
        intro e
        rcases own_ne HUB.out HGY.out.own (by decide) with h2 | h2
        ·
         cases h2
        ·
         exact h2 (by rw [← e]; rfl)
       have hgW : g ≠ bW := by
        intro e
        have h1 := (HT.out.gs.own.blk g rfl).2
        have h2 := HbU.out
        omega
       have HAll : Hid ((#[.int .i64 (iN : Int), .slice a1 512 c1] : Array Value).all (·.oneCell') = true) := all_oneCell_toArray (cs := [.int .i64 (iN : Int), .slice a1 512 c1]) (by intro v hv; simp only [List.mem_cons, List.not_mem_nil, or_false] at hv; rcases hv with rfl | rfl <;> rfl)
       have HTh : Hid (Y.drew.there g (k * 2) 2) := fun j hj => by
        obtain ⟨cur, hcur⟩ := HGY.out.own.row
        have f : Y.drew.frozen? ⟨g, k * 2 + j, none⟩ = false := frozen_of_row Y.drew g _ _ _ hcur
        refine ⟨?_, f⟩
        match j, hj with
        | 0, _ => rw [show Y.drew.cell? ⟨g, k * 2 + 0, none⟩ = Y.cell? ⟨g, k * 2, none⟩ from rfl, c0]; rfl
        | 1, _ => rw [show Y.drew.cell? ⟨g, k * 2 + 1, none⟩ = Y.cell? ⟨g, k * 2 + 1, none⟩ from rfl, c1']; rfl
       have HS7 : Hid ((Y.drew.setCells g (k * 2) #[.int .i64 (iN : Int), .slice a1 512 c1].toList).cell? ⟨U, 1, none⟩ = some (.slice (some ⟨g, 0, none⟩) n cap) ∧ Blk (Y.drew.setCells g (k * 2) #[.int .i64 (iN : Int), .slice a1 512 c1].toList) bW 88 [.int .i64 (iN : Int), .slice a1 512 c1]) := by
        have hgr := gr_setCells g [.int .i64 (iN : Int), .slice a1 512 c1] Y.drew (k * 2)
        have hU2 := (hgr.block U (Blk.lt (w := Y.drew) HUB.out) (fun e => hgU (Option.some.inj e).symm)).trans (show Y.drew.heap[U]? = _ from HUB.out)
        exact ⟨Blk.cell hU2 1, (hgr.block bW HbW.out (fun e => hgW (Option.some.inj e).symm)).trans (show Y.drew.heap[bW]? = _ from HbB.out)⟩
       have HFi : Hid ((∃ vL' ls', RtAt (Y.drew.setCells g (k * 2) #[.int .i64 (iN : Int), .slice a1 512 c1].toList) U J base vL' ls' false ∧ ls'.map plW = (Tl.write ⟨ls.map plW, false⟩ ⟨p, seq, false⟩ (iN : Int) b).l ∧ ∀ k, vL'.ownBlock = some k → (Value.slice (some ⟨g, 0, none⟩) n cap).ownBlock = some k ∨ w0.heap.size ≤ k) ∧ KeepE (fun k => k = U ∨ (Value.slice (some ⟨g, 0, none⟩) n cap).ownBlock = some k) w0 (Y.drew.setCells g (k * 2) #[.int .i64 (iN : Int), .slice a1 512 c1].toList) ∧ Below base w0 (Y.drew.setCells g (k * 2) #[.int .i64 (iN : Int), .slice a1 512 c1].toList)) := by
        have hgr := gr_setCells g [.int .i64 (iN : Int), .slice a1 512 c1] Y.drew (k * 2)
        have hbd : Below Y.heap.size Y Y.drew := (Below.refl _ Y).drew
        have hbs : base ≤ w0.heap.size := by omega
        have hg0 := HT.out.gs.own.blk g rfl
        obtain ⟨cur, hcur⟩ := HGY.out.own.row
        have hkT : KeepT [88] Y.drew (Y.drew.setCells g (k * 2) [.int .i64 (iN : Int), .slice a1 512 c1]) := gr_keepT (cs := cur.toList) (by unfold Blk; exact hcur) hgr
        have hO := ((HGY.out.own.heap (w' := Y.drew) rfl).setOne HN.out k hkat.1 ⟨iN, b, a1, c1⟩)
        have e5 : (⟨iN, b, a1, c1⟩ : Wg).b.length = 512 := H512.out
        rw [e5] at hO
        have hU2 := (hgr.block U (Blk.lt (w := Y.drew) HUB.out) (fun e => hgU (Option.some.inj e).symm)).trans (show Y.drew.heap[U]? = _ from HUB.out)
        have hOb : OwnB (Y.drew.setCells g (k * 2) [.int .i64 (iN : Int), .slice a1 512 c1]) w0.heap.size (.slice a1 512 c1) b := own_keep hkT (HOY.out.heap (w' := Y.drew) rfl) (by decide)
        refine ⟨⟨.slice (some ⟨g, 0, none⟩) n cap, ls.set k ⟨iN, b, a1, c1⟩, ⟨hU2, ⟨hO, fun x hx => ?_⟩⟩, ?_, fun _ h => .inl h⟩, ?_, ?_⟩
        ·
         rcases List.mem_or_eq_of_mem_set hx with hx | hx
         ·
          exact (HGY.out.bys.keep (KeepT.of_below (ts := []) hbd) (by simp)).keep hkT (by decide) x hx
         ·
          rw [hx]
          refine ⟨H512.out, ?_⟩
          show OwnB _ base (.slice a1 b.length c1) b
          rw [H512.out]
          exact hOb.base hbs
        ·
         unfold Tl.write
         rw [if_pos (by rw [HWE.out, HE.out]), Int.toNat_natCast]
         exact hq2.symm
        ·
         exact ((KeepE.of_below HYB.out).trans (KeepE.of_below hbd)).grown (v := .slice (some ⟨g, 0, none⟩) n cap) hgr (fun _ h => .inr h)
        ·
         exact ((HYB.out.trans (hbd.mono HYB.out.size)).mono hbs).trans (bel_one hgr hg0.1 (Array.getElem?_eq_some_iff.1 hcur).1)
       clear hkat hq1 hq2 hgb hgU hgW c0 c1' HHb
       go_wp2_with fail
       refine wp_region_noPanic ?_
       refine wp_region_held_drew (S := fun w' => w'.cell? ⟨U, 1, none⟩ = some (.slice (some ⟨g, 0, none⟩) n cap) ∧ Blk w' bW 88 [.int .i64 (iN : Int), .slice a1 512 c1]) (by kernel_rfl) ⟨y1, HbB.out⟩ (fun hHeld => ?_)
       refine takeH (some 77) (i := 0) (v := ?_) rfl (by kernel_rfl) (by kernel_rfl) (by kernel_rfl) (fun _ _ _ h => h) (Or.inl ⟨by rfl, ?_⟩) hHeld rfl ?_
       rotate_left
       ·
        intro w hSw; obtain ⟨hS1, hS2⟩ := hSw; go_simp; with_reducible rfl
       (try simp only [Act.put]); (try simp only [List.setIfInBounds_toArray]); (try simp only [List.set_cons_zero, List.set_cons_succ])
       refine takeH (some 78) (i := 1) (v := ?_) rfl (by kernel_rfl) (by kernel_rfl) (by kernel_rfl) (fun _ _ _ h => h) (Or.inl ⟨by rfl, ?_⟩) hHeld rfl ?_
       rotate_left
       ·
        intro w hSw; obtain ⟨hS1, hS2⟩ := hSw; go_simp; with_reducible rfl
       (try simp only [Act.put]); (try simp only [List.setIfInBounds_toArray]); (try simp only [List.set_cons_zero, List.set_cons_succ])
       refine takeH (some 79) (i := 2) (v := ?_) rfl (by kernel_rfl) (by kernel_rfl) (by kernel_rfl) (fun _ _ _ h => h) (Or.inl ⟨by rfl, ?_⟩) hHeld rfl ?_
       rotate_left
       ·
        intro w hSw; obtain ⟨hS1, hS2⟩ := hSw; go_simp; with_reducible rfl
       (try simp only [Act.put]); (try simp only [List.setIfInBounds_toArray]); (try simp only [List.set_cons_zero, List.set_cons_succ])
       refine takeH (some 80) (i := 3) (v := ?_) rfl (by kernel_rfl) (by kernel_rfl) (by kernel_rfl) (fun _ _ _ h => h) (Or.inl ⟨by rfl, ?_⟩) hHeld rfl ?_
       rotate_left
       ·
        intro w hSw; obtain ⟨hS1, hS2⟩ := hSw; go_simp; with_reducible rfl
       (try simp only [Act.put]); (try simp only [List.setIfInBounds_toArray]); (try simp only [List.set_cons_zero, List.set_cons_succ])
       refine takeH (some 81) (i := 4) (v := ?_) rfl (by kernel_rfl) (by kernel_rfl) (by kernel_rfl) (fun _ _ _ h => h) (Or.inl ⟨by rfl, ?_⟩) hHeld rfl ?_
       rotate_left
       ·
        intro w hSw; obtain ⟨hS1, hS2⟩ := hSw; go_simp; with_reducible rfl
       (try simp only [Act.put]); (try simp only [List.setIfInBounds_toArray]); (try simp only [List.set_cons_zero, List.set_cons_succ])
       refine takeH (some 82) (i := 5) (v := .agg #[.int .i64 (iN : Int), .slice a1 512 c1]) rfl (by kernel_rfl) (by kernel_rfl) (by kernel_rfl) (fun _ _ _ h => h) (yieldsIf_load_mid (by rfl) 88 (.tmp 8) (by rfl) bW 0 (by rfl) [.int .i64 (iN : Int), .slice a1 512 c1] _ (fun w1 hw1 => Blk.whole hw1.2) Tryz.underlying88 rfl (by kernel_rfl)) hHeld rfl ?_
       (try simp only [Act.put]); (try simp only [List.setIfInBounds_toArray]); (try simp only [List.set_cons_zero, List.set_cons_succ])
       refine takeH (some 83) (i := 6) (v := ?_) rfl (by kernel_rfl) (by kernel_rfl) (by kernel_rfl) (fun _ _ _ h => h) (Or.inl ⟨by rfl, ?_⟩) hHeld rfl ?_
       rotate_left
       ·
        intro w hSw; obtain ⟨hS1, hS2⟩ := hSw; go_simp; with_reducible rfl
       (try simp only [Act.put]); (try simp only [List.setIfInBounds_toArray]); (try simp only [List.set_cons_zero, List.set_cons_succ])
       refine wpAnyH_ready (rs := [7]) (by kernel_rfl) (by simp) (AllReadyH.cons rfl (fun K hK => ?_) AllReadyH.nil)
       rw [if_pos (by rfl)]
       refine wp_store_mid 88 _ _ (by rfl) g (k * 2) #[.int .i64 (iN : Int), .slice a1 512 c1] (by rfl) (by rfl) HTh.out (by kernel_rfl) HAll.out ?_
       refine hK.out _ _ HS7.out (fun _ => ?_)
       (try simp only [Act.put]); (try simp only [List.setIfInBounds_toArray]); (try simp only [List.set_cons_zero, List.set_cons_succ])
       clear hK K
       refine wpAnyH_done (by kernel_rfl) ?_ _
       refine NoPanic.normal ?_
       clear HTh HS7 y1
       generalize Y.drew.setCells g (k * 2) #[.int .i64 (iN : Int), .slice a1 512 c1].toList = Z at *
       go_wp2_with fail
       go_ret
       exact ⟨ret_i10 HE.out.symm, HFi.out⟩
      | false =>
       have hmi := of_decide_eq_false HHb.out.symm
       obtain ⟨hq1, hq2⟩ := put_miss ls iN ⟨iN, b, a1, c1⟩ rfl (by
        rw [← HPos.out]
        by_cases hlt : k < n
        ·
         exact .inr (fun h => hmi ⟨hlt, h⟩)
        ·
         left; rw [← HN.out]; omega)
       rw [← HPos.out] at hq2
       by_cases hfull : 48 ≤ n
       ·
        have HE : Hid (tE = 44) := by unfold Hid; rw [HE0.out, if_pos ⟨hq1, by rw [← HN.out]; exact hfull⟩]
        have hfull' : (48 : Int) ≤ (n : Int) := by omega
        have hbs : base ≤ w0.heap.size := by omega
        have HFi : Hid ((∃ vL' ls', RtAt Y U J base vL' ls' false ∧ ls'.map plW = (Tl.write ⟨ls.map plW, false⟩ ⟨p, seq, false⟩ (iN : Int) b).l ∧ ∀ k, vL'.ownBlock = some k → (Value.slice a ls.length cap).ownBlock = some k ∨ w0.heap.size ≤ k) ∧ KeepE (fun k => k = U ∨ (Value.slice a ls.length cap).ownBlock = some k) w0 Y ∧ Below base w0 Y) :=
         ⟨⟨.slice a n cap, ls, ⟨HUB.out, HGY.out⟩, by unfold Tl.write; rw [if_neg (by rw [HWE.out, HE.out]; decide)], fun _ h => .inl (by rw [← HN.out]; exact h)⟩, KeepE.of_below HYB.out, HYB.out.mono hbs⟩
        clear hmi hq1 hq2 HHb
        go_wp2_with fail
        go_ret
        exact ⟨ret_i10 HE.out.symm, HFi.out⟩
       ·
        have HE : Hid (tE = 0) := by unfold Hid; rw [HE0.out, if_neg (fun h => hfull (by rw [HN.out]; exact h.2))]
        have hfull' : ¬ (48 : Int) ≤ (n : Int) := by omega
        have hbs : base ≤ w0.heap.size := by omega
        have HFin : Hid (∀ (V : World) (a3 : Option Addr) (Ln c3 : Nat), Below Y.heap.size Y V → Blk V U 92 [.pointer (some ⟨J, 0, none⟩), .slice a n cap, .bool false] → OwnG 88 V Y.heap.size (.slice a3 Ln c3) (ls.take k ++ [(⟨iN, b, a1, c1⟩ : Wg)] ++ ls.drop k) → (Ending.returned (.int .i64 0) = Ending.returned (.int .i64 tE) ∧ (∃ vL' ls', RtAt (V.setCell ⟨U, 1, none⟩ (.slice a3 Ln c3)) U J base vL' ls' false ∧ ls'.map plW = (Tl.write ⟨ls.map plW, false⟩ ⟨p, seq, false⟩ (iN : Int) b).l ∧ ∀ k, vL'.ownBlock = some k → (Value.slice a ls.length cap).ownBlock = some k ∨ w0.heap.size ≤ k) ∧ KeepE (fun k => k = U ∨ (Value.slice a ls.length cap).ownBlock = some k) w0 (V.setCell ⟨U, 1, none⟩ (.slice a3 Ln c3)) ∧ Below base w0 (V.setCell ⟨U, 1, none⟩ (.slice a3 Ln c3)))) := by
         intro V a3 Ln c3 hV hBU hO
         have hkT : KeepT [92] V (V.setCell ⟨U, 1, none⟩ (.slice a3 Ln c3)) := (KeepT.refl _ V).set hBU (by simp) 1 _
         have hYs : w0.heap.size ≤ Y.heap.size := HYB.out.size
         have hbV : Below w0.heap.size w0 V := HYB.out.trans (hV.mono hYs)
         refine ⟨by rw [HE.out], ⟨.slice a3 Ln c3, _, ⟨hBU.set 1 _, ⟨OwnG.base (own_keep hkT hO (by decide)) (Nat.le_trans hbs hYs), fun x hx => ?_⟩⟩, ?_, fun q hq => .inr (Nat.le_trans hYs (hO.blk q hq).1)⟩, ?_, ?_⟩
         ·
          rcases List.mem_append.1 hx with hx | hx
          ·
           rcases List.mem_append.1 hx with hx | hx
           ·
            exact ((HT.out.gs.bys.keep (KeepT.of_below (ts := []) hbV) (by simp)).keep hkT (by decide)) x (List.mem_of_mem_take hx)
           ·
            rw [List.mem_singleton.1 hx]
            refine ⟨H512.out, ?_⟩
            show OwnB _ base (.slice a1 b.length c1) b
            rw [H512.out]
            have h8 : OwnB V w0.heap.size (.slice a1 512 c1) b := own_keep (KeepT.of_below (ts := []) hV) HOY.out (by simp)
            exact OwnB.base (own_keep hkT h8 (by decide)) hbs
          ·
           exact ((HT.out.gs.bys.keep (KeepT.of_below (ts := []) hbV) (by simp)).keep hkT (by decide)) x (List.mem_of_mem_drop hx)
         ·
          unfold Tl.write
          rw [if_pos (by rw [HWE.out, HE.out]), Int.toNat_natCast]
          exact hq2.symm
         ·
          exact (KeepE.of_below hbV).set hBU (.inl rfl) 1 _
         ·
          exact (hbV.mono hbs).setCell (p := ⟨U, 1, none⟩) hU _
        have hs7 : ∀ W, (Instr.slice 78 (.slice a n cap) none (some (.int .i64 (k : Int))) none).run Tryz.prog W = .ok (.slice a k cap) W := fun W => slGh a n cap k (by omega) HAa.out W
        have hs17 : ∀ W, (Instr.slice 78 (.slice a n cap) (some (.int .i64 (k : Int))) none none).run Tryz.prog W = .ok (.slice (cutG a cap k) (n - k) (cap - k)) W := fun W => slGl a n cap k hk W
        clear hmi hq1 hq2 HHb HE0 HWE HSame HIB HNl HPos HYB HGY HOY hfull
        go_wp2_with fail
        clear y1
        refine wp_region_noPanic ?_
        refine lk0 (fun w' => Blk w' bW 88 [.int .i64 (iN : Int), .slice a1 512 c1] ∧ w'.cell? ⟨U, 1, none⟩ = some (.slice a n cap)) 21 ⟨HbB.out, Blk.cell (w := Y.drew) HUB.out 1⟩ (fun hHeld => ?_)
        refine lkT 90 0 ?_ rfl (Or.inl ⟨by rfl, ?_⟩) hHeld ?_
        rotate_left
        ·
         intro w hSw; obtain ⟨hS1, hS2⟩ := hSw; go_simp; with_reducible rfl
        (try simp only [Act.put, List.setIfInBounds_toArray, List.set_cons_zero, List.set_cons_succ])
        refine lkT 92 2 ?_ rfl (Or.inl ⟨by rfl, ?_⟩) hHeld ?_
        rotate_left
        ·
         intro w hSw; obtain ⟨hS1, hS2⟩ := hSw; go_simp; with_reducible rfl
        (try simp only [Act.put, List.setIfInBounds_toArray, List.set_cons_zero, List.set_cons_succ])
        refine lkT 93 3 ?_ rfl (Or.inl ⟨by rfl, ?_⟩) hHeld ?_
        rotate_left
        ·
         intro w hSw; obtain ⟨hS1, hS2⟩ := hSw; go_simp; with_reducible rfl
        (try simp only [Act.put, List.setIfInBounds_toArray, List.set_cons_zero, List.set_cons_succ])
        refine lkT 94 4 ?_ rfl (Or.inl ⟨by rfl, ?_⟩) hHeld ?_
        rotate_left
        ·
         intro w hSw; obtain ⟨hS1, hS2⟩ := hSw; go_simp; with_reducible rfl
        (try simp only [Act.put, List.setIfInBounds_toArray, List.set_cons_zero, List.set_cons_succ])
        refine lkT 95 5 ?_ rfl (Or.inl ⟨by rfl, ?_⟩) hHeld ?_
        rotate_left
        ·
         intro w hSw; obtain ⟨hS1, hS2⟩ := hSw; go_simp; with_reducible rfl
        (try simp only [Act.put, List.setIfInBounds_toArray, List.set_cons_zero, List.set_cons_succ])
        refine lkT 96 6 ?_ rfl (Or.inl ⟨by rfl, ?_⟩) hHeld ?_
        rotate_left
        ·
         intro w hSw; obtain ⟨hS1, hS2⟩ := hSw; go_simp; with_reducible rfl
        (try simp only [Act.put, List.setIfInBounds_toArray, List.set_cons_zero, List.set_cons_succ])
        refine lkT 97 7 ?_ rfl (Or.inl ⟨by rfl, ?_⟩) hHeld ?_
        rotate_left
        ·
         intro w hSw; obtain ⟨hS1, hS2⟩ := hSw; go_simp; with_reducible rfl
        (try simp only [Act.put, List.setIfInBounds_toArray, List.set_cons_zero, List.set_cons_succ])
        refine lkT 99 9 (.agg #[.int .i64 (iN : Int), .slice a1 512 c1]) rfl (yieldsIf_load_mid (by rfl) 88 (.tmp 8) (by rfl) bW 0 (by rfl) [.int .i64 (iN : Int), .slice a1 512 c1] _ (fun w1 hw1 => Blk.whole hw1.1) Tryz.underlying88 rfl (by kernel_rfl)) hHeld ?_
        (try simp only [Act.put, List.setIfInBounds_toArray, List.set_cons_zero, List.set_cons_succ])
        refine lkT 102 12 ?_ rfl (Or.inl ⟨by rfl, ?_⟩) hHeld ?_
        rotate_left
        ·
         intro w hSw; obtain ⟨hS1, hS2⟩ := hSw; go_simp; with_reducible rfl
        (try simp only [Act.put, List.setIfInBounds_toArray, List.set_cons_zero, List.set_cons_succ])
        refine lkT 103 13 ?_ rfl (Or.inl ⟨by rfl, ?_⟩) hHeld ?_
        rotate_left
        ·
         intro w hSw; obtain ⟨hS1, hS2⟩ := hSw; go_simp; with_reducible rfl
        (try simp only [Act.put, List.setIfInBounds_toArray, List.set_cons_zero, List.set_cons_succ])
        refine lkT 104 14 ?_ rfl (Or.inl ⟨by rfl, ?_⟩) hHeld ?_
        rotate_left
        ·
         intro w hSw; obtain ⟨hS1, hS2⟩ := hSw; go_simp; with_reducible rfl
        (try simp only [Act.put, List.setIfInBounds_toArray, List.set_cons_zero, List.set_cons_succ])
        refine lkT 105 15 ?_ rfl (Or.inl ⟨by rfl, ?_⟩) hHeld ?_
        rotate_left
        ·
         intro w hSw; obtain ⟨hS1, hS2⟩ := hSw; go_simp; with_reducible rfl
        (try simp only [Act.put, List.setIfInBounds_toArray, List.set_cons_zero, List.set_cons_succ])
        refine lkT 106 16 ?_ rfl (Or.inl ⟨by rfl, ?_⟩) hHeld ?_
        rotate_left
        ·
         intro w hSw; obtain ⟨hS1, hS2⟩ := hSw; go_simp; with_reducible rfl
        (try simp only [Act.put, List.setIfInBounds_toArray, List.set_cons_zero, List.set_cons_succ])
        refine lkT 107 17 ?_ rfl (Or.inl ⟨by rfl, ?_⟩) hHeld ?_
        rotate_left
        ·
         intro w hSw; obtain ⟨hS1, hS2⟩ := hSw; go_simp; with_reducible rfl
        (try simp only [Act.put, List.setIfInBounds_toArray, List.set_cons_zero, List.set_cons_succ])
        have DW : Below Y.heap.size Y Y.drew := (Below.refl _ Y).drew
        generalize Y.drew = V0 at *
        refine lkR (rs := [1, 10]) (by kernel_rfl) (by simp) ?_
        refine NextL.cons rfl (fun K hK => ?_) (NextL.cons rfl (fun K hK => ?_) NextL.nil)
        ·
         go_simp
         have D1 := DW.alloc DW.size (.cells #[] 88)
         have K1 : OwnG 88 (V0.alloc (.cells #[] 88)) Y.heap.size (.slice (some ⟨V0.heap.size, 0, none⟩) 0 0) [] := OwnG.empty V0 _ DW.size
         refine hK.out _ _ (⟨Blk.alloc hHeld.1 _, (HUB.out.on D1).cell 1⟩) (fun hHeld => ?_)
         (try simp only [Act.put, List.setIfInBounds_toArray, List.set_cons_zero, List.set_cons_succ])
         clear hK K
         clear DW
         generalize V0.heap.size = bE at *
         generalize V0.alloc (.cells #[] 88) = V1 at *
         have DW := D1
         have KE := K1
         clear D1 K1
         refine lkR (rs := [8, 10]) (by kernel_rfl) (by simp) ?_
         refine NextL.cons rfl (fun K hK => ?_) (NextL.cons rfl (fun K hK => ?_) NextL.nil)
         ·
          refine step_appGs V1 (by rfl) _ _ (by rfl) Y.heap.size _ [] (by rfl) KE a k cap (ls.take k) (by rfl) ((HT2.out.on DW).src HN.out k hk).1 (by simp only [List.length_nil]; omega) DW.size 98 rfl ?_
          intro v2 V2 ho2 hg2
          have D2 := DW.grown hg2 DW.size (fun j hj => (KE.blk j hj).1)
          have hS2 := kbw hg2 hHeld.1 KE HbW.out
          rw [List.nil_append] at ho2
          refine hK.out _ _ (⟨hS2, (HUB.out.on D2).cell 1⟩) (fun hHeld => ?_)
          (try simp only [Act.put, List.setIfInBounds_toArray, List.set_cons_zero, List.set_cons_succ])
          clear hK K
          clear DW KE hg2 hS2
          have DW := D2
          have OA := ho2
          clear D2 ho2
          refine lk1 10 rfl (fun K hK => ?_)
          go_simp
          have D3 := DW.alloc DW.size (.cells #[.int .i64 (iN : Int), .slice a1 512 c1] 88)
          have B3 : Blk (V2.alloc (.cells #[.int .i64 (iN : Int), .slice a1 512 c1] 88)) V2.heap.size 88 [.int .i64 (iN : Int), .slice a1 512 c1] := Blk.newAt V2 _ _ _ _ rfl rfl
          have O3 := OA.alloc (.cells #[.int .i64 (iN : Int), .slice a1 512 c1] 88)
          refine hK.out _ _ (⟨Blk.alloc hHeld.1 _, (HUB.out.on D3).cell 1⟩) (fun hHeld => ?_)
          (try simp only [Act.put, List.setIfInBounds_toArray, List.set_cons_zero, List.set_cons_succ])
          clear hK K
          clear DW OA
          generalize V2.heap.size = bB at *
          generalize V2.alloc (.cells #[.int .i64 (iN : Int), .slice a1 512 c1] 88) = V3 at *
          have DW := D3
          have KB := B3
          have OA := O3
          clear D3 B3 O3
          refine lk1 11 rfl (fun K hK => ?_)
          refine step_appGs V3 (by rfl) _ _ (by rfl) Y.heap.size _ (ls.take k) (by rfl) OA (some ⟨bB, 0, none⟩) 1 1 [(⟨iN, b, a1, c1⟩ : Wg)] (by rfl) (SrcG.one KB H512.out) (by rw [List.length_take]; omega) DW.size 101 rfl ?_
          intro v4 V4 ho4 hg4
          have D4 := DW.grown hg4 DW.size (fun j hj => (OA.blk j hj).1)
          have hS4 := kbw hg4 hHeld.1 OA HbW.out
          refine hK.out _ _ (⟨hS4, (HUB.out.on D4).cell 1⟩) (fun hHeld => ?_)
          (try simp only [Act.put, List.setIfInBounds_toArray, List.set_cons_zero, List.set_cons_succ])
          clear hK K
          clear DW OA KB hg4 hS4
          have DW := D4
          have OC := ho4
          clear D4 ho4
          refine lk1 18 rfl (fun K hK => ?_)
          refine step_appGs V4 (by rfl) _ _ (by rfl) Y.heap.size _ (ls.take k ++ [(⟨iN, b, a1, c1⟩ : Wg)]) (by rfl) OC (cutG a cap k) (n - k) (cap - k) (ls.drop k) (by rfl) ((HT2.out.on DW).src HN.out k hk).2 (by rw [List.length_append, List.length_take, List.length_singleton]; omega) DW.size 108 rfl ?_
          intro v5 V5 ho5 hg5
          have D5 := DW.grown hg5 DW.size (fun j hj => (OC.blk j hj).1)
          have hS5 := kbw hg5 hHeld.1 OC HbW.out
          obtain ⟨a3, c3, ev3, _⟩ := ho5.form
          generalize hLn : (ls.take k ++ [(⟨iN, b, a1, c1⟩ : Wg)] ++ ls.drop k).length = Ln at *
          subst ev3
          have OD := mkHid ho5
          have BU := HUB.out.on D5
          have d1 : V5.cell? ⟨U, 1, none⟩ = some (.slice a n cap) := BU.cell 1
          have f1 := BU.frozen 1
          refine hK.out _ _ (⟨hS5, (HUB.out.on D5).cell 1⟩) (fun hHeld => ?_)
          (try simp only [Act.put, List.setIfInBounds_toArray, List.set_cons_zero, List.set_cons_succ])
          clear hK K
          refine lk1 19 rfl (fun K hK => ?_)
          go_simp
          refine hK.out _ _ (hHeld) (fun hHeld => ?_)
          (try simp only [Act.put, List.setIfInBounds_toArray, List.set_cons_zero, List.set_cons_succ])
          clear hK K
          refine lk1 20 rfl (fun K hK => ?_)
          go_simp
          refine hK.out _ _ (hHeld) (fun hHeld => ?_)
          (try simp only [Act.put, List.setIfInBounds_toArray, List.set_cons_zero, List.set_cons_succ])
          clear hK K
          refine lkZ rfl (fun K hK => ?_)
          go_simp
          refine hK.out _ _ (NoPanic.normal ?_)
          (try simp only [Act.put, List.setIfInBounds_toArray, List.set_cons_zero, List.set_cons_succ])
          clear hK K
          have HF := mkHid (HFin.out _ _ _ _ D5 BU OD.out)
          clear d1 f1 BU OD D5 DW OC hg5 hS5 hHeld ho5
          generalize V5.setCell ⟨U, 1, none⟩ (.slice a3 Ln c3) = Z at *
          go_wp2_with fail
          go_ret
          exact HF.out
         ·
          go_simp
          have D6 := DW.alloc DW.size (.cells #[.int .i64 (iN : Int), .slice a1 512 c1] 88)
          have B6 : Blk (V1.alloc (.cells #[.int .i64 (iN : Int), .slice a1 512 c1] 88)) V1.heap.size 88 [.int .i64 (iN : Int), .slice a1 512 c1] := Blk.newAt V1 _ _ _ _ rfl rfl
          have O6 := KE.alloc (.cells #[.int .i64 (iN : Int), .slice a1 512 c1] 88)
          have hEB : bE ≠ V1.heap.size := Nat.ne_of_lt (KE.blk bE rfl).2
          refine hK.out _ _ (⟨Blk.alloc hHeld.1 _, (HUB.out.on D6).cell 1⟩) (fun hHeld => ?_)
          (try simp only [Act.put, List.setIfInBounds_toArray, List.set_cons_zero, List.set_cons_succ])
          clear hK K
          clear DW KE
          generalize V1.heap.size = bB at *
          generalize V1.alloc (.cells #[.int .i64 (iN : Int), .slice a1 512 c1] 88) = V6 at *
          have DW := D6
          have KB := B6
          have KE := O6
          clear D6 B6 O6
          refine lk1 8 rfl (fun K hK => ?_)
          refine step_appGs V6 (by rfl) _ _ (by rfl) Y.heap.size _ [] (by rfl) KE a k cap (ls.take k) (by rfl) ((HT2.out.on DW).src HN.out k hk).1 (by simp only [List.length_nil]; omega) DW.size 98 rfl ?_
          intro v7 V7 ho7 hg7
          have D7 := DW.grown hg7 DW.size (fun j hj => (KE.blk j hj).1)
          have hS7 := kbw hg7 hHeld.1 KE HbW.out
          rw [List.nil_append] at ho7
          have B7 : Blk V7 bB 88 [.int .i64 (iN : Int), .slice a1 512 c1] := (hg7.block bB KB.lt (fun e5 => hEB (Option.some.inj e5).symm)).trans KB
          refine hK.out _ _ (⟨hS7, (HUB.out.on D7).cell 1⟩) (fun hHeld => ?_)
          (try simp only [Act.put, List.setIfInBounds_toArray, List.set_cons_zero, List.set_cons_succ])
          clear hK K
          clear DW KE hg7 hS7 KB hEB
          have DW := D7
          have OA := ho7
          have KB := B7
          clear D7 ho7 B7
          refine lk1 11 rfl (fun K hK => ?_)
          refine step_appGs V7 (by rfl) _ _ (by rfl) Y.heap.size _ (ls.take k) (by rfl) OA (some ⟨bB, 0, none⟩) 1 1 [(⟨iN, b, a1, c1⟩ : Wg)] (by rfl) (SrcG.one KB H512.out) (by rw [List.length_take]; omega) DW.size 101 rfl ?_
          intro v8 V8 ho8 hg8
          have D8 := DW.grown hg8 DW.size (fun j hj => (OA.blk j hj).1)
          have hS8 := kbw hg8 hHeld.1 OA HbW.out
          refine hK.out _ _ (⟨hS8, (HUB.out.on D8).cell 1⟩) (fun hHeld => ?_)
          (try simp only [Act.put, List.setIfInBounds_toArray, List.set_cons_zero, List.set_cons_succ])
          clear hK K
          clear DW OA KB hg8 hS8
          have DW := D8
          have OC := ho8
          clear D8 ho8
          refine lk1 18 rfl (fun K hK => ?_)
          refine step_appGs V8 (by rfl) _ _ (by rfl) Y.heap.size _ (ls.take k ++ [(⟨iN, b, a1, c1⟩ : Wg)]) (by rfl) OC (cutG a cap k) (n - k) (cap - k) (ls.drop k) (by rfl) ((HT2.out.on DW).src HN.out k hk).2 (by rw [List.length_append, List.length_take, List.length_singleton]; omega) DW.size 108 rfl ?_
          intro v9 V9 ho9 hg9
          have D9 := DW.grown hg9 DW.size (fun j hj => (OC.blk j hj).1)
          have hS9 := kbw hg9 hHeld.1 OC HbW.out
          obtain ⟨a3, c3, ev3, _⟩ := ho9.form
          generalize hLn : (ls.take k ++ [(⟨iN, b, a1, c1⟩ : Wg)] ++ ls.drop k).length = Ln at *
          subst ev3
          have OD := mkHid ho9
          have BU := HUB.out.on D9
          have d1 : V9.cell? ⟨U, 1, none⟩ = some (.slice a n cap) := BU.cell 1
          have f1 := BU.frozen 1
          refine hK.out _ _ (⟨hS9, (HUB.out.on D9).cell 1⟩) (fun hHeld => ?_)
          (try simp only [Act.put, List.setIfInBounds_toArray, List.set_cons_zero, List.set_cons_succ])
          clear hK K
          refine lk1 19 rfl (fun K hK => ?_)
          go_simp
          refine hK.out _ _ (hHeld) (fun hHeld => ?_)
          (try simp only [Act.put, List.setIfInBounds_toArray, List.set_cons_zero, List.set_cons_succ])
          clear hK K
          refine lk1 20 rfl (fun K hK => ?_)
          go_simp
          refine hK.out _ _ (hHeld) (fun hHeld => ?_)
          (try simp only [Act.put, List.setIfInBounds_toArray, List.set_cons_zero, List.set_cons_succ])
          clear hK K
          refine lkZ rfl (fun K hK => ?_)
          go_simp
          refine hK.out _ _ (NoPanic.normal ?_)
          (try simp only [Act.put, List.setIfInBounds_toArray, List.set_cons_zero, List.set_cons_succ])
          clear hK K
          have HF := mkHid (HFin.out _ _ _ _ D9 BU OD.out)
          clear d1 f1 BU OD D9 DW OC hg9 hS9 hHeld ho9
          generalize V9.setCell ⟨U, 1, none⟩ (.slice a3 Ln c3) = Z at *
          go_wp2_with fail
          go_ret
          exact HF.out
        ·
         go_simp
         have D10 := DW.alloc DW.size (.cells #[.int .i64 (iN : Int), .slice a1 512 c1] 88)
         have B10 : Blk (V0.alloc (.cells #[.int .i64 (iN : Int), .slice a1 512 c1] 88)) V0.heap.size 88 [.int .i64 (iN : Int), .slice a1 512 c1] := Blk.newAt V0 _ _ _ _ rfl rfl
         refine hK.out _ _ (⟨Blk.alloc hHeld.1 _, (HUB.out.on D10).cell 1⟩) (fun hHeld => ?_)
         (try simp only [Act.put, List.setIfInBounds_toArray, List.set_cons_zero, List.set_cons_succ])
         clear hK K
         clear DW
         generalize V0.heap.size = bB at *
         generalize V0.alloc (.cells #[.int .i64 (iN : Int), .slice a1 512 c1] 88) = V10 at *
         have DW := D10
         have KB := B10
         clear D10 B10
         refine lk1 1 rfl (fun K hK => ?_)
         go_simp
         have D11 := DW.alloc DW.size (.cells #[] 88)
         have K11 : OwnG 88 (V10.alloc (.cells #[] 88)) Y.heap.size (.slice (some ⟨V10.heap.size, 0, none⟩) 0 0) [] := OwnG.empty V10 _ DW.size
         have B11 := KB.alloc (.cells #[] 88)
         have hEB : V10.heap.size ≠ bB := Nat.ne_of_gt KB.lt
         refine hK.out _ _ (⟨Blk.alloc hHeld.1 _, (HUB.out.on D11).cell 1⟩) (fun hHeld => ?_)
         (try simp only [Act.put, List.setIfInBounds_toArray, List.set_cons_zero, List.set_cons_succ])
         clear hK K
         clear DW KB
         generalize V10.heap.size = bE at *
         generalize V10.alloc (.cells #[] 88) = V11 at *
         have DW := D11
         have KE := K11
         have KB := B11
         clear D11 K11 B11
         refine lk1 8 rfl (fun K hK => ?_)
         refine step_appGs V11 (by rfl) _ _ (by rfl) Y.heap.size _ [] (by rfl) KE a k cap (ls.take k) (by rfl) ((HT2.out.on DW).src HN.out k hk).1 (by simp only [List.length_nil]; omega) DW.size 98 rfl ?_
         intro v12 V12 ho12 hg12
         have D12 := DW.grown hg12 DW.size (fun j hj => (KE.blk j hj).1)
         have hS12 := kbw hg12 hHeld.1 KE HbW.out
         rw [List.nil_append] at ho12
         have B12 : Blk V12 bB 88 [.int .i64 (iN : Int), .slice a1 512 c1] := (hg12.block bB KB.lt (fun e5 => hEB (Option.some.inj e5).symm)).trans KB
         refine hK.out _ _ (⟨hS12, (HUB.out.on D12).cell 1⟩) (fun hHeld => ?_)
         (try simp only [Act.put, List.setIfInBounds_toArray, List.set_cons_zero, List.set_cons_succ])
         clear hK K
         clear DW KE hg12 hS12 KB hEB
         have DW := D12
         have OA := ho12
         have KB := B12
         clear D12 ho12 B12
         refine lk1 11 rfl (fun K hK => ?_)
         refine step_appGs V12 (by rfl) _ _ (by rfl) Y.heap.size _ (ls.take k) (by rfl) OA (some ⟨bB, 0, none⟩) 1 1 [(⟨iN, b, a1, c1⟩ : Wg)] (by rfl) (SrcG.one KB H512.out) (by rw [List.length_take]; omega) DW.size 101 rfl ?_
         intro v13 V13 ho13 hg13
         have D13 := DW.grown hg13 DW.size (fun j hj => (OA.blk j hj).1)
         have hS13 := kbw hg13 hHeld.1 OA HbW.out
         refine hK.out _ _ (⟨hS13, (HUB.out.on D13).cell 1⟩) (fun hHeld => ?_)
         (try simp only [Act.put, List.setIfInBounds_toArray, List.set_cons_zero, List.set_cons_succ])
         clear hK K
         clear DW OA KB hg13 hS13
         have DW := D13
         have OC := ho13
         clear D13 ho13
         refine lk1 18 rfl (fun K hK => ?_)
         refine step_appGs V13 (by rfl) _ _ (by rfl) Y.heap.size _ (ls.take k ++ [(⟨iN, b, a1, c1⟩ : Wg)]) (by rfl) OC (cutG a cap k) (n - k) (cap - k) (ls.drop k) (by rfl) ((HT2.out.on DW).src HN.out k hk).2 (by rw [List.length_append, List.length_take, List.length_singleton]; omega) DW.size 108 rfl ?_
         intro v14 V14 ho14 hg14
         have D14 := DW.grown hg14 DW.size (fun j hj => (OC.blk j hj).1)
         have hS14 := kbw hg14 hHeld.1 OC HbW.out
         obtain ⟨a3, c3, ev3, _⟩ := ho14.form
         generalize hLn : (ls.take k ++ [(⟨iN, b, a1, c1⟩ : Wg)] ++ ls.drop k).length = Ln at *
         subst ev3
         have OD := mkHid ho14
         have BU := HUB.out.on D14
         have d1 : V14.cell? ⟨U, 1, none⟩ = some (.slice a n cap) := BU.cell 1
         have f1 := BU.frozen 1
         refine hK.out _ _ (⟨hS14, (HUB.out.on D14).cell 1⟩) (fun hHeld => ?_)
         (try simp only [Act.put, List.setIfInBounds_toArray, List.set_cons_zero, List.set_cons_succ])
         clear hK K
         refine lk1 19 rfl (fun K hK => ?_)
         go_simp
         refine hK.out _ _ (hHeld) (fun hHeld => ?_)
         (try simp only [Act.put, List.setIfInBounds_toArray, List.set_cons_zero, List.set_cons_succ])
         clear hK K
         refine lk1 20 rfl (fun K hK => ?_)
         go_simp
         refine hK.out _ _ (hHeld) (fun hHeld => ?_)
         (try simp only [Act.put, List.setIfInBounds_toArray, List.set_cons_zero, List.set_cons_succ])
         clear hK K
         refine lkZ rfl (fun K hK => ?_)
         go_simp
         refine hK.out _ _ (NoPanic.normal ?_)
         (try simp only [Act.put, List.setIfInBounds_toArray, List.set_cons_zero, List.set_cons_succ])
         clear hK K
         have HF := mkHid (HFin.out _ _ _ _ D14 BU OD.out)
         clear d1 f1 BU OD D14 DW OC hg14 hS14 hHeld ho14
         generalize V14.setCell ⟨U, 1, none⟩ (.slice a3 Ln c3) = Z at *
         go_wp2_with fail
         go_ret
         exact HF.out
  ·
   have HE : Hid (Tl.wrE ⟨ls.map plW, false⟩ ⟨p, seq, false⟩ i b = 1) := by unfold Hid Tl.wrE; rw [if_neg hod, if_neg (by rw [ha]; decide), if_pos h512]
   have hbz : ((b.length : Int) == 512) = false := by rw [beq_eq_false_iff_ne]; omega
   have hbz' : ¬ (b.length : Int) = 512 := by omega
   clear hod ht hj h hB ha h512
   go_enter Tryz.func108, Tryz.ntmps108
   go_wp2_with fail
   refine HI.mono ?_
   rintro e w1 ⟨rfl, rfl⟩
   go_wp2_with fail
   go_ret
   exact ⟨ret_i10 HE.out.symm, HSame.out (by rw [HE.out]; decide), KeepE.refl _ _, Below.refl _ _⟩
end Go.Proofs.YthjdmfbengpepaaGreat
