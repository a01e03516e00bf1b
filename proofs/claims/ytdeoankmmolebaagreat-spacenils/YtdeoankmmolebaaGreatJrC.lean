/- The document's transaction: Write. (Made by mktxw10.py.) -/
import Derived.Test.YtdeoankmmolebaaGreatB36
import Derived.Test.YtdeoankmmolebaaGreatPd7
import Derived.Deep.CutBlock
import Derived.Deep.CutRange
namespace Go.Proofs.YtdeoankmmolebaaGreat
open Go.RowKit

theorem SrcG.one {w : World} {B : Nat} {g : Wg} (hb : Blk w B 98 [.int .i64 (g.at_ : Int), .slice g.ad 512 g.cap]) (h5 : g.b.length = 512) : SrcG w (some ⟨B, 0, none⟩) 1 1 [g] :=
 ⟨rfl, (fun e => by cases e), fun ad e j u hu => by
  obtain rfl := Option.some.inj e
  rw [Addr.add_lit, Nat.zero_add, hb.cell]
  rw [← hu, ← h5]; rfl⟩
/-- takeH and the one that comes up, the plain arguments left out -/
theorem tk {P : Program} {md : Region.Mode} {ops : Array Oper} {Q : Exit → Act → World → Prop} {S : World → Prop} {oi : Oper} {fuel : Nat} {listed : Array Bool} {a : Act} {w : World} (d : Tmp) (i : Nat) (v : Value) (hi : ops[i]? = some oi) (hy : YieldsIf P ops S oi v a) (hS : S w)
  (h : wpAnyH P md ops Q S fuel (listed.setIfInBounds i true) (a.put (some d) v) w) (hs : Region.noSelect ops = true := by kernel_rfl) (hf : Region.free md ops listed i = true := by kernel_rfl) (hr : (Region.ready md ops listed).contains i = true := by kernel_rfl)
  (hQ : ∀ c a w, Q (.panic c) (a.put oi.dst v) w → Q (.panic c) a w := by exact fun _ _ _ h => h) (hd : oi.dst = some d := by rfl) : wpAnyH P md ops Q S (fuel + 1) listed a w := takeH (some d) hi hs hf hr hQ hy hS hd h
theorem rdy1 {P : Program} {md : Region.Mode} {ops : Array Oper} {Q : Exit → Act → World → Prop} {S : World → Prop} {fuel : Nat} {listed : Array Bool} {a : Act} {w : World} {o : Oper} (i : Nat) (ho : ops[i]? = some o)
  (h : ∀ K' : Act → World → Prop, Shut (∀ a w, S w → (S w → wpAnyH P md ops Q S fuel (listed.setIfInBounds i true) a w) → K' a w) → if Region.wanted o (yielded ops a.tmps) = true then Oper.wp P o a w K' Q else K' (a.put o.dst undef) w) (hr : Region.ready md ops listed = [i] := by kernel_rfl) : wpAnyH P md ops Q S (fuel + 1) listed a w :=
 wpAnyH_ready hr (by simp) (AllReadyH.cons ho h AllReadyH.nil)
theorem kbw {t : TypeId} {W W' : World} {base bW : Nat} {v : Value} {l : List Wg} {cs : List Value} {tb : Nat} (hg : W.grownBy W' v.ownBlock) (hB : Blk W bW tb cs) (ho : OwnG t W base v l) (hlt : bW < base) : Blk W' bW tb cs := (hg.block bW hB.lt (fun e5 => Nat.not_le_of_lt hlt (ho.blk bW e5.symm).1)).trans hB
theorem ret_i10 {a b : Int} (h : a = b) : Ending.returned (.int .i64 a) = .returned (.int .i64 b) := by rw [h]
set_option maxRecDepth 20000 in
set_option maxHeartbeats 8000000 in
theorem refTWrite10 {X : Nat → Prop} (U J D base m seq : Nat) (dead over : Bool) (vL : Value) (ls : List Wg) (p : Pl) (i : Int) (ba : Option Addr) (bc : Nat) (b : List UInt8) (w : World) (ht : RtAt w U J base vL ls over) (hU : base ≤ U) (hj : RjAt w J D seq dead) (h : IsRk X w D base m p) (hl : ls.length ≤ 48) (hB : IsB w ba b.length bc b) :
  Calls Tryz.prog 82 #[.pointer (some ⟨U, 0, none⟩), .int .i64 i, .slice ba b.length bc] w fun e w' => e = .returned (.int .i64 (Tl.wrE ⟨ls.map plW, over⟩ ⟨p, seq, dead⟩ i b)) ∧ (∃ vL' ls', RtAt w' U J base vL' ls' over ∧ ls'.map plW = (Tl.write ⟨ls.map plW, over⟩ ⟨p, seq, dead⟩ i b).l ∧ ∀ k, vL'.ownBlock = some k → vL.ownBlock = some k ∨ w.heap.size ≤ k) ∧ KeepE (fun k => k = U ∨ vL.ownBlock = some k) w w' ∧ Below base w w' := by
 have HI := refIs10 J D seq p.n dead i w hj h.cellN
 have u0 : w.cell? ⟨U, 0, none⟩ = some (.pointer (some ⟨J, 0, none⟩)) := ht.blk.cell 0
 have u2 : w.cell? ⟨U, 2, none⟩ = some (.bool over) := ht.blk.cell 2
 have j2 : w.cell? ⟨J, 2, none⟩ = some (.bool dead) := Blk.cell hj 2
 have HT := mkHid ht
 have HSame : Hid (Tl.wrE ⟨ls.map plW, over⟩ ⟨p, seq, dead⟩ i b ≠ 0 → ∃ vL' ls', RtAt w U J base vL' ls' over ∧ ls'.map plW = (Tl.write ⟨ls.map plW, over⟩ ⟨p, seq, dead⟩ i b).l ∧ ∀ k, vL'.ownBlock = some k → vL.ownBlock = some k ∨ w.heap.size ≤ k) := fun hz => ⟨vL, ls, ht, by unfold Tl.write; rw [if_neg hz], fun _ h => .inl h⟩
 by_cases hod : over = true ∨ dead = true
 ·
  have HE : Hid (Tl.wrE ⟨ls.map plW, over⟩ ⟨p, seq, dead⟩ i b = 51) := by unfold Hid Tl.wrE; rw [if_pos hod]
  cases over with
  | true =>
   clear hod ht hj h hB
   go_enter Tryz.func82, Tryz.ntmps82
   go_wp2_with fail
   go_ret
   exact ⟨ret_i10 HE.out.symm, HSame.out (by rw [HE.out]; decide), KeepE.refl _ _, Below.refl _ _⟩
  | false =>
   obtain rfl : dead = true := by rcases hod with h | h; cases h; exact h
   clear hod ht hj h hB
   go_enter Tryz.func82, Tryz.ntmps82
   go_wp2_with fail
   go_ret
   exact ⟨ret_i10 HE.out.symm, HSame.out (by rw [HE.out]; decide), KeepE.refl _ _, Below.refl _ _⟩
 ·
  obtain rfl : over = false := by cases over with | false => rfl | true => exact absurd (.inl rfl) hod
  obtain rfl : dead = false := by cases dead with | false => rfl | true => exact absurd (.inr rfl) hod
  cases ha : areaI p.n i with
  | false =>
   have HE : Hid (Tl.wrE ⟨ls.map plW, false⟩ ⟨p, seq, false⟩ i b = 50) := by unfold Hid Tl.wrE; rw [if_neg hod, if_pos ha]
   rw [ha] at HI
   clear hod ht hj h hB ha
   go_enter Tryz.func82, Tryz.ntmps82
   go_wp2_with fail
   refine HI.mono ?_
   rintro e w1 ⟨rfl, rfl⟩
   go_wp2_with fail
   go_ret
   exact ⟨ret_i10 HE.out.symm, HSame.out (by rw [HE.out]; decide), KeepE.refl _ _, Below.refl _ _⟩
  | true =>
  rw [ha] at HI
  by_cases h512 : b.length = 512
  ·
   obtain ⟨iN, rfl⟩ : ∃ k : Nat, i = (k : Int) := ⟨i.toNat, by unfold areaI at ha; have := of_decide_eq_true ha; omega⟩
   have HE0 : Hid (Tl.wrE ⟨ls.map plW, false⟩ ⟨p, seq, false⟩ (iN : Int) b = if hitQ (ls.map plW) iN = false ∧ 48 ≤ ls.length then 44 else 0) := by
    unfold Hid Tl.wrE; rw [if_neg hod, if_neg (by rw [ha]; decide), if_neg (by simp [h512]), Int.toNat_natCast, List.length_map]
   obtain ⟨a, cap, hv, hle, _, hnl, _⟩ := ht.gs.own.form
   subst hv
   have u1 : w.cell? ⟨U, 1, none⟩ = some (.slice a ls.length cap) := ht.blk.cell 1
   have hUl : U < w.heap.size := ht.blk.lt
   obtain ⟨n, hn⟩ : ∃ n, n = ls.length := ⟨_, rfl⟩
   have HN := mkHid hn
   rw [← hn] at u1 hl hle HT ht
   have HAa : Hid (a = none ∨ ∃ g, a = some ⟨g, 0, none⟩) := by
    rcases HT.out.gs.own.2 with ⟨h1, _⟩ | ⟨g, _, _, h1, _⟩
    ·
     injection h1 with e1; exact .inl e1
    ·
     injection h1 with e1; exact .inr ⟨g, e1⟩
   rw [h512]
   rw [h512] at hB
   have HIB := mkHid hB
   have H512 := mkHid h512
   have HNl := mkHid hnl
   generalize hW : Tl.wrE ⟨ls.map plW, false⟩ ⟨p, seq, false⟩ (iN : Int) b = tE at *
   have HWE := mkHid hW
   clear hod ht hj h hB ha h512 hn hnl hW
   go_enter Tryz.func82, Tryz.ntmps82
   go_wp2_with fail
   refine HI.mono ?_
   rintro e w1 ⟨rfl, hw1⟩
   obtain rfl := hw1.symm
   clear HI
   go_wp2_with fail
   go_loopw [7] (fun iv wr => ∃ k : Nat, k ≤ n ∧ iv = .int .i64 (k : Int) ∧ Hid (∀ j, j < k → (nthG ls j).at_ < iN) ∧ wr = w) (fun iv _ => n - (intOf iv).toNat)
   case atStart => exact ⟨0, Nat.zero_le _, rfl, fun j hj => absurd hj (Nat.not_lt_zero _), rfl⟩
   case round =>
    obtain ⟨k, hk, rfl, HNo, hwr⟩ := hrel
    subst hwr
    by_cases hgo : k < n ∧ (nthG ls k).at_ < iN
    ·
     obtain ⟨hlt, hat⟩ := hgo
     have HkL : Hid (k < ls.length) := by unfold Hid; rw [← HN.out]; exact hlt
     obtain ⟨g, rfl, c0, _, _, _⟩ := HT.out.gs.cells k HkL.out
     have hlt' : (k : Int) < (n : Int) := by omega
     have hk0 : (0 : Int) ≤ (k : Int) := by omega
     have hat' : ((nthG ls k).at_ : Int) < (iN : Int) := by omega
     have HNo2 : Hid (∀ j, j < k + 1 → (nthG ls j).at_ < iN) := fun j hj => by
      by_cases e : j = k
      ·
       subst e; exact hat
      ·
       exact HNo.out j (by omega)
     clear HNo hat
     generalize (nthG ls k).at_ = at2 at *
     go_wp2_with fail
     go_roundw
     case rel => exact ⟨k + 1, by omega, by go_num, HNo2, by first | rfl | trivial⟩
     case measure => simp [intOf]; omega
    ·
     have HPos : Hid (k = posG ls iN) := posG_uniq ls iN k (by rw [← HN.out]; exact hk) HNo.out (by
      by_cases hlt : k < n
      ·
       exact .inr (fun h => hgo ⟨hlt, h⟩)
      ·
       left; rw [← HN.out]; omega)
     have hbE : Below wr.heap.size wr (wr.alloc (.cells #[] 5)) := (Below.refl _ wr).alloc (Nat.le_refl _) _
     have HIa : Hid (IsB (wr.alloc (.cells #[] 5)) ba 512 bc b) := HIB.out.below hbE rfl
     clear hgo HNo
     go_upto_region 8 with fail
     go_cut [50] from 32 (fun v wx => v = .bool false ∧ wx = wr)
     case first =>
      by_cases hlt : k < n
      ·
       have HkL : Hid (k < ls.length) := by unfold Hid; rw [← HN.out]; exact hlt
       obtain ⟨g, rfl, c0, _, _, _⟩ := HT.out.gs.cells k HkL.out
       have hlt' : (k : Int) < (n : Int) := by omega
       have hk0 : (0 : Int) ≤ (k : Int) := by omega
       have hge : ¬ ((nthG ls k).at_ : Int) < (iN : Int) := by
        have := posG_at ls iN (by rw [← HPos.out]; exact HkL.out)
        rw [← HPos.out] at this; omega
       go_wp2_with fail
       go_meet
       case rel => exact ⟨rfl, rfl⟩
      ·
       have hlt' : ¬ (k : Int) < (n : Int) := by omega
       go_wp2_with fail
       go_meet
       case rel => exact ⟨rfl, rfl⟩
     case rest =>
      obtain ⟨rfl, hwc⟩ := hcut
      subst hwc
      rename World => w0
      go_upto_region 11 with (at_builtin; refine list_appS _ rfl (.tmp 54) (.tmp 55) rfl w0.heap.size (.slice (some ⟨w0.heap.size, 0, none⟩) 0 0) [] rfl (OwnB.empty w0 _ (Nat.le_refl _)) ba 512 bc b rfl HIa.out (by simp) (by simp) ?_; intro v1 w1 ho1 hg1; have HD1 : Hid (Below w0.heap.size w0 w1) := grow_bel hbE (OwnB.empty w0 _ (Nat.le_refl _)) hg1; obtain ⟨a1, c1, ev1, _⟩ := ho1.isB; rw [List.nil_append] at ho1 ev1; rw [H512.out] at ev1; subst ev1; have HO1 := mkHid ho1; clear ho1 hg1)
      have HYB : Hid (Below w0.heap.size w0 (w1.alloc (.cells #[.int .i64 (iN : Int), .slice a1 512 c1] 98))) := HD1.out.alloc HD1.out.size _
      have HbB0 : Hid (Blk (w1.alloc (.cells #[.int .i64 (iN : Int), .slice a1 512 c1] 98)) w1.heap.size 98 [.int .i64 (iN : Int), .slice a1 512 c1]) := Blk.newAt w1 _ _ _ _ rfl rfl
      have HOY : Hid (OwnB (w1.alloc (.cells #[.int .i64 (iN : Int), .slice a1 512 c1] 98)) w0.heap.size (.slice a1 512 c1) b) := HO1.out.alloc _
      have HbU : Hid (w0.heap.size ≤ w1.heap.size) := HD1.out.size
      clear HO1 HD1 HIa hbE
      generalize w1.heap.size = bW at *
      generalize w1.alloc (.cells #[.int .i64 (iN : Int), .slice a1 512 c1] 98) = Y at *
      have HUB : Hid (Blk Y U 105 [.pointer (some ⟨J, 0, none⟩), .slice a n cap, .bool false]) := HT.out.blk.on HYB.out
      have HGY := mkHid (HT.out.gs.on HYB.out)
      have HT2 := mkHid HGY.out.own
      have y1 : Y.cell? ⟨U, 1, none⟩ = some (.slice a n cap) := HUB.out.cell 1
      have HbB : Hid (Blk Y.drew bW 98 [.int .i64 (iN : Int), .slice a1 512 c1]) := HbB0.out
      have HbW : Hid (bW < Y.heap.size) := HbB0.out.lt
      clear HbB0 u1 u0 u2 j2
      obtain ⟨hb, hhb⟩ : ∃ hb : Bool, hb = decide (k < n ∧ (nthG ls k).at_ = iN) := ⟨_, rfl⟩
      have HHb := mkHid hhb
      clear hhb
      go_cut [76] from 58 (fun v wx => v = .bool hb ∧ wx = Y)
      case first =>
       by_cases hlt : k < n
       ·
        have HkL : Hid (k < ls.length) := by unfold Hid; rw [← HN.out]; exact hlt
        obtain ⟨g, rfl, c0, _, _, _⟩ := HGY.out.cells k HkL.out
        have hlt' : (k : Int) < (n : Int) := by omega
        have hk0 : (0 : Int) ≤ (k : Int) := by omega
        by_cases hat : (nthG ls k).at_ = iN
        ·
         have hbt : hb = true := by rw [HHb.out]; exact decide_eq_true ⟨hlt, hat⟩
         rw [hat] at c0
         subst hbt
         clear hat
         go_wp2_with fail
         go_meet
         case rel => exact ⟨rfl, rfl⟩
        ·
         have hbt : hb = false := by rw [HHb.out]; exact decide_eq_false (fun h => hat h.2)
         have hat' : (((nthG ls k).at_ : Int) == (iN : Int)) = false := by rw [beq_eq_false_iff_ne]; omega
         have hat2 : ¬ ((nthG ls k).at_ : Int) = (iN : Int) := by omega
         subst hbt
         go_wp2_with fail
         go_meet
         case rel => exact ⟨rfl, rfl⟩
       ·
        have hlt' : ¬ (k : Int) < (n : Int) := by omega
        have hbt : hb = false := by rw [HHb.out]; exact decide_eq_false (fun h => hlt h.1)
        subst hbt
        go_wp2_with fail
        go_meet
        case rel => exact ⟨rfl, rfl⟩
      case rest =>
      obtain ⟨rfl, hwy⟩ := hcut
      subst hwy
      rename World => Y
      cases hb with
      | true =>
       have hkat := of_decide_eq_true HHb.out.symm
       have HkL : Hid (k < ls.length) := by unfold Hid; rw [← HN.out]; exact hkat.1
       obtain ⟨g, hag, c0, c1', _, _⟩ := HGY.out.cells k HkL.out
       subst hag
       have hlt' : (k : Int) < (n : Int) := by have := hkat.1; omega
       have hk0 : (0 : Int) ≤ (k : Int) := by omega
       obtain ⟨hq1, hq2⟩ := put_hit ls iN ⟨iN, b, a1, c1⟩ rfl (by rw [← HPos.out]; exact HkL.out) (by rw [← HPos.out]; exact hkat.2)
       rw [← HPos.out] at hq2
       have HE : Hid (tE = 0) := by unfold Hid; rw [HE0.out, hq1, if_neg (by simp)]
       have hgb : Blk Y.drew U 105 [.pointer (some ⟨J, 0, none⟩), .slice (some ⟨g, 0, none⟩) n cap, .bool false] := HUB.out
       have hgU : g ≠ U := by
        intro e
        rcases own_ne HUB.out HGY.out.own (by decide) with h2 | h2
        ·
         cases h2
        ·
         exact h2 (by rw [← e]; rfl)
       have hgW : g ≠ bW := by
        intro e
        have h1 := (HT.out.gs.own.blk g rfl).2
        have h2 := HbU.out
        omega
       have HAll : Hid ((#[.int .i64 (iN : Int), .slice a1 512 c1] : Array Value).all (·.oneCell') = true) := all_oneCell_toArray (cs := [.int .i64 (iN : Int), .slice a1 512 c1]) (by intro v hv; simp only [List.mem_cons, List.not_mem_nil, or_false] at hv; rcases hv with rfl | rfl <;> rfl)
       have HTh : Hid (Y.drew.there g (k * 2) 2) := fun j hj => by
        obtain ⟨cur, hcur⟩ := HGY.out.own.row
        have f : Y.drew.frozen? ⟨g, k * 2 + j, none⟩ = false := frozen_of_row Y.drew g _ _ _ hcur
        refine ⟨?_, f⟩
        match j, hj with
        | 0, _ => rw [show Y.drew.cell? ⟨g, k * 2 + 0, none⟩ = Y.cell? ⟨g, k * 2, none⟩ from rfl, c0]; rfl
        | 1, _ => rw [show Y.drew.cell? ⟨g, k * 2 + 1, none⟩ = Y.cell? ⟨g, k * 2 + 1, none⟩ from rfl, c1']; rfl
       have HS7 : Hid ((Y.drew.setCells g (k * 2) #[.int .i64 (iN : Int), .slice a1 512 c1].toList).cell? ⟨U, 1, none⟩ = some (.slice (some ⟨g, 0, none⟩) n cap) ∧ Blk (Y.drew.setCells g (k * 2) #[.int .i64 (iN : Int), .slice a1 512 c1].toList) bW 98 [.int .i64 (iN : Int), .slice a1 512 c1]) := by
        have hgr := gr_setCells g [.int .i64 (iN : Int), .slice a1 512 c1] Y.drew (k * 2)
        have hU2 := (hgr.block U (Blk.lt (w := Y.drew) HUB.out) (fun e => hgU (Option.some.inj e).symm)).trans (show Y.drew.heap[U]? = _ from HUB.out)
        exact ⟨Blk.cell hU2 1, (hgr.block bW HbW.out (fun e => hgW (Option.some.inj e).symm)).trans (show Y.drew.heap[bW]? = _ from HbB.out)⟩
       have HFi : Hid ((∃ vL' ls', RtAt (Y.drew.setCells g (k * 2) #[.int .i64 (iN : Int), .slice a1 512 c1].toList) U J base vL' ls' false ∧ ls'.map plW = (Tl.write ⟨ls.map plW, false⟩ ⟨p, seq, false⟩ (iN : Int) b).l ∧ ∀ k, vL'.ownBlock = some k → (Value.slice (some ⟨g, 0, none⟩) n cap).ownBlock = some k ∨ w0.heap.size ≤ k) ∧ KeepE (fun k => k = U ∨ (Value.slice (some ⟨g, 0, none⟩) n cap).ownBlock = some k) w0 (Y.drew.setCells g (k * 2) #[.int .i64 (iN : Int), .slice a1 512 c1].toList) ∧ Below base w0 (Y.drew.setCells g (k * 2) #[.int .i64 (iN : Int), .slice a1 512 c1].toList)) := by
        have hgr := gr_setCells g [.int .i64 (iN : Int), .slice a1 512 c1] Y.drew (k * 2)
        have hbd : Below Y.heap.size Y Y.drew := (Below.refl _ Y).drew
        have hbs : base ≤ w0.heap.size := by omega
        have hg0 := HT.out.gs.own.blk g rfl
        obtain ⟨cur, hcur⟩ := HGY.out.own.row
        have hkT : KeepT [98] Y.drew (Y.drew.setCells g (k * 2) [.int .i64 (iN : Int), .slice a1 512 c1]) := gr_keepT (cs := cur.toList) (by unfold Blk; exact hcur) hgr
        have hO := ((HGY.out.own.heap (w' := Y.drew) rfl).setOne HN.out k hkat.1 ⟨iN, b, a1, c1⟩)
        have e5 : (⟨iN, b, a1, c1⟩ : Wg).b.length = 512 := H512.out
        rw [e5] at hO
        have hU2 := (hgr.block U (Blk.lt (w := Y.drew) HUB.out) (fun e => hgU (Option.some.inj e).symm)).trans (show Y.drew.heap[U]? = _ from HUB.out)
        have hOb : OwnB (Y.drew.setCells g (k * 2) [.int .i64 (iN : Int), .slice a1 512 c1]) w0.heap.size (.slice a1 512 c1) b := own_keep hkT (HOY.out.heap (w' := Y.drew) rfl) (by decide)
        refine ⟨⟨.slice (some ⟨g, 0, none⟩) n cap, ls.set k ⟨iN, b, a1, c1⟩, ⟨hU2, ⟨hO, fun x hx => ?_⟩⟩, ?_, fun _ h => .inl h⟩, ?_, ?_⟩
        ·
         rcases List.mem_or_eq_of_mem_set hx with hx | hx
         ·
          exact (HGY.out.bys.keep (KeepT.of_below (ts := []) hbd) (by simp)).keep hkT (by decide) x hx
         ·
          rw [hx]
          refine ⟨H512.out, ?_⟩
          show OwnB _ base (.slice a1 b.length c1) b
          rw [H512.out]
          exact hOb.base hbs
        ·
         unfold Tl.write
         rw [if_pos (by rw [HWE.out, HE.out]), Int.toNat_natCast]
         exact hq2.symm
        ·
         exact ((KeepE.of_below HYB.out).trans (KeepE.of_below hbd)).grown (v := .slice (some ⟨g, 0, none⟩) n cap) hgr (fun _ h => .inr h)
        ·
         exact ((HYB.out.trans (hbd.mono HYB.out.size)).mono hbs).trans (bel_one hgr hg0.1 (Array.getElem?_eq_some_iff.1 hcur).1)
       clear hkat hq1 hq2 hgb hgU hgW c0 c1' HHb
       go_wp2_with fail
       refine wp_region_noPanic ?_
       refine wp_region_held_drew (S := fun w' => w'.cell? ⟨U, 1, none⟩ = some (.slice (some ⟨g, 0, none⟩) n cap) ∧ Blk w' bW 98 [.int .i64 (iN : Int), .slice a1 512 c1]) (by kernel_rfl) ⟨y1, HbB.out⟩ (fun hHeld => ?_)
       refine takeH (some 77) (i := 0) (v := ?_) rfl (by kernel_rfl) (by kernel_rfl) (by kernel_rfl) (fun _ _ _ h => h) (Or.inl ⟨by rfl, ?_⟩) hHeld rfl ?_
       rotate_left
       ·
        intro w hSw; obtain ⟨hS1, hS2⟩ := hSw; go_simp; with_reducible rfl
       (try simp only [Act.put]); (try simp only [List.setIfInBounds_toArray]); (try simp only [List.set_cons_zero, List.set_cons_succ])
       refine takeH (some 78) (i := 1) (v := ?_) rfl (by kernel_rfl) (by kernel_rfl) (by kernel_rfl) (fun _ _ _ h => h) (Or.inl ⟨by rfl, ?_⟩) hHeld rfl ?_
       rotate_left
       ·
        intro w hSw; obtain ⟨hS1, hS2⟩ := hSw; go_simp; with_reducible rfl
       (try simp only [Act.put]); (try simp only [List.setIfInBounds_toArray]); (try simp only [List.set_cons_zero, List.set_cons_succ])
       refine takeH (some 79) (i := 2) (v := ?_) rfl (by kernel_rfl) (by kernel_rfl) (by kernel_rfl) (fun _ _ _ h => h) (Or.inl ⟨by rfl, ?_⟩) hHeld rfl ?_
       rotate_left
       ·
        intro w hSw; obtain ⟨hS1, hS2⟩ := hSw; go_simp; with_reducible rfl
       (try simp only [Act.put]); (try simp only [List.setIfInBounds_toArray]); (try simp only [List.set_cons_zero, List.set_cons_succ])
       refine takeH (some 80) (i := 3) (v := ?_) rfl (by kernel_rfl) (by kernel_rfl) (by kernel_rfl) (fun _ _ _ h => h) (Or.inl ⟨by rfl, ?_⟩) hHeld rfl ?_
       rotate_left
       ·
        intro w hSw; obtain ⟨hS1, hS2⟩ := hSw; go_simp; with_reducible rfl
       (try simp only [Act.put]); (try simp only [List.setIfInBounds_toArray]); (try simp only [List.set_cons_zero, List.set_cons_succ])
       refine takeH (some 81) (i := 4) (v := ?_) rfl (by kernel_rfl) (by kernel_rfl) (by kernel_rfl) (fun _ _ _ h => h) (Or.inl ⟨by rfl, ?_⟩) hHeld rfl ?_
       rotate_left
       ·
        intro w hSw; obtain ⟨hS1, hS2⟩ := hSw; go_simp; with_reducible rfl
       (try simp only [Act.put]); (try simp only [List.setIfInBounds_toArray]); (try simp only [List.set_cons_zero, List.set_cons_succ])
       refine takeH (some 82) (i := 5) (v := .agg #[.int .i64 (iN : Int), .slice a1 512 c1]) rfl (by kernel_rfl) (by kernel_rfl) (by kernel_rfl) (fun _ _ _ h => h) (yieldsIf_load_mid (by rfl) 98 (.tmp 8) (by rfl) bW 0 (by rfl) [.int .i64 (iN : Int), .slice a1 512 c1] _ (fun w1 hw1 => Blk.whole hw1.2) Tryz.underlying98 rfl (by kernel_rfl)) hHeld rfl ?_
       (try simp only [Act.put]); (try simp only [List.setIfInBounds_toArray]); (try simp only [List.set_cons_zero, List.set_cons_succ])
       refine takeH (some 83) (i := 6) (v := ?_) rfl (by kernel_rfl) (by kernel_rfl) (by kernel_rfl) (fun _ _ _ h => h) (Or.inl ⟨by rfl, ?_⟩) hHeld rfl ?_
       rotate_left
       ·
        intro w hSw; obtain ⟨hS1, hS2⟩ := hSw; go_simp; with_reducible rfl
       (try simp only [Act.put]); (try simp only [List.setIfInBounds_toArray]); (try simp only [List.set_cons_zero, List.set_cons_succ])
       refine wpAnyH_ready (rs := [7]) (by kernel_rfl) (by simp) (AllReadyH.cons rfl (fun K hK => ?_) AllReadyH.nil)
       rw [if_pos (by rfl)]
       refine wp_store_mid 98 _ _ (by rfl) g (k * 2) #[.int .i64 (iN : Int), .slice a1 512 c1] (by rfl) (by rfl) HTh.out (by kernel_rfl) HAll.out ?_
       refine hK.out _ _ HS7.out (fun _ => ?_)
       (try simp only [Act.put]); (try simp only [List.setIfInBounds_toArray]); (try simp only [List.set_cons_zero, List.set_cons_succ])
       clear hK K
       refine wpAnyH_done (by kernel_rfl) ?_ _
       refine NoPanic.normal ?_
       clear HTh HS7 y1
       generalize Y.drew.setCells g (k * 2) #[.int .i64 (iN : Int), .slice a1 512 c1].toList = Z at *
       go_wp2_with fail
       go_ret
       exact ⟨ret_i10 HE.out.symm, HFi.out⟩
      | false =>
       have hmi := of_decide_eq_false HHb.out.symm
       obtain ⟨hq1, hq2⟩ := put_miss ls iN ⟨iN, b, a1, c1⟩ rfl (by
        rw [← HPos.out]
        by_cases hlt : k < n
        ·
         exact .inr (fun h => hmi ⟨hlt, h⟩)
        ·
         left; rw [← HN.out]; omega)
       rw [← HPos.out] at hq2
       by_cases hfull : 48 ≤ n
       ·
        have HE : Hid (tE = 44) := by unfold Hid; rw [HE0.out, if_pos ⟨hq1, by rw [← HN.out]; exact hfull⟩]
        have hfull' : (48 : Int) ≤ (n : Int) := by omega
        have hbs : base ≤ w0.heap.size := by omega
        have HFi : Hid ((∃ vL' ls', RtAt Y U J base vL' ls' false ∧ ls'.map plW = (Tl.write ⟨ls.map plW, false⟩ ⟨p, seq, false⟩ (iN : Int) b).l ∧ ∀ k, vL'.ownBlock = some k → (Value.slice a ls.length cap).ownBlock = some k ∨ w0.heap.size ≤ k) ∧ KeepE (fun k => k = U ∨ (Value.slice a ls.length cap).ownBlock = some k) w0 Y ∧ Below base w0 Y) :=
         ⟨⟨.slice a n cap, ls, ⟨HUB.out, HGY.out⟩, by unfold Tl.write; rw [if_neg (by rw [HWE.out, HE.out]; decide)], fun _ h => .inl (by rw [← HN.out]; exact h)⟩, KeepE.of_below HYB.out, HYB.out.mono hbs⟩
        clear hmi hq1 hq2 HHb
        go_wp2_with fail
        go_ret
        exact ⟨ret_i10 HE.out.symm, HFi.out⟩
       ·
        have HE : Hid (tE = 0) := by unfold Hid; rw [HE0.out, if_neg (fun h => hfull (by rw [HN.out]; exact h.2))]
        have hfull' : ¬ (48 : Int) ≤ (n : Int) := by omega
        have hbs : base ≤ w0.heap.size := by omega
        have HFin : Hid (∀ (V : World) (a3 : Option Addr) (Ln c3 : Nat), Below Y.heap.size Y V → Blk V U 105 [.pointer (some ⟨J, 0, none⟩), .slice a n cap, .bool false] → OwnG 98 V Y.heap.size (.slice a3 Ln c3) (ls.take k ++ [(⟨iN, b, a1, c1⟩ : Wg)] ++ ls.drop k) → (Ending.returned (.int .i64 0) = Ending.returned (.int .i64 tE) ∧ (∃ vL' ls', RtAt (V.setCell ⟨U, 1, none⟩ (.slice a3 Ln c3)) U J base vL' ls' false ∧ ls'.map plW = (Tl.write ⟨ls.map plW, false⟩ ⟨p, seq, false⟩ (iN : Int) b).l ∧ ∀ k, vL'.ownBlock = some k → (Value.slice a ls.length cap).ownBlock = some k ∨ w0.heap.size ≤ k) ∧ KeepE (fun k => k = U ∨ (Value.slice a ls.length cap).ownBlock = some k) w0 (V.setCell ⟨U, 1, none⟩ (.slice a3 Ln c3)) ∧ Below base w0 (V.setCell ⟨U, 1, none⟩ (.slice a3 Ln c3)))) := by
         intro V a3 Ln c3 hV hBU hO
         have hkT : KeepT [105] V (V.setCell ⟨U, 1, none⟩ (.slice a3 Ln c3)) := (KeepT.refl _ V).set hBU (by simp) 1 _
         have hYs : w0.heap.size ≤ Y.heap.size := HYB.out.size
         have hbV : Below w0.heap.size w0 V := HYB.out.trans (hV.mono hYs)
         refine ⟨by rw [HE.out], ⟨.slice a3 Ln c3, _, ⟨hBU.set 1 _, ⟨OwnG.base (own_keep hkT hO (by decide)) (Nat.le_trans hbs hYs), fun x hx => ?_⟩⟩, ?_, fun q hq => .inr (Nat.le_trans hYs (hO.blk q hq).1)⟩, ?_, ?_⟩
         ·
          rcases List.mem_append.1 hx with hx | hx
          ·
           rcases List.mem_append.1 hx with hx | hx
           ·
            exact ((HT.out.gs.bys.keep (KeepT.of_below (ts := []) hbV) (by simp)).keep hkT (by decide)) x (List.mem_of_mem_take hx)
           ·
            rw [List.mem_singleton.1 hx]
            refine ⟨H512.out, ?_⟩
            show OwnB _ base (.slice a1 b.length c1) b
            rw [H512.out]
            have h8 : OwnB V w0.heap.size (.slice a1 512 c1) b := own_keep (KeepT.of_below (ts := []) hV) HOY.out (by simp)
            exact OwnB.base (own_keep hkT h8 (by decide)) hbs
          ·
           exact ((HT.out.gs.bys.keep (KeepT.of_below (ts := []) hbV) (by simp)).keep hkT (by decide)) x (List.mem_of_mem_drop hx)
         ·
          unfold Tl.write
          rw [if_pos (by rw [HWE.out, HE.out]), Int.toNat_natCast]
          exact hq2.symm
         ·
          exact (KeepE.of_below hbV).set hBU (.inl rfl) 1 _
         ·
          exact (hbV.mono hbs).setCell (p := ⟨U, 1, none⟩) hU _
        have hs7 : ∀ W, (Instr.slice 80 (.slice a n cap) none (some (.int .i64 (k : Int))) none).run Tryz.prog W = .ok (.slice a k cap) W := fun W => slGh a n cap k (by omega) HAa.out W
        have hs17 : ∀ W, (Instr.slice 80 (.slice a n cap) (some (.int .i64 (k : Int))) none none).run Tryz.prog W = .ok (.slice (cutG a cap k) (n - k) (cap - k)) W := fun W => slGl a n cap k hk W
        clear hmi hq1 hq2 HHb HE0 HWE HSame HIB HNl HPos HYB HGY HOY hfull
        go_wp2_with fail
        clear y1
        refine wp_region_noPanic ?_
        refine wp_region_held_drew (S := fun w' => Blk w' bW 98 [.int .i64 (iN : Int), .slice a1 512 c1]) (by kernel_rfl) HbB.out (fun hHeld => ?_)
        refine tk 90 0 ?_ rfl (Or.inl ⟨by rfl, ?_⟩) hHeld ?_
        rotate_left
        ·
         intro w hSw; go_simp; with_reducible rfl
        (try simp only [Act.put, List.setIfInBounds_toArray, List.set_cons_zero, List.set_cons_succ])
        refine tk 92 2 ?_ rfl (Or.inl ⟨by rfl, ?_⟩) hHeld ?_
        rotate_left
        ·
         intro w hSw; go_simp; with_reducible rfl
        (try simp only [Act.put, List.setIfInBounds_toArray, List.set_cons_zero, List.set_cons_succ])
        refine tk 93 3 ?_ rfl (Or.inl ⟨by rfl, ?_⟩) hHeld ?_
        rotate_left
        ·
         intro w hSw; go_simp; with_reducible rfl
        (try simp only [Act.put, List.setIfInBounds_toArray, List.set_cons_zero, List.set_cons_succ])
        refine tk 94 4 ?_ rfl (Or.inl ⟨by rfl, ?_⟩) hHeld ?_
        rotate_left
        ·
         intro w hSw; go_simp; with_reducible rfl
        (try simp only [Act.put, List.setIfInBounds_toArray, List.set_cons_zero, List.set_cons_succ])
        refine tk 96 6 ?_ rfl (Or.inl ⟨by rfl, ?_⟩) hHeld ?_
        rotate_left
        ·
         intro w hSw; go_simp; with_reducible rfl
        (try simp only [Act.put, List.setIfInBounds_toArray, List.set_cons_zero, List.set_cons_succ])
        refine takeH (some 99) (i := 9) (v := .agg #[.int .i64 (iN : Int), .slice a1 512 c1]) rfl (by kernel_rfl) (by kernel_rfl) (by kernel_rfl) (fun _ _ _ h => h) (yieldsIf_load_mid (by rfl) 98 (.tmp 8) (by rfl) bW 0 (by rfl) [.int .i64 (iN : Int), .slice a1 512 c1] _ (fun w1 hw1 => Blk.whole hw1) Tryz.underlying98 rfl (by kernel_rfl)) hHeld rfl ?_
        (try simp only [Act.put, List.setIfInBounds_toArray, List.set_cons_zero, List.set_cons_succ])
        refine tk 102 12 ?_ rfl (Or.inl ⟨by rfl, ?_⟩) hHeld ?_
        rotate_left
        ·
         intro w hSw; go_simp; with_reducible rfl
        (try simp only [Act.put, List.setIfInBounds_toArray, List.set_cons_zero, List.set_cons_succ])
        refine tk 103 13 ?_ rfl (Or.inl ⟨by rfl, ?_⟩) hHeld ?_
        rotate_left
        ·
         intro w hSw; go_simp; with_reducible rfl
        (try simp only [Act.put, List.setIfInBounds_toArray, List.set_cons_zero, List.set_cons_succ])
        refine tk 104 14 ?_ rfl (Or.inl ⟨by rfl, ?_⟩) hHeld ?_
        rotate_left
        ·
         intro w hSw; go_simp; with_reducible rfl
        (try simp only [Act.put, List.setIfInBounds_toArray, List.set_cons_zero, List.set_cons_succ])
        refine tk 106 16 ?_ rfl (Or.inl ⟨by rfl, ?_⟩) hHeld ?_
        rotate_left
        ·
         intro w hSw; go_simp; with_reducible rfl
        (try simp only [Act.put, List.setIfInBounds_toArray, List.set_cons_zero, List.set_cons_succ])
        have DW : Below Y.heap.size Y Y.drew := (Below.refl _ Y).drew
        generalize Y.drew = V0 at *
        refine wpAnyH_ready (rs := [1, 5, 10, 15]) (by kernel_rfl) (by simp) ?_
        refine AllReadyH.cons rfl (fun K hK => ?_) (AllReadyH.cons rfl (fun K hK => ?_) (AllReadyH.cons rfl (fun K hK => ?_) (AllReadyH.cons rfl (fun K hK => ?_) AllReadyH.nil)))
        ·
         go_simp
         have D1 := DW.alloc DW.size (.cells #[] 98)
         have K1 : OwnG 98 (V0.alloc (.cells #[] 98)) Y.heap.size (.slice (some ⟨V0.heap.size, 0, none⟩) 0 0) [] := OwnG.empty V0 _ DW.size
         refine hK.out _ _ (Blk.alloc hHeld _) (fun hHeld => ?_)
         (try simp only [Act.put, List.setIfInBounds_toArray, List.set_cons_zero, List.set_cons_succ])
         clear hK K
         clear DW
         generalize V0.heap.size = bE at *
         generalize V0.alloc (.cells #[] 98) = V1 at *
         have DW := D1
         have KE := K1
         clear D1 K1
         refine wpAnyH_ready (rs := [5, 10, 15]) (by kernel_rfl) (by simp) ?_
         refine AllReadyH.cons rfl (fun K hK => ?_) (AllReadyH.cons rfl (fun K hK => ?_) (AllReadyH.cons rfl (fun K hK => ?_) AllReadyH.nil))
         ·
          have hL : V1.cell? ⟨U, 1, none⟩ = some (.slice a n cap) := (HUB.out.on DW).cell 1
          go_simp
          clear hL
          refine hK.out _ _ (hHeld) (fun hHeld => ?_)
          (try simp only [Act.put, List.setIfInBounds_toArray, List.set_cons_zero, List.set_cons_succ])
          clear hK K
          refine tk 97 7 ?_ rfl (Or.inl ⟨by rfl, ?_⟩) hHeld ?_
          rotate_left
          ·
           intro w hSw; go_simp; with_reducible rfl
          (try simp only [Act.put, List.setIfInBounds_toArray, List.set_cons_zero, List.set_cons_succ])
          refine wpAnyH_ready (rs := [8, 10, 15]) (by kernel_rfl) (by simp) ?_
          refine AllReadyH.cons rfl (fun K hK => ?_) (AllReadyH.cons rfl (fun K hK => ?_) (AllReadyH.cons rfl (fun K hK => ?_) AllReadyH.nil))
          ·
           refine step_appGs V1 (by rfl) _ _ (by rfl) Y.heap.size _ [] (by rfl) KE a k cap (ls.take k) (by rfl) ((HT2.out.on DW).src HN.out k hk).1 (by simp only [List.length_nil]; omega) DW.size 98 rfl ?_
           intro v3 V3 ho3 hg3
           have D3 := DW.grown hg3 DW.size (fun j hj => (KE.blk j hj).1)
           have hS3 := kbw hg3 hHeld KE HbW.out
           rw [List.nil_append] at ho3
           refine hK.out _ _ (hS3) (fun hHeld => ?_)
           (try simp only [Act.put, List.setIfInBounds_toArray, List.set_cons_zero, List.set_cons_succ])
           clear hK K
           clear DW KE hg3 hS3
           have DW := D3
           have OA := ho3
           clear D3 ho3
           refine wpAnyH_ready (rs := [10, 15]) (by kernel_rfl) (by simp) ?_
           refine AllReadyH.cons rfl (fun K hK => ?_) (AllReadyH.cons rfl (fun K hK => ?_) AllReadyH.nil)
           ·
            go_simp
            have D4 := DW.alloc DW.size (.cells #[.int .i64 (iN : Int), .slice a1 512 c1] 98)
            have B4 : Blk (V3.alloc (.cells #[.int .i64 (iN : Int), .slice a1 512 c1] 98)) V3.heap.size 98 [.int .i64 (iN : Int), .slice a1 512 c1] := Blk.newAt V3 _ _ _ _ rfl rfl
            have O4 := OA.alloc (.cells #[.int .i64 (iN : Int), .slice a1 512 c1] 98)
            refine hK.out _ _ (Blk.alloc hHeld _) (fun hHeld => ?_)
            (try simp only [Act.put, List.setIfInBounds_toArray, List.set_cons_zero, List.set_cons_succ])
            clear hK K
            clear DW OA
            generalize V3.heap.size = bB at *
            generalize V3.alloc (.cells #[.int .i64 (iN : Int), .slice a1 512 c1] 98) = V4 at *
            have DW := D4
            have KB := B4
            have OA := O4
            clear D4 B4 O4
            refine wpAnyH_ready (rs := [11, 15]) (by kernel_rfl) (by simp) ?_
            refine AllReadyH.cons rfl (fun K hK => ?_) (AllReadyH.cons rfl (fun K hK => ?_) AllReadyH.nil)
            ·
             refine step_appGs V4 (by rfl) _ _ (by rfl) Y.heap.size _ (ls.take k) (by rfl) OA (some ⟨bB, 0, none⟩) 1 1 [(⟨iN, b, a1, c1⟩ : Wg)] (by rfl) (SrcG.one KB H512.out) (by rw [List.length_take]; omega) DW.size 101 rfl ?_
             intro v5 V5 ho5 hg5
             have D5 := DW.grown hg5 DW.size (fun j hj => (OA.blk j hj).1)
             have hS5 := kbw hg5 hHeld OA HbW.out
             refine hK.out _ _ (hS5) (fun hHeld => ?_)
             (try simp only [Act.put, List.setIfInBounds_toArray, List.set_cons_zero, List.set_cons_succ])
             clear hK K
             clear DW OA KB hg5 hS5
             have DW := D5
             have OC := ho5
             clear D5 ho5
             refine rdy1 15 rfl (fun K hK => ?_)
             have hL : V5.cell? ⟨U, 1, none⟩ = some (.slice a n cap) := (HUB.out.on DW).cell 1
             go_simp
             clear hL
             refine hK.out _ _ (hHeld) (fun hHeld => ?_)
             (try simp only [Act.put, List.setIfInBounds_toArray, List.set_cons_zero, List.set_cons_succ])
             clear hK K
             refine tk 107 17 ?_ rfl (Or.inl ⟨by rfl, ?_⟩) hHeld ?_
             rotate_left
             ·
              intro w hSw; go_simp; with_reducible rfl
             (try simp only [Act.put, List.setIfInBounds_toArray, List.set_cons_zero, List.set_cons_succ])
             refine rdy1 18 rfl (fun K hK => ?_)
             refine step_appGs V5 (by rfl) _ _ (by rfl) Y.heap.size _ (ls.take k ++ [(⟨iN, b, a1, c1⟩ : Wg)]) (by rfl) OC (cutG a cap k) (n - k) (cap - k) (ls.drop k) (by rfl) ((HT2.out.on DW).src HN.out k hk).2 (by rw [List.length_append, List.length_take, List.length_singleton]; omega) DW.size 108 rfl ?_
             intro v7 V7 ho7 hg7
             have D7 := DW.grown hg7 DW.size (fun j hj => (OC.blk j hj).1)
             have hS7 := kbw hg7 hHeld OC HbW.out
             obtain ⟨a3, c3, ev3, _⟩ := ho7.form
             generalize hLn : (ls.take k ++ [(⟨iN, b, a1, c1⟩ : Wg)] ++ ls.drop k).length = Ln at *
             subst ev3
             have OD := mkHid ho7
             have BU := HUB.out.on D7
             have d1 : V7.cell? ⟨U, 1, none⟩ = some (.slice a n cap) := BU.cell 1
             have f1 := BU.frozen 1
             refine hK.out _ _ (hS7) (fun hHeld => ?_)
             (try simp only [Act.put, List.setIfInBounds_toArray, List.set_cons_zero, List.set_cons_succ])
             clear hK K
             have hbU : bW ≠ U := by have := HUB.out.lt; have := HbU.out; omega
             refine tk 109 19 ?_ rfl (Or.inl ⟨by rfl, ?_⟩) hHeld ?_
             rotate_left
             ·
              intro w hSw; go_simp; with_reducible rfl
             (try simp only [Act.put, List.setIfInBounds_toArray, List.set_cons_zero, List.set_cons_succ])
             refine tk 110 20 ?_ rfl (Or.inl ⟨by rfl, ?_⟩) hHeld ?_
             rotate_left
             ·
              intro w hSw; go_simp; with_reducible rfl
             (try simp only [Act.put, List.setIfInBounds_toArray, List.set_cons_zero, List.set_cons_succ])
             refine rdy1 21 rfl (fun K hK => ?_)
             go_simp
             refine hK.out _ _ (Blk.other hHeld _ _ hbU) (fun _ => ?_)
             (try simp only [Act.put, List.setIfInBounds_toArray, List.set_cons_zero, List.set_cons_succ])
             clear hK K
             refine wpAnyH_done (by kernel_rfl) ?_ _
             refine NoPanic.normal ?_
             have HF := mkHid (HFin.out _ _ _ _ D7 BU OD.out)
             clear d1 f1 BU OD D7 DW OC hg7 hS7 hHeld ho7 hbU
             generalize V7.setCell ⟨U, 1, none⟩ (.slice a3 Ln c3) = Z at *
             go_wp2_with fail
             go_ret
             exact HF.out
            ·
             have hL : V4.cell? ⟨U, 1, none⟩ = some (.slice a n cap) := (HUB.out.on DW).cell 1
             go_simp
             clear hL
             refine hK.out _ _ (hHeld) (fun hHeld => ?_)
             (try simp only [Act.put, List.setIfInBounds_toArray, List.set_cons_zero, List.set_cons_succ])
             clear hK K
             refine tk 107 17 ?_ rfl (Or.inl ⟨by rfl, ?_⟩) hHeld ?_
             rotate_left
             ·
              intro w hSw; go_simp; with_reducible rfl
             (try simp only [Act.put, List.setIfInBounds_toArray, List.set_cons_zero, List.set_cons_succ])
             refine rdy1 11 rfl (fun K hK => ?_)
             refine step_appGs V4 (by rfl) _ _ (by rfl) Y.heap.size _ (ls.take k) (by rfl) OA (some ⟨bB, 0, none⟩) 1 1 [(⟨iN, b, a1, c1⟩ : Wg)] (by rfl) (SrcG.one KB H512.out) (by rw [List.length_take]; omega) DW.size 101 rfl ?_
             intro v9 V9 ho9 hg9
             have D9 := DW.grown hg9 DW.size (fun j hj => (OA.blk j hj).1)
             have hS9 := kbw hg9 hHeld OA HbW.out
             refine hK.out _ _ (hS9) (fun hHeld => ?_)
             (try simp only [Act.put, List.setIfInBounds_toArray, List.set_cons_zero, List.set_cons_succ])
             clear hK K
             clear DW OA KB hg9 hS9
             have DW := D9
             have OC := ho9
             clear D9 ho9
             refine rdy1 18 rfl (fun K hK => ?_)
             refine step_appGs V9 (by rfl) _ _ (by rfl) Y.heap.size _ (ls.take k ++ [(⟨iN, b, a1, c1⟩ : Wg)]) (by rfl) OC (cutG a cap k) (n - k) (cap - k) (ls.drop k) (by rfl) ((HT2.out.on DW).src HN.out k hk).2 (by rw [List.length_append, List.length_take, List.length_singleton]; omega) DW.size 108 rfl ?_
             intro v10 V10 ho10 hg10
             have D10 := DW.grown hg10 DW.size (fun j hj => (OC.blk j hj).1)
             have hS10 := kbw hg10 hHeld OC HbW.out
             obtain ⟨a3, c3, ev3, _⟩ := ho10.form
             generalize hLn : (ls.take k ++ [(⟨iN, b, a1, c1⟩ : Wg)] ++ ls.drop k).length = Ln at *
             subst ev3
             have OD := mkHid ho10
             have BU := HUB.out.on D10
             have d1 : V10.cell? ⟨U, 1, none⟩ = some (.slice a n cap) := BU.cell 1
             have f1 := BU.frozen 1
             refine hK.out _ _ (hS10) (fun hHeld => ?_)
             (try simp only [Act.put, List.setIfInBounds_toArray, List.set_cons_zero, List.set_cons_succ])
             clear hK K
             have hbU : bW ≠ U := by have := HUB.out.lt; have := HbU.out; omega
             refine tk 109 19 ?_ rfl (Or.inl ⟨by rfl, ?_⟩) hHeld ?_
             rotate_left
             ·
              intro w hSw; go_simp; with_reducible rfl
             (try simp only [Act.put, List.setIfInBounds_toArray, List.set_cons_zero, List.set_cons_succ])
             refine tk 110 20 ?_ rfl (Or.inl ⟨by rfl, ?_⟩) hHeld ?_
             rotate_left
             ·
              intro w hSw; go_simp; with_reducible rfl
             (try simp only [Act.put, List.setIfInBounds_toArray, List.set_cons_zero, List.set_cons_succ])
             refine rdy1 21 rfl (fun K hK => ?_)
             go_simp
             refine hK.out _ _ (Blk.other hHeld _ _ hbU) (fun _ => ?_)
             (try simp only [Act.put, List.setIfInBounds_toArray, List.set_cons_zero, List.set_cons_succ])
             clear hK K
             refine wpAnyH_done (by kernel_rfl) ?_ _
             refine NoPanic.normal ?_
             have HF := mkHid (HFin.out _ _ _ _ D10 BU OD.out)
             clear d1 f1 BU OD D10 DW OC hg10 hS10 hHeld ho10 hbU
             generalize V10.setCell ⟨U, 1, none⟩ (.slice a3 Ln c3) = Z at *
             go_wp2_with fail
             go_ret
             exact HF.out
           ·
            have hL : V3.cell? ⟨U, 1, none⟩ = some (.slice a n cap) := (HUB.out.on DW).cell 1
            go_simp
            clear hL
            refine hK.out _ _ (hHeld) (fun hHeld => ?_)
            (try simp only [Act.put, List.setIfInBounds_toArray, List.set_cons_zero, List.set_cons_succ])
            clear hK K
            refine tk 107 17 ?_ rfl (Or.inl ⟨by rfl, ?_⟩) hHeld ?_
            rotate_left
            ·
             intro w hSw; go_simp; with_reducible rfl
            (try simp only [Act.put, List.setIfInBounds_toArray, List.set_cons_zero, List.set_cons_succ])
            refine rdy1 10 rfl (fun K hK => ?_)
            go_simp
            have D12 := DW.alloc DW.size (.cells #[.int .i64 (iN : Int), .slice a1 512 c1] 98)
            have B12 : Blk (V3.alloc (.cells #[.int .i64 (iN : Int), .slice a1 512 c1] 98)) V3.heap.size 98 [.int .i64 (iN : Int), .slice a1 512 c1] := Blk.newAt V3 _ _ _ _ rfl rfl
            have O12 := OA.alloc (.cells #[.int .i64 (iN : Int), .slice a1 512 c1] 98)
            refine hK.out _ _ (Blk.alloc hHeld _) (fun hHeld => ?_)
            (try simp only [Act.put, List.setIfInBounds_toArray, List.set_cons_zero, List.set_cons_succ])
            clear hK K
            clear DW OA
            generalize V3.heap.size = bB at *
            generalize V3.alloc (.cells #[.int .i64 (iN : Int), .slice a1 512 c1] 98) = V12 at *
            have DW := D12
            have KB := B12
            have OA := O12
            clear D12 B12 O12
            refine rdy1 11 rfl (fun K hK => ?_)
            refine step_appGs V12 (by rfl) _ _ (by rfl) Y.heap.size _ (ls.take k) (by rfl) OA (some ⟨bB, 0, none⟩) 1 1 [(⟨iN, b, a1, c1⟩ : Wg)] (by rfl) (SrcG.one KB H512.out) (by rw [List.length_take]; omega) DW.size 101 rfl ?_
            intro v13 V13 ho13 hg13
            have D13 := DW.grown hg13 DW.size (fun j hj => (OA.blk j hj).1)
            have hS13 := kbw hg13 hHeld OA HbW.out
            refine hK.out _ _ (hS13) (fun hHeld => ?_)
            (try simp only [Act.put, List.setIfInBounds_toArray, List.set_cons_zero, List.set_cons_succ])
            clear hK K
            clear DW OA KB hg13 hS13
            have DW := D13
            have OC := ho13
            clear D13 ho13
            refine rdy1 18 rfl (fun K hK => ?_)
            refine step_appGs V13 (by rfl) _ _ (by rfl) Y.heap.size _ (ls.take k ++ [(⟨iN, b, a1, c1⟩ : Wg)]) (by rfl) OC (cutG a cap k) (n - k) (cap - k) (ls.drop k) (by rfl) ((HT2.out.on DW).src HN.out k hk).2 (by rw [List.length_append, List.length_take, List.length_singleton]; omega) DW.size 108 rfl ?_
            intro v14 V14 ho14 hg14
            have D14 := DW.grown hg14 DW.size (fun j hj => (OC.blk j hj).1)
            have hS14 := kbw hg14 hHeld OC HbW.out
            obtain ⟨a3, c3, ev3, _⟩ := ho14.form
            generalize hLn : (ls.take k ++ [(⟨iN, b, a1, c1⟩ : Wg)] ++ ls.drop k).length = Ln at *
            subst ev3
            have OD := mkHid ho14
            have BU := HUB.out.on D14
            have d1 : V14.cell? ⟨U, 1, none⟩ = some (.slice a n cap) := BU.cell 1
            have f1 := BU.frozen 1
            refine hK.out _ _ (hS14) (fun hHeld => ?_)
            (try simp only [Act.put, List.setIfInBounds_toArray, List.set_cons_zero, List.set_cons_succ])
            clear hK K
            have hbU : bW ≠ U := by have := HUB.out.lt; have := HbU.out; omega
            refine tk 109 19 ?_ rfl (Or.inl ⟨by rfl, ?_⟩) hHeld ?_
            rotate_left
            ·
             intro w hSw; go_simp; with_reducible rfl
            (try simp only [Act.put, List.setIfInBounds_toArray, List.set_cons_zero, List.set_cons_succ])
            refine tk 110 20 ?_ rfl (Or.inl ⟨by rfl, ?_⟩) hHeld ?_
            rotate_left
            ·
             intro w hSw; go_simp; with_reducible rfl
            (try simp only [Act.put, List.setIfInBounds_toArray, List.set_cons_zero, List.set_cons_succ])
            refine rdy1 21 rfl (fun K hK => ?_)
            go_simp
            refine hK.out _ _ (Blk.other hHeld _ _ hbU) (fun _ => ?_)
            (try simp only [Act.put, List.setIfInBounds_toArray, List.set_cons_zero, List.set_cons_succ])
            clear hK K
            refine wpAnyH_done (by kernel_rfl) ?_ _
            refine NoPanic.normal ?_
            have HF := mkHid (HFin.out _ _ _ _ D14 BU OD.out)
            clear d1 f1 BU OD D14 DW OC hg14 hS14 hHeld ho14 hbU
            generalize V14.setCell ⟨U, 1, none⟩ (.slice a3 Ln c3) = Z at *
            go_wp2_with fail
            go_ret
            exact HF.out
          ·
           go_simp
           have D15 := DW.alloc DW.size (.cells #[.int .i64 (iN : Int), .slice a1 512 c1] 98)
           have B15 : Blk (V1.alloc (.cells #[.int .i64 (iN : Int), .slice a1 512 c1] 98)) V1.heap.size 98 [.int .i64 (iN : Int), .slice a1 512 c1] := Blk.newAt V1 _ _ _ _ rfl rfl
           have O15 := KE.alloc (.cells #[.int .i64 (iN : Int), .slice a1 512 c1] 98)
           have hEB : bE ≠ V1.heap.size := Nat.ne_of_lt (KE.blk bE rfl).2
           refine hK.out _ _ (Blk.alloc hHeld _) (fun hHeld => ?_)
           (try simp only [Act.put, List.setIfInBounds_toArray, List.set_cons_zero, List.set_cons_succ])
           clear hK K
           clear DW KE
           generalize V1.heap.size = bB at *
           generalize V1.alloc (.cells #[.int .i64 (iN : Int), .slice a1 512 c1] 98) = V15 at *
           have DW := D15
           have KB := B15
           have KE := O15
           clear D15 B15 O15
           refine wpAnyH_ready (rs := [8, 15]) (by kernel_rfl) (by simp) ?_
           refine AllReadyH.cons rfl (fun K hK => ?_) (AllReadyH.cons rfl (fun K hK => ?_) AllReadyH.nil)
           ·
            refine step_appGs V15 (by rfl) _ _ (by rfl) Y.heap.size _ [] (by rfl) KE a k cap (ls.take k) (by rfl) ((HT2.out.on DW).src HN.out k hk).1 (by simp only [List.length_nil]; omega) DW.size 98 rfl ?_
            intro v16 V16 ho16 hg16
            have D16 := DW.grown hg16 DW.size (fun j hj => (KE.blk j hj).1)
            have hS16 := kbw hg16 hHeld KE HbW.out
            rw [List.nil_append] at ho16
            have B16 : Blk V16 bB 98 [.int .i64 (iN : Int), .slice a1 512 c1] := (hg16.block bB KB.lt (fun e5 => hEB (Option.some.inj e5).symm)).trans KB
            refine hK.out _ _ (hS16) (fun hHeld => ?_)
            (try simp only [Act.put, List.setIfInBounds_toArray, List.set_cons_zero, List.set_cons_succ])
            clear hK K
            clear DW KE hg16 hS16 KB hEB
            have DW := D16
            have OA := ho16
            have KB := B16
            clear D16 ho16 B16
            refine wpAnyH_ready (rs := [11, 15]) (by kernel_rfl) (by simp) ?_
            refine AllReadyH.cons rfl (fun K hK => ?_) (AllReadyH.cons rfl (fun K hK => ?_) AllReadyH.nil)
            ·
             refine step_appGs V16 (by rfl) _ _ (by rfl) Y.heap.size _ (ls.take k) (by rfl) OA (some ⟨bB, 0, none⟩) 1 1 [(⟨iN, b, a1, c1⟩ : Wg)] (by rfl) (SrcG.one KB H512.out) (by rw [List.length_take]; omega) DW.size 101 rfl ?_
             intro v17 V17 ho17 hg17
             have D17 := DW.grown hg17 DW.size (fun j hj => (OA.blk j hj).1)
             have hS17 := kbw hg17 hHeld OA HbW.out
             refine hK.out _ _ (hS17) (fun hHeld => ?_)
             (try simp only [Act.put, List.setIfInBounds_toArray, List.set_cons_zero, List.set_cons_succ])
             clear hK K
             clear DW OA KB hg17 hS17
             have DW := D17
             have OC := ho17
             clear D17 ho17
             refine rdy1 15 rfl (fun K hK => ?_)
             have hL : V17.cell? ⟨U, 1, none⟩ = some (.slice a n cap) := (HUB.out.on DW).cell 1
             go_simp
             clear hL
             refine hK.out _ _ (hHeld) (fun hHeld => ?_)
             (try simp only [Act.put, List.setIfInBounds_toArray, List.set_cons_zero, List.set_cons_succ])
             clear hK K
             refine tk 107 17 ?_ rfl (Or.inl ⟨by rfl, ?_⟩) hHeld ?_
             rotate_left
             ·
              intro w hSw; go_simp; with_reducible rfl
             (try simp only [Act.put, List.setIfInBounds_toArray, List.set_cons_zero, List.set_cons_succ])
             refine rdy1 18 rfl (fun K hK => ?_)
             refine step_appGs V17 (by rfl) _ _ (by rfl) Y.heap.size _ (ls.take k ++ [(⟨iN, b, a1, c1⟩ : Wg)]) (by rfl) OC (cutG a cap k) (n - k) (cap - k) (ls.drop k) (by rfl) ((HT2.out.on DW).src HN.out k hk).2 (by rw [List.length_append, List.length_take, List.length_singleton]; omega) DW.size 108 rfl ?_
             intro v19 V19 ho19 hg19
             have D19 := DW.grown hg19 DW.size (fun j hj => (OC.blk j hj).1)
             have hS19 := kbw hg19 hHeld OC HbW.out
             obtain ⟨a3, c3, ev3, _⟩ := ho19.form
             generalize hLn : (ls.take k ++ [(⟨iN, b, a1, c1⟩ : Wg)] ++ ls.drop k).length = Ln at *
             subst ev3
             have OD := mkHid ho19
             have BU := HUB.out.on D19
             have d1 : V19.cell? ⟨U, 1, none⟩ = some (.slice a n cap) := BU.cell 1
             have f1 := BU.frozen 1
             refine hK.out _ _ (hS19) (fun hHeld => ?_)
             (try simp only [Act.put, List.setIfInBounds_toArray, List.set_cons_zero, List.set_cons_succ])
             clear hK K
             have hbU : bW ≠ U := by have := HUB.out.lt; have := HbU.out; omega
             refine tk 109 19 ?_ rfl (Or.inl ⟨by rfl, ?_⟩) hHeld ?_
             rotate_left
             ·
              intro w hSw; go_simp; with_reducible rfl
             (try simp only [Act.put, List.setIfInBounds_toArray, List.set_cons_zero, List.set_cons_succ])
             refine tk 110 20 ?_ rfl (Or.inl ⟨by rfl, ?_⟩) hHeld ?_
             rotate_left
             ·
              intro w hSw; go_simp; with_reducible rfl
             (try simp only [Act.put, List.setIfInBounds_toArray, List.set_cons_zero, List.set_cons_succ])
             refine rdy1 21 rfl (fun K hK => ?_)
             go_simp
             refine hK.out _ _ (Blk.other hHeld _ _ hbU) (fun _ => ?_)
             (try simp only [Act.put, List.setIfInBounds_toArray, List.set_cons_zero, List.set_cons_succ])
             clear hK K
             refine wpAnyH_done (by kernel_rfl) ?_ _
             refine NoPanic.normal ?_
             have HF := mkHid (HFin.out _ _ _ _ D19 BU OD.out)
             clear d1 f1 BU OD D19 DW OC hg19 hS19 hHeld ho19 hbU
             generalize V19.setCell ⟨U, 1, none⟩ (.slice a3 Ln c3) = Z at *
             go_wp2_with fail
             go_ret
             exact HF.out
            ·
             have hL : V16.cell? ⟨U, 1, none⟩ = some (.slice a n cap) := (HUB.out.on DW).cell 1
             go_simp
             clear hL
             refine hK.out _ _ (hHeld) (fun hHeld => ?_)
             (try simp only [Act.put, List.setIfInBounds_toArray, List.set_cons_zero, List.set_cons_succ])
             clear hK K
             refine tk 107 17 ?_ rfl (Or.inl ⟨by rfl, ?_⟩) hHeld ?_
             rotate_left
             ·
              intro w hSw; go_simp; with_reducible rfl
             (try simp only [Act.put, List.setIfInBounds_toArray, List.set_cons_zero, List.set_cons_succ])
             refine rdy1 11 rfl (fun K hK => ?_)
             refine step_appGs V16 (by rfl) _ _ (by rfl) Y.heap.size _ (ls.take k) (by rfl) OA (some ⟨bB, 0, none⟩) 1 1 [(⟨iN, b, a1, c1⟩ : Wg)] (by rfl) (SrcG.one KB H512.out) (by rw [List.length_take]; omega) DW.size 101 rfl ?_
             intro v21 V21 ho21 hg21
             have D21 := DW.grown hg21 DW.size (fun j hj => (OA.blk j hj).1)
             have hS21 := kbw hg21 hHeld OA HbW.out
             refine hK.out _ _ (hS21) (fun hHeld => ?_)
             (try simp only [Act.put, List.setIfInBounds_toArray, List.set_cons_zero, List.set_cons_succ])
             clear hK K
             clear DW OA KB hg21 hS21
             have DW := D21
             have OC := ho21
             clear D21 ho21
             refine rdy1 18 rfl (fun K hK => ?_)
             refine step_appGs V21 (by rfl) _ _ (by rfl) Y.heap.size _ (ls.take k ++ [(⟨iN, b, a1, c1⟩ : Wg)]) (by rfl) OC (cutG a cap k) (n - k) (cap - k) (ls.drop k) (by rfl) ((HT2.out.on DW).src HN.out k hk).2 (by rw [List.length_append, List.length_take, List.length_singleton]; omega) DW.size 108 rfl ?_
             intro v22 V22 ho22 hg22
             have D22 := DW.grown hg22 DW.size (fun j hj => (OC.blk j hj).1)
             have hS22 := kbw hg22 hHeld OC HbW.out
             obtain ⟨a3, c3, ev3, _⟩ := ho22.form
             generalize hLn : (ls.take k ++ [(⟨iN, b, a1, c1⟩ : Wg)] ++ ls.drop k).length = Ln at *
             subst ev3
             have OD := mkHid ho22
             have BU := HUB.out.on D22
             have d1 : V22.cell? ⟨U, 1, none⟩ = some (.slice a n cap) := BU.cell 1
             have f1 := BU.frozen 1
             refine hK.out _ _ (hS22) (fun hHeld => ?_)
             (try simp only [Act.put, List.setIfInBounds_toArray, List.set_cons_zero, List.set_cons_succ])
             clear hK K
             have hbU : bW ≠ U := by have := HUB.out.lt; have := HbU.out; omega
             refine tk 109 19 ?_ rfl (Or.inl ⟨by rfl, ?_⟩) hHeld ?_
             rotate_left
             ·
              intro w hSw; go_simp; with_reducible rfl
             (try simp only [Act.put, List.setIfInBounds_toArray, List.set_cons_zero, List.set_cons_succ])
             refine tk 110 20 ?_ rfl (Or.inl ⟨by rfl, ?_⟩) hHeld ?_
             rotate_left
             ·
              intro w hSw; go_simp; with_reducible rfl
             (try simp only [Act.put, List.setIfInBounds_toArray, List.set_cons_zero, List.set_cons_succ])
             refine rdy1 21 rfl (fun K hK => ?_)
             go_simp
             refine hK.out _ _ (Blk.other hHeld _ _ hbU) (fun _ => ?_)
             (try simp only [Act.put, List.setIfInBounds_toArray, List.set_cons_zero, List.set_cons_succ])
             clear hK K
             refine wpAnyH_done (by kernel_rfl) ?_ _
             refine NoPanic.normal ?_
             have HF := mkHid (HFin.out _ _ _ _ D22 BU OD.out)
             clear d1 f1 BU OD D22 DW OC hg22 hS22 hHeld ho22 hbU
             generalize V22.setCell ⟨U, 1, none⟩ (.slice a3 Ln c3) = Z at *
             go_wp2_with fail
             go_ret
             exact HF.out
           ·
            have hL : V15.cell? ⟨U, 1, none⟩ = some (.slice a n cap) := (HUB.out.on DW).cell 1
            go_simp
            clear hL
            refine hK.out _ _ (hHeld) (fun hHeld => ?_)
            (try simp only [Act.put, List.setIfInBounds_toArray, List.set_cons_zero, List.set_cons_succ])
            clear hK K
            refine tk 107 17 ?_ rfl (Or.inl ⟨by rfl, ?_⟩) hHeld ?_
            rotate_left
            ·
             intro w hSw; go_simp; with_reducible rfl
            (try simp only [Act.put, List.setIfInBounds_toArray, List.set_cons_zero, List.set_cons_succ])
            refine rdy1 8 rfl (fun K hK => ?_)
            refine step_appGs V15 (by rfl) _ _ (by rfl) Y.heap.size _ [] (by rfl) KE a k cap (ls.take k) (by rfl) ((HT2.out.on DW).src HN.out k hk).1 (by simp only [List.length_nil]; omega) DW.size 98 rfl ?_
            intro v24 V24 ho24 hg24
            have D24 := DW.grown hg24 DW.size (fun j hj => (KE.blk j hj).1)
            have hS24 := kbw hg24 hHeld KE HbW.out
            rw [List.nil_append] at ho24
            have B24 : Blk V24 bB 98 [.int .i64 (iN : Int), .slice a1 512 c1] := (hg24.block bB KB.lt (fun e5 => hEB (Option.some.inj e5).symm)).trans KB
            refine hK.out _ _ (hS24) (fun hHeld => ?_)
            (try simp only [Act.put, List.setIfInBounds_toArray, List.set_cons_zero, List.set_cons_succ])
            clear hK K
            clear DW KE hg24 hS24 KB hEB
            have DW := D24
            have OA := ho24
            have KB := B24
            clear D24 ho24 B24
            refine rdy1 11 rfl (fun K hK => ?_)
            refine step_appGs V24 (by rfl) _ _ (by rfl) Y.heap.size _ (ls.take k) (by rfl) OA (some ⟨bB, 0, none⟩) 1 1 [(⟨iN, b, a1, c1⟩ : Wg)] (by rfl) (SrcG.one KB H512.out) (by rw [List.length_take]; omega) DW.size 101 rfl ?_
            intro v25 V25 ho25 hg25
            have D25 := DW.grown hg25 DW.size (fun j hj => (OA.blk j hj).1)
            have hS25 := kbw hg25 hHeld OA HbW.out
            refine hK.out _ _ (hS25) (fun hHeld => ?_)
            (try simp only [Act.put, List.setIfInBounds_toArray, List.set_cons_zero, List.set_cons_succ])
            clear hK K
            clear DW OA KB hg25 hS25
            have DW := D25
            have OC := ho25
            clear D25 ho25
            refine rdy1 18 rfl (fun K hK => ?_)
            refine step_appGs V25 (by rfl) _ _ (by rfl) Y.heap.size _ (ls.take k ++ [(⟨iN, b, a1, c1⟩ : Wg)]) (by rfl) OC (cutG a cap k) (n - k) (cap - k) (ls.drop k) (by rfl) ((HT2.out.on DW).src HN.out k hk).2 (by rw [List.length_append, List.length_take, List.length_singleton]; omega) DW.size 108 rfl ?_
            intro v26 V26 ho26 hg26
            have D26 := DW.grown hg26 DW.size (fun j hj => (OC.blk j hj).1)
            have hS26 := kbw hg26 hHeld OC HbW.out
            obtain ⟨a3, c3, ev3, _⟩ := ho26.form
            generalize hLn : (ls.take k ++ [(⟨iN, b, a1, c1⟩ : Wg)] ++ ls.drop k).length = Ln at *
            subst ev3
            have OD := mkHid ho26
            have BU := HUB.out.on D26
            have d1 : V26.cell? ⟨U, 1, none⟩ = some (.slice a n cap) := BU.cell 1
            have f1 := BU.frozen 1
            refine hK.out _ _ (hS26) (fun hHeld => ?_)
            (try simp only [Act.put, List.setIfInBounds_toArray, List.set_cons_zero, List.set_cons_succ])
            clear hK K
            have hbU : bW ≠ U := by have := HUB.out.lt; have := HbU.out; omega
            refine tk 109 19 ?_ rfl (Or.inl ⟨by rfl, ?_⟩) hHeld ?_
            rotate_left
            ·
             intro w hSw; go_simp; with_reducible rfl
            (try simp only [Act.put, List.setIfInBounds_toArray, List.set_cons_zero, List.set_cons_succ])
            refine tk 110 20 ?_ rfl (Or.inl ⟨by rfl, ?_⟩) hHeld ?_
            rotate_left
            ·
             intro w hSw; go_simp; with_reducible rfl
            (try simp only [Act.put, List.setIfInBounds_toArray, List.set_cons_zero, List.set_cons_succ])
            refine rdy1 21 rfl (fun K hK => ?_)
            go_simp
            refine hK.out _ _ (Blk.other hHeld _ _ hbU) (fun _ => ?_)
            (try simp only [Act.put, List.setIfInBounds_toArray, List.set_cons_zero, List.set_cons_succ])
            clear hK K
            refine wpAnyH_done (by kernel_rfl) ?_ _
            refine NoPanic.normal ?_
            have HF := mkHid (HFin.out _ _ _ _ D26 BU OD.out)
            clear d1 f1 BU OD D26 DW OC hg26 hS26 hHeld ho26 hbU
            generalize V26.setCell ⟨U, 1, none⟩ (.slice a3 Ln c3) = Z at *
            go_wp2_with fail
            go_ret
            exact HF.out
          ·
           have hL : V1.cell? ⟨U, 1, none⟩ = some (.slice a n cap) := (HUB.out.on DW).cell 1
           go_simp
           clear hL
           refine hK.out _ _ (hHeld) (fun hHeld => ?_)
           (try simp only [Act.put, List.setIfInBounds_toArray, List.set_cons_zero, List.set_cons_succ])
           clear hK K
           refine tk 107 17 ?_ rfl (Or.inl ⟨by rfl, ?_⟩) hHeld ?_
           rotate_left
           ·
            intro w hSw; go_simp; with_reducible rfl
           (try simp only [Act.put, List.setIfInBounds_toArray, List.set_cons_zero, List.set_cons_succ])
           refine wpAnyH_ready (rs := [8, 10]) (by kernel_rfl) (by simp) ?_
           refine AllReadyH.cons rfl (fun K hK => ?_) (AllReadyH.cons rfl (fun K hK => ?_) AllReadyH.nil)
           ·
            refine step_appGs V1 (by rfl) _ _ (by rfl) Y.heap.size _ [] (by rfl) KE a k cap (ls.take k) (by rfl) ((HT2.out.on DW).src HN.out k hk).1 (by simp only [List.length_nil]; omega) DW.size 98 rfl ?_
            intro v28 V28 ho28 hg28
            have D28 := DW.grown hg28 DW.size (fun j hj => (KE.blk j hj).1)
            have hS28 := kbw hg28 hHeld KE HbW.out
            rw [List.nil_append] at ho28
            refine hK.out _ _ (hS28) (fun hHeld => ?_)
            (try simp only [Act.put, List.setIfInBounds_toArray, List.set_cons_zero, List.set_cons_succ])
            clear hK K
            clear DW KE hg28 hS28
            have DW := D28
            have OA := ho28
            clear D28 ho28
            refine rdy1 10 rfl (fun K hK => ?_)
            go_simp
            have D29 := DW.alloc DW.size (.cells #[.int .i64 (iN : Int), .slice a1 512 c1] 98)
            have B29 : Blk (V28.alloc (.cells #[.int .i64 (iN : Int), .slice a1 512 c1] 98)) V28.heap.size 98 [.int .i64 (iN : Int), .slice a1 512 c1] := Blk.newAt V28 _ _ _ _ rfl rfl
            have O29 := OA.alloc (.cells #[.int .i64 (iN : Int), .slice a1 512 c1] 98)
            refine hK.out _ _ (Blk.alloc hHeld _) (fun hHeld => ?_)
            (try simp only [Act.put, List.setIfInBounds_toArray, List.set_cons_zero, List.set_cons_succ])
            clear hK K
            clear DW OA
            generalize V28.heap.size = bB at *
            generalize V28.alloc (.cells #[.int .i64 (iN : Int), .slice a1 512 c1] 98) = V29 at *
            have DW := D29
            have KB := B29
            have OA := O29
            clear D29 B29 O29
            refine rdy1 11 rfl (fun K hK => ?_)
            refine step_appGs V29 (by rfl) _ _ (by rfl) Y.heap.size _ (ls.take k) (by rfl) OA (some ⟨bB, 0, none⟩) 1 1 [(⟨iN, b, a1, c1⟩ : Wg)] (by rfl) (SrcG.one KB H512.out) (by rw [List.length_take]; omega) DW.size 101 rfl ?_
            intro v30 V30 ho30 hg30
            have D30 := DW.grown hg30 DW.size (fun j hj => (OA.blk j hj).1)
            have hS30 := kbw hg30 hHeld OA HbW.out
            refine hK.out _ _ (hS30) (fun hHeld => ?_)
            (try simp only [Act.put, List.setIfInBounds_toArray, List.set_cons_zero, List.set_cons_succ])
            clear hK K
            clear DW OA KB hg30 hS30
            have DW := D30
            have OC := ho30
            clear D30 ho30
            refine rdy1 18 rfl (fun K hK => ?_)
            refine step_appGs V30 (by rfl) _ _ (by rfl) Y.heap.size _ (ls.take k ++ [(⟨iN, b, a1, c1⟩ : Wg)]) (by rfl) OC (cutG a cap k) (n - k) (cap - k) (ls.drop k) (by rfl) ((HT2.out.on DW).src HN.out k hk).2 (by rw [List.length_append, List.length_take, List.length_singleton]; omega) DW.size 108 rfl ?_
            intro v31 V31 ho31 hg31
            have D31 := DW.grown hg31 DW.size (fun j hj => (OC.blk j hj).1)
            have hS31 := kbw hg31 hHeld OC HbW.out
            obtain ⟨a3, c3, ev3, _⟩ := ho31.form
            generalize hLn : (ls.take k ++ [(⟨iN, b, a1, c1⟩ : Wg)] ++ ls.drop k).length = Ln at *
            subst ev3
            have OD := mkHid ho31
            have BU := HUB.out.on D31
            have d1 : V31.cell? ⟨U, 1, none⟩ = some (.slice a n cap) := BU.cell 1
            have f1 := BU.frozen 1
            refine hK.out _ _ (hS31) (fun hHeld => ?_)
            (try simp only [Act.put, List.setIfInBounds_toArray, List.set_cons_zero, List.set_cons_succ])
            clear hK K
            have hbU : bW ≠ U := by have := HUB.out.lt; have := HbU.out; omega
            refine tk 109 19 ?_ rfl (Or.inl ⟨by rfl, ?_⟩) hHeld ?_
            rotate_left
            ·
             intro w hSw; go_simp; with_reducible rfl
            (try simp only [Act.put, List.setIfInBounds_toArray, List.set_cons_zero, List.set_cons_succ])
            refine tk 110 20 ?_ rfl (Or.inl ⟨by rfl, ?_⟩) hHeld ?_
            rotate_left
            ·
             intro w hSw; go_simp; with_reducible rfl
            (try simp only [Act.put, List.setIfInBounds_toArray, List.set_cons_zero, List.set_cons_succ])
            refine rdy1 21 rfl (fun K hK => ?_)
            go_simp
            refine hK.out _ _ (Blk.other hHeld _ _ hbU) (fun _ => ?_)
            (try simp only [Act.put, List.setIfInBounds_toArray, List.set_cons_zero, List.set_cons_succ])
            clear hK K
            refine wpAnyH_done (by kernel_rfl) ?_ _
            refine NoPanic.normal ?_
            have HF := mkHid (HFin.out _ _ _ _ D31 BU OD.out)
            clear d1 f1 BU OD D31 DW OC hg31 hS31 hHeld ho31 hbU
            generalize V31.setCell ⟨U, 1, none⟩ (.slice a3 Ln c3) = Z at *
            go_wp2_with fail
            go_ret
            exact HF.out
           ·
            go_simp
            have D32 := DW.alloc DW.size (.cells #[.int .i64 (iN : Int), .slice a1 512 c1] 98)
            have B32 : Blk (V1.alloc (.cells #[.int .i64 (iN : Int), .slice a1 512 c1] 98)) V1.heap.size 98 [.int .i64 (iN : Int), .slice a1 512 c1] := Blk.newAt V1 _ _ _ _ rfl rfl
            have O32 := KE.alloc (.cells #[.int .i64 (iN : Int), .slice a1 512 c1] 98)
            have hEB : bE ≠ V1.heap.size := Nat.ne_of_lt (KE.blk bE rfl).2
            refine hK.out _ _ (Blk.alloc hHeld _) (fun hHeld => ?_)
            (try simp only [Act.put, List.setIfInBounds_toArray, List.set_cons_zero, List.set_cons_succ])
            clear hK K
            clear DW KE
            generalize V1.heap.size = bB at *
            generalize V1.alloc (.cells #[.int .i64 (iN : Int), .slice a1 512 c1] 98) = V32 at *
            have DW := D32
            have KB := B32
            have KE := O32
            clear D32 B32 O32
            refine rdy1 8 rfl (fun K hK => ?_)
            refine step_appGs V32 (by rfl) _ _ (by rfl) Y.heap.size _ [] (by rfl) KE a k cap (ls.take k) (by rfl) ((HT2.out.on DW).src HN.out k hk).1 (by simp only [List.length_nil]; omega) DW.size 98 rfl ?_
            intro v33 V33 ho33 hg33
            have D33 := DW.grown hg33 DW.size (fun j hj => (KE.blk j hj).1)
            have hS33 := kbw hg33 hHeld KE HbW.out
            rw [List.nil_append] at ho33
            have B33 : Blk V33 bB 98 [.int .i64 (iN : Int), .slice a1 512 c1] := (hg33.block bB KB.lt (fun e5 => hEB (Option.some.inj e5).symm)).trans KB
            refine hK.out _ _ (hS33) (fun hHeld => ?_)
            (try simp only [Act.put, List.setIfInBounds_toArray, List.set_cons_zero, List.set_cons_succ])
            clear hK K
            clear DW KE hg33 hS33 KB hEB
            have DW := D33
            have OA := ho33
            have KB := B33
            clear D33 ho33 B33
            refine rdy1 11 rfl (fun K hK => ?_)
            refine step_appGs V33 (by rfl) _ _ (by rfl) Y.heap.size _ (ls.take k) (by rfl) OA (some ⟨bB, 0, none⟩) 1 1 [(⟨iN, b, a1, c1⟩ : Wg)] (by rfl) (SrcG.one KB H512.out) (by rw [List.length_take]; omega) DW.size 101 rfl ?_
            intro v34 V34 ho34 hg34
            have D34 := DW.grown hg34 DW.size (fun j hj => (OA.blk j hj).1)
            have hS34 := kbw hg34 hHeld OA HbW.out
            refine hK.out _ _ (hS34) (fun hHeld => ?_)
            (try simp only [Act.put, List.setIfInBounds_toArray, List.set_cons_zero, List.set_cons_succ])
            clear hK K
            clear DW OA KB hg34 hS34
            have DW := D34
            have OC := ho34
            clear D34 ho34
            refine rdy1 18 rfl (fun K hK => ?_)
            refine step_appGs V34 (by rfl) _ _ (by rfl) Y.heap.size _ (ls.take k ++ [(⟨iN, b, a1, c1⟩ : Wg)]) (by rfl) OC (cutG a cap k) (n - k) (cap - k) (ls.drop k) (by rfl) ((HT2.out.on DW).src HN.out k hk).2 (by rw [List.length_append, List.length_take, List.length_singleton]; omega) DW.size 108 rfl ?_
            intro v35 V35 ho35 hg35
            have D35 := DW.grown hg35 DW.size (fun j hj => (OC.blk j hj).1)
            have hS35 := kbw hg35 hHeld OC HbW.out
            obtain ⟨a3, c3, ev3, _⟩ := ho35.form
            generalize hLn : (ls.take k ++ [(⟨iN, b, a1, c1⟩ : Wg)] ++ ls.drop k).length = Ln at *
            subst ev3
            have OD := mkHid ho35
            have BU := HUB.out.on D35
            have d1 : V35.cell? ⟨U, 1, none⟩ = some (.slice a n cap) := BU.cell 1
            have f1 := BU.frozen 1
            refine hK.out _ _ (hS35) (fun hHeld => ?_)
            (try simp only [Act.put, List.setIfInBounds_toArray, List.set_cons_zero, List.set_cons_succ])
            clear hK K
            have hbU : bW ≠ U := by have := HUB.out.lt; have := HbU.out; omega
            refine tk 109 19 ?_ rfl (Or.inl ⟨by rfl, ?_⟩) hHeld ?_
            rotate_left
            ·
             intro w hSw; go_simp; with_reducible rfl
            (try simp only [Act.put, List.setIfInBounds_toArray, List.set_cons_zero, List.set_cons_succ])
            refine tk 110 20 ?_ rfl (Or.inl ⟨by rfl, ?_⟩) hHeld ?_
            rotate_left
            ·
             intro w hSw; go_simp; with_reducible rfl
            (try simp only [Act.put, List.setIfInBounds_toArray, List.set_cons_zero, List.set_cons_succ])
            refine rdy1 21 rfl (fun K hK => ?_)
            go_simp
            refine hK.out _ _ (Blk.other hHeld _ _ hbU) (fun _ => ?_)
            (try simp only [Act.put, List.setIfInBounds_toArray, List.set_cons_zero, List.set_cons_succ])
            clear hK K
            refine wpAnyH_done (by kernel_rfl) ?_ _
            refine NoPanic.normal ?_
            have HF := mkHid (HFin.out _ _ _ _ D35 BU OD.out)
            clear d1 f1 BU OD D35 DW OC hg35 hS35 hHeld ho35 hbU
            generalize V35.setCell ⟨U, 1, none⟩ (.slice a3 Ln c3) = Z at *
            go_wp2_with fail
            go_ret
            exact HF.out
         ·
          go_simp
          have D36 := DW.alloc DW.size (.cells #[.int .i64 (iN : Int), .slice a1 512 c1] 98)
          have B36 : Blk (V1.alloc (.cells #[.int .i64 (iN : Int), .slice a1 512 c1] 98)) V1.heap.size 98 [.int .i64 (iN : Int), .slice a1 512 c1] := Blk.newAt V1 _ _ _ _ rfl rfl
          have O36 := KE.alloc (.cells #[.int .i64 (iN : Int), .slice a1 512 c1] 98)
          have hEB : bE ≠ V1.heap.size := Nat.ne_of_lt (KE.blk bE rfl).2
          refine hK.out _ _ (Blk.alloc hHeld _) (fun hHeld => ?_)
          (try simp only [Act.put, List.setIfInBounds_toArray, List.set_cons_zero, List.set_cons_succ])
          clear hK K
          clear DW KE
          generalize V1.heap.size = bB at *
          generalize V1.alloc (.cells #[.int .i64 (iN : Int), .slice a1 512 c1] 98) = V36 at *
          have DW := D36
          have KB := B36
          have KE := O36
          clear D36 B36 O36
          refine wpAnyH_ready (rs := [5, 15]) (by kernel_rfl) (by simp) ?_
          refine AllReadyH.cons rfl (fun K hK => ?_) (AllReadyH.cons rfl (fun K hK => ?_) AllReadyH.nil)
          ·
           have hL : V36.cell? ⟨U, 1, none⟩ = some (.slice a n cap) := (HUB.out.on DW).cell 1
           go_simp
           clear hL
           refine hK.out _ _ (hHeld) (fun hHeld => ?_)
           (try simp only [Act.put, List.setIfInBounds_toArray, List.set_cons_zero, List.set_cons_succ])
           clear hK K
           refine tk 97 7 ?_ rfl (Or.inl ⟨by rfl, ?_⟩) hHeld ?_
           rotate_left
           ·
            intro w hSw; go_simp; with_reducible rfl
           (try simp only [Act.put, List.setIfInBounds_toArray, List.set_cons_zero, List.set_cons_succ])
           refine wpAnyH_ready (rs := [8, 15]) (by kernel_rfl) (by simp) ?_
           refine AllReadyH.cons rfl (fun K hK => ?_) (AllReadyH.cons rfl (fun K hK => ?_) AllReadyH.nil)
           ·
            refine step_appGs V36 (by rfl) _ _ (by rfl) Y.heap.size _ [] (by rfl) KE a k cap (ls.take k) (by rfl) ((HT2.out.on DW).src HN.out k hk).1 (by simp only [List.length_nil]; omega) DW.size 98 rfl ?_
            intro v38 V38 ho38 hg38
            have D38 := DW.grown hg38 DW.size (fun j hj => (KE.blk j hj).1)
            have hS38 := kbw hg38 hHeld KE HbW.out
            rw [List.nil_append] at ho38
            have B38 : Blk V38 bB 98 [.int .i64 (iN : Int), .slice a1 512 c1] := (hg38.block bB KB.lt (fun e5 => hEB (Option.some.inj e5).symm)).trans KB
            refine hK.out _ _ (hS38) (fun hHeld => ?_)
            (try simp only [Act.put, List.setIfInBounds_toArray, List.set_cons_zero, List.set_cons_succ])
            clear hK K
            clear DW KE hg38 hS38 KB hEB
            have DW := D38
            have OA := ho38
            have KB := B38
            clear D38 ho38 B38
            refine wpAnyH_ready (rs := [11, 15]) (by kernel_rfl) (by simp) ?_
            refine AllReadyH.cons rfl (fun K hK => ?_) (AllReadyH.cons rfl (fun K hK => ?_) AllReadyH.nil)
            ·
             refine step_appGs V38 (by rfl) _ _ (by rfl) Y.heap.size _ (ls.take k) (by rfl) OA (some ⟨bB, 0, none⟩) 1 1 [(⟨iN, b, a1, c1⟩ : Wg)] (by rfl) (SrcG.one KB H512.out) (by rw [List.length_take]; omega) DW.size 101 rfl ?_
             intro v39 V39 ho39 hg39
             have D39 := DW.grown hg39 DW.size (fun j hj => (OA.blk j hj).1)
             have hS39 := kbw hg39 hHeld OA HbW.out
             refine hK.out _ _ (hS39) (fun hHeld => ?_)
             (try simp only [Act.put, List.setIfInBounds_toArray, List.set_cons_zero, List.set_cons_succ])
             clear hK K
             clear DW OA KB hg39 hS39
             have DW := D39
             have OC := ho39
             clear D39 ho39
             refine rdy1 15 rfl (fun K hK => ?_)
             have hL : V39.cell? ⟨U, 1, none⟩ = some (.slice a n cap) := (HUB.out.on DW).cell 1
             go_simp
             clear hL
             refine hK.out _ _ (hHeld) (fun hHeld => ?_)
             (try simp only [Act.put, List.setIfInBounds_toArray, List.set_cons_zero, List.set_cons_succ])
             clear hK K
             refine tk 107 17 ?_ rfl (Or.inl ⟨by rfl, ?_⟩) hHeld ?_
             rotate_left
             ·
              intro w hSw; go_simp; with_reducible rfl
             (try simp only [Act.put, List.setIfInBounds_toArray, List.set_cons_zero, List.set_cons_succ])
             refine rdy1 18 rfl (fun K hK => ?_)
             refine step_appGs V39 (by rfl) _ _ (by rfl) Y.heap.size _ (ls.take k ++ [(⟨iN, b, a1, c1⟩ : Wg)]) (by rfl) OC (cutG a cap k) (n - k) (cap - k) (ls.drop k) (by rfl) ((HT2.out.on DW).src HN.out k hk).2 (by rw [List.length_append, List.length_take, List.length_singleton]; omega) DW.size 108 rfl ?_
             intro v41 V41 ho41 hg41
             have D41 := DW.grown hg41 DW.size (fun j hj => (OC.blk j hj).1)
             have hS41 := kbw hg41 hHeld OC HbW.out
             obtain ⟨a3, c3, ev3, _⟩ := ho41.form
             generalize hLn : (ls.take k ++ [(⟨iN, b, a1, c1⟩ : Wg)] ++ ls.drop k).length = Ln at *
             subst ev3
             have OD := mkHid ho41
             have BU := HUB.out.on D41
             have d1 : V41.cell? ⟨U, 1, none⟩ = some (.slice a n cap) := BU.cell 1
             have f1 := BU.frozen 1
             refine hK.out _ _ (hS41) (fun hHeld => ?_)
             (try simp only [Act.put, List.setIfInBounds_toArray, List.set_cons_zero, List.set_cons_succ])
             clear hK K
             have hbU : bW ≠ U := by have := HUB.out.lt; have := HbU.out; omega
             refine tk 109 19 ?_ rfl (Or.inl ⟨by rfl, ?_⟩) hHeld ?_
             rotate_left
             ·
              intro w hSw; go_simp; with_reducible rfl
             (try simp only [Act.put, List.setIfInBounds_toArray, List.set_cons_zero, List.set_cons_succ])
             refine tk 110 20 ?_ rfl (Or.inl ⟨by rfl, ?_⟩) hHeld ?_
             rotate_left
             ·
              intro w hSw; go_simp; with_reducible rfl
             (try simp only [Act.put, List.setIfInBounds_toArray, List.set_cons_zero, List.set_cons_succ])
             refine rdy1 21 rfl (fun K hK => ?_)
             go_simp
             refine hK.out _ _ (Blk.other hHeld _ _ hbU) (fun _ => ?_)
             (try simp only [Act.put, List.setIfInBounds_toArray, List.set_cons_zero, List.set_cons_succ])
             clear hK K
             refine wpAnyH_done (by kernel_rfl) ?_ _
             refine NoPanic.normal ?_
             have HF := mkHid (HFin.out _ _ _ _ D41 BU OD.out)
             clear d1 f1 BU OD D41 DW OC hg41 hS41 hHeld ho41 hbU
             generalize V41.setCell ⟨U, 1, none⟩ (.slice a3 Ln c3) = Z at *
             go_wp2_with fail
             go_ret
             exact HF.out
            ·
             have hL : V38.cell? ⟨U, 1, none⟩ = some (.slice a n cap) := (HUB.out.on DW).cell 1
             go_simp
             clear hL
             refine hK.out _ _ (hHeld) (fun hHeld => ?_)
             (try simp only [Act.put, List.setIfInBounds_toArray, List.set_cons_zero, List.set_cons_succ])
             clear hK K
             refine tk 107 17 ?_ rfl (Or.inl ⟨by rfl, ?_⟩) hHeld ?_
             rotate_left
             ·
              intro w hSw; go_simp; with_reducible rfl
             (try simp only [Act.put, List.setIfInBounds_toArray, List.set_cons_zero, List.set_cons_succ])
             refine rdy1 11 rfl (fun K hK => ?_)
             refine step_appGs V38 (by rfl) _ _ (by rfl) Y.heap.size _ (ls.take k) (by rfl) OA (some ⟨bB, 0, none⟩) 1 1 [(⟨iN, b, a1, c1⟩ : Wg)] (by rfl) (SrcG.one KB H512.out) (by rw [List.length_take]; omega) DW.size 101 rfl ?_
             intro v43 V43 ho43 hg43
             have D43 := DW.grown hg43 DW.size (fun j hj => (OA.blk j hj).1)
             have hS43 := kbw hg43 hHeld OA HbW.out
             refine hK.out _ _ (hS43) (fun hHeld => ?_)
             (try simp only [Act.put, List.setIfInBounds_toArray, List.set_cons_zero, List.set_cons_succ])
             clear hK K
             clear DW OA KB hg43 hS43
             have DW := D43
             have OC := ho43
             clear D43 ho43
             refine rdy1 18 rfl (fun K hK => ?_)
             refine step_appGs V43 (by rfl) _ _ (by rfl) Y.heap.size _ (ls.take k ++ [(⟨iN, b, a1, c1⟩ : Wg)]) (by rfl) OC (cutG a cap k) (n - k) (cap - k) (ls.drop k) (by rfl) ((HT2.out.on DW).src HN.out k hk).2 (by rw [List.length_append, List.length_take, List.length_singleton]; omega) DW.size 108 rfl ?_
             intro v44 V44 ho44 hg44
             have D44 := DW.grown hg44 DW.size (fun j hj => (OC.blk j hj).1)
             have hS44 := kbw hg44 hHeld OC HbW.out
             obtain ⟨a3, c3, ev3, _⟩ := ho44.form
             generalize hLn : (ls.take k ++ [(⟨iN, b, a1, c1⟩ : Wg)] ++ ls.drop k).length = Ln at *
             subst ev3
             have OD := mkHid ho44
             have BU := HUB.out.on D44
             have d1 : V44.cell? ⟨U, 1, none⟩ = some (.slice a n cap) := BU.cell 1
             have f1 := BU.frozen 1
             refine hK.out _ _ (hS44) (fun hHeld => ?_)
             (try simp only [Act.put, List.setIfInBounds_toArray, List.set_cons_zero, List.set_cons_succ])
             clear hK K
             have hbU : bW ≠ U := by have := HUB.out.lt; have := HbU.out; omega
             refine tk 109 19 ?_ rfl (Or.inl ⟨by rfl, ?_⟩) hHeld ?_
             rotate_left
             ·
              intro w hSw; go_simp; with_reducible rfl
             (try simp only [Act.put, List.setIfInBounds_toArray, List.set_cons_zero, List.set_cons_succ])
             refine tk 110 20 ?_ rfl (Or.inl ⟨by rfl, ?_⟩) hHeld ?_
             rotate_left
             ·
              intro w hSw; go_simp; with_reducible rfl
             (try simp only [Act.put, List.setIfInBounds_toArray, List.set_cons_zero, List.set_cons_succ])
             refine rdy1 21 rfl (fun K hK => ?_)
             go_simp
             refine hK.out _ _ (Blk.other hHeld _ _ hbU) (fun _ => ?_)
             (try simp only [Act.put, List.setIfInBounds_toArray, List.set_cons_zero, List.set_cons_succ])
             clear hK K
             refine wpAnyH_done (by kernel_rfl) ?_ _
             refine NoPanic.normal ?_
             have HF := mkHid (HFin.out _ _ _ _ D44 BU OD.out)
             clear d1 f1 BU OD D44 DW OC hg44 hS44 hHeld ho44 hbU
             generalize V44.setCell ⟨U, 1, none⟩ (.slice a3 Ln c3) = Z at *
             go_wp2_with fail
             go_ret
             exact HF.out
           ·
            have hL : V36.cell? ⟨U, 1, none⟩ = some (.slice a n cap) := (HUB.out.on DW).cell 1
            go_simp
            clear hL
            refine hK.out _ _ (hHeld) (fun hHeld => ?_)
            (try simp only [Act.put, List.setIfInBounds_toArray, List.set_cons_zero, List.set_cons_succ])
            clear hK K
            refine tk 107 17 ?_ rfl (Or.inl ⟨by rfl, ?_⟩) hHeld ?_
            rotate_left
            ·
             intro w hSw; go_simp; with_reducible rfl
            (try simp only [Act.put, List.setIfInBounds_toArray, List.set_cons_zero, List.set_cons_succ])
            refine rdy1 8 rfl (fun K hK => ?_)
            refine step_appGs V36 (by rfl) _ _ (by rfl) Y.heap.size _ [] (by rfl) KE a k cap (ls.take k) (by rfl) ((HT2.out.on DW).src HN.out k hk).1 (by simp only [List.length_nil]; omega) DW.size 98 rfl ?_
            intro v46 V46 ho46 hg46
            have D46 := DW.grown hg46 DW.size (fun j hj => (KE.blk j hj).1)
            have hS46 := kbw hg46 hHeld KE HbW.out
            rw [List.nil_append] at ho46
            have B46 : Blk V46 bB 98 [.int .i64 (iN : Int), .slice a1 512 c1] := (hg46.block bB KB.lt (fun e5 => hEB (Option.some.inj e5).symm)).trans KB
            refine hK.out _ _ (hS46) (fun hHeld => ?_)
            (try simp only [Act.put, List.setIfInBounds_toArray, List.set_cons_zero, List.set_cons_succ])
            clear hK K
            clear DW KE hg46 hS46 KB hEB
            have DW := D46
            have OA := ho46
            have KB := B46
            clear D46 ho46 B46
            refine rdy1 11 rfl (fun K hK => ?_)
            refine step_appGs V46 (by rfl) _ _ (by rfl) Y.heap.size _ (ls.take k) (by rfl) OA (some ⟨bB, 0, none⟩) 1 1 [(⟨iN, b, a1, c1⟩ : Wg)] (by rfl) (SrcG.one KB H512.out) (by rw [List.length_take]; omega) DW.size 101 rfl ?_
            intro v47 V47 ho47 hg47
            have D47 := DW.grown hg47 DW.size (fun j hj => (OA.blk j hj).1)
            have hS47 := kbw hg47 hHeld OA HbW.out
            refine hK.out _ _ (hS47) (fun hHeld => ?_)
            (try simp only [Act.put, List.setIfInBounds_toArray, List.set_cons_zero, List.set_cons_succ])
            clear hK K
            clear DW OA KB hg47 hS47
            have DW := D47
            have OC := ho47
            clear D47 ho47
            refine rdy1 18 rfl (fun K hK => ?_)
            refine step_appGs V47 (by rfl) _ _ (by rfl) Y.heap.size _ (ls.take k ++ [(⟨iN, b, a1, c1⟩ : Wg)]) (by rfl) OC (cutG a cap k) (n - k) (cap - k) (ls.drop k) (by rfl) ((HT2.out.on DW).src HN.out k hk).2 (by rw [List.length_append, List.length_take, List.length_singleton]; omega) DW.size 108 rfl ?_
            intro v48 V48 ho48 hg48
            have D48 := DW.grown hg48 DW.size (fun j hj => (OC.blk j hj).1)
            have hS48 := kbw hg48 hHeld OC HbW.out
            obtain ⟨a3, c3, ev3, _⟩ := ho48.form
            generalize hLn : (ls.take k ++ [(⟨iN, b, a1, c1⟩ : Wg)] ++ ls.drop k).length = Ln at *
            subst ev3
            have OD := mkHid ho48
            have BU := HUB.out.on D48
            have d1 : V48.cell? ⟨U, 1, none⟩ = some (.slice a n cap) := BU.cell 1
            have f1 := BU.frozen 1
            refine hK.out _ _ (hS48) (fun hHeld => ?_)
            (try simp only [Act.put, List.setIfInBounds_toArray, List.set_cons_zero, List.set_cons_succ])
            clear hK K
            have hbU : bW ≠ U := by have := HUB.out.lt; have := HbU.out; omega
            refine tk 109 19 ?_ rfl (Or.inl ⟨by rfl, ?_⟩) hHeld ?_
            rotate_left
            ·
             intro w hSw; go_simp; with_reducible rfl
            (try simp only [Act.put, List.setIfInBounds_toArray, List.set_cons_zero, List.set_cons_succ])
            refine tk 110 20 ?_ rfl (Or.inl ⟨by rfl, ?_⟩) hHeld ?_
            rotate_left
            ·
             intro w hSw; go_simp; with_reducible rfl
            (try simp only [Act.put, List.setIfInBounds_toArray, List.set_cons_zero, List.set_cons_succ])
            refine rdy1 21 rfl (fun K hK => ?_)
            go_simp
            refine hK.out _ _ (Blk.other hHeld _ _ hbU) (fun _ => ?_)
            (try simp only [Act.put, List.setIfInBounds_toArray, List.set_cons_zero, List.set_cons_succ])
            clear hK K
            refine wpAnyH_done (by kernel_rfl) ?_ _
            refine NoPanic.normal ?_
            have HF := mkHid (HFin.out _ _ _ _ D48 BU OD.out)
            clear d1 f1 BU OD D48 DW OC hg48 hS48 hHeld ho48 hbU
            generalize V48.setCell ⟨U, 1, none⟩ (.slice a3 Ln c3) = Z at *
            go_wp2_with fail
            go_ret
            exact HF.out
          ·
           have hL : V36.cell? ⟨U, 1, none⟩ = some (.slice a n cap) := (HUB.out.on DW).cell 1
           go_simp
           clear hL
           refine hK.out _ _ (hHeld) (fun hHeld => ?_)
           (try simp only [Act.put, List.setIfInBounds_toArray, List.set_cons_zero, List.set_cons_succ])
           clear hK K
           refine tk 107 17 ?_ rfl (Or.inl ⟨by rfl, ?_⟩) hHeld ?_
           rotate_left
           ·
            intro w hSw; go_simp; with_reducible rfl
           (try simp only [Act.put, List.setIfInBounds_toArray, List.set_cons_zero, List.set_cons_succ])
           refine rdy1 5 rfl (fun K hK => ?_)
           have hL : V36.cell? ⟨U, 1, none⟩ = some (.slice a n cap) := (HUB.out.on DW).cell 1
           go_simp
           clear hL
           refine hK.out _ _ (hHeld) (fun hHeld => ?_)
           (try simp only [Act.put, List.setIfInBounds_toArray, List.set_cons_zero, List.set_cons_succ])
           clear hK K
           refine tk 97 7 ?_ rfl (Or.inl ⟨by rfl, ?_⟩) hHeld ?_
           rotate_left
           ·
            intro w hSw; go_simp; with_reducible rfl
           (try simp only [Act.put, List.setIfInBounds_toArray, List.set_cons_zero, List.set_cons_succ])
           refine rdy1 8 rfl (fun K hK => ?_)
           refine step_appGs V36 (by rfl) _ _ (by rfl) Y.heap.size _ [] (by rfl) KE a k cap (ls.take k) (by rfl) ((HT2.out.on DW).src HN.out k hk).1 (by simp only [List.length_nil]; omega) DW.size 98 rfl ?_
           intro v51 V51 ho51 hg51
           have D51 := DW.grown hg51 DW.size (fun j hj => (KE.blk j hj).1)
           have hS51 := kbw hg51 hHeld KE HbW.out
           rw [List.nil_append] at ho51
           have B51 : Blk V51 bB 98 [.int .i64 (iN : Int), .slice a1 512 c1] := (hg51.block bB KB.lt (fun e5 => hEB (Option.some.inj e5).symm)).trans KB
           refine hK.out _ _ (hS51) (fun hHeld => ?_)
           (try simp only [Act.put, List.setIfInBounds_toArray, List.set_cons_zero, List.set_cons_succ])
           clear hK K
           clear DW KE hg51 hS51 KB hEB
           have DW := D51
           have OA := ho51
           have KB := B51
           clear D51 ho51 B51
           refine rdy1 11 rfl (fun K hK => ?_)
           refine step_appGs V51 (by rfl) _ _ (by rfl) Y.heap.size _ (ls.take k) (by rfl) OA (some ⟨bB, 0, none⟩) 1 1 [(⟨iN, b, a1, c1⟩ : Wg)] (by rfl) (SrcG.one KB H512.out) (by rw [List.length_take]; omega) DW.size 101 rfl ?_
           intro v52 V52 ho52 hg52
           have D52 := DW.grown hg52 DW.size (fun j hj => (OA.blk j hj).1)
           have hS52 := kbw hg52 hHeld OA HbW.out
           refine hK.out _ _ (hS52) (fun hHeld => ?_)
           (try simp only [Act.put, List.setIfInBounds_toArray, List.set_cons_zero, List.set_cons_succ])
           clear hK K
           clear DW OA KB hg52 hS52
           have DW := D52
           have OC := ho52
           clear D52 ho52
           refine rdy1 18 rfl (fun K hK => ?_)
           refine step_appGs V52 (by rfl) _ _ (by rfl) Y.heap.size _ (ls.take k ++ [(⟨iN, b, a1, c1⟩ : Wg)]) (by rfl) OC (cutG a cap k) (n - k) (cap - k) (ls.drop k) (by rfl) ((HT2.out.on DW).src HN.out k hk).2 (by rw [List.length_append, List.length_take, List.length_singleton]; omega) DW.size 108 rfl ?_
           intro v53 V53 ho53 hg53
           have D53 := DW.grown hg53 DW.size (fun j hj => (OC.blk j hj).1)
           have hS53 := kbw hg53 hHeld OC HbW.out
           obtain ⟨a3, c3, ev3, _⟩ := ho53.form
           generalize hLn : (ls.take k ++ [(⟨iN, b, a1, c1⟩ : Wg)] ++ ls.drop k).length = Ln at *
           subst ev3
           have OD := mkHid ho53
           have BU := HUB.out.on D53
           have d1 : V53.cell? ⟨U, 1, none⟩ = some (.slice a n cap) := BU.cell 1
           have f1 := BU.frozen 1
           refine hK.out _ _ (hS53) (fun hHeld => ?_)
           (try simp only [Act.put, List.setIfInBounds_toArray, List.set_cons_zero, List.set_cons_succ])
           clear hK K
           have hbU : bW ≠ U := by have := HUB.out.lt; have := HbU.out; omega
           refine tk 109 19 ?_ rfl (Or.inl ⟨by rfl, ?_⟩) hHeld ?_
           rotate_left
           ·
            intro w hSw; go_simp; with_reducible rfl
           (try simp only [Act.put, List.setIfInBounds_toArray, List.set_cons_zero, List.set_cons_succ])
           refine tk 110 20 ?_ rfl (Or.inl ⟨by rfl, ?_⟩) hHeld ?_
           rotate_left
           ·
            intro w hSw; go_simp; with_reducible rfl
           (try simp only [Act.put, List.setIfInBounds_toArray, List.set_cons_zero, List.set_cons_succ])
           refine rdy1 21 rfl (fun K hK => ?_)
           go_simp
           refine hK.out _ _ (Blk.other hHeld _ _ hbU) (fun _ => ?_)
           (try simp only [Act.put, List.setIfInBounds_toArray, List.set_cons_zero, List.set_cons_succ])
           clear hK K
           refine wpAnyH_done (by kernel_rfl) ?_ _
           refine NoPanic.normal ?_
           have HF := mkHid (HFin.out _ _ _ _ D53 BU OD.out)
           clear d1 f1 BU OD D53 DW OC hg53 hS53 hHeld ho53 hbU
           generalize V53.setCell ⟨U, 1, none⟩ (.slice a3 Ln c3) = Z at *
           go_wp2_with fail
           go_ret
           exact HF.out
         ·
          have hL : V1.cell? ⟨U, 1, none⟩ = some (.slice a n cap) := (HUB.out.on DW).cell 1
          go_simp
          clear hL
          refine hK.out _ _ (hHeld) (fun hHeld => ?_)
          (try simp only [Act.put, List.setIfInBounds_toArray, List.set_cons_zero, List.set_cons_succ])
          clear hK K
          refine tk 107 17 ?_ rfl (Or.inl ⟨by rfl, ?_⟩) hHeld ?_
          rotate_left
          ·
           intro w hSw; go_simp; with_reducible rfl
          (try simp only [Act.put, List.setIfInBounds_toArray, List.set_cons_zero, List.set_cons_succ])
          refine wpAnyH_ready (rs := [5, 10]) (by kernel_rfl) (by simp) ?_
          refine AllReadyH.cons rfl (fun K hK => ?_) (AllReadyH.cons rfl (fun K hK => ?_) AllReadyH.nil)
          ·
           have hL : V1.cell? ⟨U, 1, none⟩ = some (.slice a n cap) := (HUB.out.on DW).cell 1
           go_simp
           clear hL
           refine hK.out _ _ (hHeld) (fun hHeld => ?_)
           (try simp only [Act.put, List.setIfInBounds_toArray, List.set_cons_zero, List.set_cons_succ])
           clear hK K
           refine tk 97 7 ?_ rfl (Or.inl ⟨by rfl, ?_⟩) hHeld ?_
           rotate_left
           ·
            intro w hSw; go_simp; with_reducible rfl
           (try simp only [Act.put, List.setIfInBounds_toArray, List.set_cons_zero, List.set_cons_succ])
           refine wpAnyH_ready (rs := [8, 10]) (by kernel_rfl) (by simp) ?_
           refine AllReadyH.cons rfl (fun K hK => ?_) (AllReadyH.cons rfl (fun K hK => ?_) AllReadyH.nil)
           ·
            refine step_appGs V1 (by rfl) _ _ (by rfl) Y.heap.size _ [] (by rfl) KE a k cap (ls.take k) (by rfl) ((HT2.out.on DW).src HN.out k hk).1 (by simp only [List.length_nil]; omega) DW.size 98 rfl ?_
            intro v56 V56 ho56 hg56
            have D56 := DW.grown hg56 DW.size (fun j hj => (KE.blk j hj).1)
            have hS56 := kbw hg56 hHeld KE HbW.out
            rw [List.nil_append] at ho56
            refine hK.out _ _ (hS56) (fun hHeld => ?_)
            (try simp only [Act.put, List.setIfInBounds_toArray, List.set_cons_zero, List.set_cons_succ])
            clear hK K
            clear DW KE hg56 hS56
            have DW := D56
            have OA := ho56
            clear D56 ho56
            refine rdy1 10 rfl (fun K hK => ?_)
            go_simp
            have D57 := DW.alloc DW.size (.cells #[.int .i64 (iN : Int), .slice a1 512 c1] 98)
            have B57 : Blk (V56.alloc (.cells #[.int .i64 (iN : Int), .slice a1 512 c1] 98)) V56.heap.size 98 [.int .i64 (iN : Int), .slice a1 512 c1] := Blk.newAt V56 _ _ _ _ rfl rfl
            have O57 := OA.alloc (.cells #[.int .i64 (iN : Int), .slice a1 512 c1] 98)
            refine hK.out _ _ (Blk.alloc hHeld _) (fun hHeld => ?_)
            (try simp only [Act.put, List.setIfInBounds_toArray, List.set_cons_zero, List.set_cons_succ])
            clear hK K
            clear DW OA
            generalize V56.heap.size = bB at *
            generalize V56.alloc (.cells #[.int .i64 (iN : Int), .slice a1 512 c1] 98) = V57 at *
            have DW := D57
            have KB := B57
            have OA := O57
            clear D57 B57 O57
            refine rdy1 11 rfl (fun K hK => ?_)
            refine step_appGs V57 (by rfl) _ _ (by rfl) Y.heap.size _ (ls.take k) (by rfl) OA (some ⟨bB, 0, none⟩) 1 1 [(⟨iN, b, a1, c1⟩ : Wg)] (by rfl) (SrcG.one KB H512.out) (by rw [List.length_take]; omega) DW.size 101 rfl ?_
            intro v58 V58 ho58 hg58
            have D58 := DW.grown hg58 DW.size (fun j hj => (OA.blk j hj).1)
            have hS58 := kbw hg58 hHeld OA HbW.out
            refine hK.out _ _ (hS58) (fun hHeld => ?_)
            (try simp only [Act.put, List.setIfInBounds_toArray, List.set_cons_zero, List.set_cons_succ])
            clear hK K
            clear DW OA KB hg58 hS58
            have DW := D58
            have OC := ho58
            clear D58 ho58
            refine rdy1 18 rfl (fun K hK => ?_)
            refine step_appGs V58 (by rfl) _ _ (by rfl) Y.heap.size _ (ls.take k ++ [(⟨iN, b, a1, c1⟩ : Wg)]) (by rfl) OC (cutG a cap k) (n - k) (cap - k) (ls.drop k) (by rfl) ((HT2.out.on DW).src HN.out k hk).2 (by rw [List.length_append, List.length_take, List.length_singleton]; omega) DW.size 108 rfl ?_
            intro v59 V59 ho59 hg59
            have D59 := DW.grown hg59 DW.size (fun j hj => (OC.blk j hj).1)
            have hS59 := kbw hg59 hHeld OC HbW.out
            obtain ⟨a3, c3, ev3, _⟩ := ho59.form
            generalize hLn : (ls.take k ++ [(⟨iN, b, a1, c1⟩ : Wg)] ++ ls.drop k).length = Ln at *
            subst ev3
            have OD := mkHid ho59
            have BU := HUB.out.on D59
            have d1 : V59.cell? ⟨U, 1, none⟩ = some (.slice a n cap) := BU.cell 1
            have f1 := BU.frozen 1
            refine hK.out _ _ (hS59) (fun hHeld => ?_)
            (try simp only [Act.put, List.setIfInBounds_toArray, List.set_cons_zero, List.set_cons_succ])
            clear hK K
            have hbU : bW ≠ U := by have := HUB.out.lt; have := HbU.out; omega
            refine tk 109 19 ?_ rfl (Or.inl ⟨by rfl, ?_⟩) hHeld ?_
            rotate_left
            ·
             intro w hSw; go_simp; with_reducible rfl
            (try simp only [Act.put, List.setIfInBounds_toArray, List.set_cons_zero, List.set_cons_succ])
            refine tk 110 20 ?_ rfl (Or.inl ⟨by rfl, ?_⟩) hHeld ?_
            rotate_left
            ·
             intro w hSw; go_simp; with_reducible rfl
            (try simp only [Act.put, List.setIfInBounds_toArray, List.set_cons_zero, List.set_cons_succ])
            refine rdy1 21 rfl (fun K hK => ?_)
            go_simp
            refine hK.out _ _ (Blk.other hHeld _ _ hbU) (fun _ => ?_)
            (try simp only [Act.put, List.setIfInBounds_toArray, List.set_cons_zero, List.set_cons_succ])
            clear hK K
            refine wpAnyH_done (by kernel_rfl) ?_ _
            refine NoPanic.normal ?_
            have HF := mkHid (HFin.out _ _ _ _ D59 BU OD.out)
            clear d1 f1 BU OD D59 DW OC hg59 hS59 hHeld ho59 hbU
            generalize V59.setCell ⟨U, 1, none⟩ (.slice a3 Ln c3) = Z at *
            go_wp2_with fail
            go_ret
            exact HF.out
           ·
            go_simp
            have D60 := DW.alloc DW.size (.cells #[.int .i64 (iN : Int), .slice a1 512 c1] 98)
            have B60 : Blk (V1.alloc (.cells #[.int .i64 (iN : Int), .slice a1 512 c1] 98)) V1.heap.size 98 [.int .i64 (iN : Int), .slice a1 512 c1] := Blk.newAt V1 _ _ _ _ rfl rfl
            have O60 := KE.alloc (.cells #[.int .i64 (iN : Int), .slice a1 512 c1] 98)
            have hEB : bE ≠ V1.heap.size := Nat.ne_of_lt (KE.blk bE rfl).2
            refine hK.out _ _ (Blk.alloc hHeld _) (fun hHeld => ?_)
            (try simp only [Act.put, List.setIfInBounds_toArray, List.set_cons_zero, List.set_cons_succ])
            clear hK K
            clear DW KE
            generalize V1.heap.size = bB at *
            generalize V1.alloc (.cells #[.int .i64 (iN : Int), .slice a1 512 c1] 98) = V60 at *
            have DW := D60
            have KB := B60
            have KE := O60
            clear D60 B60 O60
            refine rdy1 8 rfl (fun K hK => ?_)
            refine step_appGs V60 (by rfl) _ _ (by rfl) Y.heap.size _ [] (by rfl) KE a k cap (ls.take k) (by rfl) ((HT2.out.on DW).src HN.out k hk).1 (by simp only [List.length_nil]; omega) DW.size 98 rfl ?_
            intro v61 V61 ho61 hg61
            have D61 := DW.grown hg61 DW.size (fun j hj => (KE.blk j hj).1)
            have hS61 := kbw hg61 hHeld KE HbW.out
            rw [List.nil_append] at ho61
            have B61 : Blk V61 bB 98 [.int .i64 (iN : Int), .slice a1 512 c1] := (hg61.block bB KB.lt (fun e5 => hEB (Option.some.inj e5).symm)).trans KB
            refine hK.out _ _ (hS61) (fun hHeld => ?_)
            (try simp only [Act.put, List.setIfInBounds_toArray, List.set_cons_zero, List.set_cons_succ])
            clear hK K
            clear DW KE hg61 hS61 KB hEB
            have DW := D61
            have OA := ho61
            have KB := B61
            clear D61 ho61 B61
            refine rdy1 11 rfl (fun K hK => ?_)
            refine step_appGs V61 (by rfl) _ _ (by rfl) Y.heap.size _ (ls.take k) (by rfl) OA (some ⟨bB, 0, none⟩) 1 1 [(⟨iN, b, a1, c1⟩ : Wg)] (by rfl) (SrcG.one KB H512.out) (by rw [List.length_take]; omega) DW.size 101 rfl ?_
            intro v62 V62 ho62 hg62
            have D62 := DW.grown hg62 DW.size (fun j hj => (OA.blk j hj).1)
            have hS62 := kbw hg62 hHeld OA HbW.out
            refine hK.out _ _ (hS62) (fun hHeld => ?_)
            (try simp only [Act.put, List.setIfInBounds_toArray, List.set_cons_zero, List.set_cons_succ])
            clear hK K
            clear DW OA KB hg62 hS62
            have DW := D62
            have OC := ho62
            clear D62 ho62
            refine rdy1 18 rfl (fun K hK => ?_)
            refine step_appGs V62 (by rfl) _ _ (by rfl) Y.heap.size _ (ls.take k ++ [(⟨iN, b, a1, c1⟩ : Wg)]) (by rfl) OC (cutG a cap k) (n - k) (cap - k) (ls.drop k) (by rfl) ((HT2.out.on DW).src HN.out k hk).2 (by rw [List.length_append, List.length_take, List.length_singleton]; omega) DW.size 108 rfl ?_
            intro v63 V63 ho63 hg63
            have D63 := DW.grown hg63 DW.size (fun j hj => (OC.blk j hj).1)
            have hS63 := kbw hg63 hHeld OC HbW.out
            obtain ⟨a3, c3, ev3, _⟩ := ho63.form
            generalize hLn : (ls.take k ++ [(⟨iN, b, a1, c1⟩ : Wg)] ++ ls.drop k).length = Ln at *
            subst ev3
            have OD := mkHid ho63
            have BU := HUB.out.on D63
            have d1 : V63.cell? ⟨U, 1, none⟩ = some (.slice a n cap) := BU.cell 1
            have f1 := BU.frozen 1
            refine hK.out _ _ (hS63) (fun hHeld => ?_)
            (try simp only [Act.put, List.setIfInBounds_toArray, List.set_cons_zero, List.set_cons_succ])
            clear hK K
            have hbU : bW ≠ U := by have := HUB.out.lt; have := HbU.out; omega
            refine tk 109 19 ?_ rfl (Or.inl ⟨by rfl, ?_⟩) hHeld ?_
            rotate_left
            ·
             intro w hSw; go_simp; with_reducible rfl
            (try simp only [Act.put, List.setIfInBounds_toArray, List.set_cons_zero, List.set_cons_succ])
            refine tk 110 20 ?_ rfl (Or.inl ⟨by rfl, ?_⟩) hHeld ?_
            rotate_left
            ·
             intro w hSw; go_simp; with_reducible rfl
            (try simp only [Act.put, List.setIfInBounds_toArray, List.set_cons_zero, List.set_cons_succ])
            refine rdy1 21 rfl (fun K hK => ?_)
            go_simp
            refine hK.out _ _ (Blk.other hHeld _ _ hbU) (fun _ => ?_)
            (try simp only [Act.put, List.setIfInBounds_toArray, List.set_cons_zero, List.set_cons_succ])
            clear hK K
            refine wpAnyH_done (by kernel_rfl) ?_ _
            refine NoPanic.normal ?_
            have HF := mkHid (HFin.out _ _ _ _ D63 BU OD.out)
            clear d1 f1 BU OD D63 DW OC hg63 hS63 hHeld ho63 hbU
            generalize V63.setCell ⟨U, 1, none⟩ (.slice a3 Ln c3) = Z at *
            go_wp2_with fail
            go_ret
            exact HF.out
          ·
           go_simp
           have D64 := DW.alloc DW.size (.cells #[.int .i64 (iN : Int), .slice a1 512 c1] 98)
           have B64 : Blk (V1.alloc (.cells #[.int .i64 (iN : Int), .slice a1 512 c1] 98)) V1.heap.size 98 [.int .i64 (iN : Int), .slice a1 512 c1] := Blk.newAt V1 _ _ _ _ rfl rfl
           have O64 := KE.alloc (.cells #[.int .i64 (iN : Int), .slice a1 512 c1] 98)
           have hEB : bE ≠ V1.heap.size := Nat.ne_of_lt (KE.blk bE rfl).2
           refine hK.out _ _ (Blk.alloc hHeld _) (fun hHeld => ?_)
           (try simp only [Act.put, List.setIfInBounds_toArray, List.set_cons_zero, List.set_cons_succ])
           clear hK K
           clear DW KE
           generalize V1.heap.size = bB at *
           generalize V1.alloc (.cells #[.int .i64 (iN : Int), .slice a1 512 c1] 98) = V64 at *
           have DW := D64
           have KB := B64
           have KE := O64
           clear D64 B64 O64
           refine rdy1 5 rfl (fun K hK => ?_)
           have hL : V64.cell? ⟨U, 1, none⟩ = some (.slice a n cap) := (HUB.out.on DW).cell 1
           go_simp
           clear hL
           refine hK.out _ _ (hHeld) (fun hHeld => ?_)
           (try simp only [Act.put, List.setIfInBounds_toArray, List.set_cons_zero, List.set_cons_succ])
           clear hK K
           refine tk 97 7 ?_ rfl (Or.inl ⟨by rfl, ?_⟩) hHeld ?_
           rotate_left
           ·
            intro w hSw; go_simp; with_reducible rfl
           (try simp only [Act.put, List.setIfInBounds_toArray, List.set_cons_zero, List.set_cons_succ])
           refine rdy1 8 rfl (fun K hK => ?_)
           refine step_appGs V64 (by rfl) _ _ (by rfl) Y.heap.size _ [] (by rfl) KE a k cap (ls.take k) (by rfl) ((HT2.out.on DW).src HN.out k hk).1 (by simp only [List.length_nil]; omega) DW.size 98 rfl ?_
           intro v66 V66 ho66 hg66
           have D66 := DW.grown hg66 DW.size (fun j hj => (KE.blk j hj).1)
           have hS66 := kbw hg66 hHeld KE HbW.out
           rw [List.nil_append] at ho66
           have B66 : Blk V66 bB 98 [.int .i64 (iN : Int), .slice a1 512 c1] := (hg66.block bB KB.lt (fun e5 => hEB (Option.some.inj e5).symm)).trans KB
           refine hK.out _ _ (hS66) (fun hHeld => ?_)
           (try simp only [Act.put, List.setIfInBounds_toArray, List.set_cons_zero, List.set_cons_succ])
           clear hK K
           clear DW KE hg66 hS66 KB hEB
           have DW := D66
           have OA := ho66
           have KB := B66
           clear D66 ho66 B66
           refine rdy1 11 rfl (fun K hK => ?_)
           refine step_appGs V66 (by rfl) _ _ (by rfl) Y.heap.size _ (ls.take k) (by rfl) OA (some ⟨bB, 0, none⟩) 1 1 [(⟨iN, b, a1, c1⟩ : Wg)] (by rfl) (SrcG.one KB H512.out) (by rw [List.length_take]; omega) DW.size 101 rfl ?_
           intro v67 V67 ho67 hg67
           have D67 := DW.grown hg67 DW.size (fun j hj => (OA.blk j hj).1)
           have hS67 := kbw hg67 hHeld OA HbW.out
           refine hK.out _ _ (hS67) (fun hHeld => ?_)
           (try simp only [Act.put, List.setIfInBounds_toArray, List.set_cons_zero, List.set_cons_succ])
           clear hK K
           clear DW OA KB hg67 hS67
           have DW := D67
           have OC := ho67
           clear D67 ho67
           refine rdy1 18 rfl (fun K hK => ?_)
           refine step_appGs V67 (by rfl) _ _ (by rfl) Y.heap.size _ (ls.take k ++ [(⟨iN, b, a1, c1⟩ : Wg)]) (by rfl) OC (cutG a cap k) (n - k) (cap - k) (ls.drop k) (by rfl) ((HT2.out.on DW).src HN.out k hk).2 (by rw [List.length_append, List.length_take, List.length_singleton]; omega) DW.size 108 rfl ?_
           intro v68 V68 ho68 hg68
           have D68 := DW.grown hg68 DW.size (fun j hj => (OC.blk j hj).1)
           have hS68 := kbw hg68 hHeld OC HbW.out
           obtain ⟨a3, c3, ev3, _⟩ := ho68.form
           generalize hLn : (ls.take k ++ [(⟨iN, b, a1, c1⟩ : Wg)] ++ ls.drop k).length = Ln at *
           subst ev3
           have OD := mkHid ho68
           have BU := HUB.out.on D68
           have d1 : V68.cell? ⟨U, 1, none⟩ = some (.slice a n cap) := BU.cell 1
           have f1 := BU.frozen 1
           refine hK.out _ _ (hS68) (fun hHeld => ?_)
           (try simp only [Act.put, List.setIfInBounds_toArray, List.set_cons_zero, List.set_cons_succ])
           clear hK K
           have hbU : bW ≠ U := by have := HUB.out.lt; have := HbU.out; omega
           refine tk 109 19 ?_ rfl (Or.inl ⟨by rfl, ?_⟩) hHeld ?_
           rotate_left
           ·
            intro w hSw; go_simp; with_reducible rfl
           (try simp only [Act.put, List.setIfInBounds_toArray, List.set_cons_zero, List.set_cons_succ])
           refine tk 110 20 ?_ rfl (Or.inl ⟨by rfl, ?_⟩) hHeld ?_
           rotate_left
           ·
            intro w hSw; go_simp; with_reducible rfl
           (try simp only [Act.put, List.setIfInBounds_toArray, List.set_cons_zero, List.set_cons_succ])
           refine rdy1 21 rfl (fun K hK => ?_)
           go_simp
           refine hK.out _ _ (Blk.other hHeld _ _ hbU) (fun _ => ?_)
           (try simp only [Act.put, List.setIfInBounds_toArray, List.set_cons_zero, List.set_cons_succ])
           clear hK K
           refine wpAnyH_done (by kernel_rfl) ?_ _
           refine NoPanic.normal ?_
           have HF := mkHid (HFin.out _ _ _ _ D68 BU OD.out)
           clear d1 f1 BU OD D68 DW OC hg68 hS68 hHeld ho68 hbU
           generalize V68.setCell ⟨U, 1, none⟩ (.slice a3 Ln c3) = Z at *
           go_wp2_with fail
           go_ret
           exact HF.out
        ·
         have hL : V0.cell? ⟨U, 1, none⟩ = some (.slice a n cap) := (HUB.out.on DW).cell 1
         go_simp
         clear hL
         refine hK.out _ _ (hHeld) (fun hHeld => ?_)
         (try simp only [Act.put, List.setIfInBounds_toArray, List.set_cons_zero, List.set_cons_succ])
         clear hK K
         refine tk 97 7 ?_ rfl (Or.inl ⟨by rfl, ?_⟩) hHeld ?_
         rotate_left
         ·
          intro w hSw; go_simp; with_reducible rfl
         (try simp only [Act.put, List.setIfInBounds_toArray, List.set_cons_zero, List.set_cons_succ])
         refine wpAnyH_ready (rs := [1, 10, 15]) (by kernel_rfl) (by simp) ?_
         refine AllReadyH.cons rfl (fun K hK => ?_) (AllReadyH.cons rfl (fun K hK => ?_) (AllReadyH.cons rfl (fun K hK => ?_) AllReadyH.nil))
         ·
          go_simp
          have D70 := DW.alloc DW.size (.cells #[] 98)
          have K70 : OwnG 98 (V0.alloc (.cells #[] 98)) Y.heap.size (.slice (some ⟨V0.heap.size, 0, none⟩) 0 0) [] := OwnG.empty V0 _ DW.size
          refine hK.out _ _ (Blk.alloc hHeld _) (fun hHeld => ?_)
          (try simp only [Act.put, List.setIfInBounds_toArray, List.set_cons_zero, List.set_cons_succ])
          clear hK K
          clear DW
          generalize V0.heap.size = bE at *
          generalize V0.alloc (.cells #[] 98) = V70 at *
          have DW := D70
          have KE := K70
          clear D70 K70
          refine wpAnyH_ready (rs := [8, 10, 15]) (by kernel_rfl) (by simp) ?_
          refine AllReadyH.cons rfl (fun K hK => ?_) (AllReadyH.cons rfl (fun K hK => ?_) (AllReadyH.cons rfl (fun K hK => ?_) AllReadyH.nil))
          ·
           refine step_appGs V70 (by rfl) _ _ (by rfl) Y.heap.size _ [] (by rfl) KE a k cap (ls.take k) (by rfl) ((HT2.out.on DW).src HN.out k hk).1 (by simp only [List.length_nil]; omega) DW.size 98 rfl ?_
           intro v71 V71 ho71 hg71
           have D71 := DW.grown hg71 DW.size (fun j hj => (KE.blk j hj).1)
           have hS71 := kbw hg71 hHeld KE HbW.out
           rw [List.nil_append] at ho71
           refine hK.out _ _ (hS71) (fun hHeld => ?_)
           (try simp only [Act.put, List.setIfInBounds_toArray, List.set_cons_zero, List.set_cons_succ])
           clear hK K
           clear DW KE hg71 hS71
           have DW := D71
           have OA := ho71
           clear D71 ho71
           refine wpAnyH_ready (rs := [10, 15]) (by kernel_rfl) (by simp) ?_
           refine AllReadyH.cons rfl (fun K hK => ?_) (AllReadyH.cons rfl (fun K hK => ?_) AllReadyH.nil)
           ·
            go_simp
            have D72 := DW.alloc DW.size (.cells #[.int .i64 (iN : Int), .slice a1 512 c1] 98)
            have B72 : Blk (V71.alloc (.cells #[.int .i64 (iN : Int), .slice a1 512 c1] 98)) V71.heap.size 98 [.int .i64 (iN : Int), .slice a1 512 c1] := Blk.newAt V71 _ _ _ _ rfl rfl
            have O72 := OA.alloc (.cells #[.int .i64 (iN : Int), .slice a1 512 c1] 98)
            refine hK.out _ _ (Blk.alloc hHeld _) (fun hHeld => ?_)
            (try simp only [Act.put, List.setIfInBounds_toArray, List.set_cons_zero, List.set_cons_succ])
            clear hK K
            clear DW OA
            generalize V71.heap.size = bB at *
            generalize V71.alloc (.cells #[.int .i64 (iN : Int), .slice a1 512 c1] 98) = V72 at *
            have DW := D72
            have KB := B72
            have OA := O72
            clear D72 B72 O72
            refine wpAnyH_ready (rs := [11, 15]) (by kernel_rfl) (by simp) ?_
            refine AllReadyH.cons rfl (fun K hK => ?_) (AllReadyH.cons rfl (fun K hK => ?_) AllReadyH.nil)
            ·
             refine step_appGs V72 (by rfl) _ _ (by rfl) Y.heap.size _ (ls.take k) (by rfl) OA (some ⟨bB, 0, none⟩) 1 1 [(⟨iN, b, a1, c1⟩ : Wg)] (by rfl) (SrcG.one KB H512.out) (by rw [List.length_take]; omega) DW.size 101 rfl ?_
             intro v73 V73 ho73 hg73
             have D73 := DW.grown hg73 DW.size (fun j hj => (OA.blk j hj).1)
             have hS73 := kbw hg73 hHeld OA HbW.out
             refine hK.out _ _ (hS73) (fun hHeld => ?_)
             (try simp only [Act.put, List.setIfInBounds_toArray, List.set_cons_zero, List.set_cons_succ])
             clear hK K
             clear DW OA KB hg73 hS73
             have DW := D73
             have OC := ho73
             clear D73 ho73
             refine rdy1 15 rfl (fun K hK => ?_)
             have hL : V73.cell? ⟨U, 1, none⟩ = some (.slice a n cap) := (HUB.out.on DW).cell 1
             go_simp
             clear hL
             refine hK.out _ _ (hHeld) (fun hHeld => ?_)
             (try simp only [Act.put, List.setIfInBounds_toArray, List.set_cons_zero, List.set_cons_succ])
             clear hK K
             refine tk 107 17 ?_ rfl (Or.inl ⟨by rfl, ?_⟩) hHeld ?_
             rotate_left
             ·
              intro w hSw; go_simp; with_reducible rfl
             (try simp only [Act.put, List.setIfInBounds_toArray, List.set_cons_zero, List.set_cons_succ])
             refine rdy1 18 rfl (fun K hK => ?_)
             refine step_appGs V73 (by rfl) _ _ (by rfl) Y.heap.size _ (ls.take k ++ [(⟨iN, b, a1, c1⟩ : Wg)]) (by rfl) OC (cutG a cap k) (n - k) (cap - k) (ls.drop k) (by rfl) ((HT2.out.on DW).src HN.out k hk).2 (by rw [List.length_append, List.length_take, List.length_singleton]; omega) DW.size 108 rfl ?_
             intro v75 V75 ho75 hg75
             have D75 := DW.grown hg75 DW.size (fun j hj => (OC.blk j hj).1)
             have hS75 := kbw hg75 hHeld OC HbW.out
             obtain ⟨a3, c3, ev3, _⟩ := ho75.form
             generalize hLn : (ls.take k ++ [(⟨iN, b, a1, c1⟩ : Wg)] ++ ls.drop k).length = Ln at *
             subst ev3
             have OD := mkHid ho75
             have BU := HUB.out.on D75
             have d1 : V75.cell? ⟨U, 1, none⟩ = some (.slice a n cap) := BU.cell 1
             have f1 := BU.frozen 1
             refine hK.out _ _ (hS75) (fun hHeld => ?_)
             (try simp only [Act.put, List.setIfInBounds_toArray, List.set_cons_zero, List.set_cons_succ])
             clear hK K
             have hbU : bW ≠ U := by have := HUB.out.lt; have := HbU.out; omega
             refine tk 109 19 ?_ rfl (Or.inl ⟨by rfl, ?_⟩) hHeld ?_
             rotate_left
             ·
              intro w hSw; go_simp; with_reducible rfl
             (try simp only [Act.put, List.setIfInBounds_toArray, List.set_cons_zero, List.set_cons_succ])
             refine tk 110 20 ?_ rfl (Or.inl ⟨by rfl, ?_⟩) hHeld ?_
             rotate_left
             ·
              intro w hSw; go_simp; with_reducible rfl
             (try simp only [Act.put, List.setIfInBounds_toArray, List.set_cons_zero, List.set_cons_succ])
             refine rdy1 21 rfl (fun K hK => ?_)
             go_simp
             refine hK.out _ _ (Blk.other hHeld _ _ hbU) (fun _ => ?_)
             (try simp only [Act.put, List.setIfInBounds_toArray, List.set_cons_zero, List.set_cons_succ])
             clear hK K
             refine wpAnyH_done (by kernel_rfl) ?_ _
             refine NoPanic.normal ?_
             have HF := mkHid (HFin.out _ _ _ _ D75 BU OD.out)
             clear d1 f1 BU OD D75 DW OC hg75 hS75 hHeld ho75 hbU
             generalize V75.setCell ⟨U, 1, none⟩ (.slice a3 Ln c3) = Z at *
             go_wp2_with fail
             go_ret
             exact HF.out
            ·
             have hL : V72.cell? ⟨U, 1, none⟩ = some (.slice a n cap) := (HUB.out.on DW).cell 1
             go_simp
             clear hL
             refine hK.out _ _ (hHeld) (fun hHeld => ?_)
             (try simp only [Act.put, List.setIfInBounds_toArray, List.set_cons_zero, List.set_cons_succ])
             clear hK K
             refine tk 107 17 ?_ rfl (Or.inl ⟨by rfl, ?_⟩) hHeld ?_
             rotate_left
             ·
              intro w hSw; go_simp; with_reducible rfl
             (try simp only [Act.put, List.setIfInBounds_toArray, List.set_cons_zero, List.set_cons_succ])
             refine rdy1 11 rfl (fun K hK => ?_)
             refine step_appGs V72 (by rfl) _ _ (by rfl) Y.heap.size _ (ls.take k) (by rfl) OA (some ⟨bB, 0, none⟩) 1 1 [(⟨iN, b, a1, c1⟩ : Wg)] (by rfl) (SrcG.one KB H512.out) (by rw [List.length_take]; omega) DW.size 101 rfl ?_
             intro v77 V77 ho77 hg77
             have D77 := DW.grown hg77 DW.size (fun j hj => (OA.blk j hj).1)
             have hS77 := kbw hg77 hHeld OA HbW.out
             refine hK.out _ _ (hS77) (fun hHeld => ?_)
             (try simp only [Act.put, List.setIfInBounds_toArray, List.set_cons_zero, List.set_cons_succ])
             clear hK K
             clear DW OA KB hg77 hS77
             have DW := D77
             have OC := ho77
             clear D77 ho77
             refine rdy1 18 rfl (fun K hK => ?_)
             refine step_appGs V77 (by rfl) _ _ (by rfl) Y.heap.size _ (ls.take k ++ [(⟨iN, b, a1, c1⟩ : Wg)]) (by rfl) OC (cutG a cap k) (n - k) (cap - k) (ls.drop k) (by rfl) ((HT2.out.on DW).src HN.out k hk).2 (by rw [List.length_append, List.length_take, List.length_singleton]; omega) DW.size 108 rfl ?_
             intro v78 V78 ho78 hg78
             have D78 := DW.grown hg78 DW.size (fun j hj => (OC.blk j hj).1)
             have hS78 := kbw hg78 hHeld OC HbW.out
             obtain ⟨a3, c3, ev3, _⟩ := ho78.form
             generalize hLn : (ls.take k ++ [(⟨iN, b, a1, c1⟩ : Wg)] ++ ls.drop k).length = Ln at *
             subst ev3
             have OD := mkHid ho78
             have BU := HUB.out.on D78
             have d1 : V78.cell? ⟨U, 1, none⟩ = some (.slice a n cap) := BU.cell 1
             have f1 := BU.frozen 1
             refine hK.out _ _ (hS78) (fun hHeld => ?_)
             (try simp only [Act.put, List.setIfInBounds_toArray, List.set_cons_zero, List.set_cons_succ])
             clear hK K
             have hbU : bW ≠ U := by have := HUB.out.lt; have := HbU.out; omega
             refine tk 109 19 ?_ rfl (Or.inl ⟨by rfl, ?_⟩) hHeld ?_
             rotate_left
             ·
              intro w hSw; go_simp; with_reducible rfl
             (try simp only [Act.put, List.setIfInBounds_toArray, List.set_cons_zero, List.set_cons_succ])
             refine tk 110 20 ?_ rfl (Or.inl ⟨by rfl, ?_⟩) hHeld ?_
             rotate_left
             ·
              intro w hSw; go_simp; with_reducible rfl
             (try simp only [Act.put, List.setIfInBounds_toArray, List.set_cons_zero, List.set_cons_succ])
             refine rdy1 21 rfl (fun K hK => ?_)
             go_simp
             refine hK.out _ _ (Blk.other hHeld _ _ hbU) (fun _ => ?_)
             (try simp only [Act.put, List.setIfInBounds_toArray, List.set_cons_zero, List.set_cons_succ])
             clear hK K
             refine wpAnyH_done (by kernel_rfl) ?_ _
             refine NoPanic.normal ?_
             have HF := mkHid (HFin.out _ _ _ _ D78 BU OD.out)
             clear d1 f1 BU OD D78 DW OC hg78 hS78 hHeld ho78 hbU
             generalize V78.setCell ⟨U, 1, none⟩ (.slice a3 Ln c3) = Z at *
             go_wp2_with fail
             go_ret
             exact HF.out
           ·
            have hL : V71.cell? ⟨U, 1, none⟩ = some (.slice a n cap) := (HUB.out.on DW).cell 1
            go_simp
            clear hL
            refine hK.out _ _ (hHeld) (fun hHeld => ?_)
            (try simp only [Act.put, List.setIfInBounds_toArray, List.set_cons_zero, List.set_cons_succ])
            clear hK K
            refine tk 107 17 ?_ rfl (Or.inl ⟨by rfl, ?_⟩) hHeld ?_
            rotate_left
            ·
             intro w hSw; go_simp; with_reducible rfl
            (try simp only [Act.put, List.setIfInBounds_toArray, List.set_cons_zero, List.set_cons_succ])
            refine rdy1 10 rfl (fun K hK => ?_)
            go_simp
            have D80 := DW.alloc DW.size (.cells #[.int .i64 (iN : Int), .slice a1 512 c1] 98)
            have B80 : Blk (V71.alloc (.cells #[.int .i64 (iN : Int), .slice a1 512 c1] 98)) V71.heap.size 98 [.int .i64 (iN : Int), .slice a1 512 c1] := Blk.newAt V71 _ _ _ _ rfl rfl
            have O80 := OA.alloc (.cells #[.int .i64 (iN : Int), .slice a1 512 c1] 98)
            refine hK.out _ _ (Blk.alloc hHeld _) (fun hHeld => ?_)
            (try simp only [Act.put, List.setIfInBounds_toArray, List.set_cons_zero, List.set_cons_succ])
            clear hK K
            clear DW OA
            generalize V71.heap.size = bB at *
            generalize V71.alloc (.cells #[.int .i64 (iN : Int), .slice a1 512 c1] 98) = V80 at *
            have DW := D80
            have KB := B80
            have OA := O80
            clear D80 B80 O80
            refine rdy1 11 rfl (fun K hK => ?_)
            refine step_appGs V80 (by rfl) _ _ (by rfl) Y.heap.size _ (ls.take k) (by rfl) OA (some ⟨bB, 0, none⟩) 1 1 [(⟨iN, b, a1, c1⟩ : Wg)] (by rfl) (SrcG.one KB H512.out) (by rw [List.length_take]; omega) DW.size 101 rfl ?_
            intro v81 V81 ho81 hg81
            have D81 := DW.grown hg81 DW.size (fun j hj => (OA.blk j hj).1)
            have hS81 := kbw hg81 hHeld OA HbW.out
            refine hK.out _ _ (hS81) (fun hHeld => ?_)
            (try simp only [Act.put, List.setIfInBounds_toArray, List.set_cons_zero, List.set_cons_succ])
            clear hK K
            clear DW OA KB hg81 hS81
            have DW := D81
            have OC := ho81
            clear D81 ho81
            refine rdy1 18 rfl (fun K hK => ?_)
            refine step_appGs V81 (by rfl) _ _ (by rfl) Y.heap.size _ (ls.take k ++ [(⟨iN, b, a1, c1⟩ : Wg)]) (by rfl) OC (cutG a cap k) (n - k) (cap - k) (ls.drop k) (by rfl) ((HT2.out.on DW).src HN.out k hk).2 (by rw [List.length_append, List.length_take, List.length_singleton]; omega) DW.size 108 rfl ?_
            intro v82 V82 ho82 hg82
            have D82 := DW.grown hg82 DW.size (fun j hj => (OC.blk j hj).1)
            have hS82 := kbw hg82 hHeld OC HbW.out
            obtain ⟨a3, c3, ev3, _⟩ := ho82.form
            generalize hLn : (ls.take k ++ [(⟨iN, b, a1, c1⟩ : Wg)] ++ ls.drop k).length = Ln at *
            subst ev3
            have OD := mkHid ho82
            have BU := HUB.out.on D82
            have d1 : V82.cell? ⟨U, 1, none⟩ = some (.slice a n cap) := BU.cell 1
            have f1 := BU.frozen 1
            refine hK.out _ _ (hS82) (fun hHeld => ?_)
            (try simp only [Act.put, List.setIfInBounds_toArray, List.set_cons_zero, List.set_cons_succ])
            clear hK K
            have hbU : bW ≠ U := by have := HUB.out.lt; have := HbU.out; omega
            refine tk 109 19 ?_ rfl (Or.inl ⟨by rfl, ?_⟩) hHeld ?_
            rotate_left
            ·
             intro w hSw; go_simp; with_reducible rfl
            (try simp only [Act.put, List.setIfInBounds_toArray, List.set_cons_zero, List.set_cons_succ])
            refine tk 110 20 ?_ rfl (Or.inl ⟨by rfl, ?_⟩) hHeld ?_
            rotate_left
            ·
             intro w hSw; go_simp; with_reducible rfl
            (try simp only [Act.put, List.setIfInBounds_toArray, List.set_cons_zero, List.set_cons_succ])
            refine rdy1 21 rfl (fun K hK => ?_)
            go_simp
            refine hK.out _ _ (Blk.other hHeld _ _ hbU) (fun _ => ?_)
            (try simp only [Act.put, List.setIfInBounds_toArray, List.set_cons_zero, List.set_cons_succ])
            clear hK K
            refine wpAnyH_done (by kernel_rfl) ?_ _
            refine NoPanic.normal ?_
            have HF := mkHid (HFin.out _ _ _ _ D82 BU OD.out)
            clear d1 f1 BU OD D82 DW OC hg82 hS82 hHeld ho82 hbU
            generalize V82.setCell ⟨U, 1, none⟩ (.slice a3 Ln c3) = Z at *
            go_wp2_with fail
            go_ret
            exact HF.out
          ·
           go_simp
           have D83 := DW.alloc DW.size (.cells #[.int .i64 (iN : Int), .slice a1 512 c1] 98)
           have B83 : Blk (V70.alloc (.cells #[.int .i64 (iN : Int), .slice a1 512 c1] 98)) V70.heap.size 98 [.int .i64 (iN : Int), .slice a1 512 c1] := Blk.newAt V70 _ _ _ _ rfl rfl
           have O83 := KE.alloc (.cells #[.int .i64 (iN : Int), .slice a1 512 c1] 98)
           have hEB : bE ≠ V70.heap.size := Nat.ne_of_lt (KE.blk bE rfl).2
           refine hK.out _ _ (Blk.alloc hHeld _) (fun hHeld => ?_)
           (try simp only [Act.put, List.setIfInBounds_toArray, List.set_cons_zero, List.set_cons_succ])
           clear hK K
           clear DW KE
           generalize V70.heap.size = bB at *
           generalize V70.alloc (.cells #[.int .i64 (iN : Int), .slice a1 512 c1] 98) = V83 at *
           have DW := D83
           have KB := B83
           have KE := O83
           clear D83 B83 O83
           refine wpAnyH_ready (rs := [8, 15]) (by kernel_rfl) (by simp) ?_
           refine AllReadyH.cons rfl (fun K hK => ?_) (AllReadyH.cons rfl (fun K hK => ?_) AllReadyH.nil)
           ·
            refine step_appGs V83 (by rfl) _ _ (by rfl) Y.heap.size _ [] (by rfl) KE a k cap (ls.take k) (by rfl) ((HT2.out.on DW).src HN.out k hk).1 (by simp only [List.length_nil]; omega) DW.size 98 rfl ?_
            intro v84 V84 ho84 hg84
            have D84 := DW.grown hg84 DW.size (fun j hj => (KE.blk j hj).1)
            have hS84 := kbw hg84 hHeld KE HbW.out
            rw [List.nil_append] at ho84
            have B84 : Blk V84 bB 98 [.int .i64 (iN : Int), .slice a1 512 c1] := (hg84.block bB KB.lt (fun e5 => hEB (Option.some.inj e5).symm)).trans KB
            refine hK.out _ _ (hS84) (fun hHeld => ?_)
            (try simp only [Act.put, List.setIfInBounds_toArray, List.set_cons_zero, List.set_cons_succ])
            clear hK K
            clear DW KE hg84 hS84 KB hEB
            have DW := D84
            have OA := ho84
            have KB := B84
            clear D84 ho84 B84
            refine wpAnyH_ready (rs := [11, 15]) (by kernel_rfl) (by simp) ?_
            refine AllReadyH.cons rfl (fun K hK => ?_) (AllReadyH.cons rfl (fun K hK => ?_) AllReadyH.nil)
            ·
             refine step_appGs V84 (by rfl) _ _ (by rfl) Y.heap.size _ (ls.take k) (by rfl) OA (some ⟨bB, 0, none⟩) 1 1 [(⟨iN, b, a1, c1⟩ : Wg)] (by rfl) (SrcG.one KB H512.out) (by rw [List.length_take]; omega) DW.size 101 rfl ?_
             intro v85 V85 ho85 hg85
             have D85 := DW.grown hg85 DW.size (fun j hj => (OA.blk j hj).1)
             have hS85 := kbw hg85 hHeld OA HbW.out
             refine hK.out _ _ (hS85) (fun hHeld => ?_)
             (try simp only [Act.put, List.setIfInBounds_toArray, List.set_cons_zero, List.set_cons_succ])
             clear hK K
             clear DW OA KB hg85 hS85
             have DW := D85
             have OC := ho85
             clear D85 ho85
             refine rdy1 15 rfl (fun K hK => ?_)
             have hL : V85.cell? ⟨U, 1, none⟩ = some (.slice a n cap) := (HUB.out.on DW).cell 1
             go_simp
             clear hL
             refine hK.out _ _ (hHeld) (fun hHeld => ?_)
             (try simp only [Act.put, List.setIfInBounds_toArray, List.set_cons_zero, List.set_cons_succ])
             clear hK K
             refine tk 107 17 ?_ rfl (Or.inl ⟨by rfl, ?_⟩) hHeld ?_
             rotate_left
             ·
              intro w hSw; go_simp; with_reducible rfl
             (try simp only [Act.put, List.setIfInBounds_toArray, List.set_cons_zero, List.set_cons_succ])
             refine rdy1 18 rfl (fun K hK => ?_)
             refine step_appGs V85 (by rfl) _ _ (by rfl) Y.heap.size _ (ls.take k ++ [(⟨iN, b, a1, c1⟩ : Wg)]) (by rfl) OC (cutG a cap k) (n - k) (cap - k) (ls.drop k) (by rfl) ((HT2.out.on DW).src HN.out k hk).2 (by rw [List.length_append, List.length_take, List.length_singleton]; omega) DW.size 108 rfl ?_
             intro v87 V87 ho87 hg87
             have D87 := DW.grown hg87 DW.size (fun j hj => (OC.blk j hj).1)
             have hS87 := kbw hg87 hHeld OC HbW.out
             obtain ⟨a3, c3, ev3, _⟩ := ho87.form
             generalize hLn : (ls.take k ++ [(⟨iN, b, a1, c1⟩ : Wg)] ++ ls.drop k).length = Ln at *
             subst ev3
             have OD := mkHid ho87
             have BU := HUB.out.on D87
             have d1 : V87.cell? ⟨U, 1, none⟩ = some (.slice a n cap) := BU.cell 1
             have f1 := BU.frozen 1
             refine hK.out _ _ (hS87) (fun hHeld => ?_)
             (try simp only [Act.put, List.setIfInBounds_toArray, List.set_cons_zero, List.set_cons_succ])
             clear hK K
             have hbU : bW ≠ U := by have := HUB.out.lt; have := HbU.out; omega
             refine tk 109 19 ?_ rfl (Or.inl ⟨by rfl, ?_⟩) hHeld ?_
             rotate_left
             ·
              intro w hSw; go_simp; with_reducible rfl
             (try simp only [Act.put, List.setIfInBounds_toArray, List.set_cons_zero, List.set_cons_succ])
             refine tk 110 20 ?_ rfl (Or.inl ⟨by rfl, ?_⟩) hHeld ?_
             rotate_left
             ·
              intro w hSw; go_simp; with_reducible rfl
             (try simp only [Act.put, List.setIfInBounds_toArray, List.set_cons_zero, List.set_cons_succ])
             refine rdy1 21 rfl (fun K hK => ?_)
             go_simp
             refine hK.out _ _ (Blk.other hHeld _ _ hbU) (fun _ => ?_)
             (try simp only [Act.put, List.setIfInBounds_toArray, List.set_cons_zero, List.set_cons_succ])
             clear hK K
             refine wpAnyH_done (by kernel_rfl) ?_ _
             refine NoPanic.normal ?_
             have HF := mkHid (HFin.out _ _ _ _ D87 BU OD.out)
             clear d1 f1 BU OD D87 DW OC hg87 hS87 hHeld ho87 hbU
             generalize V87.setCell ⟨U, 1, none⟩ (.slice a3 Ln c3) = Z at *
             go_wp2_with fail
             go_ret
             exact HF.out
            ·
             have hL : V84.cell? ⟨U, 1, none⟩ = some (.slice a n cap) := (HUB.out.on DW).cell 1
             go_simp
             clear hL
             refine hK.out _ _ (hHeld) (fun hHeld => ?_)
             (try simp only [Act.put, List.setIfInBounds_toArray, List.set_cons_zero, List.set_cons_succ])
             clear hK K
             refine tk 107 17 ?_ rfl (Or.inl ⟨by rfl, ?_⟩) hHeld ?_
             rotate_left
             ·
              intro w hSw; go_simp; with_reducible rfl
             (try simp only [Act.put, List.setIfInBounds_toArray, List.set_cons_zero, List.set_cons_succ])
             refine rdy1 11 rfl (fun K hK => ?_)
             refine step_appGs V84 (by rfl) _ _ (by rfl) Y.heap.size _ (ls.take k) (by rfl) OA (some ⟨bB, 0, none⟩) 1 1 [(⟨iN, b, a1, c1⟩ : Wg)] (by rfl) (SrcG.one KB H512.out) (by rw [List.length_take]; omega) DW.size 101 rfl ?_
             intro v89 V89 ho89 hg89
             have D89 := DW.grown hg89 DW.size (fun j hj => (OA.blk j hj).1)
             have hS89 := kbw hg89 hHeld OA HbW.out
             refine hK.out _ _ (hS89) (fun hHeld => ?_)
             (try simp only [Act.put, List.setIfInBounds_toArray, List.set_cons_zero, List.set_cons_succ])
             clear hK K
             clear DW OA KB hg89 hS89
             have DW := D89
             have OC := ho89
             clear D89 ho89
             refine rdy1 18 rfl (fun K hK => ?_)
             refine step_appGs V89 (by rfl) _ _ (by rfl) Y.heap.size _ (ls.take k ++ [(⟨iN, b, a1, c1⟩ : Wg)]) (by rfl) OC (cutG a cap k) (n - k) (cap - k) (ls.drop k) (by rfl) ((HT2.out.on DW).src HN.out k hk).2 (by rw [List.length_append, List.length_take, List.length_singleton]; omega) DW.size 108 rfl ?_
             intro v90 V90 ho90 hg90
             have D90 := DW.grown hg90 DW.size (fun j hj => (OC.blk j hj).1)
             have hS90 := kbw hg90 hHeld OC HbW.out
             obtain ⟨a3, c3, ev3, _⟩ := ho90.form
             generalize hLn : (ls.take k ++ [(⟨iN, b, a1, c1⟩ : Wg)] ++ ls.drop k).length = Ln at *
             subst ev3
             have OD := mkHid ho90
             have BU := HUB.out.on D90
             have d1 : V90.cell? ⟨U, 1, none⟩ = some (.slice a n cap) := BU.cell 1
             have f1 := BU.frozen 1
             refine hK.out _ _ (hS90) (fun hHeld => ?_)
             (try simp only [Act.put, List.setIfInBounds_toArray, List.set_cons_zero, List.set_cons_succ])
             clear hK K
             have hbU : bW ≠ U := by have := HUB.out.lt; have := HbU.out; omega
             refine tk 109 19 ?_ rfl (Or.inl ⟨by rfl, ?_⟩) hHeld ?_
             rotate_left
             ·
              intro w hSw; go_simp; with_reducible rfl
             (try simp only [Act.put, List.setIfInBounds_toArray, List.set_cons_zero, List.set_cons_succ])
             refine tk 110 20 ?_ rfl (Or.inl ⟨by rfl, ?_⟩) hHeld ?_
             rotate_left
             ·
              intro w hSw; go_simp; with_reducible rfl
             (try simp only [Act.put, List.setIfInBounds_toArray, List.set_cons_zero, List.set_cons_succ])
             refine rdy1 21 rfl (fun K hK => ?_)
             go_simp
             refine hK.out _ _ (Blk.other hHeld _ _ hbU) (fun _ => ?_)
             (try simp only [Act.put, List.setIfInBounds_toArray, List.set_cons_zero, List.set_cons_succ])
             clear hK K
             refine wpAnyH_done (by kernel_rfl) ?_ _
             refine NoPanic.normal ?_
             have HF := mkHid (HFin.out _ _ _ _ D90 BU OD.out)
             clear d1 f1 BU OD D90 DW OC hg90 hS90 hHeld ho90 hbU
             generalize V90.setCell ⟨U, 1, none⟩ (.slice a3 Ln c3) = Z at *
             go_wp2_with fail
             go_ret
             exact HF.out
           ·
            have hL : V83.cell? ⟨U, 1, none⟩ = some (.slice a n cap) := (HUB.out.on DW).cell 1
            go_simp
            clear hL
            refine hK.out _ _ (hHeld) (fun hHeld => ?_)
            (try simp only [Act.put, List.setIfInBounds_toArray, List.set_cons_zero, List.set_cons_succ])
            clear hK K
            refine tk 107 17 ?_ rfl (Or.inl ⟨by rfl, ?_⟩) hHeld ?_
            rotate_left
            ·
             intro w hSw; go_simp; with_reducible rfl
            (try simp only [Act.put, List.setIfInBounds_toArray, List.set_cons_zero, List.set_cons_succ])
            refine rdy1 8 rfl (fun K hK => ?_)
            refine step_appGs V83 (by rfl) _ _ (by rfl) Y.heap.size _ [] (by rfl) KE a k cap (ls.take k) (by rfl) ((HT2.out.on DW).src HN.out k hk).1 (by simp only [List.length_nil]; omega) DW.size 98 rfl ?_
            intro v92 V92 ho92 hg92
            have D92 := DW.grown hg92 DW.size (fun j hj => (KE.blk j hj).1)
            have hS92 := kbw hg92 hHeld KE HbW.out
            rw [List.nil_append] at ho92
            have B92 : Blk V92 bB 98 [.int .i64 (iN : Int), .slice a1 512 c1] := (hg92.block bB KB.lt (fun e5 => hEB (Option.some.inj e5).symm)).trans KB
            refine hK.out _ _ (hS92) (fun hHeld => ?_)
            (try simp only [Act.put, List.setIfInBounds_toArray, List.set_cons_zero, List.set_cons_succ])
            clear hK K
            clear DW KE hg92 hS92 KB hEB
            have DW := D92
            have OA := ho92
            have KB := B92
            clear D92 ho92 B92
            refine rdy1 11 rfl (fun K hK => ?_)
            refine step_appGs V92 (by rfl) _ _ (by rfl) Y.heap.size _ (ls.take k) (by rfl) OA (some ⟨bB, 0, none⟩) 1 1 [(⟨iN, b, a1, c1⟩ : Wg)] (by rfl) (SrcG.one KB H512.out) (by rw [List.length_take]; omega) DW.size 101 rfl ?_
            intro v93 V93 ho93 hg93
            have D93 := DW.grown hg93 DW.size (fun j hj => (OA.blk j hj).1)
            have hS93 := kbw hg93 hHeld OA HbW.out
            refine hK.out _ _ (hS93) (fun hHeld => ?_)
            (try simp only [Act.put, List.setIfInBounds_toArray, List.set_cons_zero, List.set_cons_succ])
            clear hK K
            clear DW OA KB hg93 hS93
            have DW := D93
            have OC := ho93
            clear D93 ho93
            refine rdy1 18 rfl (fun K hK => ?_)
            refine step_appGs V93 (by rfl) _ _ (by rfl) Y.heap.size _ (ls.take k ++ [(⟨iN, b, a1, c1⟩ : Wg)]) (by rfl) OC (cutG a cap k) (n - k) (cap - k) (ls.drop k) (by rfl) ((HT2.out.on DW).src HN.out k hk).2 (by rw [List.length_append, List.length_take, List.length_singleton]; omega) DW.size 108 rfl ?_
            intro v94 V94 ho94 hg94
            have D94 := DW.grown hg94 DW.size (fun j hj => (OC.blk j hj).1)
            have hS94 := kbw hg94 hHeld OC HbW.out
            obtain ⟨a3, c3, ev3, _⟩ := ho94.form
            generalize hLn : (ls.take k ++ [(⟨iN, b, a1, c1⟩ : Wg)] ++ ls.drop k).length = Ln at *
            subst ev3
            have OD := mkHid ho94
            have BU := HUB.out.on D94
            have d1 : V94.cell? ⟨U, 1, none⟩ = some (.slice a n cap) := BU.cell 1
            have f1 := BU.frozen 1
            refine hK.out _ _ (hS94) (fun hHeld => ?_)
            (try simp only [Act.put, List.setIfInBounds_toArray, List.set_cons_zero, List.set_cons_succ])
            clear hK K
            have hbU : bW ≠ U := by have := HUB.out.lt; have := HbU.out; omega
            refine tk 109 19 ?_ rfl (Or.inl ⟨by rfl, ?_⟩) hHeld ?_
            rotate_left
            ·
             intro w hSw; go_simp; with_reducible rfl
            (try simp only [Act.put, List.setIfInBounds_toArray, List.set_cons_zero, List.set_cons_succ])
            refine tk 110 20 ?_ rfl (Or.inl ⟨by rfl, ?_⟩) hHeld ?_
            rotate_left
            ·
             intro w hSw; go_simp; with_reducible rfl
            (try simp only [Act.put, List.setIfInBounds_toArray, List.set_cons_zero, List.set_cons_succ])
            refine rdy1 21 rfl (fun K hK => ?_)
            go_simp
            refine hK.out _ _ (Blk.other hHeld _ _ hbU) (fun _ => ?_)
            (try simp only [Act.put, List.setIfInBounds_toArray, List.set_cons_zero, List.set_cons_succ])
            clear hK K
            refine wpAnyH_done (by kernel_rfl) ?_ _
            refine NoPanic.normal ?_
            have HF := mkHid (HFin.out _ _ _ _ D94 BU OD.out)
            clear d1 f1 BU OD D94 DW OC hg94 hS94 hHeld ho94 hbU
            generalize V94.setCell ⟨U, 1, none⟩ (.slice a3 Ln c3) = Z at *
            go_wp2_with fail
            go_ret
            exact HF.out
          ·
           have hL : V70.cell? ⟨U, 1, none⟩ = some (.slice a n cap) := (HUB.out.on DW).cell 1
           go_simp
           clear hL
           refine hK.out _ _ (hHeld) (fun hHeld => ?_)
           (try simp only [Act.put, List.setIfInBounds_toArray, List.set_cons_zero, List.set_cons_succ])
           clear hK K
           refine tk 107 17 ?_ rfl (Or.inl ⟨by rfl, ?_⟩) hHeld ?_
           rotate_left
           ·
            intro w hSw; go_simp; with_reducible rfl
           (try simp only [Act.put, List.setIfInBounds_toArray, List.set_cons_zero, List.set_cons_succ])
           refine wpAnyH_ready (rs := [8, 10]) (by kernel_rfl) (by simp) ?_
           refine AllReadyH.cons rfl (fun K hK => ?_) (AllReadyH.cons rfl (fun K hK => ?_) AllReadyH.nil)
           ·
            refine step_appGs V70 (by rfl) _ _ (by rfl) Y.heap.size _ [] (by rfl) KE a k cap (ls.take k) (by rfl) ((HT2.out.on DW).src HN.out k hk).1 (by simp only [List.length_nil]; omega) DW.size 98 rfl ?_
            intro v96 V96 ho96 hg96
            have D96 := DW.grown hg96 DW.size (fun j hj => (KE.blk j hj).1)
            have hS96 := kbw hg96 hHeld KE HbW.out
            rw [List.nil_append] at ho96
            refine hK.out _ _ (hS96) (fun hHeld => ?_)
            (try simp only [Act.put, List.setIfInBounds_toArray, List.set_cons_zero, List.set_cons_succ])
            clear hK K
            clear DW KE hg96 hS96
            have DW := D96
            have OA := ho96
            clear D96 ho96
            refine rdy1 10 rfl (fun K hK => ?_)
            go_simp
            have D97 := DW.alloc DW.size (.cells #[.int .i64 (iN : Int), .slice a1 512 c1] 98)
            have B97 : Blk (V96.alloc (.cells #[.int .i64 (iN : Int), .slice a1 512 c1] 98)) V96.heap.size 98 [.int .i64 (iN : Int), .slice a1 512 c1] := Blk.newAt V96 _ _ _ _ rfl rfl
            have O97 := OA.alloc (.cells #[.int .i64 (iN : Int), .slice a1 512 c1] 98)
            refine hK.out _ _ (Blk.alloc hHeld _) (fun hHeld => ?_)
            (try simp only [Act.put, List.setIfInBounds_toArray, List.set_cons_zero, List.set_cons_succ])
            clear hK K
            clear DW OA
            generalize V96.heap.size = bB at *
            generalize V96.alloc (.cells #[.int .i64 (iN : Int), .slice a1 512 c1] 98) = V97 at *
            have DW := D97
            have KB := B97
            have OA := O97
            clear D97 B97 O97
            refine rdy1 11 rfl (fun K hK => ?_)
            refine step_appGs V97 (by rfl) _ _ (by rfl) Y.heap.size _ (ls.take k) (by rfl) OA (some ⟨bB, 0, none⟩) 1 1 [(⟨iN, b, a1, c1⟩ : Wg)] (by rfl) (SrcG.one KB H512.out) (by rw [List.length_take]; omega) DW.size 101 rfl ?_
            intro v98 V98 ho98 hg98
            have D98 := DW.grown hg98 DW.size (fun j hj => (OA.blk j hj).1)
            have hS98 := kbw hg98 hHeld OA HbW.out
            refine hK.out _ _ (hS98) (fun hHeld => ?_)
            (try simp only [Act.put, List.setIfInBounds_toArray, List.set_cons_zero, List.set_cons_succ])
            clear hK K
            clear DW OA KB hg98 hS98
            have DW := D98
            have OC := ho98
            clear D98 ho98
            refine rdy1 18 rfl (fun K hK => ?_)
            refine step_appGs V98 (by rfl) _ _ (by rfl) Y.heap.size _ (ls.take k ++ [(⟨iN, b, a1, c1⟩ : Wg)]) (by rfl) OC (cutG a cap k) (n - k) (cap - k) (ls.drop k) (by rfl) ((HT2.out.on DW).src HN.out k hk).2 (by rw [List.length_append, List.length_take, List.length_singleton]; omega) DW.size 108 rfl ?_
            intro v99 V99 ho99 hg99
            have D99 := DW.grown hg99 DW.size (fun j hj => (OC.blk j hj).1)
            have hS99 := kbw hg99 hHeld OC HbW.out
            obtain ⟨a3, c3, ev3, _⟩ := ho99.form
            generalize hLn : (ls.take k ++ [(⟨iN, b, a1, c1⟩ : Wg)] ++ ls.drop k).length = Ln at *
            subst ev3
            have OD := mkHid ho99
            have BU := HUB.out.on D99
            have d1 : V99.cell? ⟨U, 1, none⟩ = some (.slice a n cap) := BU.cell 1
            have f1 := BU.frozen 1
            refine hK.out _ _ (hS99) (fun hHeld => ?_)
            (try simp only [Act.put, List.setIfInBounds_toArray, List.set_cons_zero, List.set_cons_succ])
            clear hK K
            have hbU : bW ≠ U := by have := HUB.out.lt; have := HbU.out; omega
            refine tk 109 19 ?_ rfl (Or.inl ⟨by rfl, ?_⟩) hHeld ?_
            rotate_left
            ·
             intro w hSw; go_simp; with_reducible rfl
            (try simp only [Act.put, List.setIfInBounds_toArray, List.set_cons_zero, List.set_cons_succ])
            refine tk 110 20 ?_ rfl (Or.inl ⟨by rfl, ?_⟩) hHeld ?_
            rotate_left
            ·
             intro w hSw; go_simp; with_reducible rfl
            (try simp only [Act.put, List.setIfInBounds_toArray, List.set_cons_zero, List.set_cons_succ])
            refine rdy1 21 rfl (fun K hK => ?_)
            go_simp
            refine hK.out _ _ (Blk.other hHeld _ _ hbU) (fun _ => ?_)
            (try simp only [Act.put, List.setIfInBounds_toArray, List.set_cons_zero, List.set_cons_succ])
            clear hK K
            refine wpAnyH_done (by kernel_rfl) ?_ _
            refine NoPanic.normal ?_
            have HF := mkHid (HFin.out _ _ _ _ D99 BU OD.out)
            clear d1 f1 BU OD D99 DW OC hg99 hS99 hHeld ho99 hbU
            generalize V99.setCell ⟨U, 1, none⟩ (.slice a3 Ln c3) = Z at *
            go_wp2_with fail
            go_ret
            exact HF.out
           ·
            go_simp
            have D100 := DW.alloc DW.size (.cells #[.int .i64 (iN : Int), .slice a1 512 c1] 98)
            have B100 : Blk (V70.alloc (.cells #[.int .i64 (iN : Int), .slice a1 512 c1] 98)) V70.heap.size 98 [.int .i64 (iN : Int), .slice a1 512 c1] := Blk.newAt V70 _ _ _ _ rfl rfl
            have O100 := KE.alloc (.cells #[.int .i64 (iN : Int), .slice a1 512 c1] 98)
            have hEB : bE ≠ V70.heap.size := Nat.ne_of_lt (KE.blk bE rfl).2
            refine hK.out _ _ (Blk.alloc hHeld _) (fun hHeld => ?_)
            (try simp only [Act.put, List.setIfInBounds_toArray, List.set_cons_zero, List.set_cons_succ])
            clear hK K
            clear DW KE
            generalize V70.heap.size = bB at *
            generalize V70.alloc (.cells #[.int .i64 (iN : Int), .slice a1 512 c1] 98) = V100 at *
            have DW := D100
            have KB := B100
            have KE := O100
            clear D100 B100 O100
            refine rdy1 8 rfl (fun K hK => ?_)
            refine step_appGs V100 (by rfl) _ _ (by rfl) Y.heap.size _ [] (by rfl) KE a k cap (ls.take k) (by rfl) ((HT2.out.on DW).src HN.out k hk).1 (by simp only [List.length_nil]; omega) DW.size 98 rfl ?_
            intro v101 V101 ho101 hg101
            have D101 := DW.grown hg101 DW.size (fun j hj => (KE.blk j hj).1)
            have hS101 := kbw hg101 hHeld KE HbW.out
            rw [List.nil_append] at ho101
            have B101 : Blk V101 bB 98 [.int .i64 (iN : Int), .slice a1 512 c1] := (hg101.block bB KB.lt (fun e5 => hEB (Option.some.inj e5).symm)).trans KB
            refine hK.out _ _ (hS101) (fun hHeld => ?_)
            (try simp only [Act.put, List.setIfInBounds_toArray, List.set_cons_zero, List.set_cons_succ])
            clear hK K
            clear DW KE hg101 hS101 KB hEB
            have DW := D101
            have OA := ho101
            have KB := B101
            clear D101 ho101 B101
            refine rdy1 11 rfl (fun K hK => ?_)
            refine step_appGs V101 (by rfl) _ _ (by rfl) Y.heap.size _ (ls.take k) (by rfl) OA (some ⟨bB, 0, none⟩) 1 1 [(⟨iN, b, a1, c1⟩ : Wg)] (by rfl) (SrcG.one KB H512.out) (by rw [List.length_take]; omega) DW.size 101 rfl ?_
            intro v102 V102 ho102 hg102
            have D102 := DW.grown hg102 DW.size (fun j hj => (OA.blk j hj).1)
            have hS102 := kbw hg102 hHeld OA HbW.out
            refine hK.out _ _ (hS102) (fun hHeld => ?_)
            (try simp only [Act.put, List.setIfInBounds_toArray, List.set_cons_zero, List.set_cons_succ])
            clear hK K
            clear DW OA KB hg102 hS102
            have DW := D102
            have OC := ho102
            clear D102 ho102
            refine rdy1 18 rfl (fun K hK => ?_)
            refine step_appGs V102 (by rfl) _ _ (by rfl) Y.heap.size _ (ls.take k ++ [(⟨iN, b, a1, c1⟩ : Wg)]) (by rfl) OC (cutG a cap k) (n - k) (cap - k) (ls.drop k) (by rfl) ((HT2.out.on DW).src HN.out k hk).2 (by rw [List.length_append, List.length_take, List.length_singleton]; omega) DW.size 108 rfl ?_
            intro v103 V103 ho103 hg103
            have D103 := DW.grown hg103 DW.size (fun j hj => (OC.blk j hj).1)
            have hS103 := kbw hg103 hHeld OC HbW.out
            obtain ⟨a3, c3, ev3, _⟩ := ho103.form
            generalize hLn : (ls.take k ++ [(⟨iN, b, a1, c1⟩ : Wg)] ++ ls.drop k).length = Ln at *
            subst ev3
            have OD := mkHid ho103
            have BU := HUB.out.on D103
            have d1 : V103.cell? ⟨U, 1, none⟩ = some (.slice a n cap) := BU.cell 1
            have f1 := BU.frozen 1
            refine hK.out _ _ (hS103) (fun hHeld => ?_)
            (try simp only [Act.put, List.setIfInBounds_toArray, List.set_cons_zero, List.set_cons_succ])
            clear hK K
            have hbU : bW ≠ U := by have := HUB.out.lt; have := HbU.out; omega
            refine tk 109 19 ?_ rfl (Or.inl ⟨by rfl, ?_⟩) hHeld ?_
            rotate_left
            ·
             intro w hSw; go_simp; with_reducible rfl
            (try simp only [Act.put, List.setIfInBounds_toArray, List.set_cons_zero, List.set_cons_succ])
            refine tk 110 20 ?_ rfl (Or.inl ⟨by rfl, ?_⟩) hHeld ?_
            rotate_left
            ·
             intro w hSw; go_simp; with_reducible rfl
            (try simp only [Act.put, List.setIfInBounds_toArray, List.set_cons_zero, List.set_cons_succ])
            refine rdy1 21 rfl (fun K hK => ?_)
            go_simp
            refine hK.out _ _ (Blk.other hHeld _ _ hbU) (fun _ => ?_)
            (try simp only [Act.put, List.setIfInBounds_toArray, List.set_cons_zero, List.set_cons_succ])
            clear hK K
            refine wpAnyH_done (by kernel_rfl) ?_ _
            refine NoPanic.normal ?_
            have HF := mkHid (HFin.out _ _ _ _ D103 BU OD.out)
            clear d1 f1 BU OD D103 DW OC hg103 hS103 hHeld ho103 hbU
            generalize V103.setCell ⟨U, 1, none⟩ (.slice a3 Ln c3) = Z at *
            go_wp2_with fail
            go_ret
            exact HF.out
         ·
          go_simp
          have D104 := DW.alloc DW.size (.cells #[.int .i64 (iN : Int), .slice a1 512 c1] 98)
          have B104 : Blk (V0.alloc (.cells #[.int .i64 (iN : Int), .slice a1 512 c1] 98)) V0.heap.size 98 [.int .i64 (iN : Int), .slice a1 512 c1] := Blk.newAt V0 _ _ _ _ rfl rfl
          refine hK.out _ _ (Blk.alloc hHeld _) (fun hHeld => ?_)
          (try simp only [Act.put, List.setIfInBounds_toArray, List.set_cons_zero, List.set_cons_succ])
          clear hK K
          clear DW
          generalize V0.heap.size = bB at *
          generalize V0.alloc (.cells #[.int .i64 (iN : Int), .slice a1 512 c1] 98) = V104 at *
          have DW := D104
          have KB := B104
          clear D104 B104
          refine wpAnyH_ready (rs := [1, 15]) (by kernel_rfl) (by simp) ?_
          refine AllReadyH.cons rfl (fun K hK => ?_) (AllReadyH.cons rfl (fun K hK => ?_) AllReadyH.nil)
          ·
           go_simp
           have D105 := DW.alloc DW.size (.cells #[] 98)
           have K105 : OwnG 98 (V104.alloc (.cells #[] 98)) Y.heap.size (.slice (some ⟨V104.heap.size, 0, none⟩) 0 0) [] := OwnG.empty V104 _ DW.size
           have B105 := KB.alloc (.cells #[] 98)
           have hEB : V104.heap.size ≠ bB := Nat.ne_of_gt KB.lt
           refine hK.out _ _ (Blk.alloc hHeld _) (fun hHeld => ?_)
           (try simp only [Act.put, List.setIfInBounds_toArray, List.set_cons_zero, List.set_cons_succ])
           clear hK K
           clear DW KB
           generalize V104.heap.size = bE at *
           generalize V104.alloc (.cells #[] 98) = V105 at *
           have DW := D105
           have KE := K105
           have KB := B105
           clear D105 K105 B105
           refine wpAnyH_ready (rs := [8, 15]) (by kernel_rfl) (by simp) ?_
           refine AllReadyH.cons rfl (fun K hK => ?_) (AllReadyH.cons rfl (fun K hK => ?_) AllReadyH.nil)
           ·
            refine step_appGs V105 (by rfl) _ _ (by rfl) Y.heap.size _ [] (by rfl) KE a k cap (ls.take k) (by rfl) ((HT2.out.on DW).src HN.out k hk).1 (by simp only [List.length_nil]; omega) DW.size 98 rfl ?_
            intro v106 V106 ho106 hg106
            have D106 := DW.grown hg106 DW.size (fun j hj => (KE.blk j hj).1)
            have hS106 := kbw hg106 hHeld KE HbW.out
            rw [List.nil_append] at ho106
            have B106 : Blk V106 bB 98 [.int .i64 (iN : Int), .slice a1 512 c1] := (hg106.block bB KB.lt (fun e5 => hEB (Option.some.inj e5).symm)).trans KB
            refine hK.out _ _ (hS106) (fun hHeld => ?_)
            (try simp only [Act.put, List.setIfInBounds_toArray, List.set_cons_zero, List.set_cons_succ])
            clear hK K
            clear DW KE hg106 hS106 KB hEB
            have DW := D106
            have OA := ho106
            have KB := B106
            clear D106 ho106 B106
            refine wpAnyH_ready (rs := [11, 15]) (by kernel_rfl) (by simp) ?_
            refine AllReadyH.cons rfl (fun K hK => ?_) (AllReadyH.cons rfl (fun K hK => ?_) AllReadyH.nil)
            ·
             refine step_appGs V106 (by rfl) _ _ (by rfl) Y.heap.size _ (ls.take k) (by rfl) OA (some ⟨bB, 0, none⟩) 1 1 [(⟨iN, b, a1, c1⟩ : Wg)] (by rfl) (SrcG.one KB H512.out) (by rw [List.length_take]; omega) DW.size 101 rfl ?_
             intro v107 V107 ho107 hg107
             have D107 := DW.grown hg107 DW.size (fun j hj => (OA.blk j hj).1)
             have hS107 := kbw hg107 hHeld OA HbW.out
             refine hK.out _ _ (hS107) (fun hHeld => ?_)
             (try simp only [Act.put, List.setIfInBounds_toArray, List.set_cons_zero, List.set_cons_succ])
             clear hK K
             clear DW OA KB hg107 hS107
             have DW := D107
             have OC := ho107
             clear D107 ho107
             refine rdy1 15 rfl (fun K hK => ?_)
             have hL : V107.cell? ⟨U, 1, none⟩ = some (.slice a n cap) := (HUB.out.on DW).cell 1
             go_simp
             clear hL
             refine hK.out _ _ (hHeld) (fun hHeld => ?_)
             (try simp only [Act.put, List.setIfInBounds_toArray, List.set_cons_zero, List.set_cons_succ])
             clear hK K
             refine tk 107 17 ?_ rfl (Or.inl ⟨by rfl, ?_⟩) hHeld ?_
             rotate_left
             ·
              intro w hSw; go_simp; with_reducible rfl
             (try simp only [Act.put, List.setIfInBounds_toArray, List.set_cons_zero, List.set_cons_succ])
             refine rdy1 18 rfl (fun K hK => ?_)
             refine step_appGs V107 (by rfl) _ _ (by rfl) Y.heap.size _ (ls.take k ++ [(⟨iN, b, a1, c1⟩ : Wg)]) (by rfl) OC (cutG a cap k) (n - k) (cap - k) (ls.drop k) (by rfl) ((HT2.out.on DW).src HN.out k hk).2 (by rw [List.length_append, List.length_take, List.length_singleton]; omega) DW.size 108 rfl ?_
             intro v109 V109 ho109 hg109
             have D109 := DW.grown hg109 DW.size (fun j hj => (OC.blk j hj).1)
             have hS109 := kbw hg109 hHeld OC HbW.out
             obtain ⟨a3, c3, ev3, _⟩ := ho109.form
             generalize hLn : (ls.take k ++ [(⟨iN, b, a1, c1⟩ : Wg)] ++ ls.drop k).length = Ln at *
             subst ev3
             have OD := mkHid ho109
             have BU := HUB.out.on D109
             have d1 : V109.cell? ⟨U, 1, none⟩ = some (.slice a n cap) := BU.cell 1
             have f1 := BU.frozen 1
             refine hK.out _ _ (hS109) (fun hHeld => ?_)
             (try simp only [Act.put, List.setIfInBounds_toArray, List.set_cons_zero, List.set_cons_succ])
             clear hK K
             have hbU : bW ≠ U := by have := HUB.out.lt; have := HbU.out; omega
             refine tk 109 19 ?_ rfl (Or.inl ⟨by rfl, ?_⟩) hHeld ?_
             rotate_left
             ·
              intro w hSw; go_simp; with_reducible rfl
             (try simp only [Act.put, List.setIfInBounds_toArray, List.set_cons_zero, List.set_cons_succ])
             refine tk 110 20 ?_ rfl (Or.inl ⟨by rfl, ?_⟩) hHeld ?_
             rotate_left
             ·
              intro w hSw; go_simp; with_reducible rfl
             (try simp only [Act.put, List.setIfInBounds_toArray, List.set_cons_zero, List.set_cons_succ])
             refine rdy1 21 rfl (fun K hK => ?_)
             go_simp
             refine hK.out _ _ (Blk.other hHeld _ _ hbU) (fun _ => ?_)
             (try simp only [Act.put, List.setIfInBounds_toArray, List.set_cons_zero, List.set_cons_succ])
             clear hK K
             refine wpAnyH_done (by kernel_rfl) ?_ _
             refine NoPanic.normal ?_
             have HF := mkHid (HFin.out _ _ _ _ D109 BU OD.out)
             clear d1 f1 BU OD D109 DW OC hg109 hS109 hHeld ho109 hbU
             generalize V109.setCell ⟨U, 1, none⟩ (.slice a3 Ln c3) = Z at *
             go_wp2_with fail
             go_ret
             exact HF.out
            ·
             have hL : V106.cell? ⟨U, 1, none⟩ = some (.slice a n cap) := (HUB.out.on DW).cell 1
             go_simp
             clear hL
             refine hK.out _ _ (hHeld) (fun hHeld => ?_)
             (try simp only [Act.put, List.setIfInBounds_toArray, List.set_cons_zero, List.set_cons_succ])
             clear hK K
             refine tk 107 17 ?_ rfl (Or.inl ⟨by rfl, ?_⟩) hHeld ?_
             rotate_left
             ·
              intro w hSw; go_simp; with_reducible rfl
             (try simp only [Act.put, List.setIfInBounds_toArray, List.set_cons_zero, List.set_cons_succ])
             refine rdy1 11 rfl (fun K hK => ?_)
             refine step_appGs V106 (by rfl) _ _ (by rfl) Y.heap.size _ (ls.take k) (by rfl) OA (some ⟨bB, 0, none⟩) 1 1 [(⟨iN, b, a1, c1⟩ : Wg)] (by rfl) (SrcG.one KB H512.out) (by rw [List.length_take]; omega) DW.size 101 rfl ?_
             intro v111 V111 ho111 hg111
             have D111 := DW.grown hg111 DW.size (fun j hj => (OA.blk j hj).1)
             have hS111 := kbw hg111 hHeld OA HbW.out
             refine hK.out _ _ (hS111) (fun hHeld => ?_)
             (try simp only [Act.put, List.setIfInBounds_toArray, List.set_cons_zero, List.set_cons_succ])
             clear hK K
             clear DW OA KB hg111 hS111
             have DW := D111
             have OC := ho111
             clear D111 ho111
             refine rdy1 18 rfl (fun K hK => ?_)
             refine step_appGs V111 (by rfl) _ _ (by rfl) Y.heap.size _ (ls.take k ++ [(⟨iN, b, a1, c1⟩ : Wg)]) (by rfl) OC (cutG a cap k) (n - k) (cap - k) (ls.drop k) (by rfl) ((HT2.out.on DW).src HN.out k hk).2 (by rw [List.length_append, List.length_take, List.length_singleton]; omega) DW.size 108 rfl ?_
             intro v112 V112 ho112 hg112
             have D112 := DW.grown hg112 DW.size (fun j hj => (OC.blk j hj).1)
             have hS112 := kbw hg112 hHeld OC HbW.out
             obtain ⟨a3, c3, ev3, _⟩ := ho112.form
             generalize hLn : (ls.take k ++ [(⟨iN, b, a1, c1⟩ : Wg)] ++ ls.drop k).length = Ln at *
             subst ev3
             have OD := mkHid ho112
             have BU := HUB.out.on D112
             have d1 : V112.cell? ⟨U, 1, none⟩ = some (.slice a n cap) := BU.cell 1
             have f1 := BU.frozen 1
             refine hK.out _ _ (hS112) (fun hHeld => ?_)
             (try simp only [Act.put, List.setIfInBounds_toArray, List.set_cons_zero, List.set_cons_succ])
             clear hK K
             have hbU : bW ≠ U := by have := HUB.out.lt; have := HbU.out; omega
             refine tk 109 19 ?_ rfl (Or.inl ⟨by rfl, ?_⟩) hHeld ?_
             rotate_left
             ·
              intro w hSw; go_simp; with_reducible rfl
             (try simp only [Act.put, List.setIfInBounds_toArray, List.set_cons_zero, List.set_cons_succ])
             refine tk 110 20 ?_ rfl (Or.inl ⟨by rfl, ?_⟩) hHeld ?_
             rotate_left
             ·
              intro w hSw; go_simp; with_reducible rfl
             (try simp only [Act.put, List.setIfInBounds_toArray, List.set_cons_zero, List.set_cons_succ])
             refine rdy1 21 rfl (fun K hK => ?_)
             go_simp
             refine hK.out _ _ (Blk.other hHeld _ _ hbU) (fun _ => ?_)
             (try simp only [Act.put, List.setIfInBounds_toArray, List.set_cons_zero, List.set_cons_succ])
             clear hK K
             refine wpAnyH_done (by kernel_rfl) ?_ _
             refine NoPanic.normal ?_
             have HF := mkHid (HFin.out _ _ _ _ D112 BU OD.out)
             clear d1 f1 BU OD D112 DW OC hg112 hS112 hHeld ho112 hbU
             generalize V112.setCell ⟨U, 1, none⟩ (.slice a3 Ln c3) = Z at *
             go_wp2_with fail
             go_ret
             exact HF.out
           ·
            have hL : V105.cell? ⟨U, 1, none⟩ = some (.slice a n cap) := (HUB.out.on DW).cell 1
            go_simp
            clear hL
            refine hK.out _ _ (hHeld) (fun hHeld => ?_)
            (try simp only [Act.put, List.setIfInBounds_toArray, List.set_cons_zero, List.set_cons_succ])
            clear hK K
            refine tk 107 17 ?_ rfl (Or.inl ⟨by rfl, ?_⟩) hHeld ?_
            rotate_left
            ·
             intro w hSw; go_simp; with_reducible rfl
            (try simp only [Act.put, List.setIfInBounds_toArray, List.set_cons_zero, List.set_cons_succ])
            refine rdy1 8 rfl (fun K hK => ?_)
            refine step_appGs V105 (by rfl) _ _ (by rfl) Y.heap.size _ [] (by rfl) KE a k cap (ls.take k) (by rfl) ((HT2.out.on DW).src HN.out k hk).1 (by simp only [List.length_nil]; omega) DW.size 98 rfl ?_
            intro v114 V114 ho114 hg114
            have D114 := DW.grown hg114 DW.size (fun j hj => (KE.blk j hj).1)
            have hS114 := kbw hg114 hHeld KE HbW.out
            rw [List.nil_append] at ho114
            have B114 : Blk V114 bB 98 [.int .i64 (iN : Int), .slice a1 512 c1] := (hg114.block bB KB.lt (fun e5 => hEB (Option.some.inj e5).symm)).trans KB
            refine hK.out _ _ (hS114) (fun hHeld => ?_)
            (try simp only [Act.put, List.setIfInBounds_toArray, List.set_cons_zero, List.set_cons_succ])
            clear hK K
            clear DW KE hg114 hS114 KB hEB
            have DW := D114
            have OA := ho114
            have KB := B114
            clear D114 ho114 B114
            refine rdy1 11 rfl (fun K hK => ?_)
            refine step_appGs V114 (by rfl) _ _ (by rfl) Y.heap.size _ (ls.take k) (by rfl) OA (some ⟨bB, 0, none⟩) 1 1 [(⟨iN, b, a1, c1⟩ : Wg)] (by rfl) (SrcG.one KB H512.out) (by rw [List.length_take]; omega) DW.size 101 rfl ?_
            intro v115 V115 ho115 hg115
            have D115 := DW.grown hg115 DW.size (fun j hj => (OA.blk j hj).1)
            have hS115 := kbw hg115 hHeld OA HbW.out
            refine hK.out _ _ (hS115) (fun hHeld => ?_)
            (try simp only [Act.put, List.setIfInBounds_toArray, List.set_cons_zero, List.set_cons_succ])
            clear hK K
            clear DW OA KB hg115 hS115
            have DW := D115
            have OC := ho115
            clear D115 ho115
            refine rdy1 18 rfl (fun K hK => ?_)
            refine step_appGs V115 (by rfl) _ _ (by rfl) Y.heap.size _ (ls.take k ++ [(⟨iN, b, a1, c1⟩ : Wg)]) (by rfl) OC (cutG a cap k) (n - k) (cap - k) (ls.drop k) (by rfl) ((HT2.out.on DW).src HN.out k hk).2 (by rw [List.length_append, List.length_take, List.length_singleton]; omega) DW.size 108 rfl ?_
            intro v116 V116 ho116 hg116
            have D116 := DW.grown hg116 DW.size (fun j hj => (OC.blk j hj).1)
            have hS116 := kbw hg116 hHeld OC HbW.out
            obtain ⟨a3, c3, ev3, _⟩ := ho116.form
            generalize hLn : (ls.take k ++ [(⟨iN, b, a1, c1⟩ : Wg)] ++ ls.drop k).length = Ln at *
            subst ev3
            have OD := mkHid ho116
            have BU := HUB.out.on D116
            have d1 : V116.cell? ⟨U, 1, none⟩ = some (.slice a n cap) := BU.cell 1
            have f1 := BU.frozen 1
            refine hK.out _ _ (hS116) (fun hHeld => ?_)
            (try simp only [Act.put, List.setIfInBounds_toArray, List.set_cons_zero, List.set_cons_succ])
            clear hK K
            have hbU : bW ≠ U := by have := HUB.out.lt; have := HbU.out; omega
            refine tk 109 19 ?_ rfl (Or.inl ⟨by rfl, ?_⟩) hHeld ?_
            rotate_left
            ·
             intro w hSw; go_simp; with_reducible rfl
            (try simp only [Act.put, List.setIfInBounds_toArray, List.set_cons_zero, List.set_cons_succ])
            refine tk 110 20 ?_ rfl (Or.inl ⟨by rfl, ?_⟩) hHeld ?_
            rotate_left
            ·
             intro w hSw; go_simp; with_reducible rfl
            (try simp only [Act.put, List.setIfInBounds_toArray, List.set_cons_zero, List.set_cons_succ])
            refine rdy1 21 rfl (fun K hK => ?_)
            go_simp
            refine hK.out _ _ (Blk.other hHeld _ _ hbU) (fun _ => ?_)
            (try simp only [Act.put, List.setIfInBounds_toArray, List.set_cons_zero, List.set_cons_succ])
            clear hK K
            refine wpAnyH_done (by kernel_rfl) ?_ _
            refine NoPanic.normal ?_
            have HF := mkHid (HFin.out _ _ _ _ D116 BU OD.out)
            clear d1 f1 BU OD D116 DW OC hg116 hS116 hHeld ho116 hbU
            generalize V116.setCell ⟨U, 1, none⟩ (.slice a3 Ln c3) = Z at *
            go_wp2_with fail
            go_ret
            exact HF.out
          ·
           have hL : V104.cell? ⟨U, 1, none⟩ = some (.slice a n cap) := (HUB.out.on DW).cell 1
           go_simp
           clear hL
           refine hK.out _ _ (hHeld) (fun hHeld => ?_)
           (try simp only [Act.put, List.setIfInBounds_toArray, List.set_cons_zero, List.set_cons_succ])
           clear hK K
           refine tk 107 17 ?_ rfl (Or.inl ⟨by rfl, ?_⟩) hHeld ?_
           rotate_left
           ·
            intro w hSw; go_simp; with_reducible rfl
           (try simp only [Act.put, List.setIfInBounds_toArray, List.set_cons_zero, List.set_cons_succ])
           refine rdy1 1 rfl (fun K hK => ?_)
           go_simp
           have D118 := DW.alloc DW.size (.cells #[] 98)
           have K118 : OwnG 98 (V104.alloc (.cells #[] 98)) Y.heap.size (.slice (some ⟨V104.heap.size, 0, none⟩) 0 0) [] := OwnG.empty V104 _ DW.size
           have B118 := KB.alloc (.cells #[] 98)
           have hEB : V104.heap.size ≠ bB := Nat.ne_of_gt KB.lt
           refine hK.out _ _ (Blk.alloc hHeld _) (fun hHeld => ?_)
           (try simp only [Act.put, List.setIfInBounds_toArray, List.set_cons_zero, List.set_cons_succ])
           clear hK K
           clear DW KB
           generalize V104.heap.size = bE at *
           generalize V104.alloc (.cells #[] 98) = V118 at *
           have DW := D118
           have KE := K118
           have KB := B118
           clear D118 K118 B118
           refine rdy1 8 rfl (fun K hK => ?_)
           refine step_appGs V118 (by rfl) _ _ (by rfl) Y.heap.size _ [] (by rfl) KE a k cap (ls.take k) (by rfl) ((HT2.out.on DW).src HN.out k hk).1 (by simp only [List.length_nil]; omega) DW.size 98 rfl ?_
           intro v119 V119 ho119 hg119
           have D119 := DW.grown hg119 DW.size (fun j hj => (KE.blk j hj).1)
           have hS119 := kbw hg119 hHeld KE HbW.out
           rw [List.nil_append] at ho119
           have B119 : Blk V119 bB 98 [.int .i64 (iN : Int), .slice a1 512 c1] := (hg119.block bB KB.lt (fun e5 => hEB (Option.some.inj e5).symm)).trans KB
           refine hK.out _ _ (hS119) (fun hHeld => ?_)
           (try simp only [Act.put, List.setIfInBounds_toArray, List.set_cons_zero, List.set_cons_succ])
           clear hK K
           clear DW KE hg119 hS119 KB hEB
           have DW := D119
           have OA := ho119
           have KB := B119
           clear D119 ho119 B119
           refine rdy1 11 rfl (fun K hK => ?_)
           refine step_appGs V119 (by rfl) _ _ (by rfl) Y.heap.size _ (ls.take k) (by rfl) OA (some ⟨bB, 0, none⟩) 1 1 [(⟨iN, b, a1, c1⟩ : Wg)] (by rfl) (SrcG.one KB H512.out) (by rw [List.length_take]; omega) DW.size 101 rfl ?_
           intro v120 V120 ho120 hg120
           have D120 := DW.grown hg120 DW.size (fun j hj => (OA.blk j hj).1)
           have hS120 := kbw hg120 hHeld OA HbW.out
           refine hK.out _ _ (hS120) (fun hHeld => ?_)
           (try simp only [Act.put, List.setIfInBounds_toArray, List.set_cons_zero, List.set_cons_succ])
           clear hK K
           clear DW OA KB hg120 hS120
           have DW := D120
           have OC := ho120
           clear D120 ho120
           refine rdy1 18 rfl (fun K hK => ?_)
           refine step_appGs V120 (by rfl) _ _ (by rfl) Y.heap.size _ (ls.take k ++ [(⟨iN, b, a1, c1⟩ : Wg)]) (by rfl) OC (cutG a cap k) (n - k) (cap - k) (ls.drop k) (by rfl) ((HT2.out.on DW).src HN.out k hk).2 (by rw [List.length_append, List.length_take, List.length_singleton]; omega) DW.size 108 rfl ?_
           intro v121 V121 ho121 hg121
           have D121 := DW.grown hg121 DW.size (fun j hj => (OC.blk j hj).1)
           have hS121 := kbw hg121 hHeld OC HbW.out
           obtain ⟨a3, c3, ev3, _⟩ := ho121.form
           generalize hLn : (ls.take k ++ [(⟨iN, b, a1, c1⟩ : Wg)] ++ ls.drop k).length = Ln at *
           subst ev3
           have OD := mkHid ho121
           have BU := HUB.out.on D121
           have d1 : V121.cell? ⟨U, 1, none⟩ = some (.slice a n cap) := BU.cell 1
           have f1 := BU.frozen 1
           refine hK.out _ _ (hS121) (fun hHeld => ?_)
           (try simp only [Act.put, List.setIfInBounds_toArray, List.set_cons_zero, List.set_cons_succ])
           clear hK K
           have hbU : bW ≠ U := by have := HUB.out.lt; have := HbU.out; omega
           refine tk 109 19 ?_ rfl (Or.inl ⟨by rfl, ?_⟩) hHeld ?_
           rotate_left
           ·
            intro w hSw; go_simp; with_reducible rfl
           (try simp only [Act.put, List.setIfInBounds_toArray, List.set_cons_zero, List.set_cons_succ])
           refine tk 110 20 ?_ rfl (Or.inl ⟨by rfl, ?_⟩) hHeld ?_
           rotate_left
           ·
            intro w hSw; go_simp; with_reducible rfl
           (try simp only [Act.put, List.setIfInBounds_toArray, List.set_cons_zero, List.set_cons_succ])
           refine rdy1 21 rfl (fun K hK => ?_)
           go_simp
           refine hK.out _ _ (Blk.other hHeld _ _ hbU) (fun _ => ?_)
           (try simp only [Act.put, List.setIfInBounds_toArray, List.set_cons_zero, List.set_cons_succ])
           clear hK K
           refine wpAnyH_done (by kernel_rfl) ?_ _
           refine NoPanic.normal ?_
           have HF := mkHid (HFin.out _ _ _ _ D121 BU OD.out)
           clear d1 f1 BU OD D121 DW OC hg121 hS121 hHeld ho121 hbU
           generalize V121.setCell ⟨U, 1, none⟩ (.slice a3 Ln c3) = Z at *
           go_wp2_with fail
           go_ret
           exact HF.out
         ·
          have hL : V0.cell? ⟨U, 1, none⟩ = some (.slice a n cap) := (HUB.out.on DW).cell 1
          go_simp
          clear hL
          refine hK.out _ _ (hHeld) (fun hHeld => ?_)
          (try simp only [Act.put, List.setIfInBounds_toArray, List.set_cons_zero, List.set_cons_succ])
          clear hK K
          refine tk 107 17 ?_ rfl (Or.inl ⟨by rfl, ?_⟩) hHeld ?_
          rotate_left
          ·
           intro w hSw; go_simp; with_reducible rfl
          (try simp only [Act.put, List.setIfInBounds_toArray, List.set_cons_zero, List.set_cons_succ])
          refine wpAnyH_ready (rs := [1, 10]) (by kernel_rfl) (by simp) ?_
          refine AllReadyH.cons rfl (fun K hK => ?_) (AllReadyH.cons rfl (fun K hK => ?_) AllReadyH.nil)
          ·
           go_simp
           have D123 := DW.alloc DW.size (.cells #[] 98)
           have K123 : OwnG 98 (V0.alloc (.cells #[] 98)) Y.heap.size (.slice (some ⟨V0.heap.size, 0, none⟩) 0 0) [] := OwnG.empty V0 _ DW.size
           refine hK.out _ _ (Blk.alloc hHeld _) (fun hHeld => ?_)
           (try simp only [Act.put, List.setIfInBounds_toArray, List.set_cons_zero, List.set_cons_succ])
           clear hK K
           clear DW
           generalize V0.heap.size = bE at *
           generalize V0.alloc (.cells #[] 98) = V123 at *
           have DW := D123
           have KE := K123
           clear D123 K123
           refine wpAnyH_ready (rs := [8, 10]) (by kernel_rfl) (by simp) ?_
           refine AllReadyH.cons rfl (fun K hK => ?_) (AllReadyH.cons rfl (fun K hK => ?_) AllReadyH.nil)
           ·
            refine step_appGs V123 (by rfl) _ _ (by rfl) Y.heap.size _ [] (by rfl) KE a k cap (ls.take k) (by rfl) ((HT2.out.on DW).src HN.out k hk).1 (by simp only [List.length_nil]; omega) DW.size 98 rfl ?_
            intro v124 V124 ho124 hg124
            have D124 := DW.grown hg124 DW.size (fun j hj => (KE.blk j hj).1)
            have hS124 := kbw hg124 hHeld KE HbW.out
            rw [List.nil_append] at ho124
            refine hK.out _ _ (hS124) (fun hHeld => ?_)
            (try simp only [Act.put, List.setIfInBounds_toArray, List.set_cons_zero, List.set_cons_succ])
            clear hK K
            clear DW KE hg124 hS124
            have DW := D124
            have OA := ho124
            clear D124 ho124
            refine rdy1 10 rfl (fun K hK => ?_)
            go_simp
            have D125 := DW.alloc DW.size (.cells #[.int .i64 (iN : Int), .slice a1 512 c1] 98)
            have B125 : Blk (V124.alloc (.cells #[.int .i64 (iN : Int), .slice a1 512 c1] 98)) V124.heap.size 98 [.int .i64 (iN : Int), .slice a1 512 c1] := Blk.newAt V124 _ _ _ _ rfl rfl
            have O125 := OA.alloc (.cells #[.int .i64 (iN : Int), .slice a1 512 c1] 98)
            refine hK.out _ _ (Blk.alloc hHeld _) (fun hHeld => ?_)
            (try simp only [Act.put, List.setIfInBounds_toArray, List.set_cons_zero, List.set_cons_succ])
            clear hK K
            clear DW OA
            generalize V124.heap.size = bB at *
            generalize V124.alloc (.cells #[.int .i64 (iN : Int), .slice a1 512 c1] 98) = V125 at *
            have DW := D125
            have KB := B125
            have OA := O125
            clear D125 B125 O125
            refine rdy1 11 rfl (fun K hK => ?_)
            refine step_appGs V125 (by rfl) _ _ (by rfl) Y.heap.size _ (ls.take k) (by rfl) OA (some ⟨bB, 0, none⟩) 1 1 [(⟨iN, b, a1, c1⟩ : Wg)] (by rfl) (SrcG.one KB H512.out) (by rw [List.length_take]; omega) DW.size 101 rfl ?_
            intro v126 V126 ho126 hg126
            have D126 := DW.grown hg126 DW.size (fun j hj => (OA.blk j hj).1)
            have hS126 := kbw hg126 hHeld OA HbW.out
            refine hK.out _ _ (hS126) (fun hHeld => ?_)
            (try simp only [Act.put, List.setIfInBounds_toArray, List.set_cons_zero, List.set_cons_succ])
            clear hK K
            clear DW OA KB hg126 hS126
            have DW := D126
            have OC := ho126
            clear D126 ho126
            refine rdy1 18 rfl (fun K hK => ?_)
            refine step_appGs V126 (by rfl) _ _ (by rfl) Y.heap.size _ (ls.take k ++ [(⟨iN, b, a1, c1⟩ : Wg)]) (by rfl) OC (cutG a cap k) (n - k) (cap - k) (ls.drop k) (by rfl) ((HT2.out.on DW).src HN.out k hk).2 (by rw [List.length_append, List.length_take, List.length_singleton]; omega) DW.size 108 rfl ?_
            intro v127 V127 ho127 hg127
            have D127 := DW.grown hg127 DW.size (fun j hj => (OC.blk j hj).1)
            have hS127 := kbw hg127 hHeld OC HbW.out
            obtain ⟨a3, c3, ev3, _⟩ := ho127.form
            generalize hLn : (ls.take k ++ [(⟨iN, b, a1, c1⟩ : Wg)] ++ ls.drop k).length = Ln at *
            subst ev3
            have OD := mkHid ho127
            have BU := HUB.out.on D127
            have d1 : V127.cell? ⟨U, 1, none⟩ = some (.slice a n cap) := BU.cell 1
            have f1 := BU.frozen 1
            refine hK.out _ _ (hS127) (fun hHeld => ?_)
            (try simp only [Act.put, List.setIfInBounds_toArray, List.set_cons_zero, List.set_cons_succ])
            clear hK K
            have hbU : bW ≠ U := by have := HUB.out.lt; have := HbU.out; omega
            refine tk 109 19 ?_ rfl (Or.inl ⟨by rfl, ?_⟩) hHeld ?_
            rotate_left
            ·
             intro w hSw; go_simp; with_reducible rfl
            (try simp only [Act.put, List.setIfInBounds_toArray, List.set_cons_zero, List.set_cons_succ])
            refine tk 110 20 ?_ rfl (Or.inl ⟨by rfl, ?_⟩) hHeld ?_
            rotate_left
            ·
             intro w hSw; go_simp; with_reducible rfl
            (try simp only [Act.put, List.setIfInBounds_toArray, List.set_cons_zero, List.set_cons_succ])
            refine rdy1 21 rfl (fun K hK => ?_)
            go_simp
            refine hK.out _ _ (Blk.other hHeld _ _ hbU) (fun _ => ?_)
            (try simp only [Act.put, List.setIfInBounds_toArray, List.set_cons_zero, List.set_cons_succ])
            clear hK K
            refine wpAnyH_done (by kernel_rfl) ?_ _
            refine NoPanic.normal ?_
            have HF := mkHid (HFin.out _ _ _ _ D127 BU OD.out)
            clear d1 f1 BU OD D127 DW OC hg127 hS127 hHeld ho127 hbU
            generalize V127.setCell ⟨U, 1, none⟩ (.slice a3 Ln c3) = Z at *
            go_wp2_with fail
            go_ret
            exact HF.out
           ·
            go_simp
            have D128 := DW.alloc DW.size (.cells #[.int .i64 (iN : Int), .slice a1 512 c1] 98)
            have B128 : Blk (V123.alloc (.cells #[.int .i64 (iN : Int), .slice a1 512 c1] 98)) V123.heap.size 98 [.int .i64 (iN : Int), .slice a1 512 c1] := Blk.newAt V123 _ _ _ _ rfl rfl
            have O128 := KE.alloc (.cells #[.int .i64 (iN : Int), .slice a1 512 c1] 98)
            have hEB : bE ≠ V123.heap.size := Nat.ne_of_lt (KE.blk bE rfl).2
            refine hK.out _ _ (Blk.alloc hHeld _) (fun hHeld => ?_)
            (try simp only [Act.put, List.setIfInBounds_toArray, List.set_cons_zero, List.set_cons_succ])
            clear hK K
            clear DW KE
            generalize V123.heap.size = bB at *
            generalize V123.alloc (.cells #[.int .i64 (iN : Int), .slice a1 512 c1] 98) = V128 at *
            have DW := D128
            have KB := B128
            have KE := O128
            clear D128 B128 O128
            refine rdy1 8 rfl (fun K hK => ?_)
            refine step_appGs V128 (by rfl) _ _ (by rfl) Y.heap.size _ [] (by rfl) KE a k cap (ls.take k) (by rfl) ((HT2.out.on DW).src HN.out k hk).1 (by simp only [List.length_nil]; omega) DW.size 98 rfl ?_
            intro v129 V129 ho129 hg129
            have D129 := DW.grown hg129 DW.size (fun j hj => (KE.blk j hj).1)
            have hS129 := kbw hg129 hHeld KE HbW.out
            rw [List.nil_append] at ho129
            have B129 : Blk V129 bB 98 [.int .i64 (iN : Int), .slice a1 512 c1] := (hg129.block bB KB.lt (fun e5 => hEB (Option.some.inj e5).symm)).trans KB
            refine hK.out _ _ (hS129) (fun hHeld => ?_)
            (try simp only [Act.put, List.setIfInBounds_toArray, List.set_cons_zero, List.set_cons_succ])
            clear hK K
            clear DW KE hg129 hS129 KB hEB
            have DW := D129
            have OA := ho129
            have KB := B129
            clear D129 ho129 B129
            refine rdy1 11 rfl (fun K hK => ?_)
            refine step_appGs V129 (by rfl) _ _ (by rfl) Y.heap.size _ (ls.take k) (by rfl) OA (some ⟨bB, 0, none⟩) 1 1 [(⟨iN, b, a1, c1⟩ : Wg)] (by rfl) (SrcG.one KB H512.out) (by rw [List.length_take]; omega) DW.size 101 rfl ?_
            intro v130 V130 ho130 hg130
            have D130 := DW.grown hg130 DW.size (fun j hj => (OA.blk j hj).1)
            have hS130 := kbw hg130 hHeld OA HbW.out
            refine hK.out _ _ (hS130) (fun hHeld => ?_)
            (try simp only [Act.put, List.setIfInBounds_toArray, List.set_cons_zero, List.set_cons_succ])
            clear hK K
            clear DW OA KB hg130 hS130
            have DW := D130
            have OC := ho130
            clear D130 ho130
            refine rdy1 18 rfl (fun K hK => ?_)
            refine step_appGs V130 (by rfl) _ _ (by rfl) Y.heap.size _ (ls.take k ++ [(⟨iN, b, a1, c1⟩ : Wg)]) (by rfl) OC (cutG a cap k) (n - k) (cap - k) (ls.drop k) (by rfl) ((HT2.out.on DW).src HN.out k hk).2 (by rw [List.length_append, List.length_take, List.length_singleton]; omega) DW.size 108 rfl ?_
            intro v131 V131 ho131 hg131
            have D131 := DW.grown hg131 DW.size (fun j hj => (OC.blk j hj).1)
            have hS131 := kbw hg131 hHeld OC HbW.out
            obtain ⟨a3, c3, ev3, _⟩ := ho131.form
            generalize hLn : (ls.take k ++ [(⟨iN, b, a1, c1⟩ : Wg)] ++ ls.drop k).length = Ln at *
            subst ev3
            have OD := mkHid ho131
            have BU := HUB.out.on D131
            have d1 : V131.cell? ⟨U, 1, none⟩ = some (.slice a n cap) := BU.cell 1
            have f1 := BU.frozen 1
            refine hK.out _ _ (hS131) (fun hHeld => ?_)
            (try simp only [Act.put, List.setIfInBounds_toArray, List.set_cons_zero, List.set_cons_succ])
            clear hK K
            have hbU : bW ≠ U := by have := HUB.out.lt; have := HbU.out; omega
            refine tk 109 19 ?_ rfl (Or.inl ⟨by rfl, ?_⟩) hHeld ?_
            rotate_left
            ·
             intro w hSw; go_simp; with_reducible rfl
            (try simp only [Act.put, List.setIfInBounds_toArray, List.set_cons_zero, List.set_cons_succ])
            refine tk 110 20 ?_ rfl (Or.inl ⟨by rfl, ?_⟩) hHeld ?_
            rotate_left
            ·
             intro w hSw; go_simp; with_reducible rfl
            (try simp only [Act.put, List.setIfInBounds_toArray, List.set_cons_zero, List.set_cons_succ])
            refine rdy1 21 rfl (fun K hK => ?_)
            go_simp
            refine hK.out _ _ (Blk.other hHeld _ _ hbU) (fun _ => ?_)
            (try simp only [Act.put, List.setIfInBounds_toArray, List.set_cons_zero, List.set_cons_succ])
            clear hK K
            refine wpAnyH_done (by kernel_rfl) ?_ _
            refine NoPanic.normal ?_
            have HF := mkHid (HFin.out _ _ _ _ D131 BU OD.out)
            clear d1 f1 BU OD D131 DW OC hg131 hS131 hHeld ho131 hbU
            generalize V131.setCell ⟨U, 1, none⟩ (.slice a3 Ln c3) = Z at *
            go_wp2_with fail
            go_ret
            exact HF.out
          ·
           go_simp
           have D132 := DW.alloc DW.size (.cells #[.int .i64 (iN : Int), .slice a1 512 c1] 98)
           have B132 : Blk (V0.alloc (.cells #[.int .i64 (iN : Int), .slice a1 512 c1] 98)) V0.heap.size 98 [.int .i64 (iN : Int), .slice a1 512 c1] := Blk.newAt V0 _ _ _ _ rfl rfl
           refine hK.out _ _ (Blk.alloc hHeld _) (fun hHeld => ?_)
           (try simp only [Act.put, List.setIfInBounds_toArray, List.set_cons_zero, List.set_cons_succ])
           clear hK K
           clear DW
           generalize V0.heap.size = bB at *
           generalize V0.alloc (.cells #[.int .i64 (iN : Int), .slice a1 512 c1] 98) = V132 at *
           have DW := D132
           have KB := B132
           clear D132 B132
           refine rdy1 1 rfl (fun K hK => ?_)
           go_simp
           have D133 := DW.alloc DW.size (.cells #[] 98)
           have K133 : OwnG 98 (V132.alloc (.cells #[] 98)) Y.heap.size (.slice (some ⟨V132.heap.size, 0, none⟩) 0 0) [] := OwnG.empty V132 _ DW.size
           have B133 := KB.alloc (.cells #[] 98)
           have hEB : V132.heap.size ≠ bB := Nat.ne_of_gt KB.lt
           refine hK.out _ _ (Blk.alloc hHeld _) (fun hHeld => ?_)
           (try simp only [Act.put, List.setIfInBounds_toArray, List.set_cons_zero, List.set_cons_succ])
           clear hK K
           clear DW KB
           generalize V132.heap.size = bE at *
           generalize V132.alloc (.cells #[] 98) = V133 at *
           have DW := D133
           have KE := K133
           have KB := B133
           clear D133 K133 B133
           refine rdy1 8 rfl (fun K hK => ?_)
           refine step_appGs V133 (by rfl) _ _ (by rfl) Y.heap.size _ [] (by rfl) KE a k cap (ls.take k) (by rfl) ((HT2.out.on DW).src HN.out k hk).1 (by simp only [List.length_nil]; omega) DW.size 98 rfl ?_
           intro v134 V134 ho134 hg134
           have D134 := DW.grown hg134 DW.size (fun j hj => (KE.blk j hj).1)
           have hS134 := kbw hg134 hHeld KE HbW.out
           rw [List.nil_append] at ho134
           have B134 : Blk V134 bB 98 [.int .i64 (iN : Int), .slice a1 512 c1] := (hg134.block bB KB.lt (fun e5 => hEB (Option.some.inj e5).symm)).trans KB
           refine hK.out _ _ (hS134) (fun hHeld => ?_)
           (try simp only [Act.put, List.setIfInBounds_toArray, List.set_cons_zero, List.set_cons_succ])
           clear hK K
           clear DW KE hg134 hS134 KB hEB
           have DW := D134
           have OA := ho134
           have KB := B134
           clear D134 ho134 B134
           refine rdy1 11 rfl (fun K hK => ?_)
           refine step_appGs V134 (by rfl) _ _ (by rfl) Y.heap.size _ (ls.take k) (by rfl) OA (some ⟨bB, 0, none⟩) 1 1 [(⟨iN, b, a1, c1⟩ : Wg)] (by rfl) (SrcG.one KB H512.out) (by rw [List.length_take]; omega) DW.size 101 rfl ?_
           intro v135 V135 ho135 hg135
           have D135 := DW.grown hg135 DW.size (fun j hj => (OA.blk j hj).1)
           have hS135 := kbw hg135 hHeld OA HbW.out
           refine hK.out _ _ (hS135) (fun hHeld => ?_)
           (try simp only [Act.put, List.setIfInBounds_toArray, List.set_cons_zero, List.set_cons_succ])
           clear hK K
           clear DW OA KB hg135 hS135
           have DW := D135
           have OC := ho135
           clear D135 ho135
           refine rdy1 18 rfl (fun K hK => ?_)
           refine step_appGs V135 (by rfl) _ _ (by rfl) Y.heap.size _ (ls.take k ++ [(⟨iN, b, a1, c1⟩ : Wg)]) (by rfl) OC (cutG a cap k) (n - k) (cap - k) (ls.drop k) (by rfl) ((HT2.out.on DW).src HN.out k hk).2 (by rw [List.length_append, List.length_take, List.length_singleton]; omega) DW.size 108 rfl ?_
           intro v136 V136 ho136 hg136
           have D136 := DW.grown hg136 DW.size (fun j hj => (OC.blk j hj).1)
           have hS136 := kbw hg136 hHeld OC HbW.out
           obtain ⟨a3, c3, ev3, _⟩ := ho136.form
           generalize hLn : (ls.take k ++ [(⟨iN, b, a1, c1⟩ : Wg)] ++ ls.drop k).length = Ln at *
           subst ev3
           have OD := mkHid ho136
           have BU := HUB.out.on D136
           have d1 : V136.cell? ⟨U, 1, none⟩ = some (.slice a n cap) := BU.cell 1
           have f1 := BU.frozen 1
           refine hK.out _ _ (hS136) (fun hHeld => ?_)
           (try simp only [Act.put, List.setIfInBounds_toArray, List.set_cons_zero, List.set_cons_succ])
           clear hK K
           have hbU : bW ≠ U := by have := HUB.out.lt; have := HbU.out; omega
           refine tk 109 19 ?_ rfl (Or.inl ⟨by rfl, ?_⟩) hHeld ?_
           rotate_left
           ·
            intro w hSw; go_simp; with_reducible rfl
           (try simp only [Act.put, List.setIfInBounds_toArray, List.set_cons_zero, List.set_cons_succ])
           refine tk 110 20 ?_ rfl (Or.inl ⟨by rfl, ?_⟩) hHeld ?_
           rotate_left
           ·
            intro w hSw; go_simp; with_reducible rfl
           (try simp only [Act.put, List.setIfInBounds_toArray, List.set_cons_zero, List.set_cons_succ])
           refine rdy1 21 rfl (fun K hK => ?_)
           go_simp
           refine hK.out _ _ (Blk.other hHeld _ _ hbU) (fun _ => ?_)
           (try simp only [Act.put, List.setIfInBounds_toArray, List.set_cons_zero, List.set_cons_succ])
           clear hK K
           refine wpAnyH_done (by kernel_rfl) ?_ _
           refine NoPanic.normal ?_
           have HF := mkHid (HFin.out _ _ _ _ D136 BU OD.out)
           clear d1 f1 BU OD D136 DW OC hg136 hS136 hHeld ho136 hbU
           generalize V136.setCell ⟨U, 1, none⟩ (.slice a3 Ln c3) = Z at *
           go_wp2_with fail
           go_ret
           exact HF.out
        ·
         go_simp
         have D137 := DW.alloc DW.size (.cells #[.int .i64 (iN : Int), .slice a1 512 c1] 98)
         have B137 : Blk (V0.alloc (.cells #[.int .i64 (iN : Int), .slice a1 512 c1] 98)) V0.heap.size 98 [.int .i64 (iN : Int), .slice a1 512 c1] := Blk.newAt V0 _ _ _ _ rfl rfl
         refine hK.out _ _ (Blk.alloc hHeld _) (fun hHeld => ?_)
         (try simp only [Act.put, List.setIfInBounds_toArray, List.set_cons_zero, List.set_cons_succ])
         clear hK K
         clear DW
         generalize V0.heap.size = bB at *
         generalize V0.alloc (.cells #[.int .i64 (iN : Int), .slice a1 512 c1] 98) = V137 at *
         have DW := D137
         have KB := B137
         clear D137 B137
         refine wpAnyH_ready (rs := [1, 5, 15]) (by kernel_rfl) (by simp) ?_
         refine AllReadyH.cons rfl (fun K hK => ?_) (AllReadyH.cons rfl (fun K hK => ?_) (AllReadyH.cons rfl (fun K hK => ?_) AllReadyH.nil))
         ·
          go_simp
          have D138 := DW.alloc DW.size (.cells #[] 98)
          have K138 : OwnG 98 (V137.alloc (.cells #[] 98)) Y.heap.size (.slice (some ⟨V137.heap.size, 0, none⟩) 0 0) [] := OwnG.empty V137 _ DW.size
          have B138 := KB.alloc (.cells #[] 98)
          have hEB : V137.heap.size ≠ bB := Nat.ne_of_gt KB.lt
          refine hK.out _ _ (Blk.alloc hHeld _) (fun hHeld => ?_)
          (try simp only [Act.put, List.setIfInBounds_toArray, List.set_cons_zero, List.set_cons_succ])
          clear hK K
          clear DW KB
          generalize V137.heap.size = bE at *
          generalize V137.alloc (.cells #[] 98) = V138 at *
          have DW := D138
          have KE := K138
          have KB := B138
          clear D138 K138 B138
          refine wpAnyH_ready (rs := [5, 15]) (by kernel_rfl) (by simp) ?_
          refine AllReadyH.cons rfl (fun K hK => ?_) (AllReadyH.cons rfl (fun K hK => ?_) AllReadyH.nil)
          ·
           have hL : V138.cell? ⟨U, 1, none⟩ = some (.slice a n cap) := (HUB.out.on DW).cell 1
           go_simp
           clear hL
           refine hK.out _ _ (hHeld) (fun hHeld => ?_)
           (try simp only [Act.put, List.setIfInBounds_toArray, List.set_cons_zero, List.set_cons_succ])
           clear hK K
           refine tk 97 7 ?_ rfl (Or.inl ⟨by rfl, ?_⟩) hHeld ?_
           rotate_left
           ·
            intro w hSw; go_simp; with_reducible rfl
           (try simp only [Act.put, List.setIfInBounds_toArray, List.set_cons_zero, List.set_cons_succ])
           refine wpAnyH_ready (rs := [8, 15]) (by kernel_rfl) (by simp) ?_
           refine AllReadyH.cons rfl (fun K hK => ?_) (AllReadyH.cons rfl (fun K hK => ?_) AllReadyH.nil)
           ·
            refine step_appGs V138 (by rfl) _ _ (by rfl) Y.heap.size _ [] (by rfl) KE a k cap (ls.take k) (by rfl) ((HT2.out.on DW).src HN.out k hk).1 (by simp only [List.length_nil]; omega) DW.size 98 rfl ?_
            intro v140 V140 ho140 hg140
            have D140 := DW.grown hg140 DW.size (fun j hj => (KE.blk j hj).1)
            have hS140 := kbw hg140 hHeld KE HbW.out
            rw [List.nil_append] at ho140
            have B140 : Blk V140 bB 98 [.int .i64 (iN : Int), .slice a1 512 c1] := (hg140.block bB KB.lt (fun e5 => hEB (Option.some.inj e5).symm)).trans KB
            refine hK.out _ _ (hS140) (fun hHeld => ?_)
            (try simp only [Act.put, List.setIfInBounds_toArray, List.set_cons_zero, List.set_cons_succ])
            clear hK K
            clear DW KE hg140 hS140 KB hEB
            have DW := D140
            have OA := ho140
            have KB := B140
            clear D140 ho140 B140
            refine wpAnyH_ready (rs := [11, 15]) (by kernel_rfl) (by simp) ?_
            refine AllReadyH.cons rfl (fun K hK => ?_) (AllReadyH.cons rfl (fun K hK => ?_) AllReadyH.nil)
            ·
             refine step_appGs V140 (by rfl) _ _ (by rfl) Y.heap.size _ (ls.take k) (by rfl) OA (some ⟨bB, 0, none⟩) 1 1 [(⟨iN, b, a1, c1⟩ : Wg)] (by rfl) (SrcG.one KB H512.out) (by rw [List.length_take]; omega) DW.size 101 rfl ?_
             intro v141 V141 ho141 hg141
             have D141 := DW.grown hg141 DW.size (fun j hj => (OA.blk j hj).1)
             have hS141 := kbw hg141 hHeld OA HbW.out
             refine hK.out _ _ (hS141) (fun hHeld => ?_)
             (try simp only [Act.put, List.setIfInBounds_toArray, List.set_cons_zero, List.set_cons_succ])
             clear hK K
             clear DW OA KB hg141 hS141
             have DW := D141
             have OC := ho141
             clear D141 ho141
             refine rdy1 15 rfl (fun K hK => ?_)
             have hL : V141.cell? ⟨U, 1, none⟩ = some (.slice a n cap) := (HUB.out.on DW).cell 1
             go_simp
             clear hL
             refine hK.out _ _ (hHeld) (fun hHeld => ?_)
             (try simp only [Act.put, List.setIfInBounds_toArray, List.set_cons_zero, List.set_cons_succ])
             clear hK K
             refine tk 107 17 ?_ rfl (Or.inl ⟨by rfl, ?_⟩) hHeld ?_
             rotate_left
             ·
              intro w hSw; go_simp; with_reducible rfl
             (try simp only [Act.put, List.setIfInBounds_toArray, List.set_cons_zero, List.set_cons_succ])
             refine rdy1 18 rfl (fun K hK => ?_)
             refine step_appGs V141 (by rfl) _ _ (by rfl) Y.heap.size _ (ls.take k ++ [(⟨iN, b, a1, c1⟩ : Wg)]) (by rfl) OC (cutG a cap k) (n - k) (cap - k) (ls.drop k) (by rfl) ((HT2.out.on DW).src HN.out k hk).2 (by rw [List.length_append, List.length_take, List.length_singleton]; omega) DW.size 108 rfl ?_
             intro v143 V143 ho143 hg143
             have D143 := DW.grown hg143 DW.size (fun j hj => (OC.blk j hj).1)
             have hS143 := kbw hg143 hHeld OC HbW.out
             obtain ⟨a3, c3, ev3, _⟩ := ho143.form
             generalize hLn : (ls.take k ++ [(⟨iN, b, a1, c1⟩ : Wg)] ++ ls.drop k).length = Ln at *
             subst ev3
             have OD := mkHid ho143
             have BU := HUB.out.on D143
             have d1 : V143.cell? ⟨U, 1, none⟩ = some (.slice a n cap) := BU.cell 1
             have f1 := BU.frozen 1
             refine hK.out _ _ (hS143) (fun hHeld => ?_)
             (try simp only [Act.put, List.setIfInBounds_toArray, List.set_cons_zero, List.set_cons_succ])
             clear hK K
             have hbU : bW ≠ U := by have := HUB.out.lt; have := HbU.out; omega
             refine tk 109 19 ?_ rfl (Or.inl ⟨by rfl, ?_⟩) hHeld ?_
             rotate_left
             ·
              intro w hSw; go_simp; with_reducible rfl
             (try simp only [Act.put, List.setIfInBounds_toArray, List.set_cons_zero, List.set_cons_succ])
             refine tk 110 20 ?_ rfl (Or.inl ⟨by rfl, ?_⟩) hHeld ?_
             rotate_left
             ·
              intro w hSw; go_simp; with_reducible rfl
             (try simp only [Act.put, List.setIfInBounds_toArray, List.set_cons_zero, List.set_cons_succ])
             refine rdy1 21 rfl (fun K hK => ?_)
             go_simp
             refine hK.out _ _ (Blk.other hHeld _ _ hbU) (fun _ => ?_)
             (try simp only [Act.put, List.setIfInBounds_toArray, List.set_cons_zero, List.set_cons_succ])
             clear hK K
             refine wpAnyH_done (by kernel_rfl) ?_ _
             refine NoPanic.normal ?_
             have HF := mkHid (HFin.out _ _ _ _ D143 BU OD.out)
             clear d1 f1 BU OD D143 DW OC hg143 hS143 hHeld ho143 hbU
             generalize V143.setCell ⟨U, 1, none⟩ (.slice a3 Ln c3) = Z at *
             go_wp2_with fail
             go_ret
             exact HF.out
            ·
             have hL : V140.cell? ⟨U, 1, none⟩ = some (.slice a n cap) := (HUB.out.on DW).cell 1
             go_simp
             clear hL
             refine hK.out _ _ (hHeld) (fun hHeld => ?_)
             (try simp only [Act.put, List.setIfInBounds_toArray, List.set_cons_zero, List.set_cons_succ])
             clear hK K
             refine tk 107 17 ?_ rfl (Or.inl ⟨by rfl, ?_⟩) hHeld ?_
             rotate_left
             ·
              intro w hSw; go_simp; with_reducible rfl
             (try simp only [Act.put, List.setIfInBounds_toArray, List.set_cons_zero, List.set_cons_succ])
             refine rdy1 11 rfl (fun K hK => ?_)
             refine step_appGs V140 (by rfl) _ _ (by rfl) Y.heap.size _ (ls.take k) (by rfl) OA (some ⟨bB, 0, none⟩) 1 1 [(⟨iN, b, a1, c1⟩ : Wg)] (by rfl) (SrcG.one KB H512.out) (by rw [List.length_take]; omega) DW.size 101 rfl ?_
             intro v145 V145 ho145 hg145
             have D145 := DW.grown hg145 DW.size (fun j hj => (OA.blk j hj).1)
             have hS145 := kbw hg145 hHeld OA HbW.out
             refine hK.out _ _ (hS145) (fun hHeld => ?_)
             (try simp only [Act.put, List.setIfInBounds_toArray, List.set_cons_zero, List.set_cons_succ])
             clear hK K
             clear DW OA KB hg145 hS145
             have DW := D145
             have OC := ho145
             clear D145 ho145
             refine rdy1 18 rfl (fun K hK => ?_)
             refine step_appGs V145 (by rfl) _ _ (by rfl) Y.heap.size _ (ls.take k ++ [(⟨iN, b, a1, c1⟩ : Wg)]) (by rfl) OC (cutG a cap k) (n - k) (cap - k) (ls.drop k) (by rfl) ((HT2.out.on DW).src HN.out k hk).2 (by rw [List.length_append, List.length_take, List.length_singleton]; omega) DW.size 108 rfl ?_
             intro v146 V146 ho146 hg146
             have D146 := DW.grown hg146 DW.size (fun j hj => (OC.blk j hj).1)
             have hS146 := kbw hg146 hHeld OC HbW.out
             obtain ⟨a3, c3, ev3, _⟩ := ho146.form
             generalize hLn : (ls.take k ++ [(⟨iN, b, a1, c1⟩ : Wg)] ++ ls.drop k).length = Ln at *
             subst ev3
             have OD := mkHid ho146
             have BU := HUB.out.on D146
             have d1 : V146.cell? ⟨U, 1, none⟩ = some (.slice a n cap) := BU.cell 1
             have f1 := BU.frozen 1
             refine hK.out _ _ (hS146) (fun hHeld => ?_)
             (try simp only [Act.put, List.setIfInBounds_toArray, List.set_cons_zero, List.set_cons_succ])
             clear hK K
             have hbU : bW ≠ U := by have := HUB.out.lt; have := HbU.out; omega
             refine tk 109 19 ?_ rfl (Or.inl ⟨by rfl, ?_⟩) hHeld ?_
             rotate_left
             ·
              intro w hSw; go_simp; with_reducible rfl
             (try simp only [Act.put, List.setIfInBounds_toArray, List.set_cons_zero, List.set_cons_succ])
             refine tk 110 20 ?_ rfl (Or.inl ⟨by rfl, ?_⟩) hHeld ?_
             rotate_left
             ·
              intro w hSw; go_simp; with_reducible rfl
             (try simp only [Act.put, List.setIfInBounds_toArray, List.set_cons_zero, List.set_cons_succ])
             refine rdy1 21 rfl (fun K hK => ?_)
             go_simp
             refine hK.out _ _ (Blk.other hHeld _ _ hbU) (fun _ => ?_)
             (try simp only [Act.put, List.setIfInBounds_toArray, List.set_cons_zero, List.set_cons_succ])
             clear hK K
             refine wpAnyH_done (by kernel_rfl) ?_ _
             refine NoPanic.normal ?_
             have HF := mkHid (HFin.out _ _ _ _ D146 BU OD.out)
             clear d1 f1 BU OD D146 DW OC hg146 hS146 hHeld ho146 hbU
             generalize V146.setCell ⟨U, 1, none⟩ (.slice a3 Ln c3) = Z at *
             go_wp2_with fail
             go_ret
             exact HF.out
           ·
            have hL : V138.cell? ⟨U, 1, none⟩ = some (.slice a n cap) := (HUB.out.on DW).cell 1
            go_simp
            clear hL
            refine hK.out _ _ (hHeld) (fun hHeld => ?_)
            (try simp only [Act.put, List.setIfInBounds_toArray, List.set_cons_zero, List.set_cons_succ])
            clear hK K
            refine tk 107 17 ?_ rfl (Or.inl ⟨by rfl, ?_⟩) hHeld ?_
            rotate_left
            ·
             intro w hSw; go_simp; with_reducible rfl
            (try simp only [Act.put, List.setIfInBounds_toArray, List.set_cons_zero, List.set_cons_succ])
            refine rdy1 8 rfl (fun K hK => ?_)
            refine step_appGs V138 (by rfl) _ _ (by rfl) Y.heap.size _ [] (by rfl) KE a k cap (ls.take k) (by rfl) ((HT2.out.on DW).src HN.out k hk).1 (by simp only [List.length_nil]; omega) DW.size 98 rfl ?_
            intro v148 V148 ho148 hg148
            have D148 := DW.grown hg148 DW.size (fun j hj => (KE.blk j hj).1)
            have hS148 := kbw hg148 hHeld KE HbW.out
            rw [List.nil_append] at ho148
            have B148 : Blk V148 bB 98 [.int .i64 (iN : Int), .slice a1 512 c1] := (hg148.block bB KB.lt (fun e5 => hEB (Option.some.inj e5).symm)).trans KB
            refine hK.out _ _ (hS148) (fun hHeld => ?_)
            (try simp only [Act.put, List.setIfInBounds_toArray, List.set_cons_zero, List.set_cons_succ])
            clear hK K
            clear DW KE hg148 hS148 KB hEB
            have DW := D148
            have OA := ho148
            have KB := B148
            clear D148 ho148 B148
            refine rdy1 11 rfl (fun K hK => ?_)
            refine step_appGs V148 (by rfl) _ _ (by rfl) Y.heap.size _ (ls.take k) (by rfl) OA (some ⟨bB, 0, none⟩) 1 1 [(⟨iN, b, a1, c1⟩ : Wg)] (by rfl) (SrcG.one KB H512.out) (by rw [List.length_take]; omega) DW.size 101 rfl ?_
            intro v149 V149 ho149 hg149
            have D149 := DW.grown hg149 DW.size (fun j hj => (OA.blk j hj).1)
            have hS149 := kbw hg149 hHeld OA HbW.out
            refine hK.out _ _ (hS149) (fun hHeld => ?_)
            (try simp only [Act.put, List.setIfInBounds_toArray, List.set_cons_zero, List.set_cons_succ])
            clear hK K
            clear DW OA KB hg149 hS149
            have DW := D149
            have OC := ho149
            clear D149 ho149
            refine rdy1 18 rfl (fun K hK => ?_)
            refine step_appGs V149 (by rfl) _ _ (by rfl) Y.heap.size _ (ls.take k ++ [(⟨iN, b, a1, c1⟩ : Wg)]) (by rfl) OC (cutG a cap k) (n - k) (cap - k) (ls.drop k) (by rfl) ((HT2.out.on DW).src HN.out k hk).2 (by rw [List.length_append, List.length_take, List.length_singleton]; omega) DW.size 108 rfl ?_
            intro v150 V150 ho150 hg150
            have D150 := DW.grown hg150 DW.size (fun j hj => (OC.blk j hj).1)
            have hS150 := kbw hg150 hHeld OC HbW.out
            obtain ⟨a3, c3, ev3, _⟩ := ho150.form
            generalize hLn : (ls.take k ++ [(⟨iN, b, a1, c1⟩ : Wg)] ++ ls.drop k).length = Ln at *
            subst ev3
            have OD := mkHid ho150
            have BU := HUB.out.on D150
            have d1 : V150.cell? ⟨U, 1, none⟩ = some (.slice a n cap) := BU.cell 1
            have f1 := BU.frozen 1
            refine hK.out _ _ (hS150) (fun hHeld => ?_)
            (try simp only [Act.put, List.setIfInBounds_toArray, List.set_cons_zero, List.set_cons_succ])
            clear hK K
            have hbU : bW ≠ U := by have := HUB.out.lt; have := HbU.out; omega
            refine tk 109 19 ?_ rfl (Or.inl ⟨by rfl, ?_⟩) hHeld ?_
            rotate_left
            ·
             intro w hSw; go_simp; with_reducible rfl
            (try simp only [Act.put, List.setIfInBounds_toArray, List.set_cons_zero, List.set_cons_succ])
            refine tk 110 20 ?_ rfl (Or.inl ⟨by rfl, ?_⟩) hHeld ?_
            rotate_left
            ·
             intro w hSw; go_simp; with_reducible rfl
            (try simp only [Act.put, List.setIfInBounds_toArray, List.set_cons_zero, List.set_cons_succ])
            refine rdy1 21 rfl (fun K hK => ?_)
            go_simp
            refine hK.out _ _ (Blk.other hHeld _ _ hbU) (fun _ => ?_)
            (try simp only [Act.put, List.setIfInBounds_toArray, List.set_cons_zero, List.set_cons_succ])
            clear hK K
            refine wpAnyH_done (by kernel_rfl) ?_ _
            refine NoPanic.normal ?_
            have HF := mkHid (HFin.out _ _ _ _ D150 BU OD.out)
            clear d1 f1 BU OD D150 DW OC hg150 hS150 hHeld ho150 hbU
            generalize V150.setCell ⟨U, 1, none⟩ (.slice a3 Ln c3) = Z at *
            go_wp2_with fail
            go_ret
            exact HF.out
          ·
           have hL : V138.cell? ⟨U, 1, none⟩ = some (.slice a n cap) := (HUB.out.on DW).cell 1
           go_simp
           clear hL
           refine hK.out _ _ (hHeld) (fun hHeld => ?_)
           (try simp only [Act.put, List.setIfInBounds_toArray, List.set_cons_zero, List.set_cons_succ])
           clear hK K
           refine tk 107 17 ?_ rfl (Or.inl ⟨by rfl, ?_⟩) hHeld ?_
           rotate_left
           ·
            intro w hSw; go_simp; with_reducible rfl
           (try simp only [Act.put, List.setIfInBounds_toArray, List.set_cons_zero, List.set_cons_succ])
           refine rdy1 5 rfl (fun K hK => ?_)
           have hL : V138.cell? ⟨U, 1, none⟩ = some (.slice a n cap) := (HUB.out.on DW).cell 1
           go_simp
           clear hL
           refine hK.out _ _ (hHeld) (fun hHeld => ?_)
           (try simp only [Act.put, List.setIfInBounds_toArray, List.set_cons_zero, List.set_cons_succ])
           clear hK K
           refine tk 97 7 ?_ rfl (Or.inl ⟨by rfl, ?_⟩) hHeld ?_
           rotate_left
           ·
            intro w hSw; go_simp; with_reducible rfl
           (try simp only [Act.put, List.setIfInBounds_toArray, List.set_cons_zero, List.set_cons_succ])
           refine rdy1 8 rfl (fun K hK => ?_)
           refine step_appGs V138 (by rfl) _ _ (by rfl) Y.heap.size _ [] (by rfl) KE a k cap (ls.take k) (by rfl) ((HT2.out.on DW).src HN.out k hk).1 (by simp only [List.length_nil]; omega) DW.size 98 rfl ?_
           intro v153 V153 ho153 hg153
           have D153 := DW.grown hg153 DW.size (fun j hj => (KE.blk j hj).1)
           have hS153 := kbw hg153 hHeld KE HbW.out
           rw [List.nil_append] at ho153
           have B153 : Blk V153 bB 98 [.int .i64 (iN : Int), .slice a1 512 c1] := (hg153.block bB KB.lt (fun e5 => hEB (Option.some.inj e5).symm)).trans KB
           refine hK.out _ _ (hS153) (fun hHeld => ?_)
           (try simp only [Act.put, List.setIfInBounds_toArray, List.set_cons_zero, List.set_cons_succ])
           clear hK K
           clear DW KE hg153 hS153 KB hEB
           have DW := D153
           have OA := ho153
           have KB := B153
           clear D153 ho153 B153
           refine rdy1 11 rfl (fun K hK => ?_)
           refine step_appGs V153 (by rfl) _ _ (by rfl) Y.heap.size _ (ls.take k) (by rfl) OA (some ⟨bB, 0, none⟩) 1 1 [(⟨iN, b, a1, c1⟩ : Wg)] (by rfl) (SrcG.one KB H512.out) (by rw [List.length_take]; omega) DW.size 101 rfl ?_
           intro v154 V154 ho154 hg154
           have D154 := DW.grown hg154 DW.size (fun j hj => (OA.blk j hj).1)
           have hS154 := kbw hg154 hHeld OA HbW.out
           refine hK.out _ _ (hS154) (fun hHeld => ?_)
           (try simp only [Act.put, List.setIfInBounds_toArray, List.set_cons_zero, List.set_cons_succ])
           clear hK K
           clear DW OA KB hg154 hS154
           have DW := D154
           have OC := ho154
           clear D154 ho154
           refine rdy1 18 rfl (fun K hK => ?_)
           refine step_appGs V154 (by rfl) _ _ (by rfl) Y.heap.size _ (ls.take k ++ [(⟨iN, b, a1, c1⟩ : Wg)]) (by rfl) OC (cutG a cap k) (n - k) (cap - k) (ls.drop k) (by rfl) ((HT2.out.on DW).src HN.out k hk).2 (by rw [List.length_append, List.length_take, List.length_singleton]; omega) DW.size 108 rfl ?_
           intro v155 V155 ho155 hg155
           have D155 := DW.grown hg155 DW.size (fun j hj => (OC.blk j hj).1)
           have hS155 := kbw hg155 hHeld OC HbW.out
           obtain ⟨a3, c3, ev3, _⟩ := ho155.form
           generalize hLn : (ls.take k ++ [(⟨iN, b, a1, c1⟩ : Wg)] ++ ls.drop k).length = Ln at *
           subst ev3
           have OD := mkHid ho155
           have BU := HUB.out.on D155
           have d1 : V155.cell? ⟨U, 1, none⟩ = some (.slice a n cap) := BU.cell 1
           have f1 := BU.frozen 1
           refine hK.out _ _ (hS155) (fun hHeld => ?_)
           (try simp only [Act.put, List.setIfInBounds_toArray, List.set_cons_zero, List.set_cons_succ])
           clear hK K
           have hbU : bW ≠ U := by have := HUB.out.lt; have := HbU.out; omega
           refine tk 109 19 ?_ rfl (Or.inl ⟨by rfl, ?_⟩) hHeld ?_
           rotate_left
           ·
            intro w hSw; go_simp; with_reducible rfl
           (try simp only [Act.put, List.setIfInBounds_toArray, List.set_cons_zero, List.set_cons_succ])
           refine tk 110 20 ?_ rfl (Or.inl ⟨by rfl, ?_⟩) hHeld ?_
           rotate_left
           ·
            intro w hSw; go_simp; with_reducible rfl
           (try simp only [Act.put, List.setIfInBounds_toArray, List.set_cons_zero, List.set_cons_succ])
           refine rdy1 21 rfl (fun K hK => ?_)
           go_simp
           refine hK.out _ _ (Blk.other hHeld _ _ hbU) (fun _ => ?_)
           (try simp only [Act.put, List.setIfInBounds_toArray, List.set_cons_zero, List.set_cons_succ])
           clear hK K
           refine wpAnyH_done (by kernel_rfl) ?_ _
           refine NoPanic.normal ?_
           have HF := mkHid (HFin.out _ _ _ _ D155 BU OD.out)
           clear d1 f1 BU OD D155 DW OC hg155 hS155 hHeld ho155 hbU
           generalize V155.setCell ⟨U, 1, none⟩ (.slice a3 Ln c3) = Z at *
           go_wp2_with fail
           go_ret
           exact HF.out
         ·
          have hL : V137.cell? ⟨U, 1, none⟩ = some (.slice a n cap) := (HUB.out.on DW).cell 1
          go_simp
          clear hL
          refine hK.out _ _ (hHeld) (fun hHeld => ?_)
          (try simp only [Act.put, List.setIfInBounds_toArray, List.set_cons_zero, List.set_cons_succ])
          clear hK K
          refine tk 97 7 ?_ rfl (Or.inl ⟨by rfl, ?_⟩) hHeld ?_
          rotate_left
          ·
           intro w hSw; go_simp; with_reducible rfl
          (try simp only [Act.put, List.setIfInBounds_toArray, List.set_cons_zero, List.set_cons_succ])
          refine wpAnyH_ready (rs := [1, 15]) (by kernel_rfl) (by simp) ?_
          refine AllReadyH.cons rfl (fun K hK => ?_) (AllReadyH.cons rfl (fun K hK => ?_) AllReadyH.nil)
          ·
           go_simp
           have D157 := DW.alloc DW.size (.cells #[] 98)
           have K157 : OwnG 98 (V137.alloc (.cells #[] 98)) Y.heap.size (.slice (some ⟨V137.heap.size, 0, none⟩) 0 0) [] := OwnG.empty V137 _ DW.size
           have B157 := KB.alloc (.cells #[] 98)
           have hEB : V137.heap.size ≠ bB := Nat.ne_of_gt KB.lt
           refine hK.out _ _ (Blk.alloc hHeld _) (fun hHeld => ?_)
           (try simp only [Act.put, List.setIfInBounds_toArray, List.set_cons_zero, List.set_cons_succ])
           clear hK K
           clear DW KB
           generalize V137.heap.size = bE at *
           generalize V137.alloc (.cells #[] 98) = V157 at *
           have DW := D157
           have KE := K157
           have KB := B157
           clear D157 K157 B157
           refine wpAnyH_ready (rs := [8, 15]) (by kernel_rfl) (by simp) ?_
           refine AllReadyH.cons rfl (fun K hK => ?_) (AllReadyH.cons rfl (fun K hK => ?_) AllReadyH.nil)
           ·
            refine step_appGs V157 (by rfl) _ _ (by rfl) Y.heap.size _ [] (by rfl) KE a k cap (ls.take k) (by rfl) ((HT2.out.on DW).src HN.out k hk).1 (by simp only [List.length_nil]; omega) DW.size 98 rfl ?_
            intro v158 V158 ho158 hg158
            have D158 := DW.grown hg158 DW.size (fun j hj => (KE.blk j hj).1)
            have hS158 := kbw hg158 hHeld KE HbW.out
            rw [List.nil_append] at ho158
            have B158 : Blk V158 bB 98 [.int .i64 (iN : Int), .slice a1 512 c1] := (hg158.block bB KB.lt (fun e5 => hEB (Option.some.inj e5).symm)).trans KB
            refine hK.out _ _ (hS158) (fun hHeld => ?_)
            (try simp only [Act.put, List.setIfInBounds_toArray, List.set_cons_zero, List.set_cons_succ])
            clear hK K
            clear DW KE hg158 hS158 KB hEB
            have DW := D158
            have OA := ho158
            have KB := B158
            clear D158 ho158 B158
            refine wpAnyH_ready (rs := [11, 15]) (by kernel_rfl) (by simp) ?_
            refine AllReadyH.cons rfl (fun K hK => ?_) (AllReadyH.cons rfl (fun K hK => ?_) AllReadyH.nil)
            ·
             refine step_appGs V158 (by rfl) _ _ (by rfl) Y.heap.size _ (ls.take k) (by rfl) OA (some ⟨bB, 0, none⟩) 1 1 [(⟨iN, b, a1, c1⟩ : Wg)] (by rfl) (SrcG.one KB H512.out) (by rw [List.length_take]; omega) DW.size 101 rfl ?_
             intro v159 V159 ho159 hg159
             have D159 := DW.grown hg159 DW.size (fun j hj => (OA.blk j hj).1)
             have hS159 := kbw hg159 hHeld OA HbW.out
             refine hK.out _ _ (hS159) (fun hHeld => ?_)
             (try simp only [Act.put, List.setIfInBounds_toArray, List.set_cons_zero, List.set_cons_succ])
             clear hK K
             clear DW OA KB hg159 hS159
             have DW := D159
             have OC := ho159
             clear D159 ho159
             refine rdy1 15 rfl (fun K hK => ?_)
             have hL : V159.cell? ⟨U, 1, none⟩ = some (.slice a n cap) := (HUB.out.on DW).cell 1
             go_simp
             clear hL
             refine hK.out _ _ (hHeld) (fun hHeld => ?_)
             (try simp only [Act.put, List.setIfInBounds_toArray, List.set_cons_zero, List.set_cons_succ])
             clear hK K
             refine tk 107 17 ?_ rfl (Or.inl ⟨by rfl, ?_⟩) hHeld ?_
             rotate_left
             ·
              intro w hSw; go_simp; with_reducible rfl
             (try simp only [Act.put, List.setIfInBounds_toArray, List.set_cons_zero, List.set_cons_succ])
             refine rdy1 18 rfl (fun K hK => ?_)
             refine step_appGs V159 (by rfl) _ _ (by rfl) Y.heap.size _ (ls.take k ++ [(⟨iN, b, a1, c1⟩ : Wg)]) (by rfl) OC (cutG a cap k) (n - k) (cap - k) (ls.drop k) (by rfl) ((HT2.out.on DW).src HN.out k hk).2 (by rw [List.length_append, List.length_take, List.length_singleton]; omega) DW.size 108 rfl ?_
             intro v161 V161 ho161 hg161
             have D161 := DW.grown hg161 DW.size (fun j hj => (OC.blk j hj).1)
             have hS161 := kbw hg161 hHeld OC HbW.out
             obtain ⟨a3, c3, ev3, _⟩ := ho161.form
             generalize hLn : (ls.take k ++ [(⟨iN, b, a1, c1⟩ : Wg)] ++ ls.drop k).length = Ln at *
             subst ev3
             have OD := mkHid ho161
             have BU := HUB.out.on D161
             have d1 : V161.cell? ⟨U, 1, none⟩ = some (.slice a n cap) := BU.cell 1
             have f1 := BU.frozen 1
             refine hK.out _ _ (hS161) (fun hHeld => ?_)
             (try simp only [Act.put, List.setIfInBounds_toArray, List.set_cons_zero, List.set_cons_succ])
             clear hK K
             have hbU : bW ≠ U := by have := HUB.out.lt; have := HbU.out; omega
             refine tk 109 19 ?_ rfl (Or.inl ⟨by rfl, ?_⟩) hHeld ?_
             rotate_left
             ·
              intro w hSw; go_simp; with_reducible rfl
             (try simp only [Act.put, List.setIfInBounds_toArray, List.set_cons_zero, List.set_cons_succ])
             refine tk 110 20 ?_ rfl (Or.inl ⟨by rfl, ?_⟩) hHeld ?_
             rotate_left
             ·
              intro w hSw; go_simp; with_reducible rfl
             (try simp only [Act.put, List.setIfInBounds_toArray, List.set_cons_zero, List.set_cons_succ])
             refine rdy1 21 rfl (fun K hK => ?_)
             go_simp
             refine hK.out _ _ (Blk.other hHeld _ _ hbU) (fun _ => ?_)
             (try simp only [Act.put, List.setIfInBounds_toArray, List.set_cons_zero, List.set_cons_succ])
             clear hK K
             refine wpAnyH_done (by kernel_rfl) ?_ _
             refine NoPanic.normal ?_
             have HF := mkHid (HFin.out _ _ _ _ D161 BU OD.out)
             clear d1 f1 BU OD D161 DW OC hg161 hS161 hHeld ho161 hbU
             generalize V161.setCell ⟨U, 1, none⟩ (.slice a3 Ln c3) = Z at *
             go_wp2_with fail
             go_ret
             exact HF.out
            ·
             have hL : V158.cell? ⟨U, 1, none⟩ = some (.slice a n cap) := (HUB.out.on DW).cell 1
             go_simp
             clear hL
             refine hK.out _ _ (hHeld) (fun hHeld => ?_)
             (try simp only [Act.put, List.setIfInBounds_toArray, List.set_cons_zero, List.set_cons_succ])
             clear hK K
             refine tk 107 17 ?_ rfl (Or.inl ⟨by rfl, ?_⟩) hHeld ?_
             rotate_left
             ·
              intro w hSw; go_simp; with_reducible rfl
             (try simp only [Act.put, List.setIfInBounds_toArray, List.set_cons_zero, List.set_cons_succ])
             refine rdy1 11 rfl (fun K hK => ?_)
             refine step_appGs V158 (by rfl) _ _ (by rfl) Y.heap.size _ (ls.take k) (by rfl) OA (some ⟨bB, 0, none⟩) 1 1 [(⟨iN, b, a1, c1⟩ : Wg)] (by rfl) (SrcG.one KB H512.out) (by rw [List.length_take]; omega) DW.size 101 rfl ?_
             intro v163 V163 ho163 hg163
             have D163 := DW.grown hg163 DW.size (fun j hj => (OA.blk j hj).1)
             have hS163 := kbw hg163 hHeld OA HbW.out
             refine hK.out _ _ (hS163) (fun hHeld => ?_)
             (try simp only [Act.put, List.setIfInBounds_toArray, List.set_cons_zero, List.set_cons_succ])
             clear hK K
             clear DW OA KB hg163 hS163
             have DW := D163
             have OC := ho163
             clear D163 ho163
             refine rdy1 18 rfl (fun K hK => ?_)
             refine step_appGs V163 (by rfl) _ _ (by rfl) Y.heap.size _ (ls.take k ++ [(⟨iN, b, a1, c1⟩ : Wg)]) (by rfl) OC (cutG a cap k) (n - k) (cap - k) (ls.drop k) (by rfl) ((HT2.out.on DW).src HN.out k hk).2 (by rw [List.length_append, List.length_take, List.length_singleton]; omega) DW.size 108 rfl ?_
             intro v164 V164 ho164 hg164
             have D164 := DW.grown hg164 DW.size (fun j hj => (OC.blk j hj).1)
             have hS164 := kbw hg164 hHeld OC HbW.out
             obtain ⟨a3, c3, ev3, _⟩ := ho164.form
             generalize hLn : (ls.take k ++ [(⟨iN, b, a1, c1⟩ : Wg)] ++ ls.drop k).length = Ln at *
             subst ev3
             have OD := mkHid ho164
             have BU := HUB.out.on D164
             have d1 : V164.cell? ⟨U, 1, none⟩ = some (.slice a n cap) := BU.cell 1
             have f1 := BU.frozen 1
             refine hK.out _ _ (hS164) (fun hHeld => ?_)
             (try simp only [Act.put, List.setIfInBounds_toArray, List.set_cons_zero, List.set_cons_succ])
             clear hK K
             have hbU : bW ≠ U := by have := HUB.out.lt; have := HbU.out; omega
             refine tk 109 19 ?_ rfl (Or.inl ⟨by rfl, ?_⟩) hHeld ?_
             rotate_left
             ·
              intro w hSw; go_simp; with_reducible rfl
             (try simp only [Act.put, List.setIfInBounds_toArray, List.set_cons_zero, List.set_cons_succ])
             refine tk 110 20 ?_ rfl (Or.inl ⟨by rfl, ?_⟩) hHeld ?_
             rotate_left
             ·
              intro w hSw; go_simp; with_reducible rfl
             (try simp only [Act.put, List.setIfInBounds_toArray, List.set_cons_zero, List.set_cons_succ])
             refine rdy1 21 rfl (fun K hK => ?_)
             go_simp
             refine hK.out _ _ (Blk.other hHeld _ _ hbU) (fun _ => ?_)
             (try simp only [Act.put, List.setIfInBounds_toArray, List.set_cons_zero, List.set_cons_succ])
             clear hK K
             refine wpAnyH_done (by kernel_rfl) ?_ _
             refine NoPanic.normal ?_
             have HF := mkHid (HFin.out _ _ _ _ D164 BU OD.out)
             clear d1 f1 BU OD D164 DW OC hg164 hS164 hHeld ho164 hbU
             generalize V164.setCell ⟨U, 1, none⟩ (.slice a3 Ln c3) = Z at *
             go_wp2_with fail
             go_ret
             exact HF.out
           ·
            have hL : V157.cell? ⟨U, 1, none⟩ = some (.slice a n cap) := (HUB.out.on DW).cell 1
            go_simp
            clear hL
            refine hK.out _ _ (hHeld) (fun hHeld => ?_)
            (try simp only [Act.put, List.setIfInBounds_toArray, List.set_cons_zero, List.set_cons_succ])
            clear hK K
            refine tk 107 17 ?_ rfl (Or.inl ⟨by rfl, ?_⟩) hHeld ?_
            rotate_left
            ·
             intro w hSw; go_simp; with_reducible rfl
            (try simp only [Act.put, List.setIfInBounds_toArray, List.set_cons_zero, List.set_cons_succ])
            refine rdy1 8 rfl (fun K hK => ?_)
            refine step_appGs V157 (by rfl) _ _ (by rfl) Y.heap.size _ [] (by rfl) KE a k cap (ls.take k) (by rfl) ((HT2.out.on DW).src HN.out k hk).1 (by simp only [List.length_nil]; omega) DW.size 98 rfl ?_
            intro v166 V166 ho166 hg166
            have D166 := DW.grown hg166 DW.size (fun j hj => (KE.blk j hj).1)
            have hS166 := kbw hg166 hHeld KE HbW.out
            rw [List.nil_append] at ho166
            have B166 : Blk V166 bB 98 [.int .i64 (iN : Int), .slice a1 512 c1] := (hg166.block bB KB.lt (fun e5 => hEB (Option.some.inj e5).symm)).trans KB
            refine hK.out _ _ (hS166) (fun hHeld => ?_)
            (try simp only [Act.put, List.setIfInBounds_toArray, List.set_cons_zero, List.set_cons_succ])
            clear hK K
            clear DW KE hg166 hS166 KB hEB
            have DW := D166
            have OA := ho166
            have KB := B166
            clear D166 ho166 B166
            refine rdy1 11 rfl (fun K hK => ?_)
            refine step_appGs V166 (by rfl) _ _ (by rfl) Y.heap.size _ (ls.take k) (by rfl) OA (some ⟨bB, 0, none⟩) 1 1 [(⟨iN, b, a1, c1⟩ : Wg)] (by rfl) (SrcG.one KB H512.out) (by rw [List.length_take]; omega) DW.size 101 rfl ?_
            intro v167 V167 ho167 hg167
            have D167 := DW.grown hg167 DW.size (fun j hj => (OA.blk j hj).1)
            have hS167 := kbw hg167 hHeld OA HbW.out
            refine hK.out _ _ (hS167) (fun hHeld => ?_)
            (try simp only [Act.put, List.setIfInBounds_toArray, List.set_cons_zero, List.set_cons_succ])
            clear hK K
            clear DW OA KB hg167 hS167
            have DW := D167
            have OC := ho167
            clear D167 ho167
            refine rdy1 18 rfl (fun K hK => ?_)
            refine step_appGs V167 (by rfl) _ _ (by rfl) Y.heap.size _ (ls.take k ++ [(⟨iN, b, a1, c1⟩ : Wg)]) (by rfl) OC (cutG a cap k) (n - k) (cap - k) (ls.drop k) (by rfl) ((HT2.out.on DW).src HN.out k hk).2 (by rw [List.length_append, List.length_take, List.length_singleton]; omega) DW.size 108 rfl ?_
            intro v168 V168 ho168 hg168
            have D168 := DW.grown hg168 DW.size (fun j hj => (OC.blk j hj).1)
            have hS168 := kbw hg168 hHeld OC HbW.out
            obtain ⟨a3, c3, ev3, _⟩ := ho168.form
            generalize hLn : (ls.take k ++ [(⟨iN, b, a1, c1⟩ : Wg)] ++ ls.drop k).length = Ln at *
            subst ev3
            have OD := mkHid ho168
            have BU := HUB.out.on D168
            have d1 : V168.cell? ⟨U, 1, none⟩ = some (.slice a n cap) := BU.cell 1
            have f1 := BU.frozen 1
            refine hK.out _ _ (hS168) (fun hHeld => ?_)
            (try simp only [Act.put, List.setIfInBounds_toArray, List.set_cons_zero, List.set_cons_succ])
            clear hK K
            have hbU : bW ≠ U := by have := HUB.out.lt; have := HbU.out; omega
            refine tk 109 19 ?_ rfl (Or.inl ⟨by rfl, ?_⟩) hHeld ?_
            rotate_left
            ·
             intro w hSw; go_simp; with_reducible rfl
            (try simp only [Act.put, List.setIfInBounds_toArray, List.set_cons_zero, List.set_cons_succ])
            refine tk 110 20 ?_ rfl (Or.inl ⟨by rfl, ?_⟩) hHeld ?_
            rotate_left
            ·
             intro w hSw; go_simp; with_reducible rfl
            (try simp only [Act.put, List.setIfInBounds_toArray, List.set_cons_zero, List.set_cons_succ])
            refine rdy1 21 rfl (fun K hK => ?_)
            go_simp
            refine hK.out _ _ (Blk.other hHeld _ _ hbU) (fun _ => ?_)
            (try simp only [Act.put, List.setIfInBounds_toArray, List.set_cons_zero, List.set_cons_succ])
            clear hK K
            refine wpAnyH_done (by kernel_rfl) ?_ _
            refine NoPanic.normal ?_
            have HF := mkHid (HFin.out _ _ _ _ D168 BU OD.out)
            clear d1 f1 BU OD D168 DW OC hg168 hS168 hHeld ho168 hbU
            generalize V168.setCell ⟨U, 1, none⟩ (.slice a3 Ln c3) = Z at *
            go_wp2_with fail
            go_ret
            exact HF.out
          ·
           have hL : V137.cell? ⟨U, 1, none⟩ = some (.slice a n cap) := (HUB.out.on DW).cell 1
           go_simp
           clear hL
           refine hK.out _ _ (hHeld) (fun hHeld => ?_)
           (try simp only [Act.put, List.setIfInBounds_toArray, List.set_cons_zero, List.set_cons_succ])
           clear hK K
           refine tk 107 17 ?_ rfl (Or.inl ⟨by rfl, ?_⟩) hHeld ?_
           rotate_left
           ·
            intro w hSw; go_simp; with_reducible rfl
           (try simp only [Act.put, List.setIfInBounds_toArray, List.set_cons_zero, List.set_cons_succ])
           refine rdy1 1 rfl (fun K hK => ?_)
           go_simp
           have D170 := DW.alloc DW.size (.cells #[] 98)
           have K170 : OwnG 98 (V137.alloc (.cells #[] 98)) Y.heap.size (.slice (some ⟨V137.heap.size, 0, none⟩) 0 0) [] := OwnG.empty V137 _ DW.size
           have B170 := KB.alloc (.cells #[] 98)
           have hEB : V137.heap.size ≠ bB := Nat.ne_of_gt KB.lt
           refine hK.out _ _ (Blk.alloc hHeld _) (fun hHeld => ?_)
           (try simp only [Act.put, List.setIfInBounds_toArray, List.set_cons_zero, List.set_cons_succ])
           clear hK K
           clear DW KB
           generalize V137.heap.size = bE at *
           generalize V137.alloc (.cells #[] 98) = V170 at *
           have DW := D170
           have KE := K170
           have KB := B170
           clear D170 K170 B170
           refine rdy1 8 rfl (fun K hK => ?_)
           refine step_appGs V170 (by rfl) _ _ (by rfl) Y.heap.size _ [] (by rfl) KE a k cap (ls.take k) (by rfl) ((HT2.out.on DW).src HN.out k hk).1 (by simp only [List.length_nil]; omega) DW.size 98 rfl ?_
           intro v171 V171 ho171 hg171
           have D171 := DW.grown hg171 DW.size (fun j hj => (KE.blk j hj).1)
           have hS171 := kbw hg171 hHeld KE HbW.out
           rw [List.nil_append] at ho171
           have B171 : Blk V171 bB 98 [.int .i64 (iN : Int), .slice a1 512 c1] := (hg171.block bB KB.lt (fun e5 => hEB (Option.some.inj e5).symm)).trans KB
           refine hK.out _ _ (hS171) (fun hHeld => ?_)
           (try simp only [Act.put, List.setIfInBounds_toArray, List.set_cons_zero, List.set_cons_succ])
           clear hK K
           clear DW KE hg171 hS171 KB hEB
           have DW := D171
           have OA := ho171
           have KB := B171
           clear D171 ho171 B171
           refine rdy1 11 rfl (fun K hK => ?_)
           refine step_appGs V171 (by rfl) _ _ (by rfl) Y.heap.size _ (ls.take k) (by rfl) OA (some ⟨bB, 0, none⟩) 1 1 [(⟨iN, b, a1, c1⟩ : Wg)] (by rfl) (SrcG.one KB H512.out) (by rw [List.length_take]; omega) DW.size 101 rfl ?_
           intro v172 V172 ho172 hg172
           have D172 := DW.grown hg172 DW.size (fun j hj => (OA.blk j hj).1)
           have hS172 := kbw hg172 hHeld OA HbW.out
           refine hK.out _ _ (hS172) (fun hHeld => ?_)
           (try simp only [Act.put, List.setIfInBounds_toArray, List.set_cons_zero, List.set_cons_succ])
           clear hK K
           clear DW OA KB hg172 hS172
           have DW := D172
           have OC := ho172
           clear D172 ho172
           refine rdy1 18 rfl (fun K hK => ?_)
           refine step_appGs V172 (by rfl) _ _ (by rfl) Y.heap.size _ (ls.take k ++ [(⟨iN, b, a1, c1⟩ : Wg)]) (by rfl) OC (cutG a cap k) (n - k) (cap - k) (ls.drop k) (by rfl) ((HT2.out.on DW).src HN.out k hk).2 (by rw [List.length_append, List.length_take, List.length_singleton]; omega) DW.size 108 rfl ?_
           intro v173 V173 ho173 hg173
           have D173 := DW.grown hg173 DW.size (fun j hj => (OC.blk j hj).1)
           have hS173 := kbw hg173 hHeld OC HbW.out
           obtain ⟨a3, c3, ev3, _⟩ := ho173.form
           generalize hLn : (ls.take k ++ [(⟨iN, b, a1, c1⟩ : Wg)] ++ ls.drop k).length = Ln at *
           subst ev3
           have OD := mkHid ho173
           have BU := HUB.out.on D173
           have d1 : V173.cell? ⟨U, 1, none⟩ = some (.slice a n cap) := BU.cell 1
           have f1 := BU.frozen 1
           refine hK.out _ _ (hS173) (fun hHeld => ?_)
           (try simp only [Act.put, List.setIfInBounds_toArray, List.set_cons_zero, List.set_cons_succ])
           clear hK K
           have hbU : bW ≠ U := by have := HUB.out.lt; have := HbU.out; omega
           refine tk 109 19 ?_ rfl (Or.inl ⟨by rfl, ?_⟩) hHeld ?_
           rotate_left
           ·
            intro w hSw; go_simp; with_reducible rfl
           (try simp only [Act.put, List.setIfInBounds_toArray, List.set_cons_zero, List.set_cons_succ])
           refine tk 110 20 ?_ rfl (Or.inl ⟨by rfl, ?_⟩) hHeld ?_
           rotate_left
           ·
            intro w hSw; go_simp; with_reducible rfl
           (try simp only [Act.put, List.setIfInBounds_toArray, List.set_cons_zero, List.set_cons_succ])
           refine rdy1 21 rfl (fun K hK => ?_)
           go_simp
           refine hK.out _ _ (Blk.other hHeld _ _ hbU) (fun _ => ?_)
           (try simp only [Act.put, List.setIfInBounds_toArray, List.set_cons_zero, List.set_cons_succ])
           clear hK K
           refine wpAnyH_done (by kernel_rfl) ?_ _
           refine NoPanic.normal ?_
           have HF := mkHid (HFin.out _ _ _ _ D173 BU OD.out)
           clear d1 f1 BU OD D173 DW OC hg173 hS173 hHeld ho173 hbU
           generalize V173.setCell ⟨U, 1, none⟩ (.slice a3 Ln c3) = Z at *
           go_wp2_with fail
           go_ret
           exact HF.out
         ·
          have hL : V137.cell? ⟨U, 1, none⟩ = some (.slice a n cap) := (HUB.out.on DW).cell 1
          go_simp
          clear hL
          refine hK.out _ _ (hHeld) (fun hHeld => ?_)
          (try simp only [Act.put, List.setIfInBounds_toArray, List.set_cons_zero, List.set_cons_succ])
          clear hK K
          refine tk 107 17 ?_ rfl (Or.inl ⟨by rfl, ?_⟩) hHeld ?_
          rotate_left
          ·
           intro w hSw; go_simp; with_reducible rfl
          (try simp only [Act.put, List.setIfInBounds_toArray, List.set_cons_zero, List.set_cons_succ])
          refine wpAnyH_ready (rs := [1, 5]) (by kernel_rfl) (by simp) ?_
          refine AllReadyH.cons rfl (fun K hK => ?_) (AllReadyH.cons rfl (fun K hK => ?_) AllReadyH.nil)
          ·
           go_simp
           have D175 := DW.alloc DW.size (.cells #[] 98)
           have K175 : OwnG 98 (V137.alloc (.cells #[] 98)) Y.heap.size (.slice (some ⟨V137.heap.size, 0, none⟩) 0 0) [] := OwnG.empty V137 _ DW.size
           have B175 := KB.alloc (.cells #[] 98)
           have hEB : V137.heap.size ≠ bB := Nat.ne_of_gt KB.lt
           refine hK.out _ _ (Blk.alloc hHeld _) (fun hHeld => ?_)
           (try simp only [Act.put, List.setIfInBounds_toArray, List.set_cons_zero, List.set_cons_succ])
           clear hK K
           clear DW KB
           generalize V137.heap.size = bE at *
           generalize V137.alloc (.cells #[] 98) = V175 at *
           have DW := D175
           have KE := K175
           have KB := B175
           clear D175 K175 B175
           refine rdy1 5 rfl (fun K hK => ?_)
           have hL : V175.cell? ⟨U, 1, none⟩ = some (.slice a n cap) := (HUB.out.on DW).cell 1
           go_simp
           clear hL
           refine hK.out _ _ (hHeld) (fun hHeld => ?_)
           (try simp only [Act.put, List.setIfInBounds_toArray, List.set_cons_zero, List.set_cons_succ])
           clear hK K
           refine tk 97 7 ?_ rfl (Or.inl ⟨by rfl, ?_⟩) hHeld ?_
           rotate_left
           ·
            intro w hSw; go_simp; with_reducible rfl
           (try simp only [Act.put, List.setIfInBounds_toArray, List.set_cons_zero, List.set_cons_succ])
           refine rdy1 8 rfl (fun K hK => ?_)
           refine step_appGs V175 (by rfl) _ _ (by rfl) Y.heap.size _ [] (by rfl) KE a k cap (ls.take k) (by rfl) ((HT2.out.on DW).src HN.out k hk).1 (by simp only [List.length_nil]; omega) DW.size 98 rfl ?_
           intro v177 V177 ho177 hg177
           have D177 := DW.grown hg177 DW.size (fun j hj => (KE.blk j hj).1)
           have hS177 := kbw hg177 hHeld KE HbW.out
           rw [List.nil_append] at ho177
           have B177 : Blk V177 bB 98 [.int .i64 (iN : Int), .slice a1 512 c1] := (hg177.block bB KB.lt (fun e5 => hEB (Option.some.inj e5).symm)).trans KB
           refine hK.out _ _ (hS177) (fun hHeld => ?_)
           (try simp only [Act.put, List.setIfInBounds_toArray, List.set_cons_zero, List.set_cons_succ])
           clear hK K
           clear DW KE hg177 hS177 KB hEB
           have DW := D177
           have OA := ho177
           have KB := B177
           clear D177 ho177 B177
           refine rdy1 11 rfl (fun K hK => ?_)
           refine step_appGs V177 (by rfl) _ _ (by rfl) Y.heap.size _ (ls.take k) (by rfl) OA (some ⟨bB, 0, none⟩) 1 1 [(⟨iN, b, a1, c1⟩ : Wg)] (by rfl) (SrcG.one KB H512.out) (by rw [List.length_take]; omega) DW.size 101 rfl ?_
           intro v178 V178 ho178 hg178
           have D178 := DW.grown hg178 DW.size (fun j hj => (OA.blk j hj).1)
           have hS178 := kbw hg178 hHeld OA HbW.out
           refine hK.out _ _ (hS178) (fun hHeld => ?_)
           (try simp only [Act.put, List.setIfInBounds_toArray, List.set_cons_zero, List.set_cons_succ])
           clear hK K
           clear DW OA KB hg178 hS178
           have DW := D178
           have OC := ho178
           clear D178 ho178
           refine rdy1 18 rfl (fun K hK => ?_)
           refine step_appGs V178 (by rfl) _ _ (by rfl) Y.heap.size _ (ls.take k ++ [(⟨iN, b, a1, c1⟩ : Wg)]) (by rfl) OC (cutG a cap k) (n - k) (cap - k) (ls.drop k) (by rfl) ((HT2.out.on DW).src HN.out k hk).2 (by rw [List.length_append, List.length_take, List.length_singleton]; omega) DW.size 108 rfl ?_
           intro v179 V179 ho179 hg179
           have D179 := DW.grown hg179 DW.size (fun j hj => (OC.blk j hj).1)
           have hS179 := kbw hg179 hHeld OC HbW.out
           obtain ⟨a3, c3, ev3, _⟩ := ho179.form
           generalize hLn : (ls.take k ++ [(⟨iN, b, a1, c1⟩ : Wg)] ++ ls.drop k).length = Ln at *
           subst ev3
           have OD := mkHid ho179
           have BU := HUB.out.on D179
           have d1 : V179.cell? ⟨U, 1, none⟩ = some (.slice a n cap) := BU.cell 1
           have f1 := BU.frozen 1
           refine hK.out _ _ (hS179) (fun hHeld => ?_)
           (try simp only [Act.put, List.setIfInBounds_toArray, List.set_cons_zero, List.set_cons_succ])
           clear hK K
           have hbU : bW ≠ U := by have := HUB.out.lt; have := HbU.out; omega
           refine tk 109 19 ?_ rfl (Or.inl ⟨by rfl, ?_⟩) hHeld ?_
           rotate_left
           ·
            intro w hSw; go_simp; with_reducible rfl
           (try simp only [Act.put, List.setIfInBounds_toArray, List.set_cons_zero, List.set_cons_succ])
           refine tk 110 20 ?_ rfl (Or.inl ⟨by rfl, ?_⟩) hHeld ?_
           rotate_left
           ·
            intro w hSw; go_simp; with_reducible rfl
           (try simp only [Act.put, List.setIfInBounds_toArray, List.set_cons_zero, List.set_cons_succ])
           refine rdy1 21 rfl (fun K hK => ?_)
           go_simp
           refine hK.out _ _ (Blk.other hHeld _ _ hbU) (fun _ => ?_)
           (try simp only [Act.put, List.setIfInBounds_toArray, List.set_cons_zero, List.set_cons_succ])
           clear hK K
           refine wpAnyH_done (by kernel_rfl) ?_ _
           refine NoPanic.normal ?_
           have HF := mkHid (HFin.out _ _ _ _ D179 BU OD.out)
           clear d1 f1 BU OD D179 DW OC hg179 hS179 hHeld ho179 hbU
           generalize V179.setCell ⟨U, 1, none⟩ (.slice a3 Ln c3) = Z at *
           go_wp2_with fail
           go_ret
           exact HF.out
          ·
           have hL : V137.cell? ⟨U, 1, none⟩ = some (.slice a n cap) := (HUB.out.on DW).cell 1
           go_simp
           clear hL
           refine hK.out _ _ (hHeld) (fun hHeld => ?_)
           (try simp only [Act.put, List.setIfInBounds_toArray, List.set_cons_zero, List.set_cons_succ])
           clear hK K
           refine tk 97 7 ?_ rfl (Or.inl ⟨by rfl, ?_⟩) hHeld ?_
           rotate_left
           ·
            intro w hSw; go_simp; with_reducible rfl
           (try simp only [Act.put, List.setIfInBounds_toArray, List.set_cons_zero, List.set_cons_succ])
           refine rdy1 1 rfl (fun K hK => ?_)
           go_simp
           have D181 := DW.alloc DW.size (.cells #[] 98)
           have K181 : OwnG 98 (V137.alloc (.cells #[] 98)) Y.heap.size (.slice (some ⟨V137.heap.size, 0, none⟩) 0 0) [] := OwnG.empty V137 _ DW.size
           have B181 := KB.alloc (.cells #[] 98)
           have hEB : V137.heap.size ≠ bB := Nat.ne_of_gt KB.lt
           refine hK.out _ _ (Blk.alloc hHeld _) (fun hHeld => ?_)
           (try simp only [Act.put, List.setIfInBounds_toArray, List.set_cons_zero, List.set_cons_succ])
           clear hK K
           clear DW KB
           generalize V137.heap.size = bE at *
           generalize V137.alloc (.cells #[] 98) = V181 at *
           have DW := D181
           have KE := K181
           have KB := B181
           clear D181 K181 B181
           refine rdy1 8 rfl (fun K hK => ?_)
           refine step_appGs V181 (by rfl) _ _ (by rfl) Y.heap.size _ [] (by rfl) KE a k cap (ls.take k) (by rfl) ((HT2.out.on DW).src HN.out k hk).1 (by simp only [List.length_nil]; omega) DW.size 98 rfl ?_
           intro v182 V182 ho182 hg182
           have D182 := DW.grown hg182 DW.size (fun j hj => (KE.blk j hj).1)
           have hS182 := kbw hg182 hHeld KE HbW.out
           rw [List.nil_append] at ho182
           have B182 : Blk V182 bB 98 [.int .i64 (iN : Int), .slice a1 512 c1] := (hg182.block bB KB.lt (fun e5 => hEB (Option.some.inj e5).symm)).trans KB
           refine hK.out _ _ (hS182) (fun hHeld => ?_)
           (try simp only [Act.put, List.setIfInBounds_toArray, List.set_cons_zero, List.set_cons_succ])
           clear hK K
           clear DW KE hg182 hS182 KB hEB
           have DW := D182
           have OA := ho182
           have KB := B182
           clear D182 ho182 B182
           refine rdy1 11 rfl (fun K hK => ?_)
           refine step_appGs V182 (by rfl) _ _ (by rfl) Y.heap.size _ (ls.take k) (by rfl) OA (some ⟨bB, 0, none⟩) 1 1 [(⟨iN, b, a1, c1⟩ : Wg)] (by rfl) (SrcG.one KB H512.out) (by rw [List.length_take]; omega) DW.size 101 rfl ?_
           intro v183 V183 ho183 hg183
           have D183 := DW.grown hg183 DW.size (fun j hj => (OA.blk j hj).1)
           have hS183 := kbw hg183 hHeld OA HbW.out
           refine hK.out _ _ (hS183) (fun hHeld => ?_)
           (try simp only [Act.put, List.setIfInBounds_toArray, List.set_cons_zero, List.set_cons_succ])
           clear hK K
           clear DW OA KB hg183 hS183
           have DW := D183
           have OC := ho183
           clear D183 ho183
           refine rdy1 18 rfl (fun K hK => ?_)
           refine step_appGs V183 (by rfl) _ _ (by rfl) Y.heap.size _ (ls.take k ++ [(⟨iN, b, a1, c1⟩ : Wg)]) (by rfl) OC (cutG a cap k) (n - k) (cap - k) (ls.drop k) (by rfl) ((HT2.out.on DW).src HN.out k hk).2 (by rw [List.length_append, List.length_take, List.length_singleton]; omega) DW.size 108 rfl ?_
           intro v184 V184 ho184 hg184
           have D184 := DW.grown hg184 DW.size (fun j hj => (OC.blk j hj).1)
           have hS184 := kbw hg184 hHeld OC HbW.out
           obtain ⟨a3, c3, ev3, _⟩ := ho184.form
           generalize hLn : (ls.take k ++ [(⟨iN, b, a1, c1⟩ : Wg)] ++ ls.drop k).length = Ln at *
           subst ev3
           have OD := mkHid ho184
           have BU := HUB.out.on D184
           have d1 : V184.cell? ⟨U, 1, none⟩ = some (.slice a n cap) := BU.cell 1
           have f1 := BU.frozen 1
           refine hK.out _ _ (hS184) (fun hHeld => ?_)
           (try simp only [Act.put, List.setIfInBounds_toArray, List.set_cons_zero, List.set_cons_succ])
           clear hK K
           have hbU : bW ≠ U := by have := HUB.out.lt; have := HbU.out; omega
           refine tk 109 19 ?_ rfl (Or.inl ⟨by rfl, ?_⟩) hHeld ?_
           rotate_left
           ·
            intro w hSw; go_simp; with_reducible rfl
           (try simp only [Act.put, List.setIfInBounds_toArray, List.set_cons_zero, List.set_cons_succ])
           refine tk 110 20 ?_ rfl (Or.inl ⟨by rfl, ?_⟩) hHeld ?_
           rotate_left
           ·
            intro w hSw; go_simp; with_reducible rfl
           (try simp only [Act.put, List.setIfInBounds_toArray, List.set_cons_zero, List.set_cons_succ])
           refine rdy1 21 rfl (fun K hK => ?_)
           go_simp
           refine hK.out _ _ (Blk.other hHeld _ _ hbU) (fun _ => ?_)
           (try simp only [Act.put, List.setIfInBounds_toArray, List.set_cons_zero, List.set_cons_succ])
           clear hK K
           refine wpAnyH_done (by kernel_rfl) ?_ _
           refine NoPanic.normal ?_
           have HF := mkHid (HFin.out _ _ _ _ D184 BU OD.out)
           clear d1 f1 BU OD D184 DW OC hg184 hS184 hHeld ho184 hbU
           generalize V184.setCell ⟨U, 1, none⟩ (.slice a3 Ln c3) = Z at *
           go_wp2_with fail
           go_ret
           exact HF.out
        ·
         have hL : V0.cell? ⟨U, 1, none⟩ = some (.slice a n cap) := (HUB.out.on DW).cell 1
         go_simp
         clear hL
         refine hK.out _ _ (hHeld) (fun hHeld => ?_)
         (try simp only [Act.put, List.setIfInBounds_toArray, List.set_cons_zero, List.set_cons_succ])
         clear hK K
         refine tk 107 17 ?_ rfl (Or.inl ⟨by rfl, ?_⟩) hHeld ?_
         rotate_left
         ·
          intro w hSw; go_simp; with_reducible rfl
         (try simp only [Act.put, List.setIfInBounds_toArray, List.set_cons_zero, List.set_cons_succ])
         refine wpAnyH_ready (rs := [1, 5, 10]) (by kernel_rfl) (by simp) ?_
         refine AllReadyH.cons rfl (fun K hK => ?_) (AllReadyH.cons rfl (fun K hK => ?_) (AllReadyH.cons rfl (fun K hK => ?_) AllReadyH.nil))
         ·
          go_simp
          have D186 := DW.alloc DW.size (.cells #[] 98)
          have K186 : OwnG 98 (V0.alloc (.cells #[] 98)) Y.heap.size (.slice (some ⟨V0.heap.size, 0, none⟩) 0 0) [] := OwnG.empty V0 _ DW.size
          refine hK.out _ _ (Blk.alloc hHeld _) (fun hHeld => ?_)
          (try simp only [Act.put, List.setIfInBounds_toArray, List.set_cons_zero, List.set_cons_succ])
          clear hK K
          clear DW
          generalize V0.heap.size = bE at *
          generalize V0.alloc (.cells #[] 98) = V186 at *
          have DW := D186
          have KE := K186
          clear D186 K186
          refine wpAnyH_ready (rs := [5, 10]) (by kernel_rfl) (by simp) ?_
          refine AllReadyH.cons rfl (fun K hK => ?_) (AllReadyH.cons rfl (fun K hK => ?_) AllReadyH.nil)
          ·
           have hL : V186.cell? ⟨U, 1, none⟩ = some (.slice a n cap) := (HUB.out.on DW).cell 1
           go_simp
           clear hL
           refine hK.out _ _ (hHeld) (fun hHeld => ?_)
           (try simp only [Act.put, List.setIfInBounds_toArray, List.set_cons_zero, List.set_cons_succ])
           clear hK K
           refine tk 97 7 ?_ rfl (Or.inl ⟨by rfl, ?_⟩) hHeld ?_
           rotate_left
           ·
            intro w hSw; go_simp; with_reducible rfl
           (try simp only [Act.put, List.setIfInBounds_toArray, List.set_cons_zero, List.set_cons_succ])
           refine wpAnyH_ready (rs := [8, 10]) (by kernel_rfl) (by simp) ?_
           refine AllReadyH.cons rfl (fun K hK => ?_) (AllReadyH.cons rfl (fun K hK => ?_) AllReadyH.nil)
           ·
            refine step_appGs V186 (by rfl) _ _ (by rfl) Y.heap.size _ [] (by rfl) KE a k cap (ls.take k) (by rfl) ((HT2.out.on DW).src HN.out k hk).1 (by simp only [List.length_nil]; omega) DW.size 98 rfl ?_
            intro v188 V188 ho188 hg188
            have D188 := DW.grown hg188 DW.size (fun j hj => (KE.blk j hj).1)
            have hS188 := kbw hg188 hHeld KE HbW.out
            rw [List.nil_append] at ho188
            refine hK.out _ _ (hS188) (fun hHeld => ?_)
            (try simp only [Act.put, List.setIfInBounds_toArray, List.set_cons_zero, List.set_cons_succ])
            clear hK K
            clear DW KE hg188 hS188
            have DW := D188
            have OA := ho188
            clear D188 ho188
            refine rdy1 10 rfl (fun K hK => ?_)
            go_simp
            have D189 := DW.alloc DW.size (.cells #[.int .i64 (iN : Int), .slice a1 512 c1] 98)
            have B189 : Blk (V188.alloc (.cells #[.int .i64 (iN : Int), .slice a1 512 c1] 98)) V188.heap.size 98 [.int .i64 (iN : Int), .slice a1 512 c1] := Blk.newAt V188 _ _ _ _ rfl rfl
            have O189 := OA.alloc (.cells #[.int .i64 (iN : Int), .slice a1 512 c1] 98)
            refine hK.out _ _ (Blk.alloc hHeld _) (fun hHeld => ?_)
            (try simp only [Act.put, List.setIfInBounds_toArray, List.set_cons_zero, List.set_cons_succ])
            clear hK K
            clear DW OA
            generalize V188.heap.size = bB at *
            generalize V188.alloc (.cells #[.int .i64 (iN : Int), .slice a1 512 c1] 98) = V189 at *
            have DW := D189
            have KB := B189
            have OA := O189
            clear D189 B189 O189
            refine rdy1 11 rfl (fun K hK => ?_)
            refine step_appGs V189 (by rfl) _ _ (by rfl) Y.heap.size _ (ls.take k) (by rfl) OA (some ⟨bB, 0, none⟩) 1 1 [(⟨iN, b, a1, c1⟩ : Wg)] (by rfl) (SrcG.one KB H512.out) (by rw [List.length_take]; omega) DW.size 101 rfl ?_
            intro v190 V190 ho190 hg190
            have D190 := DW.grown hg190 DW.size (fun j hj => (OA.blk j hj).1)
            have hS190 := kbw hg190 hHeld OA HbW.out
            refine hK.out _ _ (hS190) (fun hHeld => ?_)
            (try simp only [Act.put, List.setIfInBounds_toArray, List.set_cons_zero, List.set_cons_succ])
            clear hK K
            clear DW OA KB hg190 hS190
            have DW := D190
            have OC := ho190
            clear D190 ho190
            refine rdy1 18 rfl (fun K hK => ?_)
            refine step_appGs V190 (by rfl) _ _ (by rfl) Y.heap.size _ (ls.take k ++ [(⟨iN, b, a1, c1⟩ : Wg)]) (by rfl) OC (cutG a cap k) (n - k) (cap - k) (ls.drop k) (by rfl) ((HT2.out.on DW).src HN.out k hk).2 (by rw [List.length_append, List.length_take, List.length_singleton]; omega) DW.size 108 rfl ?_
            intro v191 V191 ho191 hg191
            have D191 := DW.grown hg191 DW.size (fun j hj => (OC.blk j hj).1)
            have hS191 := kbw hg191 hHeld OC HbW.out
            obtain ⟨a3, c3, ev3, _⟩ := ho191.form
            generalize hLn : (ls.take k ++ [(⟨iN, b, a1, c1⟩ : Wg)] ++ ls.drop k).length = Ln at *
            subst ev3
            have OD := mkHid ho191
            have BU := HUB.out.on D191
            have d1 : V191.cell? ⟨U, 1, none⟩ = some (.slice a n cap) := BU.cell 1
            have f1 := BU.frozen 1
            refine hK.out _ _ (hS191) (fun hHeld => ?_)
            (try simp only [Act.put, List.setIfInBounds_toArray, List.set_cons_zero, List.set_cons_succ])
            clear hK K
            have hbU : bW ≠ U := by have := HUB.out.lt; have := HbU.out; omega
            refine tk 109 19 ?_ rfl (Or.inl ⟨by rfl, ?_⟩) hHeld ?_
            rotate_left
            ·
             intro w hSw; go_simp; with_reducible rfl
            (try simp only [Act.put, List.setIfInBounds_toArray, List.set_cons_zero, List.set_cons_succ])
            refine tk 110 20 ?_ rfl (Or.inl ⟨by rfl, ?_⟩) hHeld ?_
            rotate_left
            ·
             intro w hSw; go_simp; with_reducible rfl
            (try simp only [Act.put, List.setIfInBounds_toArray, List.set_cons_zero, List.set_cons_succ])
            refine rdy1 21 rfl (fun K hK => ?_)
            go_simp
            refine hK.out _ _ (Blk.other hHeld _ _ hbU) (fun _ => ?_)
            (try simp only [Act.put, List.setIfInBounds_toArray, List.set_cons_zero, List.set_cons_succ])
            clear hK K
            refine wpAnyH_done (by kernel_rfl) ?_ _
            refine NoPanic.normal ?_
            have HF := mkHid (HFin.out _ _ _ _ D191 BU OD.out)
            clear d1 f1 BU OD D191 DW OC hg191 hS191 hHeld ho191 hbU
            generalize V191.setCell ⟨U, 1, none⟩ (.slice a3 Ln c3) = Z at *
            go_wp2_with fail
            go_ret
            exact HF.out
           ·
            go_simp
            have D192 := DW.alloc DW.size (.cells #[.int .i64 (iN : Int), .slice a1 512 c1] 98)
            have B192 : Blk (V186.alloc (.cells #[.int .i64 (iN : Int), .slice a1 512 c1] 98)) V186.heap.size 98 [.int .i64 (iN : Int), .slice a1 512 c1] := Blk.newAt V186 _ _ _ _ rfl rfl
            have O192 := KE.alloc (.cells #[.int .i64 (iN : Int), .slice a1 512 c1] 98)
            have hEB : bE ≠ V186.heap.size := Nat.ne_of_lt (KE.blk bE rfl).2
            refine hK.out _ _ (Blk.alloc hHeld _) (fun hHeld => ?_)
            (try simp only [Act.put, List.setIfInBounds_toArray, List.set_cons_zero, List.set_cons_succ])
            clear hK K
            clear DW KE
            generalize V186.heap.size = bB at *
            generalize V186.alloc (.cells #[.int .i64 (iN : Int), .slice a1 512 c1] 98) = V192 at *
            have DW := D192
            have KB := B192
            have KE := O192
            clear D192 B192 O192
            refine rdy1 8 rfl (fun K hK => ?_)
            refine step_appGs V192 (by rfl) _ _ (by rfl) Y.heap.size _ [] (by rfl) KE a k cap (ls.take k) (by rfl) ((HT2.out.on DW).src HN.out k hk).1 (by simp only [List.length_nil]; omega) DW.size 98 rfl ?_
            intro v193 V193 ho193 hg193
            have D193 := DW.grown hg193 DW.size (fun j hj => (KE.blk j hj).1)
            have hS193 := kbw hg193 hHeld KE HbW.out
            rw [List.nil_append] at ho193
            have B193 : Blk V193 bB 98 [.int .i64 (iN : Int), .slice a1 512 c1] := (hg193.block bB KB.lt (fun e5 => hEB (Option.some.inj e5).symm)).trans KB
            refine hK.out _ _ (hS193) (fun hHeld => ?_)
            (try simp only [Act.put, List.setIfInBounds_toArray, List.set_cons_zero, List.set_cons_succ])
            clear hK K
            clear DW KE hg193 hS193 KB hEB
            have DW := D193
            have OA := ho193
            have KB := B193
            clear D193 ho193 B193
            refine rdy1 11 rfl (fun K hK => ?_)
            refine step_appGs V193 (by rfl) _ _ (by rfl) Y.heap.size _ (ls.take k) (by rfl) OA (some ⟨bB, 0, none⟩) 1 1 [(⟨iN, b, a1, c1⟩ : Wg)] (by rfl) (SrcG.one KB H512.out) (by rw [List.length_take]; omega) DW.size 101 rfl ?_
            intro v194 V194 ho194 hg194
            have D194 := DW.grown hg194 DW.size (fun j hj => (OA.blk j hj).1)
            have hS194 := kbw hg194 hHeld OA HbW.out
            refine hK.out _ _ (hS194) (fun hHeld => ?_)
            (try simp only [Act.put, List.setIfInBounds_toArray, List.set_cons_zero, List.set_cons_succ])
            clear hK K
            clear DW OA KB hg194 hS194
            have DW := D194
            have OC := ho194
            clear D194 ho194
            refine rdy1 18 rfl (fun K hK => ?_)
            refine step_appGs V194 (by rfl) _ _ (by rfl) Y.heap.size _ (ls.take k ++ [(⟨iN, b, a1, c1⟩ : Wg)]) (by rfl) OC (cutG a cap k) (n - k) (cap - k) (ls.drop k) (by rfl) ((HT2.out.on DW).src HN.out k hk).2 (by rw [List.length_append, List.length_take, List.length_singleton]; omega) DW.size 108 rfl ?_
            intro v195 V195 ho195 hg195
            have D195 := DW.grown hg195 DW.size (fun j hj => (OC.blk j hj).1)
            have hS195 := kbw hg195 hHeld OC HbW.out
            obtain ⟨a3, c3, ev3, _⟩ := ho195.form
            generalize hLn : (ls.take k ++ [(⟨iN, b, a1, c1⟩ : Wg)] ++ ls.drop k).length = Ln at *
            subst ev3
            have OD := mkHid ho195
            have BU := HUB.out.on D195
            have d1 : V195.cell? ⟨U, 1, none⟩ = some (.slice a n cap) := BU.cell 1
            have f1 := BU.frozen 1
            refine hK.out _ _ (hS195) (fun hHeld => ?_)
            (try simp only [Act.put, List.setIfInBounds_toArray, List.set_cons_zero, List.set_cons_succ])
            clear hK K
            have hbU : bW ≠ U := by have := HUB.out.lt; have := HbU.out; omega
            refine tk 109 19 ?_ rfl (Or.inl ⟨by rfl, ?_⟩) hHeld ?_
            rotate_left
            ·
             intro w hSw; go_simp; with_reducible rfl
            (try simp only [Act.put, List.setIfInBounds_toArray, List.set_cons_zero, List.set_cons_succ])
            refine tk 110 20 ?_ rfl (Or.inl ⟨by rfl, ?_⟩) hHeld ?_
            rotate_left
            ·
             intro w hSw; go_simp; with_reducible rfl
            (try simp only [Act.put, List.setIfInBounds_toArray, List.set_cons_zero, List.set_cons_succ])
            refine rdy1 21 rfl (fun K hK => ?_)
            go_simp
            refine hK.out _ _ (Blk.other hHeld _ _ hbU) (fun _ => ?_)
            (try simp only [Act.put, List.setIfInBounds_toArray, List.set_cons_zero, List.set_cons_succ])
            clear hK K
            refine wpAnyH_done (by kernel_rfl) ?_ _
            refine NoPanic.normal ?_
            have HF := mkHid (HFin.out _ _ _ _ D195 BU OD.out)
            clear d1 f1 BU OD D195 DW OC hg195 hS195 hHeld ho195 hbU
            generalize V195.setCell ⟨U, 1, none⟩ (.slice a3 Ln c3) = Z at *
            go_wp2_with fail
            go_ret
            exact HF.out
          ·
           go_simp
           have D196 := DW.alloc DW.size (.cells #[.int .i64 (iN : Int), .slice a1 512 c1] 98)
           have B196 : Blk (V186.alloc (.cells #[.int .i64 (iN : Int), .slice a1 512 c1] 98)) V186.heap.size 98 [.int .i64 (iN : Int), .slice a1 512 c1] := Blk.newAt V186 _ _ _ _ rfl rfl
           have O196 := KE.alloc (.cells #[.int .i64 (iN : Int), .slice a1 512 c1] 98)
           have hEB : bE ≠ V186.heap.size := Nat.ne_of_lt (KE.blk bE rfl).2
           refine hK.out _ _ (Blk.alloc hHeld _) (fun hHeld => ?_)
           (try simp only [Act.put, List.setIfInBounds_toArray, List.set_cons_zero, List.set_cons_succ])
           clear hK K
           clear DW KE
           generalize V186.heap.size = bB at *
           generalize V186.alloc (.cells #[.int .i64 (iN : Int), .slice a1 512 c1] 98) = V196 at *
           have DW := D196
           have KB := B196
           have KE := O196
           clear D196 B196 O196
           refine rdy1 5 rfl (fun K hK => ?_)
           have hL : V196.cell? ⟨U, 1, none⟩ = some (.slice a n cap) := (HUB.out.on DW).cell 1
           go_simp
           clear hL
           refine hK.out _ _ (hHeld) (fun hHeld => ?_)
           (try simp only [Act.put, List.setIfInBounds_toArray, List.set_cons_zero, List.set_cons_succ])
           clear hK K
           refine tk 97 7 ?_ rfl (Or.inl ⟨by rfl, ?_⟩) hHeld ?_
           rotate_left
           ·
            intro w hSw; go_simp; with_reducible rfl
           (try simp only [Act.put, List.setIfInBounds_toArray, List.set_cons_zero, List.set_cons_succ])
           refine rdy1 8 rfl (fun K hK => ?_)
           refine step_appGs V196 (by rfl) _ _ (by rfl) Y.heap.size _ [] (by rfl) KE a k cap (ls.take k) (by rfl) ((HT2.out.on DW).src HN.out k hk).1 (by simp only [List.length_nil]; omega) DW.size 98 rfl ?_
           intro v198 V198 ho198 hg198
           have D198 := DW.grown hg198 DW.size (fun j hj => (KE.blk j hj).1)
           have hS198 := kbw hg198 hHeld KE HbW.out
           rw [List.nil_append] at ho198
           have B198 : Blk V198 bB 98 [.int .i64 (iN : Int), .slice a1 512 c1] := (hg198.block bB KB.lt (fun e5 => hEB (Option.some.inj e5).symm)).trans KB
           refine hK.out _ _ (hS198) (fun hHeld => ?_)
           (try simp only [Act.put, List.setIfInBounds_toArray, List.set_cons_zero, List.set_cons_succ])
           clear hK K
           clear DW KE hg198 hS198 KB hEB
           have DW := D198
           have OA := ho198
           have KB := B198
           clear D198 ho198 B198
           refine rdy1 11 rfl (fun K hK => ?_)
           refine step_appGs V198 (by rfl) _ _ (by rfl) Y.heap.size _ (ls.take k) (by rfl) OA (some ⟨bB, 0, none⟩) 1 1 [(⟨iN, b, a1, c1⟩ : Wg)] (by rfl) (SrcG.one KB H512.out) (by rw [List.length_take]; omega) DW.size 101 rfl ?_
           intro v199 V199 ho199 hg199
           have D199 := DW.grown hg199 DW.size (fun j hj => (OA.blk j hj).1)
           have hS199 := kbw hg199 hHeld OA HbW.out
           refine hK.out _ _ (hS199) (fun hHeld => ?_)
           (try simp only [Act.put, List.setIfInBounds_toArray, List.set_cons_zero, List.set_cons_succ])
           clear hK K
           clear DW OA KB hg199 hS199
           have DW := D199
           have OC := ho199
           clear D199 ho199
           refine rdy1 18 rfl (fun K hK => ?_)
           refine step_appGs V199 (by rfl) _ _ (by rfl) Y.heap.size _ (ls.take k ++ [(⟨iN, b, a1, c1⟩ : Wg)]) (by rfl) OC (cutG a cap k) (n - k) (cap - k) (ls.drop k) (by rfl) ((HT2.out.on DW).src HN.out k hk).2 (by rw [List.length_append, List.length_take, List.length_singleton]; omega) DW.size 108 rfl ?_
           intro v200 V200 ho200 hg200
           have D200 := DW.grown hg200 DW.size (fun j hj => (OC.blk j hj).1)
           have hS200 := kbw hg200 hHeld OC HbW.out
           obtain ⟨a3, c3, ev3, _⟩ := ho200.form
           generalize hLn : (ls.take k ++ [(⟨iN, b, a1, c1⟩ : Wg)] ++ ls.drop k).length = Ln at *
           subst ev3
           have OD := mkHid ho200
           have BU := HUB.out.on D200
           have d1 : V200.cell? ⟨U, 1, none⟩ = some (.slice a n cap) := BU.cell 1
           have f1 := BU.frozen 1
           refine hK.out _ _ (hS200) (fun hHeld => ?_)
           (try simp only [Act.put, List.setIfInBounds_toArray, List.set_cons_zero, List.set_cons_succ])
           clear hK K
           have hbU : bW ≠ U := by have := HUB.out.lt; have := HbU.out; omega
           refine tk 109 19 ?_ rfl (Or.inl ⟨by rfl, ?_⟩) hHeld ?_
           rotate_left
           ·
            intro w hSw; go_simp; with_reducible rfl
           (try simp only [Act.put, List.setIfInBounds_toArray, List.set_cons_zero, List.set_cons_succ])
           refine tk 110 20 ?_ rfl (Or.inl ⟨by rfl, ?_⟩) hHeld ?_
           rotate_left
           ·
            intro w hSw; go_simp; with_reducible rfl
           (try simp only [Act.put, List.setIfInBounds_toArray, List.set_cons_zero, List.set_cons_succ])
           refine rdy1 21 rfl (fun K hK => ?_)
           go_simp
           refine hK.out _ _ (Blk.other hHeld _ _ hbU) (fun _ => ?_)
           (try simp only [Act.put, List.setIfInBounds_toArray, List.set_cons_zero, List.set_cons_succ])
           clear hK K
           refine wpAnyH_done (by kernel_rfl) ?_ _
           refine NoPanic.normal ?_
           have HF := mkHid (HFin.out _ _ _ _ D200 BU OD.out)
           clear d1 f1 BU OD D200 DW OC hg200 hS200 hHeld ho200 hbU
           generalize V200.setCell ⟨U, 1, none⟩ (.slice a3 Ln c3) = Z at *
           go_wp2_with fail
           go_ret
           exact HF.out
         ·
          have hL : V0.cell? ⟨U, 1, none⟩ = some (.slice a n cap) := (HUB.out.on DW).cell 1
          go_simp
          clear hL
          refine hK.out _ _ (hHeld) (fun hHeld => ?_)
          (try simp only [Act.put, List.setIfInBounds_toArray, List.set_cons_zero, List.set_cons_succ])
          clear hK K
          refine tk 97 7 ?_ rfl (Or.inl ⟨by rfl, ?_⟩) hHeld ?_
          rotate_left
          ·
           intro w hSw; go_simp; with_reducible rfl
          (try simp only [Act.put, List.setIfInBounds_toArray, List.set_cons_zero, List.set_cons_succ])
          refine wpAnyH_ready (rs := [1, 10]) (by kernel_rfl) (by simp) ?_
          refine AllReadyH.cons rfl (fun K hK => ?_) (AllReadyH.cons rfl (fun K hK => ?_) AllReadyH.nil)
          ·
           go_simp
           have D202 := DW.alloc DW.size (.cells #[] 98)
           have K202 : OwnG 98 (V0.alloc (.cells #[] 98)) Y.heap.size (.slice (some ⟨V0.heap.size, 0, none⟩) 0 0) [] := OwnG.empty V0 _ DW.size
           refine hK.out _ _ (Blk.alloc hHeld _) (fun hHeld => ?_)
           (try simp only [Act.put, List.setIfInBounds_toArray, List.set_cons_zero, List.set_cons_succ])
           clear hK K
           clear DW
           generalize V0.heap.size = bE at *
           generalize V0.alloc (.cells #[] 98) = V202 at *
           have DW := D202
           have KE := K202
           clear D202 K202
           refine wpAnyH_ready (rs := [8, 10]) (by kernel_rfl) (by simp) ?_
           refine AllReadyH.cons rfl (fun K hK => ?_) (AllReadyH.cons rfl (fun K hK => ?_) AllReadyH.nil)
           ·
            refine step_appGs V202 (by rfl) _ _ (by rfl) Y.heap.size _ [] (by rfl) KE a k cap (ls.take k) (by rfl) ((HT2.out.on DW).src HN.out k hk).1 (by simp only [List.length_nil]; omega) DW.size 98 rfl ?_
            intro v203 V203 ho203 hg203
            have D203 := DW.grown hg203 DW.size (fun j hj => (KE.blk j hj).1)
            have hS203 := kbw hg203 hHeld KE HbW.out
            rw [List.nil_append] at ho203
            refine hK.out _ _ (hS203) (fun hHeld => ?_)
            (try simp only [Act.put, List.setIfInBounds_toArray, List.set_cons_zero, List.set_cons_succ])
            clear hK K
            clear DW KE hg203 hS203
            have DW := D203
            have OA := ho203
            clear D203 ho203
            refine rdy1 10 rfl (fun K hK => ?_)
            go_simp
            have D204 := DW.alloc DW.size (.cells #[.int .i64 (iN : Int), .slice a1 512 c1] 98)
            have B204 : Blk (V203.alloc (.cells #[.int .i64 (iN : Int), .slice a1 512 c1] 98)) V203.heap.size 98 [.int .i64 (iN : Int), .slice a1 512 c1] := Blk.newAt V203 _ _ _ _ rfl rfl
            have O204 := OA.alloc (.cells #[.int .i64 (iN : Int), .slice a1 512 c1] 98)
            refine hK.out _ _ (Blk.alloc hHeld _) (fun hHeld => ?_)
            (try simp only [Act.put, List.setIfInBounds_toArray, List.set_cons_zero, List.set_cons_succ])
            clear hK K
            clear DW OA
            generalize V203.heap.size = bB at *
            generalize V203.alloc (.cells #[.int .i64 (iN : Int), .slice a1 512 c1] 98) = V204 at *
            have DW := D204
            have KB := B204
            have OA := O204
            clear D204 B204 O204
            refine rdy1 11 rfl (fun K hK => ?_)
            refine step_appGs V204 (by rfl) _ _ (by rfl) Y.heap.size _ (ls.take k) (by rfl) OA (some ⟨bB, 0, none⟩) 1 1 [(⟨iN, b, a1, c1⟩ : Wg)] (by rfl) (SrcG.one KB H512.out) (by rw [List.length_take]; omega) DW.size 101 rfl ?_
            intro v205 V205 ho205 hg205
            have D205 := DW.grown hg205 DW.size (fun j hj => (OA.blk j hj).1)
            have hS205 := kbw hg205 hHeld OA HbW.out
            refine hK.out _ _ (hS205) (fun hHeld => ?_)
            (try simp only [Act.put, List.setIfInBounds_toArray, List.set_cons_zero, List.set_cons_succ])
            clear hK K
            clear DW OA KB hg205 hS205
            have DW := D205
            have OC := ho205
            clear D205 ho205
            refine rdy1 18 rfl (fun K hK => ?_)
            refine step_appGs V205 (by rfl) _ _ (by rfl) Y.heap.size _ (ls.take k ++ [(⟨iN, b, a1, c1⟩ : Wg)]) (by rfl) OC (cutG a cap k) (n - k) (cap - k) (ls.drop k) (by rfl) ((HT2.out.on DW).src HN.out k hk).2 (by rw [List.length_append, List.length_take, List.length_singleton]; omega) DW.size 108 rfl ?_
            intro v206 V206 ho206 hg206
            have D206 := DW.grown hg206 DW.size (fun j hj => (OC.blk j hj).1)
            have hS206 := kbw hg206 hHeld OC HbW.out
            obtain ⟨a3, c3, ev3, _⟩ := ho206.form
            generalize hLn : (ls.take k ++ [(⟨iN, b, a1, c1⟩ : Wg)] ++ ls.drop k).length = Ln at *
            subst ev3
            have OD := mkHid ho206
            have BU := HUB.out.on D206
            have d1 : V206.cell? ⟨U, 1, none⟩ = some (.slice a n cap) := BU.cell 1
            have f1 := BU.frozen 1
            refine hK.out _ _ (hS206) (fun hHeld => ?_)
            (try simp only [Act.put, List.setIfInBounds_toArray, List.set_cons_zero, List.set_cons_succ])
            clear hK K
            have hbU : bW ≠ U := by have := HUB.out.lt; have := HbU.out; omega
            refine tk 109 19 ?_ rfl (Or.inl ⟨by rfl, ?_⟩) hHeld ?_
            rotate_left
            ·
             intro w hSw; go_simp; with_reducible rfl
            (try simp only [Act.put, List.setIfInBounds_toArray, List.set_cons_zero, List.set_cons_succ])
            refine tk 110 20 ?_ rfl (Or.inl ⟨by rfl, ?_⟩) hHeld ?_
            rotate_left
            ·
             intro w hSw; go_simp; with_reducible rfl
            (try simp only [Act.put, List.setIfInBounds_toArray, List.set_cons_zero, List.set_cons_succ])
            refine rdy1 21 rfl (fun K hK => ?_)
            go_simp
            refine hK.out _ _ (Blk.other hHeld _ _ hbU) (fun _ => ?_)
            (try simp only [Act.put, List.setIfInBounds_toArray, List.set_cons_zero, List.set_cons_succ])
            clear hK K
            refine wpAnyH_done (by kernel_rfl) ?_ _
            refine NoPanic.normal ?_
            have HF := mkHid (HFin.out _ _ _ _ D206 BU OD.out)
            clear d1 f1 BU OD D206 DW OC hg206 hS206 hHeld ho206 hbU
            generalize V206.setCell ⟨U, 1, none⟩ (.slice a3 Ln c3) = Z at *
            go_wp2_with fail
            go_ret
            exact HF.out
           ·
            go_simp
            have D207 := DW.alloc DW.size (.cells #[.int .i64 (iN : Int), .slice a1 512 c1] 98)
            have B207 : Blk (V202.alloc (.cells #[.int .i64 (iN : Int), .slice a1 512 c1] 98)) V202.heap.size 98 [.int .i64 (iN : Int), .slice a1 512 c1] := Blk.newAt V202 _ _ _ _ rfl rfl
            have O207 := KE.alloc (.cells #[.int .i64 (iN : Int), .slice a1 512 c1] 98)
            have hEB : bE ≠ V202.heap.size := Nat.ne_of_lt (KE.blk bE rfl).2
            refine hK.out _ _ (Blk.alloc hHeld _) (fun hHeld => ?_)
            (try simp only [Act.put, List.setIfInBounds_toArray, List.set_cons_zero, List.set_cons_succ])
            clear hK K
            clear DW KE
            generalize V202.heap.size = bB at *
            generalize V202.alloc (.cells #[.int .i64 (iN : Int), .slice a1 512 c1] 98) = V207 at *
            have DW := D207
            have KB := B207
            have KE := O207
            clear D207 B207 O207
            refine rdy1 8 rfl (fun K hK => ?_)
            refine step_appGs V207 (by rfl) _ _ (by rfl) Y.heap.size _ [] (by rfl) KE a k cap (ls.take k) (by rfl) ((HT2.out.on DW).src HN.out k hk).1 (by simp only [List.length_nil]; omega) DW.size 98 rfl ?_
            intro v208 V208 ho208 hg208
            have D208 := DW.grown hg208 DW.size (fun j hj => (KE.blk j hj).1)
            have hS208 := kbw hg208 hHeld KE HbW.out
            rw [List.nil_append] at ho208
            have B208 : Blk V208 bB 98 [.int .i64 (iN : Int), .slice a1 512 c1] := (hg208.block bB KB.lt (fun e5 => hEB (Option.some.inj e5).symm)).trans KB
            refine hK.out _ _ (hS208) (fun hHeld => ?_)
            (try simp only [Act.put, List.setIfInBounds_toArray, List.set_cons_zero, List.set_cons_succ])
            clear hK K
            clear DW KE hg208 hS208 KB hEB
            have DW := D208
            have OA := ho208
            have KB := B208
            clear D208 ho208 B208
            refine rdy1 11 rfl (fun K hK => ?_)
            refine step_appGs V208 (by rfl) _ _ (by rfl) Y.heap.size _ (ls.take k) (by rfl) OA (some ⟨bB, 0, none⟩) 1 1 [(⟨iN, b, a1, c1⟩ : Wg)] (by rfl) (SrcG.one KB H512.out) (by rw [List.length_take]; omega) DW.size 101 rfl ?_
            intro v209 V209 ho209 hg209
            have D209 := DW.grown hg209 DW.size (fun j hj => (OA.blk j hj).1)
            have hS209 := kbw hg209 hHeld OA HbW.out
            refine hK.out _ _ (hS209) (fun hHeld => ?_)
            (try simp only [Act.put, List.setIfInBounds_toArray, List.set_cons_zero, List.set_cons_succ])
            clear hK K
            clear DW OA KB hg209 hS209
            have DW := D209
            have OC := ho209
            clear D209 ho209
            refine rdy1 18 rfl (fun K hK => ?_)
            refine step_appGs V209 (by rfl) _ _ (by rfl) Y.heap.size _ (ls.take k ++ [(⟨iN, b, a1, c1⟩ : Wg)]) (by rfl) OC (cutG a cap k) (n - k) (cap - k) (ls.drop k) (by rfl) ((HT2.out.on DW).src HN.out k hk).2 (by rw [List.length_append, List.length_take, List.length_singleton]; omega) DW.size 108 rfl ?_
            intro v210 V210 ho210 hg210
            have D210 := DW.grown hg210 DW.size (fun j hj => (OC.blk j hj).1)
            have hS210 := kbw hg210 hHeld OC HbW.out
            obtain ⟨a3, c3, ev3, _⟩ := ho210.form
            generalize hLn : (ls.take k ++ [(⟨iN, b, a1, c1⟩ : Wg)] ++ ls.drop k).length = Ln at *
            subst ev3
            have OD := mkHid ho210
            have BU := HUB.out.on D210
            have d1 : V210.cell? ⟨U, 1, none⟩ = some (.slice a n cap) := BU.cell 1
            have f1 := BU.frozen 1
            refine hK.out _ _ (hS210) (fun hHeld => ?_)
            (try simp only [Act.put, List.setIfInBounds_toArray, List.set_cons_zero, List.set_cons_succ])
            clear hK K
            have hbU : bW ≠ U := by have := HUB.out.lt; have := HbU.out; omega
            refine tk 109 19 ?_ rfl (Or.inl ⟨by rfl, ?_⟩) hHeld ?_
            rotate_left
            ·
             intro w hSw; go_simp; with_reducible rfl
            (try simp only [Act.put, List.setIfInBounds_toArray, List.set_cons_zero, List.set_cons_succ])
            refine tk 110 20 ?_ rfl (Or.inl ⟨by rfl, ?_⟩) hHeld ?_
            rotate_left
            ·
             intro w hSw; go_simp; with_reducible rfl
            (try simp only [Act.put, List.setIfInBounds_toArray, List.set_cons_zero, List.set_cons_succ])
            refine rdy1 21 rfl (fun K hK => ?_)
            go_simp
            refine hK.out _ _ (Blk.other hHeld _ _ hbU) (fun _ => ?_)
            (try simp only [Act.put, List.setIfInBounds_toArray, List.set_cons_zero, List.set_cons_succ])
            clear hK K
            refine wpAnyH_done (by kernel_rfl) ?_ _
            refine NoPanic.normal ?_
            have HF := mkHid (HFin.out _ _ _ _ D210 BU OD.out)
            clear d1 f1 BU OD D210 DW OC hg210 hS210 hHeld ho210 hbU
            generalize V210.setCell ⟨U, 1, none⟩ (.slice a3 Ln c3) = Z at *
            go_wp2_with fail
            go_ret
            exact HF.out
          ·
           go_simp
           have D211 := DW.alloc DW.size (.cells #[.int .i64 (iN : Int), .slice a1 512 c1] 98)
           have B211 : Blk (V0.alloc (.cells #[.int .i64 (iN : Int), .slice a1 512 c1] 98)) V0.heap.size 98 [.int .i64 (iN : Int), .slice a1 512 c1] := Blk.newAt V0 _ _ _ _ rfl rfl
           refine hK.out _ _ (Blk.alloc hHeld _) (fun hHeld => ?_)
           (try simp only [Act.put, List.setIfInBounds_toArray, List.set_cons_zero, List.set_cons_succ])
           clear hK K
           clear DW
           generalize V0.heap.size = bB at *
           generalize V0.alloc (.cells #[.int .i64 (iN : Int), .slice a1 512 c1] 98) = V211 at *
           have DW := D211
           have KB := B211
           clear D211 B211
           refine rdy1 1 rfl (fun K hK => ?_)
           go_simp
           have D212 := DW.alloc DW.size (.cells #[] 98)
           have K212 : OwnG 98 (V211.alloc (.cells #[] 98)) Y.heap.size (.slice (some ⟨V211.heap.size, 0, none⟩) 0 0) [] := OwnG.empty V211 _ DW.size
           have B212 := KB.alloc (.cells #[] 98)
           have hEB : V211.heap.size ≠ bB := Nat.ne_of_gt KB.lt
           refine hK.out _ _ (Blk.alloc hHeld _) (fun hHeld => ?_)
           (try simp only [Act.put, List.setIfInBounds_toArray, List.set_cons_zero, List.set_cons_succ])
           clear hK K
           clear DW KB
           generalize V211.heap.size = bE at *
           generalize V211.alloc (.cells #[] 98) = V212 at *
           have DW := D212
           have KE := K212
           have KB := B212
           clear D212 K212 B212
           refine rdy1 8 rfl (fun K hK => ?_)
           refine step_appGs V212 (by rfl) _ _ (by rfl) Y.heap.size _ [] (by rfl) KE a k cap (ls.take k) (by rfl) ((HT2.out.on DW).src HN.out k hk).1 (by simp only [List.length_nil]; omega) DW.size 98 rfl ?_
           intro v213 V213 ho213 hg213
           have D213 := DW.grown hg213 DW.size (fun j hj => (KE.blk j hj).1)
           have hS213 := kbw hg213 hHeld KE HbW.out
           rw [List.nil_append] at ho213
           have B213 : Blk V213 bB 98 [.int .i64 (iN : Int), .slice a1 512 c1] := (hg213.block bB KB.lt (fun e5 => hEB (Option.some.inj e5).symm)).trans KB
           refine hK.out _ _ (hS213) (fun hHeld => ?_)
           (try simp only [Act.put, List.setIfInBounds_toArray, List.set_cons_zero, List.set_cons_succ])
           clear hK K
           clear DW KE hg213 hS213 KB hEB
           have DW := D213
           have OA := ho213
           have KB := B213
           clear D213 ho213 B213
           refine rdy1 11 rfl (fun K hK => ?_)
           refine step_appGs V213 (by rfl) _ _ (by rfl) Y.heap.size _ (ls.take k) (by rfl) OA (some ⟨bB, 0, none⟩) 1 1 [(⟨iN, b, a1, c1⟩ : Wg)] (by rfl) (SrcG.one KB H512.out) (by rw [List.length_take]; omega) DW.size 101 rfl ?_
           intro v214 V214 ho214 hg214
           have D214 := DW.grown hg214 DW.size (fun j hj => (OA.blk j hj).1)
           have hS214 := kbw hg214 hHeld OA HbW.out
           refine hK.out _ _ (hS214) (fun hHeld => ?_)
           (try simp only [Act.put, List.setIfInBounds_toArray, List.set_cons_zero, List.set_cons_succ])
           clear hK K
           clear DW OA KB hg214 hS214
           have DW := D214
           have OC := ho214
           clear D214 ho214
           refine rdy1 18 rfl (fun K hK => ?_)
           refine step_appGs V214 (by rfl) _ _ (by rfl) Y.heap.size _ (ls.take k ++ [(⟨iN, b, a1, c1⟩ : Wg)]) (by rfl) OC (cutG a cap k) (n - k) (cap - k) (ls.drop k) (by rfl) ((HT2.out.on DW).src HN.out k hk).2 (by rw [List.length_append, List.length_take, List.length_singleton]; omega) DW.size 108 rfl ?_
           intro v215 V215 ho215 hg215
           have D215 := DW.grown hg215 DW.size (fun j hj => (OC.blk j hj).1)
           have hS215 := kbw hg215 hHeld OC HbW.out
           obtain ⟨a3, c3, ev3, _⟩ := ho215.form
           generalize hLn : (ls.take k ++ [(⟨iN, b, a1, c1⟩ : Wg)] ++ ls.drop k).length = Ln at *
           subst ev3
           have OD := mkHid ho215
           have BU := HUB.out.on D215
           have d1 : V215.cell? ⟨U, 1, none⟩ = some (.slice a n cap) := BU.cell 1
           have f1 := BU.frozen 1
           refine hK.out _ _ (hS215) (fun hHeld => ?_)
           (try simp only [Act.put, List.setIfInBounds_toArray, List.set_cons_zero, List.set_cons_succ])
           clear hK K
           have hbU : bW ≠ U := by have := HUB.out.lt; have := HbU.out; omega
           refine tk 109 19 ?_ rfl (Or.inl ⟨by rfl, ?_⟩) hHeld ?_
           rotate_left
           ·
            intro w hSw; go_simp; with_reducible rfl
           (try simp only [Act.put, List.setIfInBounds_toArray, List.set_cons_zero, List.set_cons_succ])
           refine tk 110 20 ?_ rfl (Or.inl ⟨by rfl, ?_⟩) hHeld ?_
           rotate_left
           ·
            intro w hSw; go_simp; with_reducible rfl
           (try simp only [Act.put, List.setIfInBounds_toArray, List.set_cons_zero, List.set_cons_succ])
           refine rdy1 21 rfl (fun K hK => ?_)
           go_simp
           refine hK.out _ _ (Blk.other hHeld _ _ hbU) (fun _ => ?_)
           (try simp only [Act.put, List.setIfInBounds_toArray, List.set_cons_zero, List.set_cons_succ])
           clear hK K
           refine wpAnyH_done (by kernel_rfl) ?_ _
           refine NoPanic.normal ?_
           have HF := mkHid (HFin.out _ _ _ _ D215 BU OD.out)
           clear d1 f1 BU OD D215 DW OC hg215 hS215 hHeld ho215 hbU
           generalize V215.setCell ⟨U, 1, none⟩ (.slice a3 Ln c3) = Z at *
           go_wp2_with fail
           go_ret
           exact HF.out
         ·
          go_simp
          have D216 := DW.alloc DW.size (.cells #[.int .i64 (iN : Int), .slice a1 512 c1] 98)
          have B216 : Blk (V0.alloc (.cells #[.int .i64 (iN : Int), .slice a1 512 c1] 98)) V0.heap.size 98 [.int .i64 (iN : Int), .slice a1 512 c1] := Blk.newAt V0 _ _ _ _ rfl rfl
          refine hK.out _ _ (Blk.alloc hHeld _) (fun hHeld => ?_)
          (try simp only [Act.put, List.setIfInBounds_toArray, List.set_cons_zero, List.set_cons_succ])
          clear hK K
          clear DW
          generalize V0.heap.size = bB at *
          generalize V0.alloc (.cells #[.int .i64 (iN : Int), .slice a1 512 c1] 98) = V216 at *
          have DW := D216
          have KB := B216
          clear D216 B216
          refine wpAnyH_ready (rs := [1, 5]) (by kernel_rfl) (by simp) ?_
          refine AllReadyH.cons rfl (fun K hK => ?_) (AllReadyH.cons rfl (fun K hK => ?_) AllReadyH.nil)
          ·
           go_simp
           have D217 := DW.alloc DW.size (.cells #[] 98)
           have K217 : OwnG 98 (V216.alloc (.cells #[] 98)) Y.heap.size (.slice (some ⟨V216.heap.size, 0, none⟩) 0 0) [] := OwnG.empty V216 _ DW.size
           have B217 := KB.alloc (.cells #[] 98)
           have hEB : V216.heap.size ≠ bB := Nat.ne_of_gt KB.lt
           refine hK.out _ _ (Blk.alloc hHeld _) (fun hHeld => ?_)
           (try simp only [Act.put, List.setIfInBounds_toArray, List.set_cons_zero, List.set_cons_succ])
           clear hK K
           clear DW KB
           generalize V216.heap.size = bE at *
           generalize V216.alloc (.cells #[] 98) = V217 at *
           have DW := D217
           have KE := K217
           have KB := B217
           clear D217 K217 B217
           refine rdy1 5 rfl (fun K hK => ?_)
           have hL : V217.cell? ⟨U, 1, none⟩ = some (.slice a n cap) := (HUB.out.on DW).cell 1
           go_simp
           clear hL
           refine hK.out _ _ (hHeld) (fun hHeld => ?_)
           (try simp only [Act.put, List.setIfInBounds_toArray, List.set_cons_zero, List.set_cons_succ])
           clear hK K
           refine tk 97 7 ?_ rfl (Or.inl ⟨by rfl, ?_⟩) hHeld ?_
           rotate_left
           ·
            intro w hSw; go_simp; with_reducible rfl
           (try simp only [Act.put, List.setIfInBounds_toArray, List.set_cons_zero, List.set_cons_succ])
           refine rdy1 8 rfl (fun K hK => ?_)
           refine step_appGs V217 (by rfl) _ _ (by rfl) Y.heap.size _ [] (by rfl) KE a k cap (ls.take k) (by rfl) ((HT2.out.on DW).src HN.out k hk).1 (by simp only [List.length_nil]; omega) DW.size 98 rfl ?_
           intro v219 V219 ho219 hg219
           have D219 := DW.grown hg219 DW.size (fun j hj => (KE.blk j hj).1)
           have hS219 := kbw hg219 hHeld KE HbW.out
           rw [List.nil_append] at ho219
           have B219 : Blk V219 bB 98 [.int .i64 (iN : Int), .slice a1 512 c1] := (hg219.block bB KB.lt (fun e5 => hEB (Option.some.inj e5).symm)).trans KB
           refine hK.out _ _ (hS219) (fun hHeld => ?_)
           (try simp only [Act.put, List.setIfInBounds_toArray, List.set_cons_zero, List.set_cons_succ])
           clear hK K
           clear DW KE hg219 hS219 KB hEB
           have DW := D219
           have OA := ho219
           have KB := B219
           clear D219 ho219 B219
           refine rdy1 11 rfl (fun K hK => ?_)
           refine step_appGs V219 (by rfl) _ _ (by rfl) Y.heap.size _ (ls.take k) (by rfl) OA (some ⟨bB, 0, none⟩) 1 1 [(⟨iN, b, a1, c1⟩ : Wg)] (by rfl) (SrcG.one KB H512.out) (by rw [List.length_take]; omega) DW.size 101 rfl ?_
           intro v220 V220 ho220 hg220
           have D220 := DW.grown hg220 DW.size (fun j hj => (OA.blk j hj).1)
           have hS220 := kbw hg220 hHeld OA HbW.out
           refine hK.out _ _ (hS220) (fun hHeld => ?_)
           (try simp only [Act.put, List.setIfInBounds_toArray, List.set_cons_zero, List.set_cons_succ])
           clear hK K
           clear DW OA KB hg220 hS220
           have DW := D220
           have OC := ho220
           clear D220 ho220
           refine rdy1 18 rfl (fun K hK => ?_)
           refine step_appGs V220 (by rfl) _ _ (by rfl) Y.heap.size _ (ls.take k ++ [(⟨iN, b, a1, c1⟩ : Wg)]) (by rfl) OC (cutG a cap k) (n - k) (cap - k) (ls.drop k) (by rfl) ((HT2.out.on DW).src HN.out k hk).2 (by rw [List.length_append, List.length_take, List.length_singleton]; omega) DW.size 108 rfl ?_
           intro v221 V221 ho221 hg221
           have D221 := DW.grown hg221 DW.size (fun j hj => (OC.blk j hj).1)
           have hS221 := kbw hg221 hHeld OC HbW.out
           obtain ⟨a3, c3, ev3, _⟩ := ho221.form
           generalize hLn : (ls.take k ++ [(⟨iN, b, a1, c1⟩ : Wg)] ++ ls.drop k).length = Ln at *
           subst ev3
           have OD := mkHid ho221
           have BU := HUB.out.on D221
           have d1 : V221.cell? ⟨U, 1, none⟩ = some (.slice a n cap) := BU.cell 1
           have f1 := BU.frozen 1
           refine hK.out _ _ (hS221) (fun hHeld => ?_)
           (try simp only [Act.put, List.setIfInBounds_toArray, List.set_cons_zero, List.set_cons_succ])
           clear hK K
           have hbU : bW ≠ U := by have := HUB.out.lt; have := HbU.out; omega
           refine tk 109 19 ?_ rfl (Or.inl ⟨by rfl, ?_⟩) hHeld ?_
           rotate_left
           ·
            intro w hSw; go_simp; with_reducible rfl
           (try simp only [Act.put, List.setIfInBounds_toArray, List.set_cons_zero, List.set_cons_succ])
           refine tk 110 20 ?_ rfl (Or.inl ⟨by rfl, ?_⟩) hHeld ?_
           rotate_left
           ·
            intro w hSw; go_simp; with_reducible rfl
           (try simp only [Act.put, List.setIfInBounds_toArray, List.set_cons_zero, List.set_cons_succ])
           refine rdy1 21 rfl (fun K hK => ?_)
           go_simp
           refine hK.out _ _ (Blk.other hHeld _ _ hbU) (fun _ => ?_)
           (try simp only [Act.put, List.setIfInBounds_toArray, List.set_cons_zero, List.set_cons_succ])
           clear hK K
           refine wpAnyH_done (by kernel_rfl) ?_ _
           refine NoPanic.normal ?_
           have HF := mkHid (HFin.out _ _ _ _ D221 BU OD.out)
           clear d1 f1 BU OD D221 DW OC hg221 hS221 hHeld ho221 hbU
           generalize V221.setCell ⟨U, 1, none⟩ (.slice a3 Ln c3) = Z at *
           go_wp2_with fail
           go_ret
           exact HF.out
          ·
           have hL : V216.cell? ⟨U, 1, none⟩ = some (.slice a n cap) := (HUB.out.on DW).cell 1
           go_simp
           clear hL
           refine hK.out _ _ (hHeld) (fun hHeld => ?_)
           (try simp only [Act.put, List.setIfInBounds_toArray, List.set_cons_zero, List.set_cons_succ])
           clear hK K
           refine tk 97 7 ?_ rfl (Or.inl ⟨by rfl, ?_⟩) hHeld ?_
           rotate_left
           ·
            intro w hSw; go_simp; with_reducible rfl
           (try simp only [Act.put, List.setIfInBounds_toArray, List.set_cons_zero, List.set_cons_succ])
           refine rdy1 1 rfl (fun K hK => ?_)
           go_simp
           have D223 := DW.alloc DW.size (.cells #[] 98)
           have K223 : OwnG 98 (V216.alloc (.cells #[] 98)) Y.heap.size (.slice (some ⟨V216.heap.size, 0, none⟩) 0 0) [] := OwnG.empty V216 _ DW.size
           have B223 := KB.alloc (.cells #[] 98)
           have hEB : V216.heap.size ≠ bB := Nat.ne_of_gt KB.lt
           refine hK.out _ _ (Blk.alloc hHeld _) (fun hHeld => ?_)
           (try simp only [Act.put, List.setIfInBounds_toArray, List.set_cons_zero, List.set_cons_succ])
           clear hK K
           clear DW KB
           generalize V216.heap.size = bE at *
           generalize V216.alloc (.cells #[] 98) = V223 at *
           have DW := D223
           have KE := K223
           have KB := B223
           clear D223 K223 B223
           refine rdy1 8 rfl (fun K hK => ?_)
           refine step_appGs V223 (by rfl) _ _ (by rfl) Y.heap.size _ [] (by rfl) KE a k cap (ls.take k) (by rfl) ((HT2.out.on DW).src HN.out k hk).1 (by simp only [List.length_nil]; omega) DW.size 98 rfl ?_
           intro v224 V224 ho224 hg224
           have D224 := DW.grown hg224 DW.size (fun j hj => (KE.blk j hj).1)
           have hS224 := kbw hg224 hHeld KE HbW.out
           rw [List.nil_append] at ho224
           have B224 : Blk V224 bB 98 [.int .i64 (iN : Int), .slice a1 512 c1] := (hg224.block bB KB.lt (fun e5 => hEB (Option.some.inj e5).symm)).trans KB
           refine hK.out _ _ (hS224) (fun hHeld => ?_)
           (try simp only [Act.put, List.setIfInBounds_toArray, List.set_cons_zero, List.set_cons_succ])
           clear hK K
           clear DW KE hg224 hS224 KB hEB
           have DW := D224
           have OA := ho224
           have KB := B224
           clear D224 ho224 B224
           refine rdy1 11 rfl (fun K hK => ?_)
           refine step_appGs V224 (by rfl) _ _ (by rfl) Y.heap.size _ (ls.take k) (by rfl) OA (some ⟨bB, 0, none⟩) 1 1 [(⟨iN, b, a1, c1⟩ : Wg)] (by rfl) (SrcG.one KB H512.out) (by rw [List.length_take]; omega) DW.size 101 rfl ?_
           intro v225 V225 ho225 hg225
           have D225 := DW.grown hg225 DW.size (fun j hj => (OA.blk j hj).1)
           have hS225 := kbw hg225 hHeld OA HbW.out
           refine hK.out _ _ (hS225) (fun hHeld => ?_)
           (try simp only [Act.put, List.setIfInBounds_toArray, List.set_cons_zero, List.set_cons_succ])
           clear hK K
           clear DW OA KB hg225 hS225
           have DW := D225
           have OC := ho225
           clear D225 ho225
           refine rdy1 18 rfl (fun K hK => ?_)
           refine step_appGs V225 (by rfl) _ _ (by rfl) Y.heap.size _ (ls.take k ++ [(⟨iN, b, a1, c1⟩ : Wg)]) (by rfl) OC (cutG a cap k) (n - k) (cap - k) (ls.drop k) (by rfl) ((HT2.out.on DW).src HN.out k hk).2 (by rw [List.length_append, List.length_take, List.length_singleton]; omega) DW.size 108 rfl ?_
           intro v226 V226 ho226 hg226
           have D226 := DW.grown hg226 DW.size (fun j hj => (OC.blk j hj).1)
           have hS226 := kbw hg226 hHeld OC HbW.out
           obtain ⟨a3, c3, ev3, _⟩ := ho226.form
           generalize hLn : (ls.take k ++ [(⟨iN, b, a1, c1⟩ : Wg)] ++ ls.drop k).length = Ln at *
           subst ev3
           have OD := mkHid ho226
           have BU := HUB.out.on D226
           have d1 : V226.cell? ⟨U, 1, none⟩ = some (.slice a n cap) := BU.cell 1
           have f1 := BU.frozen 1
           refine hK.out _ _ (hS226) (fun hHeld => ?_)
           (try simp only [Act.put, List.setIfInBounds_toArray, List.set_cons_zero, List.set_cons_succ])
           clear hK K
           have hbU : bW ≠ U := by have := HUB.out.lt; have := HbU.out; omega
           refine tk 109 19 ?_ rfl (Or.inl ⟨by rfl, ?_⟩) hHeld ?_
           rotate_left
           ·
            intro w hSw; go_simp; with_reducible rfl
           (try simp only [Act.put, List.setIfInBounds_toArray, List.set_cons_zero, List.set_cons_succ])
           refine tk 110 20 ?_ rfl (Or.inl ⟨by rfl, ?_⟩) hHeld ?_
           rotate_left
           ·
            intro w hSw; go_simp; with_reducible rfl
           (try simp only [Act.put, List.setIfInBounds_toArray, List.set_cons_zero, List.set_cons_succ])
           refine rdy1 21 rfl (fun K hK => ?_)
           go_simp
           refine hK.out _ _ (Blk.other hHeld _ _ hbU) (fun _ => ?_)
           (try simp only [Act.put, List.setIfInBounds_toArray, List.set_cons_zero, List.set_cons_succ])
           clear hK K
           refine wpAnyH_done (by kernel_rfl) ?_ _
           refine NoPanic.normal ?_
           have HF := mkHid (HFin.out _ _ _ _ D226 BU OD.out)
           clear d1 f1 BU OD D226 DW OC hg226 hS226 hHeld ho226 hbU
           generalize V226.setCell ⟨U, 1, none⟩ (.slice a3 Ln c3) = Z at *
           go_wp2_with fail
           go_ret
           exact HF.out
  ·
   have HE : Hid (Tl.wrE ⟨ls.map plW, false⟩ ⟨p, seq, false⟩ i b = 1) := by unfold Hid Tl.wrE; rw [if_neg hod, if_neg (by rw [ha]; decide), if_pos h512]
   have hbz : ((b.length : Int) == 512) = false := by rw [beq_eq_false_iff_ne]; omega
   have hbz' : ¬ (b.length : Int) = 512 := by omega
   clear hod ht hj h hB ha h512
   go_enter Tryz.func82, Tryz.ntmps82
   go_wp2_with fail
   refine HI.mono ?_
   rintro e w1 ⟨rfl, rfl⟩
   go_wp2_with fail
   go_ret
   exact ⟨ret_i10 HE.out.symm, HSame.out (by rw [HE.out]; decide), KeepE.refl _ _, Below.refl _ _⟩
end Go.Proofs.YtdeoankmmolebaaGreat
