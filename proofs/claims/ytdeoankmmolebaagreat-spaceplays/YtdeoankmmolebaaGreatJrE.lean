/- The document's Commit. -/
import Derived.Test.YtdeoankmmolebaaGreatB22
import Derived.Deep.CutBlock
import Derived.Deep.CutRange
namespace Go.Proofs.YtdeoankmmolebaaGreat
open Go.RowKit

theorem ret_iE {a b : Int} (h : a = b) : Ending.returned (.int .i64 a) = .returned (.int .i64 b) := by rw [h]
theorem OwnG.lit {w : World} {B base : Nat} {g : Wg} (hb : Blk w B 98 (wgc g)) (hB : base ≤ B) : OwnG 98 w base (.slice (some ⟨B, 0, none⟩) 1 1) [g] :=
  ⟨rfl, .inr ⟨B, 1, (wgc g).toArray, rfl, hB, hb, Nat.le_refl _, by decide, rfl, rfl⟩⟩
/-- what a commit leaves -/
structure CmPost (X : Nat → Prop) (w w' : World) (U J D base m : Nat) (vL : Value) (ls : List Wg) (t : Tl) (j : Jl) : Prop where
  rt : RtAt w' U J base vL ls (cmT t j).over
  rj : RjAt w' J D (cmJ t j).seq (cmJ t j).dead
  k : IsRk X w' D base m (cmJ t j).p
  keep : KeepT CT w w'
  kb : KeepB X w w'
  bel : Below base w w'

set_option maxRecDepth 20000 in
set_option maxHeartbeats 8000000 in
theorem refCommit10 {X : Nat → Prop} (U J D base m seq : Nat) (dead over : Bool) (vL : Value) (ls : List Wg) (p : Pl) (w : World) (ht : RtAt w U J base vL ls over) (hj : RjAt w J D seq dead) (h : IsRk X w D base m p) (hx : ∀ k, vL.ownBlock = some k → X k) (hU : base ≤ U) (hJ : base ≤ J) (hXU : ¬ X U) (hXJ : ¬ X J) (hl : ls.length ≤ 48) (ha : ∀ g ∈ ls, g.at_ ≤ 1000000) (hm : m ≤ 80000) :
    Calls Tryz.prog 85 #[.pointer (some ⟨U, 0, none⟩)] w fun e w' => e = .returned (.int .i64 (cmE ⟨ls.map plW, over⟩ ⟨p, seq, dead⟩)) ∧ CmPost X w w' U J D base (m + 150) vL ls ⟨ls.map plW, over⟩ ⟨p, seq, dead⟩ := by
  have u0 : w.cell? ⟨U, 0, none⟩ = some (.pointer (some ⟨J, 0, none⟩)) := ht.blk.cell 0
  have u2 : w.cell? ⟨U, 2, none⟩ = some (.bool over) := ht.blk.cell 2
  have j2 : w.cell? ⟨J, 2, none⟩ = some (.bool dead) := Blk.cell hj 2
  by_cases hod : over = true ∨ dead = true
  · have HE : Hid (cmE ⟨ls.map plW, over⟩ ⟨p, seq, dead⟩ = 51) := by unfold Hid cmE; rw [if_pos hod]
    have HF : Hid (CmPost X w w U J D base (m + 150) vL ls ⟨ls.map plW, over⟩ ⟨p, seq, dead⟩) := by
      have e1 : cmT ⟨ls.map plW, over⟩ ⟨p, seq, dead⟩ = ⟨ls.map plW, over⟩ := by unfold cmT; rw [if_pos hod]
      have e2 : cmJ ⟨ls.map plW, over⟩ ⟨p, seq, dead⟩ = ⟨p, seq, dead⟩ := by unfold cmJ; rw [if_pos hod]
      exact ⟨by rw [e1]; exact ht, by rw [e2]; exact hj, by rw [e2]; exact h.more (by omega), KeepT.refl _ _, KeepB.refl _ _, Below.refl _ _⟩
    cases over with
    | true =>
      clear hod ht hj h
      go_enter Tryz.func85, Tryz.ntmps85
      go_wp2_with fail
      go_ret
      exact ⟨ret_iE HE.out.symm, HF.out⟩
    | false =>
      obtain rfl : dead = true := by rcases hod with h | h; cases h; exact h
      clear hod ht hj h
      go_enter Tryz.func85, Tryz.ntmps85
      go_wp2_with fail
      go_ret
      exact ⟨ret_iE HE.out.symm, HF.out⟩
  · obtain rfl : over = false := by cases over with | false => rfl | true => exact absurd (.inl rfl) hod
    obtain rfl : dead = false := by cases dead with | false => rfl | true => exact absurd (.inr rfl) hod
    have HT : Hid (cmT ⟨ls.map plW, false⟩ ⟨p, seq, false⟩ = ⟨ls.map plW, true⟩) := by unfold Hid cmT; rw [if_neg hod]
    have HE0 : Hid (cmE ⟨ls.map plW, false⟩ ⟨p, seq, false⟩ = if ls = [] then 0 else (cmC ⟨ls.map plW, false⟩ ⟨p, seq, false⟩).2) := by
      unfold Hid cmE; rw [if_neg hod]; simp only [List.map_eq_nil_iff]
    have HJ0 : Hid (cmJ ⟨ls.map plW, false⟩ ⟨p, seq, false⟩ = if ls = [] then ⟨p, seq, false⟩ else if (cmC ⟨ls.map plW, false⟩ ⟨p, seq, false⟩).2 = 0 then ⟨(cmC ⟨ls.map plW, false⟩ ⟨p, seq, false⟩).1, nxt seq, false⟩ else ⟨(cmC ⟨ls.map plW, false⟩ ⟨p, seq, false⟩).1, seq, true⟩) := by
      unfold Hid cmJ; rw [if_neg hod]; simp only [List.map_eq_nil_iff]
    obtain ⟨a, cap, hv, _, _, _, _⟩ := ht.gs.own.form
    subst hv
    have f2 := ht.blk.frozen 2
    have hkT : KeepT [105] w (w.setCell ⟨U, 2, none⟩ (.bool true)) := (KeepT.refl _ w).set ht.blk (by simp) 2 _
    have hbU : Below base w (w.setCell ⟨U, 2, none⟩ (.bool true)) := (Below.refl _ w).setCell (p := ⟨U, 2, none⟩) hU _
    have HC0 : Hid (CmAt X w (w.setCell ⟨U, 2, none⟩ (.bool true)) U J D base m seq (.slice a ls.length cap) ls p) :=
      ⟨⟨ht.blk.set 2 _, ht.gs.keep hkT (by decide) (by decide)⟩, hkT.blk hj (by decide), h.keep hkT (by decide) (by decide) (by decide), hkT.wide (by decide),
        ⟨hkT.size, fun k hk _ => Below.heap_setCell _ _ _ _ (fun e => hXU (by have e2 : k = U := e; rw [← e2]; exact hk))⟩, hbU⟩
    have u1 : (w.setCell ⟨U, 2, none⟩ (.bool true)).cell? ⟨U, 1, none⟩ = some (.slice a ls.length cap) := HC0.out.t.blk.cell 1
    obtain ⟨n, hn⟩ : ∃ n, n = ls.length := ⟨_, rfl⟩
    have HN := mkHid hn
    rw [← hn] at u1 hl HC0 hx
    have HX := mkHid hx
    have HA := mkHid ha
    generalize hcE : cmE ⟨ls.map plW, false⟩ ⟨p, seq, false⟩ = cE at *
    clear hcE hod ht hj h hx ha hn hkT hbU
    by_cases hn0 : n = 0
    · have he : ls = [] := List.eq_nil_of_length_eq_zero (by rw [← HN.out]; exact hn0)
      rw [if_pos he] at HE0 HJ0
      rw [hn0] at u1
      go_enter Tryz.func85, Tryz.ntmps85
      go_upto_region 5 with fail
      generalize w.setCell ⟨U, 2, none⟩ (.bool true) = Y at *
      clear u0 u2 j2 f2
      go_wp2_with fail
      go_ret
      refine ⟨ret_iE HE0.out.symm, ⟨?_, by rw [HJ0.out]; exact HC0.out.j, by rw [HJ0.out]; exact HC0.out.k.more (by omega), HC0.out.keep, HC0.out.kb, HC0.out.bel⟩⟩
      rw [HT.out, ← HN.out]
      exact HC0.out.t
    · have hne : ¬ ls = [] := fun e => hn0 (by rw [HN.out, e]; rfl)
      have hnz : ((n : Int) == 0) = false := by rw [beq_eq_false_iff_ne]; omega
      have hnz' : ¬ (n : Int) = 0 := by omega
      rw [if_neg hne] at HE0 HJ0
      go_enter Tryz.func85, Tryz.ntmps85
      go_upto_region 5 with fail
      generalize w.setCell ⟨U, 2, none⟩ (.bool true) = Y at *
      clear u0 u2 j2 f2
      go_wp2_with fail
      go_loopw [4, 5] (fun v i wr => ∃ k : Nat, k ≤ n ∧ i = .int .i64 (k : Int) ∧ Hid (OwnG 98 wr Y.heap.size v (slotG ls k)) ∧ Hid (Below Y.heap.size Y wr)) (fun _ i _ => n - (intOf i).toNat)
      case atStart => exact ⟨0, Nat.zero_le _, rfl, OwnG.nil _ _ _, Below.refl _ _⟩
      case round =>
        obtain ⟨k, hk, rfl, HO, HB⟩ := hrel
        have y1 := (HB.out.cell (p := ⟨U, 1, none⟩) (cell_lt u1)).trans u1
        by_cases hlt : k < n
        · have HkL : Hid (k < ls.length) := by unfold Hid; rw [← HN.out]; exact hlt
          obtain ⟨g, rfl, c0, c1, _, _⟩ := HC0.out.t.gs.cells k HkL.out
          have c1r := (HB.out.cell (p := ⟨g, k * 2 + 1, none⟩) (cell_lt c1)).trans c1
          have h5 := (HC0.out.t.gs.bys (nthG ls k) (by rw [nthG_eq ls k HkL.out]; exact List.getElem_mem HkL.out)).1
          have hlt' : (k : Int) < (n : Int) := by omega
          have hk0 : (0 : Int) ≤ (k : Int) := by omega
          have HSu := mkHid (slotG_succ ls k)
          have HSl : Hid ((slotG ls k).length = k) := slotG_length ls k
          have HC9 : Hid (((1 + k : Nat) : Int) = 1 + (k : Int)) := by unfold Hid; omega
          have hw1 : IntKind.i64.wrap (1 + (k : Int)) = 1 + (k : Int) := by rw [IntKind.wrap_i64]; omega
          clear c0 c1
          generalize slotG ls k = s1 at *
          generalize hgk : nthG ls k = gk at *
          clear hgk
          go_wp2_with (at_builtin; refine list_appG 80 98 Tryz.underlying80 infoW9 _ rfl (.tmp 39) (.tmp 51) rfl Y.heap.size _ s1 rfl (HO.out.alloc _) wr.heap.size ⟨1 + k, gk.b, gk.ad, gk.cap⟩ rfl (by unfold wgc; rw [h5, HC9.out]; exact heap_alloc_new wr _) (by rw [HSl.out]; omega) (by rw [World.size_alloc]; have := HB.out.size; omega) ?_; intro v4 w4 ho4 hg4; have HB4 : Hid (Below Y.heap.size Y w4) := (HB.out.alloc HB.out.size _).grown hg4 (by rw [World.size_alloc]; have := HB.out.size; omega) (fun j hj => (HO.out.blk j hj).1); have HO4 : Hid (OwnG 98 w4 Y.heap.size v4 (slotG ls (k + 1))) := (by rw [HSu.out]; exact ho4); clear ho4 hg4)
          go_roundw
          case rel => exact ⟨k + 1, by omega, by go_num, HO4, HB4⟩
          case measure => simp [intOf]; omega
        · have hge : ¬ (k : Int) < (n : Int) := by omega
          have hkn : k = n := by omega
          have hbase : base ≤ Y.heap.size := HC0.out.k.low
          have hGs : GsAt wr base u4 (slotG ls k) := ⟨HO.out.base hbase, slotG_bys (HC0.out.t.gs.bys.keep (KeepT.of_below (ts := []) HB.out) (by simp)) k (by rw [← HN.out]; exact hk)⟩
          have HSt := steps_cm HC0.out HX.out HB.out u4 (slotG ls k) hGs (fun q hq => .inr (HO.out.blk q hq).1) (by rw [slotG_length]; omega) (slotG_at ls k (by omega))
          rw [slotG_length] at HSt
          rw [hkn, HN.out, slotG_map] at HSt
          rw [← HN.out] at HSt
          have j0 : wr.cell? ⟨J, 0, none⟩ = some (.pointer (some ⟨D, 0, none⟩)) := Blk.cell (HC0.out.on HB.out).j 0
          subst hkn
          obtain ⟨A, hA⟩ : ∃ A, A = cmA ⟨ls.map plW, false⟩ ⟨p, seq, false⟩ := ⟨_, rfl⟩
          have HAA := mkHid hA
          have HSt2 : Calls Tryz.prog 111 #[.pointer (some ⟨D, 0, none⟩), u4] wr fun e w' => e = .returned (.int .i64 A.2) ∧ CmAt X w w' U J D base (m + k + 1) seq (.slice a k cap) ls A.1 ∧ KeepT RD wr w' := by rw [hA]; exact HSt
          clear HSt hA hGs
          obtain ⟨A1, A2⟩ := A
          go_wp2_with fail
          refine HSt2.mono ?_
          rintro e x1 ⟨rfl, hc1, _⟩
          have HC1 := mkHid hc1
          clear hc1 HSt2 HC0 HO HB u1 y1 j0
          go_upto_if 60 with fail
          obtain ⟨B, hB⟩ : ∃ B, B = cmB ⟨ls.map plW, false⟩ ⟨p, seq, false⟩ := ⟨_, rfl⟩
          have HBB := mkHid hB
          clear hB
          obtain ⟨B1, B2⟩ := B
          go_cut [6] from 60 (fun v wx => v = .int .i64 B2 ∧ Hid (CmAt X w wx U J D base (m + k + 3) seq (.slice a k cap) ls B1))
          case first =>
            by_cases hz : A2 = 0
            · have e1 : (B1, B2) = (stepsP A1 [(0, sealJ (nxt seq) (ls.map plW))], stepsE A1 [(0, sealJ (nxt seq) (ls.map plW))]) := by rw [HBB.out, cmB, ← HAA.out, if_pos hz]
              obtain ⟨hB1, hB2⟩ := Prod.mk.inj e1
              have HB1 := mkHid hB1
              have HB2 := mkHid hB2
              have j0 : x1.cell? ⟨J, 0, none⟩ = some (.pointer (some ⟨D, 0, none⟩)) := Blk.cell HC1.out.j 0
              have j1 : x1.cell? ⟨J, 1, none⟩ = some (.int .u64 (seq : Int)) := Blk.cell HC1.out.j 1
              have u1 : x1.cell? ⟨U, 1, none⟩ = some (.slice a k cap) := HC1.out.t.blk.cell 1
              have HSC : Hid (∀ W mm pp, CmAt X w W U J D base mm seq (.slice a k cap) ls pp → W.cell? ⟨J, 0, none⟩ = some (.pointer (some ⟨D, 0, none⟩)) ∧ W.cell? ⟨J, 1, none⟩ = some (.int .u64 (seq : Int)) ∧ W.cell? ⟨U, 1, none⟩ = some (.slice a k cap)) := fun W mm pp hc => ⟨Blk.cell hc.j 0, Blk.cell hc.j 1, hc.t.blk.cell 1⟩
              have hw1 : IntKind.u64.wrap ((seq : Int) + 1) = (nxt seq : Int) := by rw [IntKind.wrap_u64]; unfold nxt; omega
              have hsl : (sealJ (nxt seq) (ls.map plW)).length = 512 := sealJ_length _ _ (by rw [preJ_length, List.length_map, ← HN.out]; omega)
              have HSe : ∀ W, Below x1.heap.size x1 W → Calls Tryz.prog 78 #[.int .u64 (nxt seq : Int), .slice a k cap] W fun e w' => ∃ va vc, e = .returned (.slice va 512 vc) ∧ Hid (OwnB w' x1.heap.size (.slice va 512 vc) (sealJ (nxt seq) (ls.map plW))) ∧ Hid (Below x1.heap.size x1 w') := fun W hW => by
                have h2 := refSeal10 (nxt seq) (.slice a k cap) ls base W (HC1.out.on hW).t.gs (by rw [← HN.out]; omega) HA.out
                refine h2.mono ?_
                rintro e w' ⟨v', rfl, ho, hb⟩
                obtain ⟨va, vc, rfl, _⟩ := ho.isB
                rw [hsl] at ho ⊢
                exact ⟨va, vc, rfl, ho.base hW.size, hW.trans (hb.mono hW.size)⟩
              have HSt3 : ∀ W va vc, Below x1.heap.size x1 W → OwnB W x1.heap.size (.slice va 512 vc) (sealJ (nxt seq) (ls.map plW)) → Calls Tryz.prog 111 #[.pointer (some ⟨D, 0, none⟩), .slice (some ⟨W.heap.size, 0, none⟩) 1 1] (W.alloc (.cells #[.int .i64 0, .slice va 512 vc] 98)) fun e w' => e = .returned (.int .i64 B2) ∧ Hid (CmAt X w w' U J D base (m + k + 3) seq (.slice a k cap) ls B1) := fun W va vc hW hO => by
                have hb2 : Below x1.heap.size x1 (W.alloc (.cells #[.int .i64 0, .slice va 512 vc] 98)) := hW.alloc hW.size _
                have hbx := HC1.out.k.low
                have hGl : GsAt (W.alloc (.cells #[.int .i64 0, .slice va 512 vc] 98)) base (.slice (some ⟨W.heap.size, 0, none⟩) 1 1) [⟨0, sealJ (nxt seq) (ls.map plW), va, vc⟩] := by
                  refine ⟨OwnG.lit (Blk.newAt W _ _ _ _ rfl (by unfold wgc; rw [hsl]; rfl)) (Nat.le_trans hbx hW.size), fun x hx2 => ?_⟩
                  rw [List.mem_singleton.1 hx2]
                  refine ⟨hsl, ?_⟩
                  show OwnB _ base (.slice va (sealJ (nxt seq) (ls.map plW)).length vc) _
                  rw [hsl]
                  exact (hO.alloc _).base hbx
                have h3 := steps_cm HC1.out HX.out hb2 _ _ hGl (fun q hq => .inr (by have e5 := Option.some.inj hq; rw [← e5]; exact hW.size)) (by rw [List.length_singleton]; omega) (fun g hg => by rw [List.mem_singleton.1 hg]; exact Nat.zero_le _)
                rw [HB1.out, HB2.out]
                exact h3.mono fun e w' hh => ⟨hh.1, hh.2.1⟩
              have HSX : Hid (∀ W, Below x1.heap.size x1 W → W.cell? ⟨J, 0, none⟩ = some (.pointer (some ⟨D, 0, none⟩)) ∧ W.cell? ⟨J, 1, none⟩ = some (.int .u64 (seq : Int)) ∧ W.cell? ⟨U, 1, none⟩ = some (.slice a k cap)) := fun W hW => HSC.out W _ _ (HC1.out.on hW)
              have hd0 : Below x1.heap.size x1 x1.drew := (Below.refl _ x1).drew
              clear e1 hB1 hB2 hsl
              subst hz
              go_wp2_with fail
              go_region_held3 (fun w' => w'.cell? ⟨J, 0, none⟩ = some (.pointer (some ⟨D, 0, none⟩)) ∧ w'.cell? ⟨J, 1, none⟩ = some (.int .u64 (seq : Int)) ∧ w'.cell? ⟨U, 1, none⟩ = some (.slice a k cap))
                (first | exact ⟨j0, j1, u1⟩ | assumption | exact HSC.out _ _ _ hcm.out | exact HSX.out _ (hbs.out.alloc hbs.out.size _) | exact HSX.out _ hbs.out)
                (first
                  | (go_at_call 78; refine (HSe _ hd0).mono ?_; rintro e x2 ⟨va, vc, rfl, hos, hbs⟩)
                  | (go_at_call 111; refine (HSt3 _ va vc hbs.out hos.out).mono ?_; rintro e x4 ⟨rfl, hcm⟩))
              go_wp2_with fail
              go_meet
              case rel => exact ⟨rfl, hcm⟩
            · have hzb : (A2 == 0) = false := by rw [beq_eq_false_iff_ne]; exact hz
              have e1 : (B1, B2) = (A1, A2) := by rw [HBB.out, cmB, ← HAA.out, if_neg hz]
              obtain ⟨rfl, rfl⟩ := Prod.mk.inj e1
              go_wp2_with fail
              go_meet
              case rel => exact ⟨rfl, { HC1.out with k := HC1.out.k.more (by omega) }⟩
          case rest =>
            obtain ⟨rfl, HC2⟩ := hcut
            clear HC1
            rename World => x5
            go_upto_if 79 with fail
            obtain ⟨C, hC⟩ : ∃ C, C = cmC ⟨ls.map plW, false⟩ ⟨p, seq, false⟩ := ⟨_, rfl⟩
            have HCC := mkHid hC
            clear hC
            obtain ⟨C1, C2⟩ := C
            go_cut [6] from 79 (fun v wx => v = .int .i64 C2 ∧ Hid (CmAt X w wx U J D base (m + 150) seq (.slice a k cap) ls C1))
            case first =>
              by_cases hz : B2 = 0
              · have e1 : (C1, C2) = (stepsP B1 (ls.map plW), stepsE B1 (ls.map plW)) := by rw [HCC.out, cmC, ← HBB.out, if_pos hz]
                obtain ⟨hB1, hB2⟩ := Prod.mk.inj e1
                have j0 : x5.cell? ⟨J, 0, none⟩ = some (.pointer (some ⟨D, 0, none⟩)) := Blk.cell HC2.out.j 0
                have u1 : x5.cell? ⟨U, 1, none⟩ = some (.slice a k cap) := HC2.out.t.blk.cell 1
                have HSC : Hid (∀ W mm pp, CmAt X w W U J D base mm seq (.slice a k cap) ls pp → W.cell? ⟨J, 0, none⟩ = some (.pointer (some ⟨D, 0, none⟩)) ∧ W.cell? ⟨U, 1, none⟩ = some (.slice a k cap)) := fun W mm pp hc => ⟨Blk.cell hc.j 0, hc.t.blk.cell 1⟩
                have hd0 : Below x5.heap.size x5 x5.drew := (Below.refl _ x5).drew
                have HSt3 : Calls Tryz.prog 111 #[.pointer (some ⟨D, 0, none⟩), .slice a k cap] x5.drew fun e w' => e = .returned (.int .i64 C2) ∧ Hid (CmAt X w w' U J D base (m + 150) seq (.slice a k cap) ls C1) := by
                  have h3 := steps_cm HC2.out HX.out hd0 _ _ (HC2.out.on hd0).t.gs (fun q hq => .inl (HX.out q hq)) (by rw [← HN.out]; omega) HA.out
                  rw [hB1, hB2]
                  exact h3.mono fun e w' hh => ⟨hh.1, { hh.2.1 with k := hh.2.1.k.more (by rw [← HN.out]; omega) }⟩
                clear e1 hB1 hB2
                subst hz
                go_wp2_with fail
                go_region_held3 (fun w' => w'.cell? ⟨J, 0, none⟩ = some (.pointer (some ⟨D, 0, none⟩)) ∧ w'.cell? ⟨U, 1, none⟩ = some (.slice a k cap))
                  (first | exact ⟨j0, u1⟩ | assumption | exact HSC.out _ _ _ hcm.out)
                  (first | (go_at_call 111; refine HSt3.mono ?_; rintro e x4 ⟨rfl, hcm⟩))
                go_wp2_with fail
                go_meet
                case rel => exact ⟨rfl, hcm⟩
              · have hzb : (B2 == 0) = false := by rw [beq_eq_false_iff_ne]; exact hz
                have e1 : (C1, C2) = (B1, B2) := by rw [HCC.out, cmC, ← HBB.out, if_neg hz]
                obtain ⟨rfl, rfl⟩ := Prod.mk.inj e1
                go_wp2_with fail
                go_meet
                case rel => exact ⟨rfl, { HC2.out with k := HC2.out.k.more (by omega) }⟩
            case rest =>
              obtain ⟨rfl, HC3⟩ := hcut
              clear HC2
              rename World => x6
              have HE1 : Hid (cE = C2) := by unfold Hid; rw [HE0.out, ← HCC.out]
              rw [← HCC.out] at HJ0
              have j1 : x6.cell? ⟨J, 1, none⟩ = some (.int .u64 (seq : Int)) := Blk.cell HC3.out.j 1
              have j2 : x6.cell? ⟨J, 2, none⟩ = some (.bool false) := Blk.cell HC3.out.j 2
              have f1 := Blk.frozen HC3.out.j 1
              have f2 := Blk.frozen HC3.out.j 2
              have HPo : Hid (∀ (q : Nat) (x : Value) (sq2 : Nat) (dd : Bool), cmJ ⟨ls.map plW, false⟩ ⟨p, seq, false⟩ = ⟨C1, sq2, dd⟩ → [Value.pointer (some ⟨D, 0, none⟩), .int .u64 (seq : Int), .bool false].set q x = [.pointer (some ⟨D, 0, none⟩), .int .u64 (sq2 : Int), .bool dd] → CmPost X w (x6.setCell ⟨J, q, none⟩ x) U J D base (m + 150) (.slice a ls.length cap) ls ⟨ls.map plW, false⟩ ⟨p, seq, false⟩) := fun q x sq2 dd hq hset => by
                have hkT : KeepT [96] x6 (x6.setCell ⟨J, q, none⟩ x) := (KeepT.refl _ x6).set HC3.out.j (by simp) q x
                refine ⟨?_, ?_, ?_, HC3.out.keep.trans (hkT.wide (by decide)), HC3.out.kb.trans ⟨hkT.size, fun y hy _ => Below.heap_setCell _ _ _ _ (fun e => hXJ (by have e2 : y = J := e; rw [← e2]; exact hy))⟩, HC3.out.bel.setCell (p := ⟨J, q, none⟩) hJ _⟩
                · rw [HT.out, ← HN.out]
                  exact ⟨hkT.blk HC3.out.t.blk (by decide), HC3.out.t.gs.keep hkT (by decide) (by decide)⟩
                · rw [hq]
                  have h9 := Blk.set HC3.out.j q x
                  rw [hset] at h9
                  exact h9
                · rw [hq]
                  exact HC3.out.k.keep hkT (by decide) (by decide) (by decide)
              by_cases hz : C2 = 0
              · have hw1 : IntKind.u64.wrap ((seq : Int) + 1) = (nxt seq : Int) := by rw [IntKind.wrap_u64]; unfold nxt; omega
                have HF := mkHid (HPo.out 1 (.int .u64 (nxt seq : Int)) (nxt seq) false (by rw [HJ0.out, if_pos hz]) rfl)
                subst hz
                go_wp2_with fail
                go_ret
                exact ⟨ret_iE HE1.out.symm, HF.out⟩
              · have hzb : (C2 == 0) = false := by rw [beq_eq_false_iff_ne]; exact hz
                have HF := mkHid (HPo.out 2 (.bool true) seq true (by rw [HJ0.out, if_neg hz]) rfl)
                go_wp2_with fail
                go_ret
                exact ⟨ret_iE HE1.out.symm, HF.out⟩
end Go.Proofs.YtdeoankmmolebaaGreat
