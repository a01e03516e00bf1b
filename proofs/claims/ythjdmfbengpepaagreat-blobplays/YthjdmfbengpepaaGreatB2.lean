/- What the document's Stable, Read and Arm answer. · What the document's settle does. · What the document's Flush and Arm do. · What the document's Crash does. · Regions that draw their order, by hand. · Appends of bytes and of a write, at a step of a region that draws. -/
import Derived.Test.YthjdmfbengpepaaGreatB1
import Derived.BigQuiet
import Derived.Deep.CutBlock
import Derived.Deep.CutRange
import Derived.Test.YthjdmfbengpepaaGreatB0
import Derived.Deep.RegionHeld3
namespace Go.Proofs.YthjdmfbengpepaaGreat
open Go.RowKit

def inR (n : Nat) (i : Int) : Bool := decide (0 ≤ i ∧ i < n)
def stE (r : Rd) (i : Int) : Int := if inR r.n i = true then 0 else 50
def stB (r : Rd) (i : Int) : List UInt8 := if inR r.n i = true then stableOf r.S i.toNat else []
def rdE (r : Rd) (i : Int) : Int := if r.off = true then 51 else stE r i
def rdB (r : Rd) (i : Int) : List UInt8 := if r.off = true then [] else if inR r.n i = true then readOf r.S r.C i.toNat else []
theorem ret_v9 {v : Value} {e e' : Int} (h : e = e') : Ending.returned (.tuple #[v, .int .i64 e]) = .returned (.tuple #[v, .int .i64 e']) := by rw [h]
/-- how many writes there may be -/
def Few (r : Rd) : Prop := r.S.length ≤ 1000000 ∧ r.C.length ≤ 1000000

set_option maxRecDepth 20000 in
set_option maxHeartbeats 1000000 in
theorem refStable9 (D base : Nat) (r : Rd) (vS vC : Value) (i : Int) (w : World) (h : IsRD w D base r vS vC) (hf : Few r) :
    Calls Tryz.prog 86 #[.pointer (some ⟨D, 0, none⟩), .int .i64 i] w fun e w' => ∃ v, e = .returned (.tuple #[v, .int .i64 (stE r i)]) ∧ OwnB w' w.heap.size v (stB r i) ∧ Below w.heap.size w w' := by
  have HI := refIs9 D r.n i w (h.blk.cell 0)
  change Calls Tryz.prog _ _ w (fun e w' => e = .returned (.bool (inR r.n i)) ∧ w' = w) at HI
  have c1 : w.cell? ⟨D, 1, none⟩ = some vS := h.blk.cell 1
  cases hb : inR r.n i with
  | false =>
    rw [hb] at HI
    have Q1 : Hid (stE r i = 50) := by unfold Hid stE; rw [hb]; rfl
    have Q2 : Hid (stB r i = []) := by unfold Hid stB; rw [hb]; rfl
    clear hb
    go_enter Tryz.func86, Tryz.ntmps86
    go_wp2_with fail
    refine HI.mono ?_
    rintro e w' ⟨rfl, hw⟩
    obtain rfl := hw.symm
    go_wp2_with fail
    go_ret2
    exact ⟨_, ret_v9 Q1.out.symm, by rw [Q2.out]; exact OwnB.nil _ _, Below.refl _ _⟩
  | true =>
    rw [hb] at HI
    have Q1 : Hid (stE r i = 0) := by unfold Hid stE; rw [hb]; rfl
    have Q2 : Hid (stB r i = stableOf r.S i.toNat) := by unfold Hid stB; rw [hb]; rfl
    have hz : ((i.toNat : Nat) : Int) = i := by unfold inR at hb; have := of_decide_eq_true hb; omega
    have HL := refLast9 vS r.S base i.toNat w h.ownS h.bS (by have := hf.1; omega)
    rw [hz] at HL
    obtain ⟨a, cap, rfl, _⟩ := h.ownS.form
    clear hb hz
    change Calls Tryz.prog _ _ w (fun e w' => ∃ v', e = _ ∧ OwnB w' w.heap.size v' (stableOf r.S i.toNat) ∧ _) at HL
    generalize stableOf r.S i.toNat = sb1 at *
    generalize (lastW r.S i.toNat).isSome = hs at *
    go_enter Tryz.func86, Tryz.ntmps86
    go_wp2_with fail
    refine HI.mono ?_
    rintro e w' ⟨rfl, hw⟩
    obtain rfl := hw.symm
    go_wp2_with fail
    refine HL.mono ?_
    rintro e w2 ⟨v', rfl, ho, hb2⟩
    go_wp2_with fail
    go_ret2
    exact ⟨_, ret_v9 Q1.out.symm, by rw [Q2.out]; exact ho, hb2⟩

set_option maxRecDepth 20000 in
set_option maxHeartbeats 1000000 in
theorem refRead9 (D base : Nat) (r : Rd) (vS vC : Value) (i : Int) (w : World) (h : IsRD w D base r vS vC) (hf : Few r) :
    Calls Tryz.prog 36 #[.pointer (some ⟨D, 0, none⟩), .int .i64 i] w fun e w' => ∃ v, e = .returned (.tuple #[v, .int .i64 (rdE r i)]) ∧ OwnB w' w.heap.size v (rdB r i) ∧ Below w.heap.size w w' := by
  have HI := refIs9 D r.n i w (h.blk.cell 0)
  change Calls Tryz.prog _ _ w (fun e w' => e = .returned (.bool (inR r.n i)) ∧ w' = w) at HI
  have c2 : w.cell? ⟨D, 2, none⟩ = some vC := h.blk.cell 2
  have c3 : w.cell? ⟨D, 3, none⟩ = some (.bool r.off) := h.blk.cell 3
  cases ho : r.off with
  | true =>
    rw [ho] at c3
    have Q1 : Hid (rdE r i = 51) := by unfold Hid rdE; rw [ho]; rfl
    have Q2 : Hid (rdB r i = []) := by unfold Hid rdB; rw [ho]; rfl
    clear ho
    go_enter Tryz.func36, Tryz.ntmps36
    go_wp2_with fail
    go_ret2
    exact ⟨_, ret_v9 Q1.out.symm, by rw [Q2.out]; exact OwnB.nil _ _, Below.refl _ _⟩
  | false =>
    rw [ho] at c3
    cases hb : inR r.n i with
    | false =>
      rw [hb] at HI
      have Q1 : Hid (rdE r i = 50) := by unfold Hid rdE stE; rw [ho, hb]; rfl
      have Q2 : Hid (rdB r i = []) := by unfold Hid rdB; rw [ho, hb]; rfl
      clear ho hb
      go_enter Tryz.func36, Tryz.ntmps36
      go_wp2_with fail
      refine HI.mono ?_
      rintro e w' ⟨rfl, hw⟩
      obtain rfl := hw.symm
      go_wp2_with fail
      go_ret2
      exact ⟨_, ret_v9 Q1.out.symm, by rw [Q2.out]; exact OwnB.nil _ _, Below.refl _ _⟩
    | true =>
      rw [hb] at HI
      have Q1 : Hid (rdE r i = 0) := by unfold Hid rdE stE; rw [ho, hb]; rfl
      have Q2 : Hid (rdB r i = readOf r.S r.C i.toNat) := by unfold Hid rdB; rw [ho, hb]; rfl
      have hz : ((i.toNat : Nat) : Int) = i := by unfold inR at hb; have := of_decide_eq_true hb; omega
      have HL := refLast9 vC r.C base i.toNat w h.ownC h.bC (by have := hf.2; omega)
      rw [hz] at HL
      have HSt : ∀ W, Below w.heap.size w W → Calls Tryz.prog 86 #[.pointer (some ⟨D, 0, none⟩), .int .i64 i] W fun e w' => ∃ v, e = .returned (.tuple #[v, .int .i64 0]) ∧ OwnB w' W.heap.size v (stableOf r.S i.toNat) ∧ Below W.heap.size W w' := fun W hW => by
        have := refStable9 D base r vS vC i W (h.on hW) hf
        have e1 : stE r i = 0 := by unfold stE; rw [hb]; rfl
        have e2 : stB r i = stableOf r.S i.toNat := by unfold stB; rw [hb]; rfl
        rw [e1, e2] at this; exact this
      obtain ⟨a, cap, rfl, _⟩ := h.ownC.form
      have HRd : Hid (readOf r.S r.C i.toNat = (lastW r.C i.toNat).getD (stableOf r.S i.toNat)) := rfl
      clear hb hz ho
      cases hl : lastW r.C i.toNat with
      | some b =>
        rw [hl] at HL
        have HV : Hid (readOf r.S r.C i.toNat = b) := by unfold Hid; rw [HRd.out, hl]; rfl
        clear hl HRd HSt
        change Calls Tryz.prog _ _ w (fun e w' => ∃ v', e = .returned (.tuple #[v', .bool true]) ∧ OwnB w' w.heap.size v' b ∧ _) at HL
        go_enter Tryz.func36, Tryz.ntmps36
        go_wp2_with fail
        refine HI.mono ?_
        rintro e w' ⟨rfl, hw⟩
        obtain rfl := hw.symm
        go_wp2_with fail
        refine HL.mono ?_
        rintro e w2 ⟨v', rfl, ho, hb2⟩
        go_wp2_with fail
        go_ret2
        exact ⟨_, ret_v9 Q1.out.symm, by rw [Q2.out, HV.out]; exact ho, hb2⟩
      | none =>
        rw [hl] at HL
        have HV : Hid (readOf r.S r.C i.toNat = stableOf r.S i.toNat) := by unfold Hid; rw [HRd.out, hl]; rfl
        clear hl HRd
        change Calls Tryz.prog _ _ w (fun e w' => ∃ v', e = .returned (.tuple #[v', .bool false]) ∧ OwnB w' w.heap.size v' zero512 ∧ _) at HL
        go_enter Tryz.func36, Tryz.ntmps36
        go_wp2_with fail
        refine HI.mono ?_
        rintro e w' ⟨rfl, hw⟩
        obtain rfl := hw.symm
        go_wp2_with fail
        refine HL.mono ?_
        rintro e w2 ⟨v', rfl, _, hb2⟩
        go_wp2_with fail
        refine (HSt _ hb2).mono ?_
        rintro e w3 ⟨v3, rfl, ho3, hb3⟩
        go_wp2_with fail
        go_ret2
        exact ⟨_, ret_v9 Q1.out.symm, by rw [Q2.out, HV.out]; exact ho3.base hb2.size, hb2.trans (hb3.mono hb2.size)⟩
end Go.Proofs.YthjdmfbengpepaaGreat
namespace Go.Proofs.YthjdmfbengpepaaGreat
open Go.RowKit

theorem infoW9 : (Tryz.prog.info? 88).map (fun i => (i.zero, i.size, i.bytes)) = some (some wgZ, 2, 32) := by kernel_rfl
def offW (j : Nat) (l : List Wg) (k : Nat) : List Wg := (l.take k).filter (fun h => !(h.at_ == j))
theorem offW_yes (j : Nat) (l : List Wg) (k : Nat) (hk : k < l.length) (h : ¬ (nthG l k).at_ = j) : offW j l (k + 1) = offW j l k ++ [nthG l k] := by
  unfold offW
  rw [takeW l k hk, List.filter_append, List.filter_cons_of_pos (by simp [h])]; rfl
theorem offW_no (j : Nat) (l : List Wg) (k : Nat) (hk : k < l.length) (h : (nthG l k).at_ = j) : offW j l (k + 1) = offW j l k := by
  unfold offW
  rw [takeW l k hk, List.filter_append, List.filter_cons_of_neg (by simp [h])]; simp
theorem offW_len (j : Nat) (l : List Wg) (k : Nat) : (offW j l k).length ≤ l.length := by
  unfold offW
  exact Nat.le_trans (List.length_filter_le _ _) (by rw [List.length_take]; omega)
theorem offW_all (l : List Wg) (g : Wg) : offW g.at_ l l.length ++ [g] = settleW l g := by unfold offW settleW; rw [List.take_length]
theorem settle_len (l : List Wg) (g : Wg) : (settleW l g).length ≤ l.length + 1 := by rw [← offW_all, List.length_append]; have := offW_len g.at_ l l.length; simp; omega
theorem mkHid {p : Prop} (h : p) : Hid p := h
theorem ret_none9 {x : Value} (h : x = .tuple #[]) : Ending.returned x = .returned (.tuple #[]) := by rw [h]

set_option maxRecDepth 20000 in
set_option maxHeartbeats 2000000 in
theorem refSettle9E (D base : Nat) (r : Rd) (vS vC : Value) (g : Wg) (w : World) (h : IsRD w D base r vS vC) (hg : Bys w base [g]) (hf : r.S.length ≤ 1000000) :
    Calls Tryz.prog 89 #[.pointer (some ⟨D, 0, none⟩), .agg #[.int .i64 (g.at_ : Int), .slice g.ad g.b.length g.cap]] w fun e w' => (∃ x, e = .returned x) ∧ (∃ vS', IsRD w' D base { r with S := settleW r.S g } vS' vC ∧ ∀ k, vS'.ownBlock = some k → w.heap.size ≤ k) ∧ KeepE (fun k => k = D) w w' ∧ Below base w w' := by
  obtain ⟨a, cap, rfl, hle, hmx, hnl, hcs⟩ := h.ownS.form
  have HH : Hid (IsRD w D base r (.slice a r.S.length cap) vC) := h
  have HG : Hid (Bys w base [g]) := hg
  have hD : D < w.heap.size := h.blk.lt
  have hDb := h.low
  obtain ⟨n, hn⟩ : ∃ n, n = r.S.length := ⟨_, rfl⟩
  have HN : Hid (n = r.S.length) := hn
  have HCs : Hid (0 < r.S.length → ∃ g, a = some ⟨g, 0, none⟩ ∧ base ≤ g ∧ g < w.heap.size ∧ ∀ i, i < r.S.length → w.cell? ⟨g, i * 2, none⟩ = some (.int .i64 ((nthG r.S i).at_ : Int)) ∧ w.cell? ⟨g, i * 2 + 1, none⟩ = some (.slice (nthG r.S i).ad (nthG r.S i).b.length (nthG r.S i).cap)) := hcs
  obtain ⟨W0, hW0⟩ : ∃ W0, W0 = w.alloc (.cells #[.int .i64 (g.at_ : Int), .slice g.ad g.b.length g.cap] 88) := ⟨_, rfl⟩
  have T0 : Below w.heap.size w W0 := by rw [hW0]; exact (Below.refl _ w).alloc (Nat.le_refl _) _
  have KW : Hid (Blk W0 w.heap.size 88 (wgc g)) := by rw [hW0]; exact Blk.newAt w _ _ _ _ rfl rfl
  have ZW : W0.heap.size = w.heap.size + 1 := by rw [hW0]; simp
  have HD1 : Hid (∀ W, Below w.heap.size w W → W.cell? ⟨D, 1, none⟩ = some (.slice a n cap)) := fun W hW => by rw [hn]; exact (h.blk.on hW).cell 1
  rw [← hn] at hle
  clear hcs h hg hn
  go_enter Tryz.func89, Tryz.ntmps89
  go_wp2
  rw [← hW0]
  go_loopw [4, 5] (fun v i wr => ∃ k : Nat, k ≤ n ∧ i = .int .i64 (k : Int) ∧ Hid (OwnG 88 wr (w.heap.size + 1) v (offW g.at_ r.S k)) ∧ Hid (Below (w.heap.size + 1) W0 wr)) (fun _ i _ => n - (intOf i).toNat)
  case atStart => exact ⟨0, Nat.zero_le _, rfl, OwnG.nil _ _ _, Below.refl _ _⟩
  case round =>
    clear hW0
    obtain ⟨k, hk, rfl, HO, HB⟩ := hrel
    have TR : Below w.heap.size w wr := T0.trans (HB.out.mono (by omega))
    have d1 := HD1.out wr TR
    have kw := KW.out.below HB.out (by omega)
    have w0 : wr.cell? ⟨w.heap.size, 0, none⟩ = some (.int .i64 (g.at_ : Int)) := kw.cell 0
    have w1 : wr.cell? ⟨w.heap.size, 1, none⟩ = some (.slice g.ad g.b.length g.cap) := kw.cell 1
    have hf2 : n ≤ 1000000 := by rw [HN.out]; exact hf
    by_cases hlt : k < n
    · have hlt' : (k : Int) < (n : Int) := by omega
      have HKL : Hid (k < r.S.length) := by unfold Hid; rw [← HN.out]; exact hlt
      obtain ⟨B, rfl, hB1, hB2, hc⟩ := HCs.out (by have := HKL.out; omega)
      obtain ⟨c0, c1⟩ := hc k HKL.out
      have c0 := (TR.cell (p := ⟨B, k * 2, none⟩) hB2).trans c0
      have c1 := (TR.cell (p := ⟨B, k * 2 + 1, none⟩) hB2).trans c1
      clear hc
      by_cases hat : (nthG r.S k).at_ = g.at_
      · have hai : ((nthG r.S k).at_ : Int) = (g.at_ : Int) := by omega
        have hbe : (((nthG r.S k).at_ : Int) != (g.at_ : Int)) = false := by rw [hai]; simp
        have HO2 := HO
        rw [← offW_no _ _ _ HKL.out hat] at HO2
        rw [hai] at c0
        clear hat HO hai hbe
        go_wp2_with fail
        go_quiet (fail)
        have TB : Below (w.heap.size + 1) W0 (wr.drewN nq) := bel_drewN HB.out nq
        have OB := OwnG.on HO2.out (bel_drewN (Below.refl _ wr) nq)
        generalize wr.drewN nq = y at *
        go_wp2_with fail
        go_roundw
        case rel => exact ⟨k + 1, by omega, by go_num, OB, TB⟩
        case measure => simp [intOf]; omega
      · have hai : ¬ ((nthG r.S k).at_ : Int) = (g.at_ : Int) := by omega
        have hbe : (((nthG r.S k).at_ : Int) == (g.at_ : Int)) = false := by rw [beq_eq_false_iff_ne]; exact hai
        have hbn : (((nthG r.S k).at_ : Int) != (g.at_ : Int)) = true := by rw [bne, hbe]; rfl
        have HS : Hid (offW g.at_ r.S (k + 1) = offW g.at_ r.S k ++ [nthG r.S k]) := offW_yes _ _ _ HKL.out hat
        have HLn : Hid ((offW g.at_ r.S k).length ≤ 1000000) := Nat.le_trans (offW_len _ _ _) hf
        clear hat
        generalize offW g.at_ r.S k = o1 at *
        generalize hw : nthG r.S k = gk at *
        go_wp2_with fail
        go_quiet (fail)
        have TB : Below (w.heap.size + 1) W0 (wr.drewN nq) := bel_drewN HB.out nq
        have TRy : Below w.heap.size w (wr.drewN nq) := bel_drewN TR nq
        have OB := OwnG.on HO.out (bel_drewN (Below.refl _ wr) nq)
        have d1y := HD1.out _ TRy
        have c0y : (wr.drewN nq).cell? ⟨B, k * 2, none⟩ = some (.int .i64 (gk.at_ : Int)) := c0
        have c1y : (wr.drewN nq).cell? ⟨B, k * 2 + 1, none⟩ = some (.slice gk.ad gk.b.length gk.cap) := c1
        generalize wr.drewN nq = y at *
        clear c0 c1 d1 w0 w1 kw TR HO HB
        have HOB := mkHid OB
        clear OB
        have zy : w.heap.size + 1 ≤ y.heap.size := by rw [← ZW]; exact TB.size
        go_wp2_with (at_builtin; refine list_appG 78 88 Tryz.underlying78 infoW9 _ rfl (.tmp 26) (.tmp 34) rfl (w.heap.size + 1) _ o1 rfl (HOB.out.alloc _) y.heap.size gk rfl (heap_alloc_new y _) (by have := HLn.out; omega) (by rw [World.size_alloc]; omega) ?_; intro v2 y2 ho2 hg2)
        have TZ : Below (w.heap.size + 1) W0 y2 := (TB.alloc zy _).grown hg2 (by rw [World.size_alloc]; omega) (fun j hj => (HOB.out.blk j hj).1)
        go_roundw
        case rel => exact ⟨k + 1, by omega, by go_num, by unfold Hid; rw [HS.out]; exact ho2, TZ⟩
        case measure => simp [intOf]; omega
    · have hge : ¬ (k : Int) < (n : Int) := by omega
      have hkn : k = n := by omega
      subst hkn
      have HSe : Hid (offW g.at_ r.S k ++ [g] = settleW r.S g) := by unfold Hid; rw [HN.out]; exact offW_all r.S g
      have HLn : Hid ((offW g.at_ r.S k).length ≤ 1000000) := Nat.le_trans (offW_len _ _ _) hf
      have zy : w.heap.size + 1 ≤ wr.heap.size := by rw [← ZW]; exact HB.out.size
      generalize offW g.at_ r.S k = o1 at *
      clear kw
      go_wp2_with (at_builtin; refine list_appG 78 88 Tryz.underlying78 infoW9 _ rfl (.tmp 37) (.tmp 39) rfl (w.heap.size + 1) _ o1 rfl (HO.out.alloc _) wr.heap.size g rfl (heap_alloc_new wr _) (by have := HLn.out; omega) (by rw [World.size_alloc]; omega) ?_; intro v2 y2 ho2 hg2; have TZ : Below (w.heap.size + 1) W0 y2 := (HB.out.alloc zy _).grown hg2 (by rw [World.size_alloc]; omega) (fun j hj => (HO.out.blk j hj).1); have TY : Below w.heap.size w y2 := T0.trans (TZ.mono (by omega)); have d1y := HD1.out _ TY; have DB := HH.out.blk.on TY; have f1 := DB.frozen 1; obtain ⟨a2, c2, ev2, _⟩ := ho2.form; obtain ⟨Ln, hLn⟩ : ∃ Ln, Ln = (o1 ++ [g]).length := ⟨_, rfl⟩; rw [← hLn] at ev2; clear hLn; subst ev2)
      have HDn := HN.out
      go_end0
      refine ⟨⟨_, rfl⟩, ⟨.slice a2 Ln c2, ?_, fun k hk => by have := (ho2.blk k hk).1; omega⟩, ?_, ?_⟩
      · have hk1 : KeepT [81] y2 (y2.setCell ⟨D, 1, none⟩ (.slice a2 Ln c2)) := (KeepT.refl _ y2).set DB (by simp) 1 _
        have hk2 : KeepT [81] w (y2.setCell ⟨D, 1, none⟩ (.slice a2 Ln c2)) := (KeepT.of_below TY).trans hk1
        refine ⟨DB.set 1 _, hDb, ?_, own_keep hk2 HH.out.ownC (by decide), ?_, HH.out.bC.keep hk2 (by decide), ?_⟩
        · have h9 : OwnG 88 (y2.setCell ⟨D, 1, none⟩ (.slice a2 Ln c2)) (w.heap.size + 1) (.slice a2 Ln c2) (o1 ++ [g]) := own_keep hk1 ho2 (by decide)
          rw [HSe.out] at h9
          exact h9.base (base' := base) (by omega)
        · refine Bys.keep hk2 (fun x hx => ?_) (by decide)
          rcases settle_mem hx with e | e
          · exact HH.out.bS x e
          · rw [e]; exact HG.out g (by simp)
        · intro j hj
          have h1 := (ho2.blk j hj).1
          intro h2
          have := (HH.out.ownC.blk j h2).2
          omega
      · exact (KeepE.of_below TY).set DB (by rfl) 1 _
      · exact (TY.mono (by omega)).setCell (p := ⟨D, 1, none⟩) hDb _
end Go.Proofs.YthjdmfbengpepaaGreat
namespace Go.Proofs.YthjdmfbengpepaaGreat
open Go.RowKit

def flushR (r : Rd) : Rd := if r.off = true then r else { r with S := r.C.foldl settleW r.S, C := [], fl := r.fl + 1 }
def fluC (r : Rd) (vC : Value) : Value := if r.off = true then vC else .slice none 0 0
def flE (r : Rd) : Int := if r.off = true then 51 else 0
def armR (r : Rd) (z : Int) : Rd := { r with armed := decide (0 ≤ z), left := (max z 0).toNat }
theorem fold_len (m S : List Wg) : (m.foldl settleW S).length ≤ S.length + m.length := by
  induction m generalizing S with
  | nil => exact Nat.le_refl _
  | cons g m ih =>
    rw [List.foldl_cons, List.length_cons]
    have h1 := ih (settleW S g)
    have h2 := settle_len S g
    omega
theorem fold_take (l S : List Wg) (k : Nat) (h : k < l.length) : (l.take (k + 1)).foldl settleW S = settleW ((l.take k).foldl settleW S) (nthG l k) := by
  rw [takeW l k h, List.foldl_append]; rfl
/-- the disk's block and where a field lies -/
theorem IsRD.field {w : World} {D base : Nat} {r r' : Rd} {vS vC vC' : Value} (h : IsRD w D base r vS vC) (j : Nat) (u : Value) (hc : (rdc r vS vC).set j u = rdc r' vS vC') (hS : r'.S = r.S) (hC : (r'.C = r.C ∧ vC' = vC) ∨ (r'.C = [] ∧ vC' = .slice none 0 0)) : IsRD (w.setCell ⟨D, j, none⟩ u) D base r' vS vC' := by
  have hk : KeepT [81] w (w.setCell ⟨D, j, none⟩ u) := (KeepT.refl _ w).set h.blk (by simp) j u
  have hb := h.blk.set j u
  rw [hc] at hb
  refine ⟨hb, h.low, by rw [hS]; exact own_keep hk h.ownS (by decide), ?_, by rw [hS]; exact h.bS.keep hk (by decide), ?_, ?_⟩
  · rcases hC with ⟨e1, e2⟩ | ⟨e1, e2⟩
    · rw [e1, e2]; exact own_keep hk h.ownC (by decide)
    · rw [e1, e2]; exact OwnG.nil _ _ _
  · rcases hC with ⟨e1, _⟩ | ⟨e1, _⟩
    · rw [e1]; exact h.bC.keep hk (by decide)
    · rw [e1]; exact fun g hg => by cases hg
  · intro k hk2
    rcases hC with ⟨_, e2⟩ | ⟨_, e2⟩
    · rw [e2]; exact h.apart k hk2
    · rw [e2]; simp [Value.ownBlock]

set_option maxRecDepth 20000 in
set_option maxHeartbeats 2000000 in
theorem refFlush9E (D base : Nat) (r : Rd) (vS vC : Value) (w : World) (h : IsRD w D base r vS vC) (hf : r.S.length + r.C.length ≤ 1000000) (hfl : r.fl ≤ 1000000000) :
    Calls Tryz.prog 39 #[.pointer (some ⟨D, 0, none⟩)] w fun e w' => e = .returned (.int .i64 (flE r)) ∧ (∃ vS', IsRD w' D base (flushR r) vS' (fluC r vC) ∧ ∀ k, vS'.ownBlock = some k → vS.ownBlock = some k ∨ w.heap.size ≤ k) ∧ KeepE (fun k => k = D) w w' ∧ Below base w w' := by
  have c3 : w.cell? ⟨D, 3, none⟩ = some (.bool r.off) := h.blk.cell 3
  have HH : Hid (IsRD w D base r vS vC) := h
  cases hoff : r.off with
  | true =>
    rw [hoff] at c3
    have Q1 : Hid (flE r = 51) := by unfold Hid flE; rw [hoff]; rfl
    have Q2 : Hid (flushR r = r) := by unfold Hid flushR; rw [hoff]; rfl
    have Q3 : Hid (fluC r vC = vC) := by unfold Hid fluC; rw [hoff]; rfl
    clear hoff h
    go_enter Tryz.func39, Tryz.ntmps39
    go_wp2_with fail
    go_ret
    exact ⟨by rw [Q1.out]; rfl, ⟨vS, by rw [Q2.out, Q3.out]; exact HH.out, fun _ h => .inl h⟩, KeepE.refl _ _, Below.refl _ _⟩
  | false =>
    rw [hoff] at c3
    have Q1 : Hid (flE r = 0) := by unfold Hid flE; rw [hoff]; rfl
    have Q3 : Hid (fluC r vC = .slice none 0 0) := by unfold Hid fluC; rw [hoff]; rfl
    have Q2 : Hid (flushR r = { r with S := r.C.foldl settleW r.S, C := [], fl := r.fl + 1 }) := by unfold Hid flushR; rw [hoff]; rfl
    obtain ⟨n, hn⟩ : ∃ n, n = r.C.length := ⟨_, rfl⟩
    have HN : Hid (n = r.C.length) := hn
    obtain ⟨a, cap, hvC, _⟩ := h.ownC.form
    rw [← hn] at hvC
    have hn6 : n ≤ 1000000 := by omega
    have hlow := h.low
    clear hoff h hn
    subst hvC
    go_enter Tryz.func39, Tryz.ntmps39
    go_wp2_with fail
    go_loopw [3] (fun i wr => ∃ (k : Nat) (vS' : Value), k ≤ n ∧ i = .int .i64 (k : Int) ∧ Hid (IsRD wr D base { r with S := (r.C.take k).foldl settleW r.S } vS' (.slice a n cap)) ∧ Hid (∀ k, vS'.ownBlock = some k → vS.ownBlock = some k ∨ w.heap.size ≤ k) ∧ Hid (KeepE (fun k => k = D) w wr) ∧ Hid (Below base w wr)) (fun i _ => n - (intOf i).toNat)
    case atStart => exact ⟨0, vS, Nat.zero_le _, rfl, HH.out, fun _ h => .inl h, KeepE.refl _ _, Below.refl _ _⟩
    case round =>
      obtain ⟨k, vS', hk, rfl, HI, HV, HK, HB⟩ := hrel
      have d2 : wr.cell? ⟨D, 2, none⟩ = some (.slice a n cap) := HI.out.blk.cell 2
      by_cases hlt : k < n
      · have hlt' : (k : Int) < (n : Int) := by omega
        have HKL : Hid (k < r.C.length) := by unfold Hid; rw [← HN.out]; exact hlt
        obtain ⟨a9, c9, e9, _, _, _, hcs⟩ := HI.out.ownC.form
        obtain ⟨B, eB, _, _, hc⟩ := hcs (by have := HKL.out; exact Nat.lt_of_le_of_lt (Nat.zero_le _) this)
        simp only [Value.slice.injEq] at e9
        obtain ⟨rfl, _, rfl⟩ := e9
        subst eB
        obtain ⟨e0, e1⟩ := hc k HKL.out
        have hmem : nthG r.C k ∈ r.C := by rw [nthG_eq _ k HKL.out]; exact List.getElem_mem HKL.out
        have hB1 : Bys wr base [nthG r.C k] := fun x hx => by rw [List.mem_singleton.1 hx]; exact HI.out.bC _ hmem
        have HSt := refSettle9E D base _ vS' _ (nthG r.C k) wr HI.out hB1 (by
          have h1 := fold_len (r.C.take k) r.S
          rw [List.length_take] at h1
          show ((r.C.take k).foldl settleW r.S).length ≤ _
          have := HN.out
          omega)
        have HFt : Hid ((r.C.take (k + 1)).foldl settleW r.S = settleW ((r.C.take k).foldl settleW r.S) (nthG r.C k)) := fold_take r.C r.S k HKL.out
        clear hc hcs hmem hB1 c3
        generalize nthG r.C k = gk at *
        go_wp2_with fail
        refine HSt.mono ?_
        rintro e y ⟨⟨x, rfl⟩, ⟨vS2, hI2, hv2⟩, hk2, hb2⟩
        have HV2 : Hid (∀ k, vS2.ownBlock = some k → vS.ownBlock = some k ∨ w.heap.size ≤ k) := fun k hk => .inr (Nat.le_trans HK.out.size (hv2 k hk))
        clear hv2
        have HI2 : Hid (IsRD y D base { r with S := (r.C.take (k + 1)).foldl settleW r.S } vS2 (.slice (some ⟨B, 0, none⟩) n cap)) := by unfold Hid; rw [HFt.out]; exact hI2
        clear hI2 HSt
        go_wp2_with fail
        go_roundw
        case rel => exact ⟨k + 1, vS2, by omega, by go_num, HI2, HV2, HK.out.trans hk2, HB.out.trans hb2⟩
        case measure => simp [intOf]; omega
      · have hge : ¬ (k : Int) < (n : Int) := by omega
        have hkn : k = n := by omega
        subst hkn
        have hfd : r.C.take k = r.C := List.take_of_length_le (by rw [← HN.out]; exact Nat.le_refl _)
        have hI := HI.out
        rw [hfd] at hI
        have f2 := hI.blk.frozen 2
        have hI2 : IsRD (wr.setCell ⟨D, 2, none⟩ (.slice none 0 0)) D base { r with S := r.C.foldl settleW r.S, C := [] } vS' (.slice none 0 0) := hI.field 2 _ rfl rfl (.inr ⟨rfl, rfl⟩)
        have k2 : KeepE (fun k => k = D) w (wr.setCell ⟨D, 2, none⟩ (.slice none 0 0)) := HK.out.set hI.blk (by rfl) 2 _
        have b2 : Below base w (wr.setCell ⟨D, 2, none⟩ (.slice none 0 0)) := HB.out.setCell (p := ⟨D, 2, none⟩) hlow _
        have d7 : (wr.setCell ⟨D, 2, none⟩ (.slice none 0 0)).cell? ⟨D, 7, none⟩ = some (.int .u64 (r.fl : Int)) := hI2.blk.cell 7
        have f7 := hI2.blk.frozen 7
        have HI2 := mkHid hI2
        clear hI hI2 HI c3
        go_upto_region 8 with fail
        generalize wr.setCell ⟨D, 2, none⟩ (.slice none 0 0) = Y at *
        go_wp2_with fail
        go_ret
        refine ⟨by rw [Q1.out]; rfl, ⟨vS', ?_, HV.out⟩, k2.set HI2.out.blk (by rfl) 7 _, b2.setCell (p := ⟨D, 7, none⟩) hlow _⟩
        rw [Q2.out, Q3.out]
        refine HI2.out.field 7 _ ?_ rfl (.inr ⟨rfl, rfl⟩)
        unfold rdc
        rfl
end Go.Proofs.YthjdmfbengpepaaGreat
namespace Go.Proofs.YthjdmfbengpepaaGreat
open Go.RowKit

/-- a slice of truths in a world -/
structure IsKs (w : World) (a : Option Addr) (n cap : Nat) (l : List Bool) : Prop where
  len_eq : l.length = n
  cells : 0 < n → ∃ b off, a = some ⟨b, off, none⟩ ∧ ∀ i, i < n → w.cell? ⟨b, off + i, none⟩ = some (.bool (l.getD i false))
theorem keptW_step (C : List Wg) (ks : List Bool) (k : Nat) (hC : k < C.length) (hk : k < ks.length) : keptW (C.take (k + 1)) (ks.take (k + 1)) = keptW (C.take k) (ks.take k) ++ (if ks.getD k false = true then [nthG C k] else []) := by
  induction k generalizing C ks with
  | zero =>
    match C, ks, hC, hk with
    | g :: C, b :: ks, _, _ =>
      cases b <;> simp [keptW, nthG]
  | succ k ih =>
    match C, ks, hC, hk with
    | g :: C, b :: ks, hC, hk =>
      have := ih C ks (by simpa using hC) (by simpa using hk)
      rw [List.take_succ_cons, List.take_succ_cons, keptW, this, List.take_succ_cons, List.take_succ_cons, keptW]
      have e1 : nthG (g :: C) (k + 1) = nthG C k := rfl
      have e2 : (b :: ks).getD (k + 1) false = ks.getD k false := rfl
      rw [e1, e2]
      cases b <;> simp
theorem keptW_stop (C : List Wg) (ks : List Bool) (k : Nat) (h : k = C.length ∨ k = ks.length) : keptW (C.take k) (ks.take k) = keptW C ks := by
  induction k generalizing C ks with
  | zero =>
    rcases h with h | h
    · rw [List.eq_nil_of_length_eq_zero h.symm]; simp [keptW]
    · rw [List.eq_nil_of_length_eq_zero h.symm]; simp [keptW]
  | succ k ih =>
    match C, ks with
    | [], ks => simp [keptW]
    | g :: C, [] => simp [keptW]
    | g :: C, b :: ks =>
      rw [List.take_succ_cons, List.take_succ_cons, keptW, ih C ks (by simpa using h), keptW]
theorem keptW_len (C : List Wg) (ks : List Bool) : (keptW C ks).length ≤ C.length := by
  induction C generalizing ks with
  | nil => simp [keptW]
  | cons g C ih =>
    cases ks with
    | nil => simp [keptW]
    | cons b ks =>
      have := ih ks
      rw [keptW]
      split
      · simp; exact this
      · simp; omega
def crashR (r : Rd) (ks : List Bool) : Rd := { r with S := (keptW r.C ks).foldl settleW r.S, C := [], off := false, armed := false, left := 0 }

end Go.Proofs.YthjdmfbengpepaaGreat
namespace Go.Proofs.YthjdmfbengpepaaGreat
open Go.RowKit

/-- an operation of a region is taken first, its temporary told -/
theorem takeH {P : Program} {md : Region.Mode} {ops : Array Oper} {Q : Exit → Act → World → Prop} {S : World → Prop} {i : Nat} {oi : Oper} {v : Value} {fuel : Nat} {listed : Array Bool} {a : Act} {w : World} (d : Option Tmp) (hi : ops[i]? = some oi)
    (hs : Region.noSelect ops = true) (hf : Region.free md ops listed i = true) (hr : (Region.ready md ops listed).contains i = true)
    (hQ : ∀ c a w, Q (.panic c) (a.put oi.dst v) w → Q (.panic c) a w) (hy : YieldsIf P ops S oi v a) (hS : S w) (hd : oi.dst = d)
    (h : wpAnyH P md ops Q S fuel (listed.setIfInBounds i true) (a.put d v) w) : wpAnyH P md ops Q S (fuel + 1) listed a w := by
  subst hd; exact wpAnyH_take hi hs hf hr hQ hy hS h
/-- the one that comes up -/
theorem oneH {P : Program} {md : Region.Mode} {ops : Array Oper} {Q : Exit → Act → World → Prop} {S : World → Prop} {fuel : Nat} {listed : Array Bool} {a : Act} {w : World} (i : Nat) {oi : Oper} (hi : ops[i]? = some oi)
    (hr : Region.ready md ops listed = [i]) (hw : Region.wanted oi (yielded ops a.tmps) = true)
    (h : oi.wp P a w (fun a' w' => S w' ∧ wpAnyH P md ops Q S fuel (listed.setIfInBounds i true) a' w') Q) : wpAnyH P md ops Q S (fuel + 1) listed a w := by
  refine wpAnyH_all hr (by simp) fun j hj => ?_
  have : j = i := by simpa using hj
  subst this
  unfold wpOp
  simp only [hi, hw, if_true]
  exact .inl h
end Go.Proofs.YthjdmfbengpepaaGreat
namespace Go.Proofs.YthjdmfbengpepaaGreat
open Go.RowKit

theorem wp_appB {o : Oper} {a : Act} {K : Act → World → Prop} {Q : Exit → Act → World → Prop} (w : World) (s x : Operand)
    (ho : o.op = .call { callee := .builtin .append, args := #[s, x], argTypes := #[41, 41] }) (base : Nat)
    (v : Value) (l : List UInt8) (hs : a.eval s = v) (hown : OwnB w base v l) (sa : Option Addr) (m c : Nat) (news : List UInt8) (hx : a.eval x = .slice sa m c) (hB : IsB w sa m c news)
    (hbytes : l.length + m ≤ 140737488355328) (hbase : base ≤ w.heap.size)
    (h : ∀ v' w', OwnB w' base v' (l ++ news) → w.grownBy w' v.ownBlock → K (a.put o.dst v') w') : o.wp Tryz.prog a w K Q := by
  obtain ⟨i0, hi, hz0, hz1, hz2⟩ := info_parts info8
  have hlen := hB.len_eq
  cases sa with
  | none =>
    have h0 := hB.nil rfl
    have hle := hB.le
    have hn : news = [] := List.eq_nil_of_length_eq_zero (by omega)
    subst hn
    have hm0 : m = 0 := by simpa using hlen.symm
    subst hm0 h0
    have hrun := run_append_owned_none (P := Tryz.prog) (w := w) base 41 o.type 5 i0 1 Tryz.underlying41 hi v l.length (bv l) hown
    unfold Oper.wp
    simp [execOp, ho, resolve, invoke, builtin, hs, hx, hrun, Result.andThen]
    exact h v w (by rw [List.append_nil]; exact hown) (World.grownBy.refl _ _)
  | some ad =>
    have hc : ∀ j u, (bv news)[j]? = some u → w.cell? (ad.add j) = some u := fun j u hj => by
      have hjl : j < news.length := by
        rcases Nat.lt_or_ge j news.length with h | h
        · exact h
        · rw [List.getElem?_eq_none (by rw [bv_length]; exact h)] at hj; cases hj
      obtain ⟨b, off, e1, hcc⟩ := hB.cells (by omega)
      have e1 := Option.some.inj e1
      rw [e1, Addr.add_lit, hcc j (by omega), ← bv_at news j hjl]
      exact hj
    obtain ⟨v', w', hrun, r1, r2, r3⟩ := run_append_own (P := Tryz.prog) w base 41 o.type 5 i0 (.int .u8 0) 1 1 Tryz.underlying41 hi hz0 hz1 hz2 rfl (by omega) v l.length (bv l) hown ad m c (bv news) (by rw [bv_length]; omega) hc (bv_one news) (by unfold maxLen; omega) (by omega) hbase
    unfold Oper.wp execOp
    simp only [ho, resolve, invoke, builtin, Sem.run_bind, Sem.run_pure, Result.andThen_ok, List.map_toArray, List.map_cons, List.map_nil, hs, hx, hrun]
    exact h v' w' (by unfold OwnB; rw [bv_append, List.length_append, hlen]; exact r1) r2
theorem step_appB {ops : Array Oper} {o : Oper} {a : Act} {K : Act → World → Prop} {Q : Exit → Act → World → Prop} {E : Prop} (w : World) (hgd : o.guard = none) (s x : Operand)
    (ho : o.op = .call { callee := .builtin .append, args := #[s, x], argTypes := #[41, 41] }) (base : Nat)
    (v : Value) (l : List UInt8) (hs : a.eval s = v) (hown : OwnB w base v l) (sa : Option Addr) (m c : Nat) (news : List UInt8) (hx : a.eval x = .slice sa m c) (hB : IsB w sa m c news)
    (hbytes : l.length + m ≤ 140737488355328) (hbase : base ≤ w.heap.size) (d : Tmp) (hd : o.dst = some d)
    (h : ∀ v' w', OwnB w' base v' (l ++ news) → w.grownBy w' v.ownBlock → K (a.put (some d) v') w') :
    if Region.wanted o (yielded ops a.tmps) = true then Oper.wp Tryz.prog o a w K Q else E := by
  have hw : Region.wanted o (yielded ops a.tmps) = true := by simp [Region.wanted, hgd]
  rw [if_pos hw]
  exact wp_appB w s x ho base v l hs hown sa m c news hx hB hbytes hbase (by rw [hd]; exact h)
/-- append(l, g), and where the new row lies -/
theorem step_appGl {ops : Array Oper} {o : Oper} {a : Act} {K : Act → World → Prop} {Q : Exit → Act → World → Prop} {E : Prop} (st e : TypeId) (hu : Tryz.prog.underlying st = some (.slice e))
    (hinfo : (Tryz.prog.info? e).map (fun i => (i.zero, i.size, i.bytes)) = some (some wgZ, 2, 32)) (w : World) (hgd : o.guard = none) (s x : Operand)
    (ho : o.op = .call { callee := .builtin .append, args := #[s, x], argTypes := #[st, st] }) (base : Nat)
    (v : Value) (l : List Wg) (hs : a.eval s = v) (hown : OwnG e w base v l) (B : Nat) (g : Wg) (hx : a.eval x = .slice (some ⟨B, 0, none⟩) 1 1)
    (hb : w.heap[B]? = some (.cells (wgc g).toArray e (0, 0))) (hbytes : (l.length + 1) * 32 ≤ 140737488355328) (hbase : base ≤ w.heap.size) (d : Tmp) (hd : o.dst = some d)
    (h : ∀ k cap w', OwnG e w' base (.slice (some ⟨k, 0, none⟩) (l.length + 1) cap) (l ++ [g]) → w.grownBy w' v.ownBlock → (v.ownBlock = some k ∨ k = w.heap.size) → K (a.put (some d) (.slice (some ⟨k, 0, none⟩) (l.length + 1) cap)) w') :
    if Region.wanted o (yielded ops a.tmps) = true then Oper.wp Tryz.prog o a w K Q else E := by
  obtain ⟨i0, hi, hz0, hz1, hz2⟩ := info_parts hinfo
  refine step_append_lies w hgd s x st ho base e i0 wgZ 2 32 hu hi hz0 hz1 hz2 rfl (by omega) v l.length (wgs l) hs hown ⟨B, 0, none⟩ 1 1 (wgc g) hx rfl
    (fun j u hu => World.news_of_block hb j u (by simpa using hu)) (wgc_one g) (by omega) (by unfold maxLen; omega) hbytes hbase w.heap.size rfl ?_
  intro k cap w' h1 h2 h3 _
  rw [hd]
  exact h k cap w' (by unfold OwnG; rw [wgs_append, List.length_append]; exact h1) h2 h3
end Go.Proofs.YthjdmfbengpepaaGreat
