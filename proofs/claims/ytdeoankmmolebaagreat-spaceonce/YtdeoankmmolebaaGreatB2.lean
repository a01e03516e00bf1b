/- What the document's Stable, Read and Arm answer. · What the document's settle does. -/
import Derived.Test.YtdeoankmmolebaaGreatB1
import Derived.BigQuiet
namespace Go.Proofs.YtdeoankmmolebaaGreat
open Go.RowKit

def inR (n : Nat) (i : Int) : Bool := decide (0 ≤ i ∧ i < n)
def stE (r : Rd) (i : Int) : Int := if inR r.n i = true then 0 else 50
def stB (r : Rd) (i : Int) : List UInt8 := if inR r.n i = true then stableOf r.S i.toNat else []
def rdE (r : Rd) (i : Int) : Int := if r.off = true then 51 else stE r i
def rdB (r : Rd) (i : Int) : List UInt8 := if r.off = true then [] else if inR r.n i = true then readOf r.S r.C i.toNat else []
theorem ret_v9 {v : Value} {e e' : Int} (h : e = e') : Ending.returned (.tuple #[v, .int .i64 e]) = .returned (.tuple #[v, .int .i64 e']) := by rw [h]
/-- how many writes there may be -/
def Few (r : Rd) : Prop := r.S.length ≤ 1000000 ∧ r.C.length ≤ 1000000

set_option maxRecDepth 20000 in
set_option maxHeartbeats 1000000 in
theorem refStable9 (D base : Nat) (r : Rd) (vS vC : Value) (i : Int) (w : World) (h : IsRD w D base r vS vC) (hf : Few r) :
    Calls Tryz.prog 24 #[.pointer (some ⟨D, 0, none⟩), .int .i64 i] w fun e w' => ∃ v, e = .returned (.tuple #[v, .int .i64 (stE r i)]) ∧ OwnB w' w.heap.size v (stB r i) ∧ Below w.heap.size w w' := by
  have HI := refIs9 D r.n i w (h.blk.cell 0)
  change Calls Tryz.prog _ _ w (fun e w' => e = .returned (.bool (inR r.n i)) ∧ w' = w) at HI
  have c1 : w.cell? ⟨D, 1, none⟩ = some vS := h.blk.cell 1
  cases hb : inR r.n i with
  | false =>
    rw [hb] at HI
    have Q1 : Hid (stE r i = 50) := by unfold Hid stE; rw [hb]; rfl
    have Q2 : Hid (stB r i = []) := by unfold Hid stB; rw [hb]; rfl
    clear hb
    go_enter Tryz.func24, Tryz.ntmps24
    go_wp2_with fail
    refine HI.mono ?_
    rintro e w' ⟨rfl, hw⟩
    obtain rfl := hw.symm
    go_wp2_with fail
    go_ret2
    exact ⟨_, ret_v9 Q1.out.symm, by rw [Q2.out]; exact OwnB.nil _ _, Below.refl _ _⟩
  | true =>
    rw [hb] at HI
    have Q1 : Hid (stE r i = 0) := by unfold Hid stE; rw [hb]; rfl
    have Q2 : Hid (stB r i = stableOf r.S i.toNat) := by unfold Hid stB; rw [hb]; rfl
    have hz : ((i.toNat : Nat) : Int) = i := by unfold inR at hb; have := of_decide_eq_true hb; omega
    have HL := refLast9 vS r.S base i.toNat w h.ownS h.bS (by have := hf.1; omega)
    rw [hz] at HL
    obtain ⟨a, cap, rfl, _⟩ := h.ownS.form
    clear hb hz
    change Calls Tryz.prog _ _ w (fun e w' => ∃ v', e = _ ∧ OwnB w' w.heap.size v' (stableOf r.S i.toNat) ∧ _) at HL
    generalize stableOf r.S i.toNat = sb1 at *
    generalize (lastW r.S i.toNat).isSome = hs at *
    go_enter Tryz.func24, Tryz.ntmps24
    go_wp2_with fail
    refine HI.mono ?_
    rintro e w' ⟨rfl, hw⟩
    obtain rfl := hw.symm
    go_wp2_with fail
    refine HL.mono ?_
    rintro e w2 ⟨v', rfl, ho, hb2⟩
    go_wp2_with fail
    go_ret2
    exact ⟨_, ret_v9 Q1.out.symm, by rw [Q2.out]; exact ho, hb2⟩

set_option maxRecDepth 20000 in
set_option maxHeartbeats 1000000 in
theorem refRead9 (D base : Nat) (r : Rd) (vS vC : Value) (i : Int) (w : World) (h : IsRD w D base r vS vC) (hf : Few r) :
    Calls Tryz.prog 40 #[.pointer (some ⟨D, 0, none⟩), .int .i64 i] w fun e w' => ∃ v, e = .returned (.tuple #[v, .int .i64 (rdE r i)]) ∧ OwnB w' w.heap.size v (rdB r i) ∧ Below w.heap.size w w' := by
  have HI := refIs9 D r.n i w (h.blk.cell 0)
  change Calls Tryz.prog _ _ w (fun e w' => e = .returned (.bool (inR r.n i)) ∧ w' = w) at HI
  have c2 : w.cell? ⟨D, 2, none⟩ = some vC := h.blk.cell 2
  have c3 : w.cell? ⟨D, 3, none⟩ = some (.bool r.off) := h.blk.cell 3
  cases ho : r.off with
  | true =>
    rw [ho] at c3
    have Q1 : Hid (rdE r i = 51) := by unfold Hid rdE; rw [ho]; rfl
    have Q2 : Hid (rdB r i = []) := by unfold Hid rdB; rw [ho]; rfl
    clear ho
    go_enter Tryz.func40, Tryz.ntmps40
    go_wp2_with fail
    go_ret2
    exact ⟨_, ret_v9 Q1.out.symm, by rw [Q2.out]; exact OwnB.nil _ _, Below.refl _ _⟩
  | false =>
    rw [ho] at c3
    cases hb : inR r.n i with
    | false =>
      rw [hb] at HI
      have Q1 : Hid (rdE r i = 50) := by unfold Hid rdE stE; rw [ho, hb]; rfl
      have Q2 : Hid (rdB r i = []) := by unfold Hid rdB; rw [ho, hb]; rfl
      clear ho hb
      go_enter Tryz.func40, Tryz.ntmps40
      go_wp2_with fail
      refine HI.mono ?_
      rintro e w' ⟨rfl, hw⟩
      obtain rfl := hw.symm
      go_wp2_with fail
      go_ret2
      exact ⟨_, ret_v9 Q1.out.symm, by rw [Q2.out]; exact OwnB.nil _ _, Below.refl _ _⟩
    | true =>
      rw [hb] at HI
      have Q1 : Hid (rdE r i = 0) := by unfold Hid rdE stE; rw [ho, hb]; rfl
      have Q2 : Hid (rdB r i = readOf r.S r.C i.toNat) := by unfold Hid rdB; rw [ho, hb]; rfl
      have hz : ((i.toNat : Nat) : Int) = i := by unfold inR at hb; have := of_decide_eq_true hb; omega
      have HL := refLast9 vC r.C base i.toNat w h.ownC h.bC (by have := hf.2; omega)
      rw [hz] at HL
      have HSt : ∀ W, Below w.heap.size w W → Calls Tryz.prog 24 #[.pointer (some ⟨D, 0, none⟩), .int .i64 i] W fun e w' => ∃ v, e = .returned (.tuple #[v, .int .i64 0]) ∧ OwnB w' W.heap.size v (stableOf r.S i.toNat) ∧ Below W.heap.size W w' := fun W hW => by
        have := refStable9 D base r vS vC i W (h.on hW) hf
        have e1 : stE r i = 0 := by unfold stE; rw [hb]; rfl
        have e2 : stB r i = stableOf r.S i.toNat := by unfold stB; rw [hb]; rfl
        rw [e1, e2] at this; exact this
      obtain ⟨a, cap, rfl, _⟩ := h.ownC.form
      have HRd : Hid (readOf r.S r.C i.toNat = (lastW r.C i.toNat).getD (stableOf r.S i.toNat)) := rfl
      clear hb hz ho
      cases hl : lastW r.C i.toNat with
      | some b =>
        rw [hl] at HL
        have HV : Hid (readOf r.S r.C i.toNat = b) := by unfold Hid; rw [HRd.out, hl]; rfl
        clear hl HRd HSt
        change Calls Tryz.prog _ _ w (fun e w' => ∃ v', e = .returned (.tuple #[v', .bool true]) ∧ OwnB w' w.heap.size v' b ∧ _) at HL
        go_enter Tryz.func40, Tryz.ntmps40
        go_wp2_with fail
        refine HI.mono ?_
        rintro e w' ⟨rfl, hw⟩
        obtain rfl := hw.symm
        go_wp2_with fail
        refine HL.mono ?_
        rintro e w2 ⟨v', rfl, ho, hb2⟩
        go_wp2_with fail
        go_ret2
        exact ⟨_, ret_v9 Q1.out.symm, by rw [Q2.out, HV.out]; exact ho, hb2⟩
      | none =>
        rw [hl] at HL
        have HV : Hid (readOf r.S r.C i.toNat = stableOf r.S i.toNat) := by unfold Hid; rw [HRd.out, hl]; rfl
        clear hl HRd
        change Calls Tryz.prog _ _ w (fun e w' => ∃ v', e = .returned (.tuple #[v', .bool false]) ∧ OwnB w' w.heap.size v' zero512 ∧ _) at HL
        go_enter Tryz.func40, Tryz.ntmps40
        go_wp2_with fail
        refine HI.mono ?_
        rintro e w' ⟨rfl, hw⟩
        obtain rfl := hw.symm
        go_wp2_with fail
        refine HL.mono ?_
        rintro e w2 ⟨v', rfl, _, hb2⟩
        go_wp2_with fail
        refine (HSt _ hb2).mono ?_
        rintro e w3 ⟨v3, rfl, ho3, hb3⟩
        go_wp2_with fail
        go_ret2
        exact ⟨_, ret_v9 Q1.out.symm, by rw [Q2.out, HV.out]; exact ho3.base hb2.size, hb2.trans (hb3.mono hb2.size)⟩
end Go.Proofs.YtdeoankmmolebaaGreat
namespace Go.Proofs.YtdeoankmmolebaaGreat
open Go.RowKit

theorem infoW9 : (Tryz.prog.info? 98).map (fun i => (i.zero, i.size, i.bytes)) = some (some wgZ, 2, 32) := by kernel_rfl
def offW (j : Nat) (l : List Wg) (k : Nat) : List Wg := (l.take k).filter (fun h => !(h.at_ == j))
theorem offW_yes (j : Nat) (l : List Wg) (k : Nat) (hk : k < l.length) (h : ¬ (nthG l k).at_ = j) : offW j l (k + 1) = offW j l k ++ [nthG l k] := by
  unfold offW
  rw [takeW l k hk, List.filter_append, List.filter_cons_of_pos (by simp [h])]; rfl
theorem offW_no (j : Nat) (l : List Wg) (k : Nat) (hk : k < l.length) (h : (nthG l k).at_ = j) : offW j l (k + 1) = offW j l k := by
  unfold offW
  rw [takeW l k hk, List.filter_append, List.filter_cons_of_neg (by simp [h])]; simp
theorem offW_len (j : Nat) (l : List Wg) (k : Nat) : (offW j l k).length ≤ l.length := by
  unfold offW
  exact Nat.le_trans (List.length_filter_le _ _) (by rw [List.length_take]; omega)
theorem offW_all (l : List Wg) (g : Wg) : offW g.at_ l l.length ++ [g] = settleW l g := by unfold offW settleW; rw [List.take_length]
theorem settle_len (l : List Wg) (g : Wg) : (settleW l g).length ≤ l.length + 1 := by rw [← offW_all, List.length_append]; have := offW_len g.at_ l l.length; simp; omega
theorem mkHid {p : Prop} (h : p) : Hid p := h
theorem ret_none9 {x : Value} (h : x = .tuple #[]) : Ending.returned x = .returned (.tuple #[]) := by rw [h]

set_option maxRecDepth 20000 in
set_option maxHeartbeats 2000000 in
theorem refSettle9E (D base : Nat) (r : Rd) (vS vC : Value) (g : Wg) (w : World) (h : IsRD w D base r vS vC) (hg : Bys w base [g]) (hf : r.S.length ≤ 1000000) :
    Calls Tryz.prog 79 #[.pointer (some ⟨D, 0, none⟩), .agg #[.int .i64 (g.at_ : Int), .slice g.ad g.b.length g.cap]] w fun e w' => (∃ x, e = .returned x) ∧ (∃ vS', IsRD w' D base { r with S := settleW r.S g } vS' vC ∧ ∀ k, vS'.ownBlock = some k → w.heap.size ≤ k) ∧ KeepE (fun k => k = D) w w' ∧ Below base w w' := by
  obtain ⟨a, cap, rfl, hle, hmx, hnl, hcs⟩ := h.ownS.form
  have HH : Hid (IsRD w D base r (.slice a r.S.length cap) vC) := h
  have HG : Hid (Bys w base [g]) := hg
  have hD : D < w.heap.size := h.blk.lt
  have hDb := h.low
  obtain ⟨n, hn⟩ : ∃ n, n = r.S.length := ⟨_, rfl⟩
  have HN : Hid (n = r.S.length) := hn
  have HCs : Hid (0 < r.S.length → ∃ g, a = some ⟨g, 0, none⟩ ∧ base ≤ g ∧ g < w.heap.size ∧ ∀ i, i < r.S.length → w.cell? ⟨g, i * 2, none⟩ = some (.int .i64 ((nthG r.S i).at_ : Int)) ∧ w.cell? ⟨g, i * 2 + 1, none⟩ = some (.slice (nthG r.S i).ad (nthG r.S i).b.length (nthG r.S i).cap)) := hcs
  obtain ⟨W0, hW0⟩ : ∃ W0, W0 = w.alloc (.cells #[.int .i64 (g.at_ : Int), .slice g.ad g.b.length g.cap] 98) := ⟨_, rfl⟩
  have T0 : Below w.heap.size w W0 := by rw [hW0]; exact (Below.refl _ w).alloc (Nat.le_refl _) _
  have KW : Hid (Blk W0 w.heap.size 98 (wgc g)) := by rw [hW0]; exact Blk.newAt w _ _ _ _ rfl rfl
  have ZW : W0.heap.size = w.heap.size + 1 := by rw [hW0]; simp
  have HD1 : Hid (∀ W, Below w.heap.size w W → W.cell? ⟨D, 1, none⟩ = some (.slice a n cap)) := fun W hW => by rw [hn]; exact (h.blk.on hW).cell 1
  rw [← hn] at hle
  clear hcs h hg hn
  go_enter Tryz.func79, Tryz.ntmps79
  go_wp2
  rw [← hW0]
  go_loopw [4, 5] (fun v i wr => ∃ k : Nat, k ≤ n ∧ i = .int .i64 (k : Int) ∧ Hid (OwnG 98 wr (w.heap.size + 1) v (offW g.at_ r.S k)) ∧ Hid (Below (w.heap.size + 1) W0 wr)) (fun _ i _ => n - (intOf i).toNat)
  case atStart => exact ⟨0, Nat.zero_le _, rfl, OwnG.nil _ _ _, Below.refl _ _⟩
  case round =>
    clear hW0
    obtain ⟨k, hk, rfl, HO, HB⟩ := hrel
    have TR : Below w.heap.size w wr := T0.trans (HB.out.mono (by omega))
    have d1 := HD1.out wr TR
    have kw := KW.out.below HB.out (by omega)
    have w0 : wr.cell? ⟨w.heap.size, 0, none⟩ = some (.int .i64 (g.at_ : Int)) := kw.cell 0
    have w1 : wr.cell? ⟨w.heap.size, 1, none⟩ = some (.slice g.ad g.b.length g.cap) := kw.cell 1
    have hf2 : n ≤ 1000000 := by rw [HN.out]; exact hf
    by_cases hlt : k < n
    · have hlt' : (k : Int) < (n : Int) := by omega
      have HKL : Hid (k < r.S.length) := by unfold Hid; rw [← HN.out]; exact hlt
      obtain ⟨B, rfl, hB1, hB2, hc⟩ := HCs.out (by have := HKL.out; omega)
      obtain ⟨c0, c1⟩ := hc k HKL.out
      have c0 := (TR.cell (p := ⟨B, k * 2, none⟩) hB2).trans c0
      have c1 := (TR.cell (p := ⟨B, k * 2 + 1, none⟩) hB2).trans c1
      clear hc
      by_cases hat : (nthG r.S k).at_ = g.at_
      · have hai : ((nthG r.S k).at_ : Int) = (g.at_ : Int) := by omega
        have hbe : (((nthG r.S k).at_ : Int) != (g.at_ : Int)) = false := by rw [hai]; simp
        have HO2 := HO
        rw [← offW_no _ _ _ HKL.out hat] at HO2
        rw [hai] at c0
        clear hat HO hai hbe
        go_wp2_with fail
        go_quiet (fail)
        have TB : Below (w.heap.size + 1) W0 (wr.drewN nq) := bel_drewN HB.out nq
        have OB := OwnG.on HO2.out (bel_drewN (Below.refl _ wr) nq)
        generalize wr.drewN nq = y at *
        go_wp2_with fail
        go_roundw
        case rel => exact ⟨k + 1, by omega, by go_num, OB, TB⟩
        case measure => simp [intOf]; omega
      · have hai : ¬ ((nthG r.S k).at_ : Int) = (g.at_ : Int) := by omega
        have hbe : (((nthG r.S k).at_ : Int) == (g.at_ : Int)) = false := by rw [beq_eq_false_iff_ne]; exact hai
        have hbn : (((nthG r.S k).at_ : Int) != (g.at_ : Int)) = true := by rw [bne, hbe]; rfl
        have HS : Hid (offW g.at_ r.S (k + 1) = offW g.at_ r.S k ++ [nthG r.S k]) := offW_yes _ _ _ HKL.out hat
        have HLn : Hid ((offW g.at_ r.S k).length ≤ 1000000) := Nat.le_trans (offW_len _ _ _) hf
        clear hat
        generalize offW g.at_ r.S k = o1 at *
        generalize hw : nthG r.S k = gk at *
        go_wp2_with fail
        go_quiet (fail)
        have TB : Below (w.heap.size + 1) W0 (wr.drewN nq) := bel_drewN HB.out nq
        have TRy : Below w.heap.size w (wr.drewN nq) := bel_drewN TR nq
        have OB := OwnG.on HO.out (bel_drewN (Below.refl _ wr) nq)
        have d1y := HD1.out _ TRy
        have c0y : (wr.drewN nq).cell? ⟨B, k * 2, none⟩ = some (.int .i64 (gk.at_ : Int)) := c0
        have c1y : (wr.drewN nq).cell? ⟨B, k * 2 + 1, none⟩ = some (.slice gk.ad gk.b.length gk.cap) := c1
        generalize wr.drewN nq = y at *
        clear c0 c1 d1 w0 w1 kw TR HO HB
        have HOB := mkHid OB
        clear OB
        have zy : w.heap.size + 1 ≤ y.heap.size := by rw [← ZW]; exact TB.size
        go_wp2_with (at_builtin; refine list_appG 80 98 Tryz.underlying80 infoW9 _ rfl (.tmp 26) (.tmp 34) rfl (w.heap.size + 1) _ o1 rfl (HOB.out.alloc _) y.heap.size gk rfl (heap_alloc_new y _) (by have := HLn.out; omega) (by rw [World.size_alloc]; omega) ?_; intro v2 y2 ho2 hg2)
        have TZ : Below (w.heap.size + 1) W0 y2 := (TB.alloc zy _).grown hg2 (by rw [World.size_alloc]; omega) (fun j hj => (HOB.out.blk j hj).1)
        go_roundw
        case rel => exact ⟨k + 1, by omega, by go_num, by unfold Hid; rw [HS.out]; exact ho2, TZ⟩
        case measure => simp [intOf]; omega
    · have hge : ¬ (k : Int) < (n : Int) := by omega
      have hkn : k = n := by omega
      subst hkn
      have HSe : Hid (offW g.at_ r.S k ++ [g] = settleW r.S g) := by unfold Hid; rw [HN.out]; exact offW_all r.S g
      have HLn : Hid ((offW g.at_ r.S k).length ≤ 1000000) := Nat.le_trans (offW_len _ _ _) hf
      have zy : w.heap.size + 1 ≤ wr.heap.size := by rw [← ZW]; exact HB.out.size
      generalize offW g.at_ r.S k = o1 at *
      clear kw
      go_wp2_with (at_builtin; refine list_appG 80 98 Tryz.underlying80 infoW9 _ rfl (.tmp 37) (.tmp 39) rfl (w.heap.size + 1) _ o1 rfl (HO.out.alloc _) wr.heap.size g rfl (heap_alloc_new wr _) (by have := HLn.out; omega) (by rw [World.size_alloc]; omega) ?_; intro v2 y2 ho2 hg2; have TZ : Below (w.heap.size + 1) W0 y2 := (HB.out.alloc zy _).grown hg2 (by rw [World.size_alloc]; omega) (fun j hj => (HO.out.blk j hj).1); have TY : Below w.heap.size w y2 := T0.trans (TZ.mono (by omega)); have d1y := HD1.out _ TY; have DB := HH.out.blk.on TY; have f1 := DB.frozen 1; obtain ⟨a2, c2, ev2, _⟩ := ho2.form; obtain ⟨Ln, hLn⟩ : ∃ Ln, Ln = (o1 ++ [g]).length := ⟨_, rfl⟩; rw [← hLn] at ev2; clear hLn; subst ev2)
      have HDn := HN.out
      go_end0
      refine ⟨⟨_, rfl⟩, ⟨.slice a2 Ln c2, ?_, fun k hk => by have := (ho2.blk k hk).1; omega⟩, ?_, ?_⟩
      · have hk1 : KeepT [82] y2 (y2.setCell ⟨D, 1, none⟩ (.slice a2 Ln c2)) := (KeepT.refl _ y2).set DB (by simp) 1 _
        have hk2 : KeepT [82] w (y2.setCell ⟨D, 1, none⟩ (.slice a2 Ln c2)) := (KeepT.of_below TY).trans hk1
        refine ⟨DB.set 1 _, hDb, ?_, own_keep hk2 HH.out.ownC (by decide), ?_, HH.out.bC.keep hk2 (by decide), ?_⟩
        · have h9 : OwnG 98 (y2.setCell ⟨D, 1, none⟩ (.slice a2 Ln c2)) (w.heap.size + 1) (.slice a2 Ln c2) (o1 ++ [g]) := own_keep hk1 ho2 (by decide)
          rw [HSe.out] at h9
          exact h9.base (base' := base) (by omega)
        · refine Bys.keep hk2 (fun x hx => ?_) (by decide)
          rcases settle_mem hx with e | e
          · exact HH.out.bS x e
          · rw [e]; exact HG.out g (by simp)
        · intro j hj
          have h1 := (ho2.blk j hj).1
          intro h2
          have := (HH.out.ownC.blk j h2).2
          omega
      · exact (KeepE.of_below TY).set DB (by rfl) 1 _
      · exact (TY.mono (by omega)).setCell (p := ⟨D, 1, none⟩) hDb _
end Go.Proofs.YtdeoankmmolebaaGreat
