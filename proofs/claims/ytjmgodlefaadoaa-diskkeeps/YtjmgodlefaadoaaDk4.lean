/- What the document's settle does. -/
import Derived.Test.YtjmgodlefaadoaaDk3
import Derived.BigQuiet
namespace Go.Proofs.Ytjmgodlefaadoaa
open Go.RowKit

theorem infoW9 : (Try.prog.info? 77).map (fun i => (i.zero, i.size, i.bytes)) = some (some wgZ, 2, 32) := by kernel_rfl
def offW (j : Nat) (l : List Wg) (k : Nat) : List Wg := (l.take k).filter (fun h => !(h.at_ == j))
theorem offW_yes (j : Nat) (l : List Wg) (k : Nat) (hk : k < l.length) (h : ¬ (nthW l k).at_ = j) : offW j l (k + 1) = offW j l k ++ [nthW l k] := by
  unfold offW
  rw [takeW l k hk, List.filter_append, List.filter_cons_of_pos (by simp [h])]; rfl
theorem offW_no (j : Nat) (l : List Wg) (k : Nat) (hk : k < l.length) (h : (nthW l k).at_ = j) : offW j l (k + 1) = offW j l k := by
  unfold offW
  rw [takeW l k hk, List.filter_append, List.filter_cons_of_neg (by simp [h])]; simp
theorem offW_len (j : Nat) (l : List Wg) (k : Nat) : (offW j l k).length ≤ l.length := by
  unfold offW
  exact Nat.le_trans (List.length_filter_le _ _) (by rw [List.length_take]; omega)
theorem offW_all (l : List Wg) (g : Wg) : offW g.at_ l l.length ++ [g] = settleW l g := by unfold offW settleW; rw [List.take_length]
theorem settle_len (l : List Wg) (g : Wg) : (settleW l g).length ≤ l.length + 1 := by rw [← offW_all, List.length_append]; have := offW_len g.at_ l l.length; simp; omega
theorem mkHid {p : Prop} (h : p) : Hid p := h
theorem ret_none9 {x : Value} (h : x = .tuple #[]) : Ending.returned x = .returned (.tuple #[]) := by rw [h]

set_option maxRecDepth 20000 in
set_option maxHeartbeats 2000000 in
theorem refSettle9 (D base : Nat) (r : Rd) (vS vC : Value) (g : Wg) (w : World) (h : IsRD w D base r vS vC) (hg : Bys w base [g]) (hf : r.S.length ≤ 1000000) :
    Calls Try.prog 41 #[.pointer (some ⟨D, 0, none⟩), .agg #[.int .i64 (g.at_ : Int), .slice g.ad g.b.length g.cap]] w fun e w' => (∃ x, e = .returned x) ∧ (∃ vS', IsRD w' D base { r with S := settleW r.S g } vS' vC) ∧ KeepT [41, 77] w w' ∧ Below base w w' := by
  obtain ⟨a, cap, rfl, hle, hmx, hnl, hcs⟩ := h.ownS.form
  have HH : Hid (IsRD w D base r (.slice a r.S.length cap) vC) := h
  have HG : Hid (Bys w base [g]) := hg
  have hD : D < w.heap.size := h.blk.lt
  have hDb := h.low
  obtain ⟨n, hn⟩ : ∃ n, n = r.S.length := ⟨_, rfl⟩
  have HN : Hid (n = r.S.length) := hn
  have HCs : Hid (0 < r.S.length → ∃ g, a = some ⟨g, 0, none⟩ ∧ base ≤ g ∧ g < w.heap.size ∧ ∀ i, i < r.S.length → w.cell? ⟨g, i * 2, none⟩ = some (.int .i64 ((nthW r.S i).at_ : Int)) ∧ w.cell? ⟨g, i * 2 + 1, none⟩ = some (.slice (nthW r.S i).ad (nthW r.S i).b.length (nthW r.S i).cap)) := hcs
  obtain ⟨W0, hW0⟩ : ∃ W0, W0 = w.alloc (.cells #[.int .i64 (g.at_ : Int), .slice g.ad g.b.length g.cap] 77) := ⟨_, rfl⟩
  have T0 : Below w.heap.size w W0 := by rw [hW0]; exact (Below.refl _ w).alloc (Nat.le_refl _) _
  have KW : Hid (Blk W0 w.heap.size 77 (wgc g)) := by rw [hW0]; exact Blk.newAt w _ _ _ _ rfl rfl
  have ZW : W0.heap.size = w.heap.size + 1 := by rw [hW0]; simp
  have HD1 : Hid (∀ W, Below w.heap.size w W → W.cell? ⟨D, 1, none⟩ = some (.slice a n cap)) := fun W hW => by rw [hn]; exact (h.blk.on hW).cell 1
  rw [← hn] at hle
  clear hcs h hg hn
  go_enter Try.func41, Try.ntmps41
  go_wp2
  rw [← hW0]
  go_loopw [4, 5] (fun v i wr => ∃ k : Nat, k ≤ n ∧ i = .int .i64 (k : Int) ∧ Hid (OwnG 77 wr (w.heap.size + 1) v (offW g.at_ r.S k)) ∧ Hid (Below (w.heap.size + 1) W0 wr)) (fun _ i _ => n - (intOf i).toNat)
  case atStart => exact ⟨0, Nat.zero_le _, rfl, OwnG.nil _ _ _, Below.refl _ _⟩
  case round =>
    clear hW0
    obtain ⟨k, hk, rfl, HO, HB⟩ := hrel
    have TR : Below w.heap.size w wr := T0.trans (HB.out.mono (by omega))
    have d1 := HD1.out wr TR
    have kw := KW.out.below HB.out (by omega)
    have w0 : wr.cell? ⟨w.heap.size, 0, none⟩ = some (.int .i64 (g.at_ : Int)) := kw.cell 0
    have w1 : wr.cell? ⟨w.heap.size, 1, none⟩ = some (.slice g.ad g.b.length g.cap) := kw.cell 1
    have hf2 : n ≤ 1000000 := by rw [HN.out]; exact hf
    by_cases hlt : k < n
    · have hlt' : (k : Int) < (n : Int) := by omega
      have HKL : Hid (k < r.S.length) := by unfold Hid; rw [← HN.out]; exact hlt
      obtain ⟨B, rfl, hB1, hB2, hc⟩ := HCs.out (by have := HKL.out; omega)
      obtain ⟨c0, c1⟩ := hc k HKL.out
      have c0 := (TR.cell (p := ⟨B, k * 2, none⟩) hB2).trans c0
      have c1 := (TR.cell (p := ⟨B, k * 2 + 1, none⟩) hB2).trans c1
      clear hc
      by_cases hat : (nthW r.S k).at_ = g.at_
      · have hai : ((nthW r.S k).at_ : Int) = (g.at_ : Int) := by omega
        have hbe : (((nthW r.S k).at_ : Int) != (g.at_ : Int)) = false := by rw [hai]; simp
        have HO2 := HO
        rw [← offW_no _ _ _ HKL.out hat] at HO2
        rw [hai] at c0
        clear hat HO hai hbe
        go_wp2_with fail
        go_quiet (fail)
        have TB : Below (w.heap.size + 1) W0 (wr.drewN nq) := bel_drewN HB.out nq
        have OB := OwnG.on HO2.out (bel_drewN (Below.refl _ wr) nq)
        generalize wr.drewN nq = y at *
        go_wp2_with fail
        go_roundw
        case rel => exact ⟨k + 1, by omega, by go_num, OB, TB⟩
        case measure => simp [intOf]; omega
      · have hai : ¬ ((nthW r.S k).at_ : Int) = (g.at_ : Int) := by omega
        have hbe : (((nthW r.S k).at_ : Int) == (g.at_ : Int)) = false := by rw [beq_eq_false_iff_ne]; exact hai
        have hbn : (((nthW r.S k).at_ : Int) != (g.at_ : Int)) = true := by rw [bne, hbe]; rfl
        have HS : Hid (offW g.at_ r.S (k + 1) = offW g.at_ r.S k ++ [nthW r.S k]) := offW_yes _ _ _ HKL.out hat
        have HLn : Hid ((offW g.at_ r.S k).length ≤ 1000000) := Nat.le_trans (offW_len _ _ _) hf
        clear hat
        generalize offW g.at_ r.S k = o1 at *
        generalize hw : nthW r.S k = gk at *
        go_wp2_with fail
        go_quiet (fail)
        have TB : Below (w.heap.size + 1) W0 (wr.drewN nq) := bel_drewN HB.out nq
        have TRy : Below w.heap.size w (wr.drewN nq) := bel_drewN TR nq
        have OB := OwnG.on HO.out (bel_drewN (Below.refl _ wr) nq)
        have d1y := HD1.out _ TRy
        have c0y : (wr.drewN nq).cell? ⟨B, k * 2, none⟩ = some (.int .i64 (gk.at_ : Int)) := c0
        have c1y : (wr.drewN nq).cell? ⟨B, k * 2 + 1, none⟩ = some (.slice gk.ad gk.b.length gk.cap) := c1
        generalize wr.drewN nq = y at *
        clear c0 c1 d1 w0 w1 kw TR HO HB
        have HOB := mkHid OB
        clear OB
        have zy : w.heap.size + 1 ≤ y.heap.size := by rw [← ZW]; exact TB.size
        go_wp2_with (at_builtin; refine list_appG 39 77 Try.underlying39 infoW9 _ rfl (.tmp 26) (.tmp 34) rfl (w.heap.size + 1) _ o1 rfl (HOB.out.alloc _) y.heap.size gk rfl (heap_alloc_new y _) (by have := HLn.out; omega) (by rw [World.size_alloc]; omega) ?_; intro v2 y2 ho2 hg2)
        have TZ : Below (w.heap.size + 1) W0 y2 := (TB.alloc zy _).grown hg2 (by rw [World.size_alloc]; omega) (fun j hj => (HOB.out.blk j hj).1)
        go_roundw
        case rel => exact ⟨k + 1, by omega, by go_num, by unfold Hid; rw [HS.out]; exact ho2, TZ⟩
        case measure => simp [intOf]; omega
    · have hge : ¬ (k : Int) < (n : Int) := by omega
      have hkn : k = n := by omega
      subst hkn
      have HSe : Hid (offW g.at_ r.S k ++ [g] = settleW r.S g) := by unfold Hid; rw [HN.out]; exact offW_all r.S g
      have HLn : Hid ((offW g.at_ r.S k).length ≤ 1000000) := Nat.le_trans (offW_len _ _ _) hf
      have zy : w.heap.size + 1 ≤ wr.heap.size := by rw [← ZW]; exact HB.out.size
      generalize offW g.at_ r.S k = o1 at *
      clear kw
      go_wp2_with (at_builtin; refine list_appG 39 77 Try.underlying39 infoW9 _ rfl (.tmp 37) (.tmp 39) rfl (w.heap.size + 1) _ o1 rfl (HO.out.alloc _) wr.heap.size g rfl (heap_alloc_new wr _) (by have := HLn.out; omega) (by rw [World.size_alloc]; omega) ?_; intro v2 y2 ho2 hg2; have TZ : Below (w.heap.size + 1) W0 y2 := (HB.out.alloc zy _).grown hg2 (by rw [World.size_alloc]; omega) (fun j hj => (HO.out.blk j hj).1); have TY : Below w.heap.size w y2 := T0.trans (TZ.mono (by omega)); have d1y := HD1.out _ TY; have DB := HH.out.blk.on TY; have f1 := DB.frozen 1; obtain ⟨a2, c2, ev2, _⟩ := ho2.form; obtain ⟨Ln, hLn⟩ : ∃ Ln, Ln = (o1 ++ [g]).length := ⟨_, rfl⟩; rw [← hLn] at ev2; clear hLn; subst ev2)
      have HDn := HN.out
      go_end0
      refine ⟨⟨_, rfl⟩, ⟨.slice a2 Ln c2, ?_⟩, ?_, ?_⟩
      · have hk1 : KeepT [41] y2 (y2.setCell ⟨D, 1, none⟩ (.slice a2 Ln c2)) := (KeepT.refl _ y2).set DB (by simp) 1 _
        have hk2 : KeepT [41] w (y2.setCell ⟨D, 1, none⟩ (.slice a2 Ln c2)) := (KeepT.of_below TY).trans hk1
        refine ⟨DB.set 1 _, hDb, ?_, own_keep hk2 HH.out.ownC (by decide), ?_, HH.out.bC.keep hk2 (by decide), ?_⟩
        · have h9 : OwnG 77 (y2.setCell ⟨D, 1, none⟩ (.slice a2 Ln c2)) (w.heap.size + 1) (.slice a2 Ln c2) (o1 ++ [g]) := own_keep hk1 ho2 (by decide)
          rw [HSe.out] at h9
          exact h9.base (base' := base) (by omega)
        · refine Bys.keep hk2 (fun x hx => ?_) (by decide)
          rcases settle_mem hx with e | e
          · exact HH.out.bS x e
          · rw [e]; exact HG.out g (by simp)
        · intro j hj
          have h1 := (ho2.blk j hj).1
          intro h2
          have := (HH.out.ownC.blk j h2).2
          omega
      · exact (KeepT.of_below TY).set DB (by simp) 1 _
      · exact (TY.mono (by omega)).setCell (p := ⟨D, 1, none⟩) hDb _
end Go.Proofs.Ytjmgodlefaadoaa
