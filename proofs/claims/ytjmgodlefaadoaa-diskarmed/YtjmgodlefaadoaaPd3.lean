/- The program's disk: what a sector's last write has. -/
import Derived.Test.YtjmgodlefaadoaaPd2
namespace Go.Proofs.Ytjmgodlefaadoaa
open Go.RowKit

theorem fold_none (l : List (Nat × List UInt8)) (st : Nat → List UInt8) (i : Nat) (h : ∀ m, m < l.length → (nthQ l m).1 ≠ i) : l.foldl Pl.put st i = st i := by
  induction l generalizing st with
  | nil => rfl
  | cons g l ih =>
    rw [List.foldl_cons, ih _ (fun m hm => h (m + 1) (by simpa using hm))]
    have h0 : g.1 ≠ i := h 0 (by simp)
    simp [Pl.put, h0]
theorem fold_last (l : List (Nat × List UInt8)) (st : Nat → List UInt8) (i j : Nat) (hj : j < l.length) (he : (nthQ l j).1 = i) (h : ∀ m, j < m → m < l.length → (nthQ l m).1 ≠ i) : l.foldl Pl.put st i = (nthQ l j).2 := by
  induction l generalizing st j with
  | nil => simp at hj
  | cons g l ih =>
    rw [List.foldl_cons]
    cases j with
    | zero =>
      rw [fold_none l _ i (fun m hm => h (m + 1) (by omega) (by simpa using hm))]
      have h0 : g.1 = i := he
      simp [Pl.put, h0, nthQ]
    | succ j => exact ih _ j (by simpa using hj) he (fun m h1 h2 => h (m + 1) (by omega) (by simpa using h2))
/-- a write's bytes in the row of writes -/
theorem range_data {w : World} {g o : Nat} {q : Nat × List UInt8} (h : w.rangeAt g o (wq q)) : w.cell? ⟨g, o, none⟩ = some (.int .i64 (q.1 : Int)) ∧ w.rangeAt g (o + 1) (bv q.2) :=
  ⟨by have := h 0 _ rfl; rwa [Nat.add_zero] at this, fun j v hv => by have := h (j + 1) v hv; rwa [show o + (j + 1) = o + 1 + j by omega] at this⟩
def zSec : List Value := bv (List.replicate 512 0)
theorem zSec_length : zSec.length = 512 := by unfold zSec; rw [bv_length, List.length_replicate]
theorem zeroSec : (Try.prog.info? 71).map (·.zero) = some (some (.agg zSec.toArray)) := by kernel_rfl
theorem zvSec (w : World) : (zeroValue 71).run Try.prog w = .ok (.agg zSec.toArray) w := by
  have h := zeroSec
  cases hq : Try.prog.info? 71 with
  | none => rw [hq] at h; cases h
  | some i =>
    rw [hq] at h
    have hz : i.zero = some (.agg zSec.toArray) := by simpa using h
    simp [zeroValue, typeInfo, hq, hz]
attribute [local go_sem ↓] zvSec
theorem bv_all (b : List UInt8) : (bv b).toArray.all (·.oneCell') = true := all_oneCell_toArray (bv_one b)
theorem infoSecOf {b : List UInt8} (h : b.length = 512) : (Try.prog.info? 71).map (·.size) = some (bv b).length := by rw [bv_length, h]; exact infoSec
theorem infoSecOf' {b : List UInt8} (h : b.length = 512) : (Try.prog.info? 71).map (·.size) = some (bv b).toArray.size := by rw [List.size_toArray]; exact infoSecOf h

set_option maxRecDepth 20000 in
set_option maxHeartbeats 2000000 in
theorem codLatest (X : Nat → Prop) (P base S : Nat) (vC : Value) (arm : Int) (p : Pl) (i : Nat) (w : World) (h : IsPd X w P base S vC arm p) (hf : FewP p) (hi : i < p.n) :
    Calls Try.prog 36 #[.pointer (some ⟨P, 0, none⟩), .int .i64 (i : Int)] w fun e w' => e = .returned (.agg (bv (p.ca.foldl Pl.put p.st i)).toArray) ∧ Below w.heap.size w w' := by
  obtain ⟨a, cap, rfl, hle, hmx, hnl, hcs⟩ := h.ca.form (fun g hg => (hf.at_ g hg).2)
  have h1 := h.on ((Below.refl _ w).alloc (Nat.le_refl _) (.cells zSec.toArray 71))
  have HD : Hid (Below w.heap.size w (w.alloc (.cells zSec.toArray 71))) := (Below.refl _ w).alloc (Nat.le_refl _) _
  have HR : Hid (Blk (w.alloc (.cells zSec.toArray 71)) w.heap.size 71 zSec) := Blk.new w _ _
  have HCs : Hid (0 < p.ca.length → ∃ g, a = some ⟨g, 0, none⟩ ∧ ∀ i, i < p.ca.length → (w.alloc (.cells zSec.toArray 71)).rangeAt g (i * 513) (wq (nthQ p.ca i))) := fun hp => by
    obtain ⟨g, e, _, _, hr⟩ := hcs hp
    exact ⟨g, e, fun i hi => World.rangeAt_alloc (hr i hi) _⟩
  have HF := mkHid hf
  have HHs := mkHid h1
  have c0 : (w.alloc (.cells zSec.toArray 71)).cell? ⟨P, 0, none⟩ = some (.slice (some ⟨S, 0, none⟩) p.n p.n) := h1.blk.cell 0
  have c1 : (w.alloc (.cells zSec.toArray 71)).cell? ⟨P, 1, none⟩ = some (.slice a p.ca.length cap) := h1.blk.cell 1
  have hn4 := hf.n
  have HI := mkHid hi
  have Hn := mkHid hf.ca
  obtain ⟨n, hn⟩ : ∃ n, n = p.ca.length := ⟨_, rfl⟩
  have HN : Hid (n = p.ca.length) := hn
  rw [← hn] at c1 HCs Hn
  have hn6 : n ≤ 1000000 := Hn.out
  obtain ⟨N, hN⟩ : ∃ N, N = p.n := ⟨_, rfl⟩
  have HNN : Hid (N = p.n) := hN
  rw [← hN] at c0 hi hn4
  have hiN : (i : Int) < (N : Int) := by omega
  have hi0 : (0 : Int) ≤ (i : Int) := by omega
  clear h h1 hf hcs hn hN hi hle hmx hnl Hn
  go_enter Try.func36, Try.ntmps36
  go_upto_region 1 with fail
  generalize hH : w.heap.size = R at *
  generalize w.alloc (.cells zSec.toArray 71) = w0 at *
  have HW := mkHid hH
  clear hH
  go_wp2_with fail
  go_loopw [5] (fun kv wr => ∃ k : Nat, k ≤ n ∧ kv = .int .i64 ((k : Int) - 1) ∧ Hid (∀ m, k ≤ m → m < n → (nthQ p.ca m).1 ≠ i) ∧ wr = w0) (fun kv _ => (intOf kv + 1).toNat)
  case atStart => exact ⟨n, Nat.le_refl _, by go_num, fun m h1 h2 => by omega, rfl⟩
  case round =>
    obtain ⟨k, hk, rfl, HM, hwr⟩ := hrel
    subst hwr
    by_cases h0 : 0 < k
    · obtain ⟨j, rfl⟩ : ∃ j, k = j + 1 := ⟨k - 1, by omega⟩
      obtain ⟨g, rfl, hr⟩ := HCs.out (by omega)
      obtain ⟨d0, d1⟩ := range_data (hr j (by omega))
      have e1 : ((j + 1 : Nat) : Int) - 1 = (j : Int) := by omega
      rw [e1]
      have hj0 : (0 : Int) ≤ (j : Int) := by omega
      have hjn : (j : Int) < (n : Int) := by omega
      have HjL : Hid (j < p.ca.length) := by unfold Hid; rw [← HN.out]; omega
      have HB5 := mkHid (HF.out.at_ _ (nthQ_mem p.ca j HjL.out)).2
      have HD1 := mkHid d1
      clear d1 hr
      by_cases ha : (nthQ p.ca j).1 = i
      · have HV : Hid (p.ca.foldl Pl.put p.st i = (nthQ p.ca j).2) := fold_last p.ca p.st i j HjL.out ha (fun m h1 h2 => HM.out m (by omega) (by rw [HN.out]; exact h2))
        have hai : ((nthQ p.ca j).1 : Int) = (i : Int) := by omega
        rw [hai] at d0
        clear ha hai
        generalize (nthQ p.ca j).2 = bb at *
        have HS5 : Hid ((Try.prog.info? 71).map (·.size) = some (bv bb).length) := infoSecOf HB5.out
        have HS6 : Hid ((Try.prog.info? 71).map (·.size) = some (bv bb).toArray.size) := infoSecOf' HB5.out
        have HS7 : Hid (zSec.toArray.size = (bv bb).toArray.size) := by unfold Hid; rw [List.size_toArray, List.size_toArray, zSec_length, bv_length, HB5.out]
        go_wp2_with (first | (refine wpList_load_mid rfl 71 _ rfl g (j * 513 + 1) rfl (bv bb) _ HD1.out Try.underlying71 rfl HS5.out ?_) | (refine wpList_store_row rfl 71 _ _ rfl R (bv bb).toArray rfl rfl _ _ HR.out HS6.out HS7.out (bv_all bb) ?_))
        refine bodyPost_ret (v := .agg (bv bb).toArray) ?_ rfl ⟨by rw [HV.out], by rw [HW.out]; exact bel_row HD.out (Nat.le_refl _) _⟩
        exact results_cell_row Try.results36 _ _ _ _ _ _ _ rfl (HR.out.row (bv bb)) Try.underlying71 rfl HS6.out
      · have hai' : ¬ ((nthQ p.ca j).1 : Int) = (i : Int) := by omega
        have HM2 : Hid (∀ m, j ≤ m → m < n → (nthQ p.ca m).1 ≠ i) := fun m h1 h2 => by
          by_cases e : m = j
          · subst e; exact ha
          · exact HM.out m (by omega) h2
        clear ha HM HD1
        generalize (nthQ p.ca j).1 = at2 at *
        go_wp2
        go_roundw
        case rel => exact ⟨j, by omega, by go_num, HM2, by first | rfl | trivial⟩
        case measure => first | (simp [intOf]; done) | (simp [intOf]; omega)
    · have hk0 : k = 0 := by omega
      subst hk0
      have HV : Hid (p.ca.foldl Pl.put p.st i = p.st i) := fold_none p.ca p.st i (fun m hm => HM.out m (Nat.zero_le _) (by rw [HN.out]; exact hm))
      have hneg : ((0 : Nat) : Int) - 1 = -1 := by omega
      rw [hneg]
      have HB5 := mkHid (HHs.out.len i HI.out)
      have HD1 := mkHid (HHs.out.st.sector i HI.out HB5.out)
      generalize p.st i = bb at *
      have HS5 : Hid ((Try.prog.info? 71).map (·.size) = some (bv bb).length) := infoSecOf HB5.out
      have HS6 : Hid ((Try.prog.info? 71).map (·.size) = some (bv bb).toArray.size) := infoSecOf' HB5.out
      have HS7 : Hid (zSec.toArray.size = (bv bb).toArray.size) := by unfold Hid; rw [List.size_toArray, List.size_toArray, zSec_length, bv_length, HB5.out]
      clear HM
      go_wp2_with (first | (refine wpList_load_mid rfl 71 _ rfl S (i * 512) rfl (bv bb) _ HD1.out Try.underlying71 rfl HS5.out ?_) | (refine wpList_store_row rfl 71 _ _ rfl R (bv bb).toArray rfl rfl _ _ HR.out HS6.out HS7.out (bv_all bb) ?_))
      refine bodyPost_ret (v := .agg (bv bb).toArray) ?_ rfl ⟨by rw [HV.out], by rw [HW.out]; exact bel_row HD.out (Nat.le_refl _) _⟩
      exact results_cell_row Try.results36 _ _ _ _ _ _ _ rfl (HR.out.row (bv bb)) Try.underlying71 rfl HS6.out
end Go.Proofs.Ytjmgodlefaadoaa
