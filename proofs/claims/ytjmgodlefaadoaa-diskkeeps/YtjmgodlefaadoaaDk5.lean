/- What the document's Flush and Arm do. -/
import Derived.Test.YtjmgodlefaadoaaDk4
import Derived.Deep.CutBlock
import Derived.Deep.CutRange
namespace Go.Proofs.Ytjmgodlefaadoaa
open Go.RowKit

def flushR (r : Rd) : Rd := if r.off = true then r else { r with S := r.C.foldl settleW r.S, C := [], fl := r.fl + 1 }
def flE (r : Rd) : Int := if r.off = true then 51 else 0
def armR (r : Rd) (z : Int) : Rd := { r with armed := decide (0 ≤ z), left := (max z 0).toNat }
theorem fold_len (m S : List Wg) : (m.foldl settleW S).length ≤ S.length + m.length := by
  induction m generalizing S with
  | nil => exact Nat.le_refl _
  | cons g m ih =>
    rw [List.foldl_cons, List.length_cons]
    have h1 := ih (settleW S g)
    have h2 := settle_len S g
    omega
theorem fold_take (l S : List Wg) (k : Nat) (h : k < l.length) : (l.take (k + 1)).foldl settleW S = settleW ((l.take k).foldl settleW S) (nthW l k) := by
  rw [takeW l k h, List.foldl_append]; rfl
/-- the disk's block and where a field lies -/
theorem IsRD.field {w : World} {D base : Nat} {r r' : Rd} {vS vC vC' : Value} (h : IsRD w D base r vS vC) (j : Nat) (u : Value) (hc : (rdc r vS vC).set j u = rdc r' vS vC') (hS : r'.S = r.S) (hC : (r'.C = r.C ∧ vC' = vC) ∨ (r'.C = [] ∧ vC' = .slice none 0 0)) : IsRD (w.setCell ⟨D, j, none⟩ u) D base r' vS vC' := by
  have hk : KeepT [41] w (w.setCell ⟨D, j, none⟩ u) := (KeepT.refl _ w).set h.blk (by simp) j u
  have hb := h.blk.set j u
  rw [hc] at hb
  refine ⟨hb, h.low, by rw [hS]; exact own_keep hk h.ownS (by decide), ?_, by rw [hS]; exact h.bS.keep hk (by decide), ?_, ?_⟩
  · rcases hC with ⟨e1, e2⟩ | ⟨e1, e2⟩
    · rw [e1, e2]; exact own_keep hk h.ownC (by decide)
    · rw [e1, e2]; exact OwnG.nil _ _ _
  · rcases hC with ⟨e1, _⟩ | ⟨e1, _⟩
    · rw [e1]; exact h.bC.keep hk (by decide)
    · rw [e1]; exact fun g hg => by cases hg
  · intro k hk2
    rcases hC with ⟨_, e2⟩ | ⟨_, e2⟩
    · rw [e2]; exact h.apart k hk2
    · rw [e2]; simp [Value.ownBlock]

set_option maxRecDepth 20000 in
set_option maxHeartbeats 1000000 in
theorem refArm9 (D base : Nat) (r : Rd) (vS vC : Value) (z : Int) (w : World) (h : IsRD w D base r vS vC) (hz : -9223372036854775808 ≤ z ∧ z ≤ 9223372036854775807) :
    Calls Try.prog 27 #[.pointer (some ⟨D, 0, none⟩), .int .i64 z] w fun e w' => (∃ x, e = .returned x) ∧ IsRD w' D base (armR r z) vS vC ∧ KeepT [41, 77] w w' ∧ Below base w w' := by
  have c4 : w.cell? ⟨D, 4, none⟩ = some (.bool r.armed) := h.blk.cell 4
  have f4 := h.blk.frozen 4
  have h1 : IsRD (w.setCell ⟨D, 4, none⟩ (.bool (decide (0 ≤ z)))) D base { r with armed := decide (0 ≤ z) } vS vC := h.field 4 _ rfl rfl (.inl ⟨rfl, rfl⟩)
  have k1 : KeepT [41, 77] w (w.setCell ⟨D, 4, none⟩ (.bool (decide (0 ≤ z)))) := (KeepT.refl _ w).set h.blk (by simp) 4 _
  have b1 : Below base w (w.setCell ⟨D, 4, none⟩ (.bool (decide (0 ≤ z)))) := (Below.refl _ w).setCell (p := ⟨D, 4, none⟩) h.low _
  have hlow := h.low
  have HH : Hid (IsRD (w.setCell ⟨D, 4, none⟩ (.bool (decide (0 ≤ z)))) D base { r with armed := decide (0 ≤ z) } vS vC) := h1
  have c5 : (w.setCell ⟨D, 4, none⟩ (.bool (decide (0 ≤ z)))).cell? ⟨D, 5, none⟩ = some (.int .i64 (r.left : Int)) := h1.blk.cell 5
  have f5 := h1.blk.frozen 5
  have HM : Hid (∀ u : Int, u = max z 0 → (rdc { r with armed := decide (0 ≤ z) } vS vC).set 5 (.int .i64 u) = rdc (armR r z) vS vC) := fun u hu => by
    have e : u = (((max z 0).toNat : Nat) : Int) := by omega
    rw [e]; rfl
  clear h h1
  by_cases hs : 0 ≤ z
  · have HE : Hid (z = max z 0) := by unfold Hid; omega
    rw [decide_eq_true hs] at HH HM c5 f5 k1 b1
    go_enter Try.func27, Try.ntmps27
    go_upto_region 1 with fail
    generalize w.setCell ⟨D, 4, none⟩ (.bool true) = Y at *
    go_wp2_with fail
    go_end0
    exact ⟨⟨_, rfl⟩, HH.out.field 5 _ (HM.out _ HE.out) rfl (.inl ⟨rfl, rfl⟩), k1.set HH.out.blk (by simp) 5 _, b1.setCell (p := ⟨D, 5, none⟩) hlow _⟩
  · have HE : Hid ((0 : Int) = max z 0) := by unfold Hid; omega
    have hs' : z < 0 := by omega
    rw [decide_eq_false hs] at HH HM c5 f5 k1 b1
    go_enter Try.func27, Try.ntmps27
    go_upto_region 1 with fail
    generalize w.setCell ⟨D, 4, none⟩ (.bool false) = Y at *
    go_wp2_with fail
    go_end0
    exact ⟨⟨_, rfl⟩, HH.out.field 5 _ (HM.out _ HE.out) rfl (.inl ⟨rfl, rfl⟩), k1.set HH.out.blk (by simp) 5 _, b1.setCell (p := ⟨D, 5, none⟩) hlow _⟩

set_option maxRecDepth 20000 in
set_option maxHeartbeats 2000000 in
theorem refFlush9 (D base : Nat) (r : Rd) (vS vC : Value) (w : World) (h : IsRD w D base r vS vC) (hf : r.S.length + r.C.length ≤ 1000000) (hfl : r.fl ≤ 1000000000) :
    Calls Try.prog 26 #[.pointer (some ⟨D, 0, none⟩)] w fun e w' => e = .returned (.int .i64 (flE r)) ∧ (∃ vS' vC', IsRD w' D base (flushR r) vS' vC') ∧ KeepT [41, 77] w w' ∧ Below base w w' := by
  have c3 : w.cell? ⟨D, 3, none⟩ = some (.bool r.off) := h.blk.cell 3
  have HH : Hid (IsRD w D base r vS vC) := h
  cases hoff : r.off with
  | true =>
    rw [hoff] at c3
    have Q1 : Hid (flE r = 51) := by unfold Hid flE; rw [hoff]; rfl
    have Q2 : Hid (flushR r = r) := by unfold Hid flushR; rw [hoff]; rfl
    clear hoff h
    go_enter Try.func26, Try.ntmps26
    go_wp2_with fail
    go_ret
    exact ⟨by rw [Q1.out]; rfl, ⟨vS, vC, by rw [Q2.out]; exact HH.out⟩, KeepT.refl _ _, Below.refl _ _⟩
  | false =>
    rw [hoff] at c3
    have Q1 : Hid (flE r = 0) := by unfold Hid flE; rw [hoff]; rfl
    have Q2 : Hid (flushR r = { r with S := r.C.foldl settleW r.S, C := [], fl := r.fl + 1 }) := by unfold Hid flushR; rw [hoff]; rfl
    obtain ⟨n, hn⟩ : ∃ n, n = r.C.length := ⟨_, rfl⟩
    have HN : Hid (n = r.C.length) := hn
    obtain ⟨a, cap, hvC, _⟩ := h.ownC.form
    rw [← hn] at hvC
    have hn6 : n ≤ 1000000 := by omega
    have hlow := h.low
    clear hoff h hn
    subst hvC
    go_enter Try.func26, Try.ntmps26
    go_wp2_with fail
    go_loopw [3] (fun i wr => ∃ (k : Nat) (vS' : Value), k ≤ n ∧ i = .int .i64 (k : Int) ∧ Hid (IsRD wr D base { r with S := (r.C.take k).foldl settleW r.S } vS' (.slice a n cap)) ∧ Hid (KeepT [41, 77] w wr) ∧ Hid (Below base w wr)) (fun i _ => n - (intOf i).toNat)
    case atStart => exact ⟨0, vS, Nat.zero_le _, rfl, HH.out, KeepT.refl _ _, Below.refl _ _⟩
    case round =>
      obtain ⟨k, vS', hk, rfl, HI, HK, HB⟩ := hrel
      have d2 : wr.cell? ⟨D, 2, none⟩ = some (.slice a n cap) := HI.out.blk.cell 2
      by_cases hlt : k < n
      · have hlt' : (k : Int) < (n : Int) := by omega
        have HKL : Hid (k < r.C.length) := by unfold Hid; rw [← HN.out]; exact hlt
        obtain ⟨a9, c9, e9, _, _, _, hcs⟩ := HI.out.ownC.form
        obtain ⟨B, eB, _, _, hc⟩ := hcs (by have := HKL.out; exact Nat.lt_of_le_of_lt (Nat.zero_le _) this)
        simp only [Value.slice.injEq] at e9
        obtain ⟨rfl, _, rfl⟩ := e9
        subst eB
        obtain ⟨e0, e1⟩ := hc k HKL.out
        have hmem : nthW r.C k ∈ r.C := by rw [nthW_eq _ k HKL.out]; exact List.getElem_mem HKL.out
        have hB1 : Bys wr base [nthW r.C k] := fun x hx => by rw [List.mem_singleton.1 hx]; exact HI.out.bC _ hmem
        have HSt := refSettle9 D base _ vS' _ (nthW r.C k) wr HI.out hB1 (by
          have h1 := fold_len (r.C.take k) r.S
          rw [List.length_take] at h1
          show ((r.C.take k).foldl settleW r.S).length ≤ _
          have := HN.out
          omega)
        have HFt : Hid ((r.C.take (k + 1)).foldl settleW r.S = settleW ((r.C.take k).foldl settleW r.S) (nthW r.C k)) := fold_take r.C r.S k HKL.out
        clear hc hcs hmem hB1 c3
        generalize nthW r.C k = gk at *
        go_wp2_with fail
        refine HSt.mono ?_
        rintro e y ⟨⟨x, rfl⟩, ⟨vS2, hI2⟩, hk2, hb2⟩
        have HI2 : Hid (IsRD y D base { r with S := (r.C.take (k + 1)).foldl settleW r.S } vS2 (.slice (some ⟨B, 0, none⟩) n cap)) := by unfold Hid; rw [HFt.out]; exact hI2
        clear hI2 HSt
        go_wp2_with fail
        go_roundw
        case rel => exact ⟨k + 1, vS2, by omega, by go_num, HI2, HK.out.trans hk2, HB.out.trans hb2⟩
        case measure => simp [intOf]; omega
      · have hge : ¬ (k : Int) < (n : Int) := by omega
        have hkn : k = n := by omega
        subst hkn
        have hfd : r.C.take k = r.C := List.take_of_length_le (by rw [← HN.out]; exact Nat.le_refl _)
        have hI := HI.out
        rw [hfd] at hI
        have f2 := hI.blk.frozen 2
        have hI2 : IsRD (wr.setCell ⟨D, 2, none⟩ (.slice none 0 0)) D base { r with S := r.C.foldl settleW r.S, C := [] } vS' (.slice none 0 0) := hI.field 2 _ rfl rfl (.inr ⟨rfl, rfl⟩)
        have k2 : KeepT [41, 77] w (wr.setCell ⟨D, 2, none⟩ (.slice none 0 0)) := HK.out.set hI.blk (by simp) 2 _
        have b2 : Below base w (wr.setCell ⟨D, 2, none⟩ (.slice none 0 0)) := HB.out.setCell (p := ⟨D, 2, none⟩) hlow _
        have d7 : (wr.setCell ⟨D, 2, none⟩ (.slice none 0 0)).cell? ⟨D, 7, none⟩ = some (.int .u64 (r.fl : Int)) := hI2.blk.cell 7
        have f7 := hI2.blk.frozen 7
        have HI2 := mkHid hI2
        clear hI hI2 HI c3
        go_upto_region 8 with fail
        generalize wr.setCell ⟨D, 2, none⟩ (.slice none 0 0) = Y at *
        go_wp2_with fail
        go_ret
        refine ⟨by rw [Q1.out]; rfl, ⟨vS', .slice none 0 0, ?_⟩, k2.set HI2.out.blk (by simp) 7 _, b2.setCell (p := ⟨D, 7, none⟩) hlow _⟩
        rw [Q2.out]
        refine HI2.out.field 7 _ ?_ rfl (.inr ⟨rfl, rfl⟩)
        unfold rdc
        rfl
end Go.Proofs.Ytjmgodlefaadoaa
