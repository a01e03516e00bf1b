/- What clock's pairs answers: the seven numbers of fourteen digits. -/
import Derived.Test.YtgjmaeodgcigdaaGreatDoorJ6
import Derived.Test.YtgjmaeodgcigdaaGreatDoorJ27
import Derived.Test.YtgjmaeodgcigdaaGreatDoorJ1
import Derived.Laws.ResultCell
import Derived.OwnWalk
import Derived.BigRegion
namespace Go.Proofs.YtgjmaeodgcigdaaGreatDoor
open Go.RowKit
attribute [local go_sem ↓] ixs

def dv (l : List UInt8) (i : Nat) : Nat := (nth l i).toNat - 48
/-- the number at place j, of the first k signs -/
def pn (l : List UInt8) (k j : Nat) : Nat := if 2 * j + 1 < k then 10 * dv l (2 * j) + dv l (2 * j + 1) else if 2 * j < k then dv l (2 * j) else 0
def iv (n : Nat) : Value := .int .i64 (n : Int)
def pv (l : List UInt8) (k : Nat) : List Value := [iv (pn l k 0), iv (pn l k 1), iv (pn l k 2), iv (pn l k 3), iv (pn l k 4), iv (pn l k 5), iv (pn l k 6)]
theorem pv_at (l : List UInt8) (k j : Nat) (h : j < 7) : (pv l k)[j]? = some (.int .i64 (pn l k j : Int)) := by
  obtain rfl | rfl | rfl | rfl | rfl | rfl | rfl : j = 0 ∨ j = 1 ∨ j = 2 ∨ j = 3 ∨ j = 4 ∨ j = 5 ∨ j = 6 := by omega
  all_goals rfl
theorem pv_step (l : List UInt8) (k : Nat) (h : k < 14) : (pv l k).set (k / 2) (iv (10 * pn l k (k / 2) + dv l k)) = pv l (k + 1) := by
  obtain rfl | rfl | rfl | rfl | rfl | rfl | rfl | rfl | rfl | rfl | rfl | rfl | rfl | rfl : k = 0 ∨ k = 1 ∨ k = 2 ∨ k = 3 ∨ k = 4 ∨ k = 5 ∨ k = 6 ∨ k = 7 ∨ k = 8 ∨ k = 9 ∨ k = 10 ∨ k = 11 ∨ k = 12 ∨ k = 13 := by omega
  all_goals simp [pv, pn]
theorem pv_zero (l : List UInt8) : pv l 0 = List.replicate 7 (.int .i64 0) := rfl
theorem pv_all (l : List UInt8) (k : Nat) : (pv l k).toArray.all (·.oneCell') = true := by simp [pv, iv, Value.oneCell']
theorem info7 : (Tryz.prog.info? 189).map (·.size) = some 7 := by kernel_rfl
theorem pn_lt (l : List UInt8) (k j : Nat) (h : ∀ i, i < k → dv l i < 10) : pn l k j < 100 := by
  unfold pn
  by_cases h1 : 2 * j + 1 < k
  · rw [if_pos h1]; have := h (2 * j) (by omega); have := h (2 * j + 1) h1; omega
  · rw [if_neg h1]
    by_cases h2 : 2 * j < k
    · rw [if_pos h2]; have := h (2 * j) h2; omega
    · rw [if_neg h2]; omega

theorem results_row_tmp {P : Program} {fn : Func} {p u : Tmp} {ty : TypeId} (h : fn.results = #[.cell p ty, .tmp u]) (tmps : Array Value) (w : World) (g : Nat) (t : TypeId) (cs : Array Value) (fr : Nat × Nat) (d : TypeDesc)
    (hp : tmps.getD p undef = .pointer (some ⟨g, 0, none⟩)) (hg : w.heap[g]? = some (.cells cs t fr))
    (hu : P.underlying ty = some d) (hd : (match d with | .struct _ | .array _ _ => true | _ => false) = true) (hi : (P.info? ty).map (·.size) = some cs.size) :
    (results fn tmps).run P w = .ok (.tuple #[.agg cs, tmps.getD u undef]) w := by
  rw [results_cell_tmp h, hp]
  simp [asAddr, run_loadVar_row w g t ty cs fr d hg hu hd hi, Result.andThen]

set_option maxHeartbeats 1000000 in
theorem codPairs_yes (s : ByteArray) (w : World) (hs : s.size = 14) (hd : ∀ i, i < 14 → isDg (nth s.data.toList i) = true) :
    Calls Tryz.prog 146 #[.string s] w fun e w' => e = .returned (.tuple #[.agg (pv s.data.toList 14).toArray, .bool true]) ∧ Below w.heap.size w w' := by
  obtain ⟨l, hl⟩ : ∃ l, l = s.data.toList := ⟨_, rfl⟩
  rw [← hl] at hd ⊢
  have Hl : Hid (l = s.data.toList) := hl
  have HD : Hid (∀ i, i < 14 → 48 ≤ (nth l i).toNat ∧ (nth l i).toNat ≤ 57) := fun i hi => of_decide_eq_true (hd i hi)
  clear hl hd
  have b0 : Blk ((w.alloc (.cells #[.int .i64 0, .int .i64 0, .int .i64 0, .int .i64 0, .int .i64 0, .int .i64 0, .int .i64 0] 189)).alloc (.cells #[.int .i64 0, .int .i64 0, .int .i64 0, .int .i64 0, .int .i64 0, .int .i64 0, .int .i64 0] 189)) (w.heap.size + 1) 189 (pv l 0) := Blk.newAt _ _ _ _ _ (by simp) rfl
  have b1 : Blk ((w.alloc (.cells #[.int .i64 0, .int .i64 0, .int .i64 0, .int .i64 0, .int .i64 0, .int .i64 0, .int .i64 0] 189)).alloc (.cells #[.int .i64 0, .int .i64 0, .int .i64 0, .int .i64 0, .int .i64 0, .int .i64 0, .int .i64 0] 189)) w.heap.size 189 (pv l 0) := (Blk.newAt w w.heap.size _ _ _ rfl rfl).alloc _
  go_enter Tryz.func146, Tryz.ntmps146
  go_wp2
  go_loopw [8] (fun i wr => ∃ k : Nat, k ≤ 14 ∧ i = .int .i64 (k : Int) ∧ Blk wr (w.heap.size + 1) 189 (pv l k) ∧ Blk wr w.heap.size 189 (pv l 0) ∧ Below w.heap.size w wr) (fun i _ => 14 - (intOf i).toNat)
  case atStart => exact ⟨0, by omega, rfl, b0, b1, ((Below.refl _ _).alloc (Nat.le_refl _) _).alloc (by simp) _⟩
  case round =>
    obtain ⟨k, hk, rfl, hblk, hblk1, hbel⟩ := hrel
    clear b0 b1
    by_cases hlt : k < 14
    · have hb0 : (0 : Int) ≤ (k : Int) := by omega
      have hb1 : (k : Int) < (s.size : Int) := by omega
      have hlt' : (k : Int) < 14 := by omega
      have hc1 := (HD.out k hlt).1
      have hc2 := (HD.out k hlt).2
      have hcn : nth l k = sb s (k : Int) := by rw [Hl.out]; rfl
      have hdv : Hid (dv l k = (sb s (k : Int)).toNat - 48) := by unfold Hid dv; rw [hcn]
      rw [hcn] at hc1 hc2
      clear hcn
      have i1 : ¬ ((sb s (k : Int)).toNat : Int) < 48 := by omega
      have i2 : ¬ (57 : Int) < ((sb s (k : Int)).toNat : Int) := by omega
      have Hc2 : Hid (48 ≤ (sb s (k : Int)).toNat) := hc1
      clear hc1
      obtain ⟨j, hj⟩ : ∃ j : Nat, j = k / 2 := ⟨_, rfl⟩
      have i3 : (k : Int) / 2 = (j : Int) := by omega
      have i4 : (j : Int) < 7 := by omega
      have hcell := hblk.cell j
      rw [pv_at l k j (by omega)] at hcell
      have hfr := hblk.frozen j
      have hstep := pv_step l k hlt
      rw [← hj] at hstep
      have hpn : pn l k j < 100 := pn_lt l k j (fun i hi => by have := HD.out i (by omega); unfold dv; omega)
      generalize pn l k j = v at *
      have Hval : Hid (Value.int .i64 (10 * (v : Int) + (((sb s (k : Int)).toNat : Int) - 48)) = iv (10 * v + dv l k)) := by
        unfold Hid iv; rw [hdv.out]; have := Hc2.out; congr 1; omega
      have Hstep : Hid ((pv l k).set j (iv (10 * v + dv l k)) = pv l (k + 1)) := hstep
      have hset := hblk.set j (iv (10 * v + dv l k))
      have hset1 := hblk1.other ⟨w.heap.size + 1, j, none⟩ (iv (10 * v + dv l k)) (by simp)
      rw [hstep] at hset
      clear hstep hj
      go_wp2
      go_region
      go_wp2
      go_roundw
      case rel => exact ⟨k + 1, by omega, by go_num, by rw [Hval.out]; exact hset, by rw [Hval.out]; exact hset1, (hbel.setCell (by show w.heap.size ≤ w.heap.size + 1; omega) _).drew⟩
      case measure => simp [intOf]; omega
    · have ek : k = 14 := by omega
      subst ek
      go_wp2_with (first | (refine wpList_load_row rfl _ _ rfl _ rfl _ _ _ _ hblk Tryz.underlying189 rfl info7 ?_) | (refine wpList_store_row rfl _ _ _ rfl _ _ rfl rfl _ _ hblk1 info7 rfl (pv_all _ _) ?_))
      refine bodyPost_ret (v := .tuple #[.agg (pv l 14).toArray, .bool true]) ?_ rfl ⟨rfl, bel_row hbel (Nat.le_refl _) _⟩
      exact results_row_tmp Tryz.results146 _ _ _ _ _ _ _ rfl (hblk1.row (pv l 14)) Tryz.underlying189 rfl info7

set_option maxHeartbeats 1000000 in
theorem codPairs_no (s : ByteArray) (w : World) (hs : s.size = 14) (I : Nat) (hI : I < 14) (hno : isDg (nth s.data.toList I) = false) (hd : ∀ i, i < I → isDg (nth s.data.toList i) = true) :
    Calls Tryz.prog 146 #[.string s] w fun e w' => e = .returned (.tuple #[.agg (pv s.data.toList 0).toArray, .bool false]) ∧ Below w.heap.size w w' := by
  obtain ⟨l, hl⟩ : ∃ l, l = s.data.toList := ⟨_, rfl⟩
  rw [← hl] at hd hno ⊢
  have Hl : Hid (l = s.data.toList) := hl
  have HD : Hid (∀ i, i < I → 48 ≤ (nth l i).toNat ∧ (nth l i).toNat ≤ 57) := fun i hi => of_decide_eq_true (hd i hi)
  have HNO : Hid ((nth l I).toNat < 48 ∨ 57 < (nth l I).toNat) := by
    have := of_decide_eq_false hno
    unfold Hid
    omega
  clear hl hd hno
  have b0 : Blk ((w.alloc (.cells #[.int .i64 0, .int .i64 0, .int .i64 0, .int .i64 0, .int .i64 0, .int .i64 0, .int .i64 0] 189)).alloc (.cells #[.int .i64 0, .int .i64 0, .int .i64 0, .int .i64 0, .int .i64 0, .int .i64 0, .int .i64 0] 189)) (w.heap.size + 1) 189 (pv l 0) := Blk.newAt _ _ _ _ _ (by simp) rfl
  have b1 : Blk ((w.alloc (.cells #[.int .i64 0, .int .i64 0, .int .i64 0, .int .i64 0, .int .i64 0, .int .i64 0, .int .i64 0] 189)).alloc (.cells #[.int .i64 0, .int .i64 0, .int .i64 0, .int .i64 0, .int .i64 0, .int .i64 0, .int .i64 0] 189)) w.heap.size 189 (pv l 0) := (Blk.newAt w w.heap.size _ _ _ rfl rfl).alloc _
  go_enter Tryz.func146, Tryz.ntmps146
  go_wp2
  go_loopw [8] (fun i wr => ∃ k : Nat, k ≤ I ∧ i = .int .i64 (k : Int) ∧ Blk wr (w.heap.size + 1) 189 (pv l k) ∧ Blk wr w.heap.size 189 (pv l 0) ∧ Below w.heap.size w wr) (fun i _ => I - (intOf i).toNat)
  case atStart => exact ⟨0, by omega, rfl, b0, b1, ((Below.refl _ _).alloc (Nat.le_refl _) _).alloc (by simp) _⟩
  case round =>
    obtain ⟨k, hk, rfl, hblk, hblk1, hbel⟩ := hrel
    clear b0 b1
    by_cases hlt : k < I
    · have hb0 : (0 : Int) ≤ (k : Int) := by omega
      have hb1 : (k : Int) < (s.size : Int) := by omega
      have hlt' : (k : Int) < 14 := by omega
      have hc1 := (HD.out k hlt).1
      have hc2 := (HD.out k hlt).2
      have hcn : nth l k = sb s (k : Int) := by rw [Hl.out]; rfl
      have hdv : Hid (dv l k = (sb s (k : Int)).toNat - 48) := by unfold Hid dv; rw [hcn]
      rw [hcn] at hc1 hc2
      clear hcn
      have i1 : ¬ ((sb s (k : Int)).toNat : Int) < 48 := by omega
      have i2 : ¬ (57 : Int) < ((sb s (k : Int)).toNat : Int) := by omega
      have Hc2 : Hid (48 ≤ (sb s (k : Int)).toNat) := hc1
      clear hc1
      obtain ⟨j, hj⟩ : ∃ j : Nat, j = k / 2 := ⟨_, rfl⟩
      have i3 : (k : Int) / 2 = (j : Int) := by omega
      have i4 : (j : Int) < 7 := by omega
      have hcell := hblk.cell j
      rw [pv_at l k j (by omega)] at hcell
      have hfr := hblk.frozen j
      have hstep := pv_step l k (by omega)
      rw [← hj] at hstep
      have hpn : pn l k j < 100 := pn_lt l k j (fun i hi => by have := HD.out i (by omega); unfold dv; omega)
      generalize pn l k j = v at *
      have Hval : Hid (Value.int .i64 (10 * (v : Int) + (((sb s (k : Int)).toNat : Int) - 48)) = iv (10 * v + dv l k)) := by
        unfold Hid iv; rw [hdv.out]; have := Hc2.out; congr 1; omega
      have Hstep : Hid ((pv l k).set j (iv (10 * v + dv l k)) = pv l (k + 1)) := hstep
      have hset := hblk.set j (iv (10 * v + dv l k))
      have hset1 := hblk1.other ⟨w.heap.size + 1, j, none⟩ (iv (10 * v + dv l k)) (by simp)
      rw [hstep] at hset
      clear hstep hj
      go_wp2
      go_region
      go_wp2
      go_roundw
      case rel => exact ⟨k + 1, by omega, by go_num, by rw [Hval.out]; exact hset, by rw [Hval.out]; exact hset1, (hbel.setCell (by show w.heap.size ≤ w.heap.size + 1; omega) _).drew⟩
      case measure => simp [intOf]; omega
    · have ek : k = I := by omega
      subst ek
      have hb0 : (0 : Int) ≤ (k : Int) := by omega
      have hb1 : (k : Int) < (s.size : Int) := by omega
      have hlt' : (k : Int) < 14 := by omega
      have hcn : nth l k = sb s (k : Int) := by rw [Hl.out]; rfl
      have hor := HNO.out
      rw [hcn] at hor
      clear hcn
      by_cases c1 : (sb s (k : Int)).toNat < 48
      · have i1 : ((sb s (k : Int)).toNat : Int) < 48 := by omega
        clear c1 hor
        go_wp2_with (refine wpList_store_row rfl _ _ _ rfl _ _ rfl rfl _ _ hblk1 info7 rfl (pv_all l 0) ?_)
        refine bodyPost_ret (v := .tuple #[.agg (pv l 0).toArray, .bool false]) ?_ rfl ⟨rfl, bel_row hbel (Nat.le_refl _) _⟩
        exact results_row_tmp Tryz.results146 _ _ _ _ _ _ _ rfl (hblk1.row (pv l 0)) Tryz.underlying189 rfl info7
      · have i1 : ¬ ((sb s (k : Int)).toNat : Int) < 48 := by omega
        have i2 : (57 : Int) < ((sb s (k : Int)).toNat : Int) := by omega
        clear c1 hor
        go_wp2_with (refine wpList_store_row rfl _ _ _ rfl _ _ rfl rfl _ _ hblk1 info7 rfl (pv_all l 0) ?_)
        refine bodyPost_ret (v := .tuple #[.agg (pv l 0).toArray, .bool false]) ?_ rfl ⟨rfl, bel_row hbel (Nat.le_refl _) _⟩
        exact results_row_tmp Tryz.results146 _ _ _ _ _ _ _ rfl (hblk1.row (pv l 0)) Tryz.underlying189 rfl info7

/-- the first sign that is no digit -/
theorem first_no (l : List UInt8) (n : Nat) : (∀ i, i < n → isDg (nth l i) = true) ∨ ∃ I, I < n ∧ isDg (nth l I) = false ∧ ∀ i, i < I → isDg (nth l i) = true := by
  induction n with
  | zero => exact .inl fun i hi => absurd hi (Nat.not_lt_zero _)
  | succ n ih =>
    rcases ih with h | ⟨I, h1, h2, h3⟩
    · cases e : isDg (nth l n) with
      | true =>
        refine .inl fun i hi => ?_
        rcases Nat.lt_or_ge i n with h' | h'
        · exact h i h'
        · have : i = n := by omega
          subst this; exact e
      | false => exact .inr ⟨n, by omega, e, h⟩
    · exact .inr ⟨I, by omega, h2, h3⟩
end Go.Proofs.YtgjmaeodgcigdaaGreatDoor
