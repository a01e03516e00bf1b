/- The program's journal: slots and data. -/
import Derived.Test.YtacnoagjcacniaaGreatB31
import Derived.Test.YtacnoagjcacniaaGreatB32
namespace Go.Proofs.YtacnoagjcacniaaGreat
open Go.RowKit
attribute [local go_sem ↓] zvJ slJ

theorem infoI3 : (Tryz.prog.info? 3).map (fun i => (i.zero, i.size, i.bytes)) = some (some (.int .i64 0), 1, 8) := by kernel_rfl
theorem infoS3 : (Tryz.prog.info? 49).map (fun i => (i.zero, i.size, i.bytes)) = some (some (.slice none 0 0), 1, 24) := by kernel_rfl
theorem made_ints (n : Nat) : (madeCells (Value.int .i64 0).cells (n * 1)).toList = List.replicate n (.int .i64 0) := by
  simp only [madeCells, Value.cells]
  rw [List.eq_replicate_iff]
  simp [Nat.mod_one]
theorem made_slices (n : Nat) : (madeCells (Value.slice none 0 0).cells (n * 1)).toList = List.replicate n (.slice none 0 0) := by
  simp only [madeCells, Value.cells]
  rw [List.eq_replicate_iff]
  simp [Nat.mod_one]
set_option maxRecDepth 20000 in
/-- make([]int, n) -/
theorem make_ints {ops : Array Oper} {rest : List Oper} {o : Oper} {a : Act} {Q : Exit → Act → World → Prop} (w : World)
    (hg : o.guard = none) (l c : Operand) (hop : o.op = Op.makeSlice 114 l c)
    (n : Nat) (hl : a.eval l = .int .i64 (n : Int)) (hc : a.eval c = .int .i64 (n : Int)) (hn : n ≤ 4096)
    (hK : ∀ w', Blk w' w.heap.size 3 (List.replicate n (.int .i64 0)) → w.grownBy w' none → wpList Tryz.prog ops Q rest (a.put o.dst (.slice (some ⟨w.heap.size, 0, none⟩) n n)) w') :
    wpList Tryz.prog ops Q (o :: rest) a w := by
  obtain ⟨i0, hi, hz0, hz1, hz2⟩ := info_parts infoI3
  refine wpList_make_full w hg l c 114 hop w.heap.size 3 i0 (.int .i64 0) 1 Tryz.underlying114 hi hz0 hz1 .i64 .i64 n n n hl hc rfl rfl (by rw [hz2]; omega) (by unfold maxLen; omega) (Nat.le_refl _) (fun w' h g => hK w' ?_ g)
  rw [made_ints] at h
  rcases h.2 with ⟨h, _⟩ | ⟨g, cap, cur, e, _, hgb, _, _, hsz, ht⟩
  · cases h
  · injection e with e1 _ e3
    have e4 : w.heap.size = g := by injection e1 with e1; injection e1 with e1
    subst e4
    unfold Blk
    rw [hgb, ← ht, List.take_of_length_le (by rw [Array.length_toList, hsz, ← e3]; omega)]
set_option maxRecDepth 20000 in
/-- make([][]byte, n) -/
theorem make_slices {ops : Array Oper} {rest : List Oper} {o : Oper} {a : Act} {Q : Exit → Act → World → Prop} (w : World)
    (hg : o.guard = none) (l c : Operand) (hop : o.op = Op.makeSlice 111 l c)
    (n : Nat) (hl : a.eval l = .int .i64 (n : Int)) (hc : a.eval c = .int .i64 (n : Int)) (hn : n ≤ 4096)
    (hK : ∀ w', Blk w' w.heap.size 49 (List.replicate n (.slice none 0 0)) → w.grownBy w' none → wpList Tryz.prog ops Q rest (a.put o.dst (.slice (some ⟨w.heap.size, 0, none⟩) n n)) w') :
    wpList Tryz.prog ops Q (o :: rest) a w := by
  obtain ⟨i0, hi, hz0, hz1, hz2⟩ := info_parts infoS3
  refine wpList_make_full w hg l c 111 hop w.heap.size 49 i0 (.slice none 0 0) 1 Tryz.underlying111 hi hz0 hz1 .i64 .i64 n n n hl hc rfl rfl (by rw [hz2]; omega) (by unfold maxLen; omega) (Nat.le_refl _) (fun w' h g => hK w' ?_ g)
  rw [made_slices] at h
  rcases h.2 with ⟨h, _⟩ | ⟨g, cap, cur, e, _, hgb, _, _, hsz, ht⟩
  · cases h
  · injection e with e1 _ e3
    have e4 : w.heap.size = g := by injection e1 with e1; injection e1 with e1
    subst e4
    unfold Blk
    rw [hgb, ← ht, List.take_of_length_le (by rw [Array.length_toList, hsz, ← e3]; omega)]

/-- the first k of n are laid -/
def laidTo (f : Nat → Value) (z : Value) (n k : Nat) : List Value := (List.range n).map fun i => if i < k then f i else z
theorem laidTo_zero (f : Nat → Value) (z : Value) (n : Nat) : laidTo f z n 0 = List.replicate n z := by
  unfold laidTo
  rw [List.eq_replicate_iff]
  simp
theorem laidTo_at (f : Nat → Value) (z : Value) (n k i : Nat) (h : i < n) : (laidTo f z n k)[i]? = some (if i < k then f i else z) := by
  unfold laidTo
  simp [h]
theorem laidTo_set (f : Nat → Value) (z : Value) (n k : Nat) (h : k < n) : (laidTo f z n k).set k (f k) = laidTo f z n (k + 1) := by
  apply List.ext_getElem?
  intro i
  by_cases hi : i < n
  · rw [laidTo_at _ _ _ _ _ hi]
    by_cases e : i = k
    · subst e
      rw [List.getElem?_set_self (by unfold laidTo; simpa using h), if_pos (by omega)]
    · rw [List.getElem?_set_ne (by omega), laidTo_at _ _ _ _ _ hi]
      by_cases h2 : i < k
      · rw [if_pos h2, if_pos (by omega)]
      · rw [if_neg h2, if_neg (by omega)]
  · rw [List.getElem?_eq_none (by rw [List.length_set]; unfold laidTo; simp; omega), List.getElem?_eq_none (by unfold laidTo; simp; omega)]
theorem laidTo_congr {f f' : Nat → Value} {z : Value} {n k : Nat} (h : ∀ i, i < k → f i = f' i) : laidTo f z n k = laidTo f' z n k := by
  unfold laidTo
  refine List.map_congr_left (fun i _ => ?_)
  by_cases hi : i < k
  · rw [if_pos hi, if_pos hi, h i hi]
  · rw [if_neg hi, if_neg hi]
theorem gr_below {w w' : World} (hg : w.grownBy w' none) : Below w.heap.size w w' := (Below.refl _ w).grown hg (Nat.le_refl _) (fun k e => by cases e)
theorem slotQ_nth (l : Qs) (i : Nat) (h : i < l.length) : nthL (slotQ l) i = (1 + i, (nthL l i).2) := by
  unfold slotQ nthL
  rw [List.getD_eq_getElem?_getD]
  simp [h]
theorem slotQ_len (l : Qs) : (slotQ l).length = l.length := by simp [slotQ]

set_option maxRecDepth 20000 in
set_option maxHeartbeats 1000000 in
theorem codSlots (l : Qs) (n : Nat) (hn : l.length = n) (h48 : n ≤ 48) (w : World) :
    Calls Tryz.prog 120 #[.int .i64 (n : Int)] w fun e w' => ∃ S, e = .returned (.slice (some ⟨S, 0, none⟩) n n) ∧ IsIs w' (some ⟨S, 0, none⟩) n n (slotQ l) ∧ Below w.heap.size w w' := by
  have HN := mkHid hn
  clear hn
  have h48' : (n : Int) ≤ 48 := by omega
  go_enter Tryz.func120, Tryz.ntmps120
  go_wp2_with (at_make; refine make_ints w rfl _ _ rfl n rfl rfl (by omega) ?_; intro w1 hB1 hg1; have HB1 := mkHid hB1; have HG1 := mkHid (gr_below hg1); clear hB1 hg1)
  obtain ⟨S, hS⟩ : ∃ S, S = w.heap.size := ⟨_, rfl⟩
  have HS := mkHid hS
  rw [← hS] at HB1 ⊢
  clear hS
  go_loopw [9] (fun i wr => ∃ k : Nat, k ≤ n ∧ i = .int .i64 (k : Int) ∧ Hid (Blk wr S 3 (laidTo (fun i => .int .i64 ((1 + i : Nat) : Int)) (.int .i64 0) n k)) ∧ Hid (Below w.heap.size w wr)) (fun i _ => n - (Go.RowKit.intOf i).toNat)
  case atStart => exact ⟨0, Nat.zero_le _, rfl, by rw [laidTo_zero]; exact HB1, HG1⟩
  case round =>
    obtain ⟨k, hk, rfl, HB, HW⟩ := hrel
    clear HB1 HG1
    by_cases hlt : k < n
    · have hlt' : (k : Int) < (n : Int) := by omega
      have hc : wr.cell? ⟨S, k, none⟩ = some (.int .i64 0) := by rw [HB.out.cell, laidTo_at _ _ _ _ _ hlt, if_neg (by omega)]
      have hfz := HB.out.frozen k
      have hk0 : (0 : Int) ≤ (k : Int) := by omega
      have HB2 : Hid (Blk (wr.setCell ⟨S, k, none⟩ (.int .i64 (1 + (k : Int)))) S 3 (laidTo (fun i => .int .i64 ((1 + i : Nat) : Int)) (.int .i64 0) n (k + 1))) := by
        have := HB.out.set k (.int .i64 ((1 + k : Nat) : Int))
        rw [laidTo_set (fun i => .int .i64 ((1 + i : Nat) : Int)) _ _ _ hlt] at this
        exact this
      have HW2 : Hid (Below w.heap.size w (wr.setCell ⟨S, k, none⟩ (.int .i64 (1 + (k : Int))))) := HW.out.trans (bel_one (gr_cell wr S k _) (Nat.le_of_eq HS.out.symm) HB.out.lt)
      clear HB HW
      go_wp2_with fail
      go_roundw
      case rel => exact ⟨k + 1, by omega, by go_num, by simpa using HB2, by simpa using HW2⟩
      case measure => simp [Go.RowKit.intOf]; omega
    · have hge : ¬ (k : Int) < (n : Int) := by omega
      have hkn : k = n := by omega
      subst hkn
      go_wp2_with fail
      go_ret
      refine ⟨S, rfl, ⟨by rw [slotQ_len]; exact HN.out, fun _ => ⟨S, 0, rfl, ⟨_, _, HB.out⟩, fun i hi => ?_⟩⟩, HW.out⟩
      rw [HB.out.cell, Nat.zero_add, laidTo_at _ _ _ _ _ hi, if_pos hi, slotQ_nth l i (by rw [HN.out]; exact hi)]

def dtv (gs : Nat → Nat) (i : Nat) : Value := .slice (some ⟨gs i, 0, none⟩) 512 512
theorem find_nth (l : Qs) (hs : SortQ l) (k : Nat) (hk : k < l.length) : Tl.find l ((nthL l k).1 : Int) = some (nthL l k).2 := by
  unfold Tl.find nthL
  induction l generalizing k with
  | nil => simp at hk
  | cons g l ih =>
    obtain ⟨h1, h2⟩ := List.pairwise_cons.1 hs
    cases k with
    | zero => simp [List.getD]
    | succ k =>
      have hk2 : k < l.length := by simpa using hk
      have := ih h2 k hk2
      rw [List.find?_cons]
      have hm : l.getD k (0, []) ∈ l := by rw [List.getD_eq_getElem?_getD, List.getElem?_eq_getElem hk2]; exact List.getElem_mem hk2
      have hne : ((g.1 : Int) == (((g :: l).getD (k + 1) (0, [])).1 : Int)) = false := by
        have := h1 _ hm
        rw [List.getD_cons_succ]
        rw [beq_eq_false_iff_ne]
        omega
      rw [hne]
      simpa using this

set_option maxRecDepth 20000 in
set_option maxHeartbeats 2000000 in
theorem codData (w : World) (T J M : Nat) (l : Qs) (rest : List Value) (h : TIn w T J M l rest) (n pc : Nat) (pa : Option Addr) (hn : l.length = n) (h48 : n ≤ 48) (hp : IsIs w pa n pc l) :
    Calls Tryz.prog 65 #[.pointer (some ⟨T, 0, none⟩), .slice pa n pc] w fun e w' => ∃ O, e = .returned (.slice (some ⟨O, 0, none⟩) n n) ∧ IsDt w' (some ⟨O, 0, none⟩) n n l ∧ Below w.heap.size w w' := by
  have HN := mkHid hn
  have HT := mkHid h
  have HP := mkHid hp
  clear hn h hp
  have h48' : (n : Int) ≤ 48 := by omega
  go_enter Tryz.func65, Tryz.ntmps65
  go_wp2_with (at_make; refine make_slices w rfl _ _ rfl n rfl rfl (by omega) ?_; intro w1 hB1 hg1; have HB1 := mkHid hB1; have HG1 := mkHid (gr_below hg1); clear hB1 hg1)
  obtain ⟨S, hS⟩ : ∃ S, S = w.heap.size := ⟨_, rfl⟩
  have HS := mkHid hS
  rw [← hS] at HB1 ⊢
  clear hS
  go_loopw [14] (fun i wr => ∃ (k : Nat) (gs : Nat → Nat), k ≤ n ∧ i = .int .i64 (k : Int) ∧ Hid (Blk wr S 49 (laidTo (dtv gs) (.slice none 0 0) n k)) ∧ Hid (∀ i, i < k → S ≠ gs i ∧ Blk wr (gs i) 98 (bv (nthL l i).2)) ∧ Hid (Below w.heap.size w wr)) (fun i _ => n - (Go.RowKit.intOf i).toNat)
  case atStart => exact ⟨0, fun _ => 0, Nat.zero_le _, rfl, by rw [laidTo_zero]; exact HB1, fun i hi => absurd hi (Nat.not_lt_zero i), HG1⟩
  case round =>
    obtain ⟨k, gs, hk, rfl, HB, HBs, HW⟩ := hrel
    clear HB1 HG1
    by_cases hlt : k < n
    · have hlt' : (k : Int) < (n : Int) := by omega
      have hk0 : (0 : Int) ≤ (k : Int) := by omega
      obtain ⟨B1, o1, rfl, ⟨_, _, _⟩, hc1⟩ := (HP.out.on HW.out).cells (by omega)
      have c1 := hc1 k hlt
      have m1 : wr.cell? ⟨T, 1, none⟩ = some (.map (some M)) := (HT.out.on HW.out).blk.cell 1
      have hkl : k < l.length := by rw [HN.out]; exact hlt
      have hmem : nthL l k ∈ l := by unfold nthL; rw [List.getD_eq_getElem?_getD, List.getElem?_eq_getElem hkl]; exact List.getElem_mem hkl
      have hok := HT.out.ok _ hmem
      have hlk := look1 (HT.out.on HW.out).own (i := ((nthL l k).1 : Int)) (by omega) (by omega)
      rw [find_nth l HT.out.sort k hkl] at hlk
      have hlk2 : (Instr.lookup 84 (.map (some M)) (.int .i64 ((nthL l k).1 : Int)) false).run Tryz.prog wr = .ok (.agg (bv (nthL l k).2).toArray) wr := hlk
      have HL : Hid ((nthL l k).2.length = 512) := hok.1
      have HX : Hid (∀ W g, Below wr.heap.size wr W → wr.heap.size ≤ g → Blk W g 98 (bv (nthL l k).2) → ∀ i, i < k + 1 → S ≠ (fun i => if i = k then g else gs i) i ∧ Blk W ((fun i => if i = k then g else gs i) i) 98 (bv (nthL l i).2)) := fun W g hW hg hB i hi => by
        have hSl := HB.out.lt
        by_cases e : i = k
        · subst e; simp only [if_true]; exact ⟨by omega, hB⟩
        · simp only [if_neg e]
          have := HBs.out i (by omega)
          exact ⟨this.1, this.2.on hW⟩
      clear hlk hc1 hmem hok hkl
      generalize (nthL l k).1 = ak at *
      generalize (nthL l k).2 = bb at *
      have HRw : Hid (Blk (wr.alloc (.cells zSec.toArray 98)) wr.heap.size 98 zSec) := Blk.new wr _ _
      have HS6 : Hid ((Tryz.prog.info? 98).map (·.size) = some (bv bb).toArray.size) := infoJOf' HL.out
      have HS7 : Hid (zSec.toArray.size = (bv bb).toArray.size) := by unfold Hid; rw [List.size_toArray, List.size_toArray, zSec_length, bv_length, HL.out]
      have HD1 : Hid (Below wr.heap.size wr ((wr.alloc (.cells zSec.toArray 98)).setRow wr.heap.size (bv bb).toArray)) := bel_row ((Below.refl _ wr).alloc (Nat.le_refl _) _) (Nat.le_refl _) _
      have HBW : Hid (Blk ((wr.alloc (.cells zSec.toArray 98)).setRow wr.heap.size (bv bb).toArray) wr.heap.size 98 (bv bb)) := HRw.out.row _
      go_upto_region 6 with (refine wpList_store_row rfl 98 _ _ rfl wr.heap.size (bv bb).toArray rfl rfl _ _ HRw.out HS6.out HS7.out (bvAll9 bb) ?_)
      clear HRw HS6 HS7 hlk2 m1 c1
      generalize (wr.alloc (.cells zSec.toArray 98)).setRow wr.heap.size (bv bb).toArray = W1 at *
      have hX1 := mkHid (HX.out W1 wr.heap.size HD1.out (Nat.le_refl _) HBW.out)
      have HB1 := mkHid (HB.out.on HD1.out)
      have HW1 := mkHid (HW.out.trans (HD1.out.mono HW.out.size))
      have hgS : Hid (S ≠ wr.heap.size) := by unfold Hid; have := HB.out.lt; omega
      clear HX HBs HB HD1 HBW
      generalize wr.heap.size = g at *
      have hc : W1.cell? ⟨S, k, none⟩ = some (.slice none 0 0) := by rw [HB1.out.cell, laidTo_at _ _ _ _ _ hlt, if_neg (by omega)]
      have hfz := HB1.out.frozen k
      have HB2 : Hid (Blk (W1.setCell ⟨S, k, none⟩ (.slice (some ⟨g, 0, none⟩) 512 512)) S 49 (laidTo (dtv (fun i => if i = k then g else gs i)) (.slice none 0 0) n (k + 1))) := by
        have h1 := HB1.out
        rw [laidTo_congr (f' := dtv (fun i => if i = k then g else gs i)) (fun i hi => by unfold dtv; simp only [if_neg (show ¬ i = k by omega)])] at h1
        have h2 := h1.set k (dtv (fun i => if i = k then g else gs i) k)
        rw [laidTo_set _ _ _ _ hlt] at h2
        have e : dtv (fun i => if i = k then g else gs i) k = .slice (some ⟨g, 0, none⟩) 512 512 := by unfold dtv; simp only [if_true]
        rw [e] at h2
        exact h2
      have HX2 : Hid (∀ i, i < k + 1 → S ≠ (fun i => if i = k then g else gs i) i ∧ Blk (W1.setCell ⟨S, k, none⟩ (.slice (some ⟨g, 0, none⟩) 512 512)) ((fun i => if i = k then g else gs i) i) 98 (bv (nthL l i).2)) := fun i hi => by
        have := hX1.out i hi
        exact ⟨this.1, this.2.other _ _ (fun e => this.1 e.symm)⟩
      have HW2 : Hid (Below w.heap.size w (W1.setCell ⟨S, k, none⟩ (.slice (some ⟨g, 0, none⟩) 512 512))) := HW1.out.trans (bel_one (gr_cell W1 S k _) (Nat.le_of_eq HS.out.symm) HB1.out.lt)
      clear HB1 HW1 HW hX1
      go_wp2_with fail
      go_roundw
      case rel => exact ⟨k + 1, (fun i => if i = k then g else gs i), by omega, by go_num, HB2, HX2, HW2⟩
      case measure => simp [Go.RowKit.intOf]; omega
    · have hge : ¬ (k : Int) < (n : Int) := by omega
      have hkn : k = n := by omega
      subst hkn
      go_wp2_with fail
      go_ret
      refine ⟨S, rfl, ⟨HN.out, fun _ => ⟨S, 0, rfl, ⟨_, _, HB.out⟩, fun i hi => ?_⟩⟩, HW.out⟩
      have hil : i < l.length := by rw [HN.out]; exact hi
      have hmem : nthL l i ∈ l := by unfold nthL; rw [List.getD_eq_getElem?_getD, List.getElem?_eq_getElem hil]; exact List.getElem_mem hil
      refine ⟨(HT.out.ok _ hmem).1, gs i, 98, ?_, (HBs.out i hi).2, by simp⟩
      rw [HB.out.cell, Nat.zero_add, laidTo_at _ _ _ _ _ hi, if_pos hi]
      rfl
end Go.Proofs.YtacnoagjcacniaaGreat
