/- The program's journal: slots and data. · SpaceOnce: slices of numbers that the statement makes; has, less. · Blobs, plain: a ref, how many sectors bytes fill, which refs are right. · What the document's Need and Right answer. -/
import Derived.Test.YthjdmfbengpepaaGreatB28
import Derived.Test.YthjdmfbengpepaaGreatB27
import Derived.BigQuiet
import Derived.Deep.QuietTactic
namespace Go.Proofs.YthjdmfbengpepaaGreat
open Go.RowKit
attribute [local go_sem ↓] zvJ slJ

theorem infoI3 : (Tryz.prog.info? 3).map (fun i => (i.zero, i.size, i.bytes)) = some (some (.int .i64 0), 1, 8) := by kernel_rfl
theorem infoS3 : (Tryz.prog.info? 41).map (fun i => (i.zero, i.size, i.bytes)) = some (some (.slice none 0 0), 1, 24) := by kernel_rfl
theorem made_ints (n : Nat) : (madeCells (Value.int .i64 0).cells (n * 1)).toList = List.replicate n (.int .i64 0) := by
  simp only [madeCells, Value.cells]
  rw [List.eq_replicate_iff]
  simp [Nat.mod_one]
theorem made_slices (n : Nat) : (madeCells (Value.slice none 0 0).cells (n * 1)).toList = List.replicate n (.slice none 0 0) := by
  simp only [madeCells, Value.cells]
  rw [List.eq_replicate_iff]
  simp [Nat.mod_one]
set_option maxRecDepth 20000 in
/-- make([]int, n) -/
theorem make_ints {ops : Array Oper} {rest : List Oper} {o : Oper} {a : Act} {Q : Exit → Act → World → Prop} (w : World)
    (hg : o.guard = none) (l c : Operand) (hop : o.op = Op.makeSlice 42 l c)
    (n : Nat) (hl : a.eval l = .int .i64 (n : Int)) (hc : a.eval c = .int .i64 (n : Int)) (hn : n ≤ 4096)
    (hK : ∀ w', Blk w' w.heap.size 3 (List.replicate n (.int .i64 0)) → w.grownBy w' none → wpList Tryz.prog ops Q rest (a.put o.dst (.slice (some ⟨w.heap.size, 0, none⟩) n n)) w') :
    wpList Tryz.prog ops Q (o :: rest) a w := by
  obtain ⟨i0, hi, hz0, hz1, hz2⟩ := info_parts infoI3
  refine wpList_make_full w hg l c 42 hop w.heap.size 3 i0 (.int .i64 0) 1 Tryz.underlying42 hi hz0 hz1 .i64 .i64 n n n hl hc rfl rfl (by rw [hz2]; omega) (by unfold maxLen; omega) (Nat.le_refl _) (fun w' h g => hK w' ?_ g)
  rw [made_ints] at h
  rcases h.2 with ⟨h, _⟩ | ⟨g, cap, cur, e, _, hgb, _, _, hsz, ht⟩
  · cases h
  · injection e with e1 _ e3
    have e4 : w.heap.size = g := by injection e1 with e1; injection e1 with e1
    subst e4
    unfold Blk
    rw [hgb, ← ht, List.take_of_length_le (by rw [Array.length_toList, hsz, ← e3]; omega)]
set_option maxRecDepth 20000 in
/-- make([][]byte, n) -/
theorem make_slices {ops : Array Oper} {rest : List Oper} {o : Oper} {a : Act} {Q : Exit → Act → World → Prop} (w : World)
    (hg : o.guard = none) (l c : Operand) (hop : o.op = Op.makeSlice 134 l c)
    (n : Nat) (hl : a.eval l = .int .i64 (n : Int)) (hc : a.eval c = .int .i64 (n : Int)) (hn : n ≤ 4096)
    (hK : ∀ w', Blk w' w.heap.size 41 (List.replicate n (.slice none 0 0)) → w.grownBy w' none → wpList Tryz.prog ops Q rest (a.put o.dst (.slice (some ⟨w.heap.size, 0, none⟩) n n)) w') :
    wpList Tryz.prog ops Q (o :: rest) a w := by
  obtain ⟨i0, hi, hz0, hz1, hz2⟩ := info_parts infoS3
  refine wpList_make_full w hg l c 134 hop w.heap.size 41 i0 (.slice none 0 0) 1 Tryz.underlying134 hi hz0 hz1 .i64 .i64 n n n hl hc rfl rfl (by rw [hz2]; omega) (by unfold maxLen; omega) (Nat.le_refl _) (fun w' h g => hK w' ?_ g)
  rw [made_slices] at h
  rcases h.2 with ⟨h, _⟩ | ⟨g, cap, cur, e, _, hgb, _, _, hsz, ht⟩
  · cases h
  · injection e with e1 _ e3
    have e4 : w.heap.size = g := by injection e1 with e1; injection e1 with e1
    subst e4
    unfold Blk
    rw [hgb, ← ht, List.take_of_length_le (by rw [Array.length_toList, hsz, ← e3]; omega)]

/-- the first k of n are laid -/
def laidTo (f : Nat → Value) (z : Value) (n k : Nat) : List Value := (List.range n).map fun i => if i < k then f i else z
theorem laidTo_zero (f : Nat → Value) (z : Value) (n : Nat) : laidTo f z n 0 = List.replicate n z := by
  unfold laidTo
  rw [List.eq_replicate_iff]
  simp
theorem laidTo_at (f : Nat → Value) (z : Value) (n k i : Nat) (h : i < n) : (laidTo f z n k)[i]? = some (if i < k then f i else z) := by
  unfold laidTo
  simp [h]
theorem laidTo_set (f : Nat → Value) (z : Value) (n k : Nat) (h : k < n) : (laidTo f z n k).set k (f k) = laidTo f z n (k + 1) := by
  apply List.ext_getElem?
  intro i
  by_cases hi : i < n
  · rw [laidTo_at _ _ _ _ _ hi]
    by_cases e : i = k
    · subst e
      rw [List.getElem?_set_self (by unfold laidTo; simpa using h), if_pos (by omega)]
    · rw [List.getElem?_set_ne (by omega), laidTo_at _ _ _ _ _ hi]
      by_cases h2 : i < k
      · rw [if_pos h2, if_pos (by omega)]
      · rw [if_neg h2, if_neg (by omega)]
  · rw [List.getElem?_eq_none (by rw [List.length_set]; unfold laidTo; simp; omega), List.getElem?_eq_none (by unfold laidTo; simp; omega)]
theorem laidTo_congr {f f' : Nat → Value} {z : Value} {n k : Nat} (h : ∀ i, i < k → f i = f' i) : laidTo f z n k = laidTo f' z n k := by
  unfold laidTo
  refine List.map_congr_left (fun i _ => ?_)
  by_cases hi : i < k
  · rw [if_pos hi, if_pos hi, h i hi]
  · rw [if_neg hi, if_neg hi]
theorem gr_below {w w' : World} (hg : w.grownBy w' none) : Below w.heap.size w w' := (Below.refl _ w).grown hg (Nat.le_refl _) (fun k e => by cases e)
theorem slotQ_nth (l : Qs) (i : Nat) (h : i < l.length) : nthL (slotQ l) i = (1 + i, (nthL l i).2) := by
  unfold slotQ nthL
  rw [List.getD_eq_getElem?_getD]
  simp [h]
theorem slotQ_len (l : Qs) : (slotQ l).length = l.length := by simp [slotQ]

set_option maxRecDepth 20000 in
set_option maxHeartbeats 1000000 in
theorem codSlots (l : Qs) (n : Nat) (hn : l.length = n) (h48 : n ≤ 48) (w : World) :
    Calls Tryz.prog 183 #[.int .i64 (n : Int)] w fun e w' => ∃ S, e = .returned (.slice (some ⟨S, 0, none⟩) n n) ∧ IsIs w' (some ⟨S, 0, none⟩) n n (slotQ l) ∧ Below w.heap.size w w' := by
  have HN := mkHid hn
  clear hn
  have h48' : (n : Int) ≤ 48 := by omega
  go_enter Tryz.func183, Tryz.ntmps183
  go_wp2_with (at_make; refine make_ints w rfl _ _ rfl n rfl rfl (by omega) ?_; intro w1 hB1 hg1; have HB1 := mkHid hB1; have HG1 := mkHid (gr_below hg1); clear hB1 hg1)
  obtain ⟨S, hS⟩ : ∃ S, S = w.heap.size := ⟨_, rfl⟩
  have HS := mkHid hS
  rw [← hS] at HB1 ⊢
  clear hS
  go_loopw [9] (fun i wr => ∃ k : Nat, k ≤ n ∧ i = .int .i64 (k : Int) ∧ Hid (Blk wr S 3 (laidTo (fun i => .int .i64 ((1 + i : Nat) : Int)) (.int .i64 0) n k)) ∧ Hid (Below w.heap.size w wr)) (fun i _ => n - (Go.RowKit.intOf i).toNat)
  case atStart => exact ⟨0, Nat.zero_le _, rfl, by rw [laidTo_zero]; exact HB1, HG1⟩
  case round =>
    obtain ⟨k, hk, rfl, HB, HW⟩ := hrel
    clear HB1 HG1
    by_cases hlt : k < n
    · have hlt' : (k : Int) < (n : Int) := by omega
      have hc : wr.cell? ⟨S, k, none⟩ = some (.int .i64 0) := by rw [HB.out.cell, laidTo_at _ _ _ _ _ hlt, if_neg (by omega)]
      have hfz := HB.out.frozen k
      have hk0 : (0 : Int) ≤ (k : Int) := by omega
      have HB2 : Hid (Blk (wr.setCell ⟨S, k, none⟩ (.int .i64 (1 + (k : Int)))) S 3 (laidTo (fun i => .int .i64 ((1 + i : Nat) : Int)) (.int .i64 0) n (k + 1))) := by
        have := HB.out.set k (.int .i64 ((1 + k : Nat) : Int))
        rw [laidTo_set (fun i => .int .i64 ((1 + i : Nat) : Int)) _ _ _ hlt] at this
        exact this
      have HW2 : Hid (Below w.heap.size w (wr.setCell ⟨S, k, none⟩ (.int .i64 (1 + (k : Int))))) := HW.out.trans (bel_one (gr_cell wr S k _) (Nat.le_of_eq HS.out.symm) HB.out.lt)
      clear HB HW
      go_wp2_with fail
      go_roundw
      case rel => exact ⟨k + 1, by omega, by go_num, by simpa using HB2, by simpa using HW2⟩
      case measure => simp [Go.RowKit.intOf]; omega
    · have hge : ¬ (k : Int) < (n : Int) := by omega
      have hkn : k = n := by omega
      subst hkn
      go_wp2_with fail
      go_ret
      refine ⟨S, rfl, ⟨by rw [slotQ_len]; exact HN.out, fun _ => ⟨S, 0, rfl, ⟨_, _, HB.out⟩, fun i hi => ?_⟩⟩, HW.out⟩
      rw [HB.out.cell, Nat.zero_add, laidTo_at _ _ _ _ _ hi, if_pos hi, slotQ_nth l i (by rw [HN.out]; exact hi)]

def dtv (gs : Nat → Nat) (i : Nat) : Value := .slice (some ⟨gs i, 0, none⟩) 512 512
theorem find_nth (l : Qs) (hs : SortQ l) (k : Nat) (hk : k < l.length) : Tl.find l ((nthL l k).1 : Int) = some (nthL l k).2 := by
  unfold Tl.find nthL
  induction l generalizing k with
  | nil => simp at hk
  | cons g l ih =>
    obtain ⟨h1, h2⟩ := List.pairwise_cons.1 hs
    cases k with
    | zero => simp [List.getD]
    | succ k =>
      have hk2 : k < l.length := by simpa using hk
      have := ih h2 k hk2
      rw [List.find?_cons]
      have hm : l.getD k (0, []) ∈ l := by rw [List.getD_eq_getElem?_getD, List.getElem?_eq_getElem hk2]; exact List.getElem_mem hk2
      have hne : ((g.1 : Int) == (((g :: l).getD (k + 1) (0, [])).1 : Int)) = false := by
        have := h1 _ hm
        rw [List.getD_cons_succ]
        rw [beq_eq_false_iff_ne]
        omega
      rw [hne]
      simpa using this

set_option maxRecDepth 20000 in
set_option maxHeartbeats 2000000 in
theorem codData (w : World) (T J M : Nat) (l : Qs) (rest : List Value) (h : TIn w T J M l rest) (n pc : Nat) (pa : Option Addr) (hn : l.length = n) (h48 : n ≤ 48) (hp : IsIs w pa n pc l) :
    Calls Tryz.prog 171 #[.pointer (some ⟨T, 0, none⟩), .slice pa n pc] w fun e w' => ∃ O, e = .returned (.slice (some ⟨O, 0, none⟩) n n) ∧ IsDt w' (some ⟨O, 0, none⟩) n n l ∧ Below w.heap.size w w' := by
  have HN := mkHid hn
  have HT := mkHid h
  have HP := mkHid hp
  clear hn h hp
  have h48' : (n : Int) ≤ 48 := by omega
  go_enter Tryz.func171, Tryz.ntmps171
  go_wp2_with (at_make; refine make_slices w rfl _ _ rfl n rfl rfl (by omega) ?_; intro w1 hB1 hg1; have HB1 := mkHid hB1; have HG1 := mkHid (gr_below hg1); clear hB1 hg1)
  obtain ⟨S, hS⟩ : ∃ S, S = w.heap.size := ⟨_, rfl⟩
  have HS := mkHid hS
  rw [← hS] at HB1 ⊢
  clear hS
  go_loopw [14] (fun i wr => ∃ (k : Nat) (gs : Nat → Nat), k ≤ n ∧ i = .int .i64 (k : Int) ∧ Hid (Blk wr S 41 (laidTo (dtv gs) (.slice none 0 0) n k)) ∧ Hid (∀ i, i < k → S ≠ gs i ∧ Blk wr (gs i) 168 (bv (nthL l i).2)) ∧ Hid (Below w.heap.size w wr)) (fun i _ => n - (Go.RowKit.intOf i).toNat)
  case atStart => exact ⟨0, fun _ => 0, Nat.zero_le _, rfl, by rw [laidTo_zero]; exact HB1, fun i hi => absurd hi (Nat.not_lt_zero i), HG1⟩
  case round =>
    obtain ⟨k, gs, hk, rfl, HB, HBs, HW⟩ := hrel
    clear HB1 HG1
    by_cases hlt : k < n
    · have hlt' : (k : Int) < (n : Int) := by omega
      have hk0 : (0 : Int) ≤ (k : Int) := by omega
      obtain ⟨B1, o1, rfl, ⟨_, _, _⟩, hc1⟩ := (HP.out.on HW.out).cells (by omega)
      have c1 := hc1 k hlt
      have m1 : wr.cell? ⟨T, 1, none⟩ = some (.map (some M)) := (HT.out.on HW.out).blk.cell 1
      have hkl : k < l.length := by rw [HN.out]; exact hlt
      have hmem : nthL l k ∈ l := by unfold nthL; rw [List.getD_eq_getElem?_getD, List.getElem?_eq_getElem hkl]; exact List.getElem_mem hkl
      have hok := HT.out.ok _ hmem
      have hlk := look1 (HT.out.on HW.out).own (i := ((nthL l k).1 : Int)) (by omega) (by omega)
      rw [find_nth l HT.out.sort k hkl] at hlk
      have hlk2 : (Instr.lookup 170 (.map (some M)) (.int .i64 ((nthL l k).1 : Int)) false).run Tryz.prog wr = .ok (.agg (bv (nthL l k).2).toArray) wr := hlk
      have HL : Hid ((nthL l k).2.length = 512) := hok.1
      have HX : Hid (∀ W g, Below wr.heap.size wr W → wr.heap.size ≤ g → Blk W g 168 (bv (nthL l k).2) → ∀ i, i < k + 1 → S ≠ (fun i => if i = k then g else gs i) i ∧ Blk W ((fun i => if i = k then g else gs i) i) 168 (bv (nthL l i).2)) := fun W g hW hg hB i hi => by
        have hSl := HB.out.lt
        by_cases e : i = k
        · subst e; simp only [if_true]; exact ⟨by omega, hB⟩
        · simp only [if_neg e]
          have := HBs.out i (by omega)
          exact ⟨this.1, this.2.on hW⟩
      clear hlk hc1 hmem hok hkl
      generalize (nthL l k).1 = ak at *
      generalize (nthL l k).2 = bb at *
      have HRw : Hid (Blk (wr.alloc (.cells zSec.toArray 168)) wr.heap.size 168 zSec) := Blk.new wr _ _
      have HS6 : Hid ((Tryz.prog.info? 168).map (·.size) = some (bv bb).toArray.size) := infoJOf' HL.out
      have HS7 : Hid (zSec.toArray.size = (bv bb).toArray.size) := by unfold Hid; rw [List.size_toArray, List.size_toArray, zSec_length, bv_length, HL.out]
      have HD1 : Hid (Below wr.heap.size wr ((wr.alloc (.cells zSec.toArray 168)).setRow wr.heap.size (bv bb).toArray)) := bel_row ((Below.refl _ wr).alloc (Nat.le_refl _) _) (Nat.le_refl _) _
      have HBW : Hid (Blk ((wr.alloc (.cells zSec.toArray 168)).setRow wr.heap.size (bv bb).toArray) wr.heap.size 168 (bv bb)) := HRw.out.row _
      go_upto_region 6 with (refine wpList_store_row rfl 168 _ _ rfl wr.heap.size (bv bb).toArray rfl rfl _ _ HRw.out HS6.out HS7.out (bvAll9 bb) ?_)
      clear HRw HS6 HS7 hlk2 m1 c1
      generalize (wr.alloc (.cells zSec.toArray 168)).setRow wr.heap.size (bv bb).toArray = W1 at *
      have hX1 := mkHid (HX.out W1 wr.heap.size HD1.out (Nat.le_refl _) HBW.out)
      have HB1 := mkHid (HB.out.on HD1.out)
      have HW1 := mkHid (HW.out.trans (HD1.out.mono HW.out.size))
      have hgS : Hid (S ≠ wr.heap.size) := by unfold Hid; have := HB.out.lt; omega
      clear HX HBs HB HD1 HBW
      generalize wr.heap.size = g at *
      have hc : W1.cell? ⟨S, k, none⟩ = some (.slice none 0 0) := by rw [HB1.out.cell, laidTo_at _ _ _ _ _ hlt, if_neg (by omega)]
      have hfz := HB1.out.frozen k
      have HB2 : Hid (Blk (W1.setCell ⟨S, k, none⟩ (.slice (some ⟨g, 0, none⟩) 512 512)) S 41 (laidTo (dtv (fun i => if i = k then g else gs i)) (.slice none 0 0) n (k + 1))) := by
        have h1 := HB1.out
        rw [laidTo_congr (f' := dtv (fun i => if i = k then g else gs i)) (fun i hi => by unfold dtv; simp only [if_neg (show ¬ i = k by omega)])] at h1
        have h2 := h1.set k (dtv (fun i => if i = k then g else gs i) k)
        rw [laidTo_set _ _ _ _ hlt] at h2
        have e : dtv (fun i => if i = k then g else gs i) k = .slice (some ⟨g, 0, none⟩) 512 512 := by unfold dtv; simp only [if_true]
        rw [e] at h2
        exact h2
      have HX2 : Hid (∀ i, i < k + 1 → S ≠ (fun i => if i = k then g else gs i) i ∧ Blk (W1.setCell ⟨S, k, none⟩ (.slice (some ⟨g, 0, none⟩) 512 512)) ((fun i => if i = k then g else gs i) i) 168 (bv (nthL l i).2)) := fun i hi => by
        have := hX1.out i hi
        exact ⟨this.1, this.2.other _ _ (fun e => this.1 e.symm)⟩
      have HW2 : Hid (Below w.heap.size w (W1.setCell ⟨S, k, none⟩ (.slice (some ⟨g, 0, none⟩) 512 512))) := HW1.out.trans (bel_one (gr_cell W1 S k _) (Nat.le_of_eq HS.out.symm) HB1.out.lt)
      clear HB1 HW1 HW hX1
      go_wp2_with fail
      go_roundw
      case rel => exact ⟨k + 1, (fun i => if i = k then g else gs i), by omega, by go_num, HB2, HX2, HW2⟩
      case measure => simp [Go.RowKit.intOf]; omega
    · have hge : ¬ (k : Int) < (n : Int) := by omega
      have hkn : k = n := by omega
      subst hkn
      go_wp2_with fail
      go_ret
      refine ⟨S, rfl, ⟨HN.out, fun _ => ⟨S, 0, rfl, ⟨_, _, HB.out⟩, fun i hi => ?_⟩⟩, HW.out⟩
      have hil : i < l.length := by rw [HN.out]; exact hi
      have hmem : nthL l i ∈ l := by unfold nthL; rw [List.getD_eq_getElem?_getD, List.getElem?_eq_getElem hil]; exact List.getElem_mem hil
      refine ⟨(HT.out.ok _ hmem).1, gs i, 168, ?_, (HBs.out i hi).2, by simp⟩
      rw [HB.out.cell, Nat.zero_add, laidTo_at _ _ _ _ _ hi, if_pos hi]
      rfl
end Go.Proofs.YthjdmfbengpepaaGreat
namespace Go.Proofs.YthjdmfbengpepaaGreat
open Go.RowKit

def zv (l : List Int) : List Value := l.map fun z => .int .i64 z
theorem zv_append (l m : List Int) : zv (l ++ m) = zv l ++ zv m := by simp [zv]
theorem zv_at (l : List Int) (i : Nat) (h : i < l.length) : (zv l)[i]? = some (.int .i64 (l.getD i 0)) := by
  simp [zv, List.getElem?_eq_getElem h]
/-- numbers that the call made -/
def OwnZ (w : World) (base : Nat) (v : Value) (l : List Int) : Prop := w.ownsRow base 3 1 v l.length (zv l)
theorem OwnZ.nil (w : World) (base : Nat) : OwnZ w base (.slice none 0 0) [] := World.ownsRow_nil _ _ _ _
/-- numbers in a world -/
structure IsZ (w : World) (a : Option Addr) (len : Nat) (l : List Int) : Prop where
  len_eq : l.length = len
  cells : 0 < len → ∃ g off, a = some ⟨g, off, none⟩ ∧ g < w.heap.size ∧ ∀ i, i < len → w.cell? ⟨g, off + i, none⟩ = some (.int .i64 (l.getD i 0))
theorem IsZ.below {w w' : World} {a : Option Addr} {len : Nat} {l : List Int} (h : IsZ w a len l) (hb : Below w.heap.size w w') : IsZ w' a len l :=
  ⟨h.len_eq, fun hp => by
    obtain ⟨g, off, e, hl, hc⟩ := h.cells hp
    exact ⟨g, off, e, Nat.lt_of_lt_of_le hl hb.size, fun i hi => (hb.cell (p := ⟨g, off + i, none⟩) hl).trans (hc i hi)⟩⟩
theorem OwnZ.isZ {w : World} {base : Nat} {v : Value} {l : List Int} (h : OwnZ w base v l) : ∃ a cap, v = .slice a l.length cap ∧ IsZ w a l.length l := by
  obtain ⟨h1, h2⟩ := h
  rcases h2 with ⟨rfl, h0⟩ | ⟨g, cap, cur, rfl, hb, hg, hle, hmax, hsz, htk⟩
  · have : l = [] := List.eq_nil_of_length_eq_zero h0
    subst this
    exact ⟨none, 0, rfl, rfl, fun hp => absurd hp (Nat.lt_irrefl 0)⟩
  · refine ⟨_, cap, rfl, rfl, fun hp => ⟨g, 0, rfl, (Array.getElem?_eq_some_iff.1 hg).1, fun i hi => ?_⟩⟩
    have hc := World.ownsRow.cells (w := w) (base := base) (e := 3) (size := 1) (v := .slice (some ⟨g, 0, none⟩) l.length cap) (n := l.length) (xs := zv l) ⟨h1, .inr ⟨g, cap, cur, rfl, hb, hg, hle, hmax, hsz, htk⟩⟩ (g := g) rfl i _ (zv_at l i hi)
    rw [Addr.add_lit] at hc; exact hc
theorem IsZ.take {w : World} {a : Option Addr} {len k : Nat} {l : List Int} (h : IsZ w a len l) (hk : k ≤ len) : IsZ w a k (l.take k) :=
  ⟨by rw [List.length_take, h.len_eq]; omega, fun hp => by
    obtain ⟨g, off, e, hl, hc⟩ := h.cells (by omega)
    refine ⟨g, off, e, hl, fun i hi => ?_⟩
    rw [hc i (by omega)]
    have hi2 : i < l.length := by rw [h.len_eq]; omega
    simp [hi, hi2]⟩
theorem OwnZ.cap {w : World} {base n cap : Nat} {a : Option Addr} {l : List Int} (h : OwnZ w base (.slice a n cap) l) : l.length ≤ cap := by
  obtain ⟨_, h2⟩ := h
  rcases h2 with ⟨e, h0⟩ | ⟨g, c, cur, e, _, _, hle, _⟩
  · omega
  · injection e with _ _ e3
    subst e3
    exact hle
theorem KeepT.grownZ {w w' : World} {base : Nat} {v : Value} {l : List Int} (ho : OwnZ w base v l) (hg : w.grownBy w' v.ownBlock) : KeepT [3] w w' :=
  ⟨hg.size, fun k o hk hno => by
    refine (hg.block k (Array.getElem?_eq_some_iff.1 hk).1 (fun eb => ?_)).trans hk
    rcases ho.2 with ⟨rfl, _⟩ | ⟨g, cap, cur, rfl, _, hgb, _⟩
    · simp [Value.ownBlock] at eb
    · have hkg : k = g := by simpa [Value.ownBlock] using eb
      subst hkg
      have : o = .cells cur 3 (0, 0) := Option.some.inj (hk.symm.trans hgb)
      exact hno _ _ _ this (by decide)⟩
theorem OwnZ.is' {w : World} {base n cap : Nat} {a : Option Addr} {l : List Int} (h : OwnZ w base (.slice a n cap) l) : IsZ w a l.length l := by
  obtain ⟨a', c', e, hI⟩ := h.isZ
  injection e with e1 e2 e3
  subst e1
  exact hI
/-- append(numbers, z) -/
theorem list_appZ {ops : Array Oper} {rest : List Oper} {o : Oper} {a : Act} {Q : Exit → Act → World → Prop} (w : World) (hgd : o.guard = none) (s x : Operand)
    (ho : o.op = .call { callee := .builtin .append, args := #[s, x], argTypes := #[42, 42] }) (base : Nat)
    (v : Value) (l : List Int) (hs : a.eval s = v) (hown : OwnZ w base v l) (B : Nat) (z : Int) (hx : a.eval x = .slice (some ⟨B, 0, none⟩) 1 1)
    (hb : w.heap[B]? = some (.cells #[.int .i64 z] 3 (0, 0))) (hle : l.length ≤ 4096) (hbase : base ≤ w.heap.size)
    (h : ∀ v' w', OwnZ w' base v' (l ++ [z]) → w.grownBy w' v.ownBlock → wpList Tryz.prog ops Q rest (a.put o.dst v') w') :
    wpList Tryz.prog ops Q (o :: rest) a w := by
  obtain ⟨i0, hi, hz0, hz1, hz2⟩ := info_parts infoI3
  refine wpList_append_own w hgd s x 42 ho base 3 i0 (.int .i64 0) 1 8 Tryz.underlying42 hi hz0 hz1 hz2 rfl (by omega) v l.length _ hs hown ⟨B, 0, none⟩ 1 1 [.int .i64 z] hx (by simp) (fun j u hu => World.news_of_block hb j u (by simpa using hu)) (fun u hu => by rw [List.mem_singleton.1 hu]; rfl) (by unfold maxLen; omega) (by omega) hbase ?_
  intro v' w' h1 h2 _
  refine h v' w' ?_ h2
  unfold OwnZ
  rw [List.length_append, zv_append]
  exact h1
theorem mem_getD {l : List Int} {n : Int} (h : n ∈ l) : ∃ i, i < l.length ∧ l.getD i 0 = n := by
  obtain ⟨i, hi, e⟩ := List.getElem_of_mem h
  exact ⟨i, hi, by simp [hi, e]⟩
theorem getD_mem {l : List Int} {i : Nat} (h : i < l.length) : l.getD i 0 ∈ l := by
  have : l.getD i 0 = l[i] := by simp [h]
  rw [this]; exact List.getElem_mem h
theorem lessL_snoc (l : List Int) (z n : Int) : lessL (l ++ [z]) n = if z = n then lessL l n else lessL l n ++ [z] := by
  unfold lessL
  rw [List.filter_append]
  by_cases h : z = n
  · rw [if_pos h, List.filter_cons_of_neg (by simp [h]), List.filter_nil, List.append_nil]
  · rw [if_neg h, List.filter_cons_of_pos (by simp [h]), List.filter_nil]
theorem take_snoc (l : List Int) (k : Nat) (h : k < l.length) : l.take (k + 1) = l.take k ++ [l.getD k 0] := by
  have : l.getD k 0 = l[k] := by simp [h]
  rw [this, List.take_succ_eq_append_getElem h]
theorem less_len (l : List Int) (n : Int) : (lessL l n).length ≤ l.length := List.length_filter_le _ _
end Go.Proofs.YthjdmfbengpepaaGreat
namespace Go.Proofs.YthjdmfbengpepaaGreat
open Go.RowKit

/-- a ref -/
structure Rf where
  len : Int
  sum : List UInt8
  secs : List Int
def rf0 : Rf := ⟨0, [], []⟩
/-- Need -/
def needL (n : Int) : Int := if n < 1 then 0 else (n - 1) / 512 + 1
theorem needL_nn (n : Int) : 0 ≤ needL n := by unfold needL; split <;> omega
/-- are the first k sectors in the area, and none twice? -/
def secOk (l : List Int) (k : Nat) : Prop := ∀ i, i < k → (51 ≤ l.getD i 0 ∧ l.getD i 0 < 4096) ∧ ∀ x, x < i → l.getD x 0 ≠ l.getD i 0
instance (l : List Int) (k : Nat) : Decidable (secOk l k) := by unfold secOk; exact inferInstance
theorem secOk_zero (l : List Int) : secOk l 0 := fun _ hi => absurd hi (Nat.not_lt_zero _)
theorem secOk_succ {l : List Int} {k : Nat} (h : secOk l k) (h1 : 51 ≤ l.getD k 0 ∧ l.getD k 0 < 4096) (h2 : ∀ x, x < k → l.getD x 0 ≠ l.getD k 0) : secOk l (k + 1) := fun i hi => by
  rcases Nat.lt_succ_iff_lt_or_eq.1 hi with h' | h'
  · exact h i h'
  · subst h'; exact ⟨h1, h2⟩
/-- may its numbers be so? -/
def headOk (r : Rf) : Prop := 0 ≤ r.len ∧ r.len ≤ 6144 ∧ r.sum.length = 32 ∧ (r.secs.length : Int) = needL r.len
instance (r : Rf) : Decidable (headOk r) := by unfold headOk; exact inferInstance
/-- Right -/
def rightL (r : Rf) : Bool := decide (headOk r ∧ secOk r.secs r.secs.length)
theorem right_no1 {r : Rf} (h : ¬ headOk r) : false = rightL r := (decide_eq_false (fun x => h x.1)).symm
theorem right_no2 {r : Rf} (h : ¬ secOk r.secs r.secs.length) : false = rightL r := (decide_eq_false (fun x => h x.2)).symm
theorem right_yes {r : Rf} (h1 : headOk r) (h2 : secOk r.secs r.secs.length) : true = rightL r := (decide_eq_true ⟨h1, h2⟩).symm
/-- a ref as a value, its slices in a world -/
structure RfA where
  a : Option Addr
  c : Nat
  b : Option Addr
  d : Nat
def rfc (r : Rf) (q : RfA) : List Value := [.int .i64 r.len, .slice q.a r.sum.length q.c, .slice q.b r.secs.length q.d]
structure IsRf (w : World) (r : Rf) (q : RfA) : Prop where
  sum : IsB w q.a r.sum.length q.c r.sum
  secs : IsZ w q.b r.secs.length r.secs
  len0 : -9223372036854775808 ≤ r.len
  len1 : r.len ≤ 9223372036854775807
  cap : r.secs.length ≤ q.d
theorem IsRf.below {w w' : World} {r : Rf} {q : RfA} (h : IsRf w r q) (hb : Below w.heap.size w w') : IsRf w' r q := ⟨h.sum.below hb rfl, h.secs.below hb, h.len0, h.len1, h.cap⟩
/-- a ref that stays as long as rows of bytes and numbers do -/
abbrev RfU : List TypeId := [5, 3]
def RfK (w : World) (r : Rf) (q : RfA) : Prop := ∀ W, KeepO RfU w W → IsRf W r q
theorem RfK.is {w : World} {r : Rf} {q : RfA} (h : RfK w r q) : IsRf w r q := h w (KeepO.refl _ _)
theorem RfK.keep {w w' : World} {r : Rf} {q : RfA} (h : RfK w r q) (hk : KeepO RfU w w') : RfK w' r q := fun W hW => h W (hk.trans hW)
theorem RfK.own {w : World} {base : Nat} {r : Rf} {q : RfA} (hs : OwnB w base (.slice q.a r.sum.length q.c) r.sum) (hz : OwnZ w base (.slice q.b r.secs.length q.d) r.secs) (h0 : -9223372036854775808 ≤ r.len) (h1 : r.len ≤ 9223372036854775807) : RfK w r q := fun _ hW =>
  ⟨own_isB (own_keepO hW hs (by decide)), OwnZ.is' (own_keepO hW hz (by decide)), h0, h1, hz.cap⟩
theorem RfK.zero (w : World) : RfK w rf0 ⟨none, 0, none, 0⟩ := fun _ _ => ⟨isB_none _, ⟨rfl, fun h => absurd h (Nat.lt_irrefl 0)⟩, by show (-9223372036854775808 : Int) ≤ 0; omega, by show (0 : Int) ≤ 9223372036854775807; omega, Nat.le_refl _⟩
end Go.Proofs.YthjdmfbengpepaaGreat
namespace Go.Proofs.YthjdmfbengpepaaGreat
open Go.RowKit

set_option maxHeartbeats 1000000 in
theorem refNeed12 (n : Int) (w : World) (h1 : n ≤ 9223372036854775807) :
    Calls Tryz.prog 30 #[.int .i64 n] w fun e w' => e = .returned (.int .i64 (needL n)) ∧ w' = w := by
  by_cases hn : n < 1
  · have HV : Hid ((0 : Int) = needL n) := by unfold Hid needL; rw [if_pos hn]
    go_enter Tryz.func30, Tryz.ntmps30
    go_wp2_with fail
    go_ret
    exact ⟨ret_i HV.out, rfl⟩
  · obtain ⟨k, hk⟩ : ∃ k : Nat, n = (k : Int) + 1 := ⟨(n - 1).toNat, by omega⟩
    subst hk
    obtain ⟨q, hq⟩ : ∃ q, q = k / 512 := ⟨_, rfl⟩
    have hq1 : (k : Int).tdiv 512 = (q : Int) := by rw [Int.tdiv_eq_ediv_of_nonneg (by omega)]; omega
    have HV : Hid ((q : Int) + 1 = needL ((k : Int) + 1)) := by unfold Hid needL; rw [if_neg hn]; omega
    have e1 : (k : Int) + 1 - 1 = (k : Int) := by omega
    have hqk : q ≤ k := by rw [hq]; exact Nat.div_le_self _ _
    have hkm : (k : Int) + 1 ≤ 9223372036854775807 := h1
    clear hq h1
    go_enter Tryz.func30, Tryz.ntmps30
    go_wp2_with fail
    go_ret
    exact ⟨ret_i HV.out, rfl⟩
set_option maxRecDepth 20000 in
set_option maxHeartbeats 2000000 in
theorem refRight12 (r : Rf) (q : RfA) (w : World) (h : IsRf w r q) :
    Calls Tryz.prog 31 #[.agg (rfc r q).toArray] w fun e w' => e = .returned (.bool (rightL r)) ∧ Below w.heap.size w w' := by
  have hY : Below w.heap.size w (w.alloc (.cells (rfc r q).toArray 46)) := (Below.refl _ w).alloc (Nat.le_refl _) _
  have kb := Blk.new w 46 (rfc r q)
  obtain ⟨rl, rs, rz⟩ := r
  obtain ⟨qa, qc, qb, qd⟩ := q
  have c0 : (w.alloc (.cells (rfc ⟨rl, rs, rz⟩ ⟨qa, qc, qb, qd⟩).toArray 46)).cell? ⟨w.heap.size, 0, none⟩ = some (.int .i64 rl) := kb.cell 0
  have c1 : (w.alloc (.cells (rfc ⟨rl, rs, rz⟩ ⟨qa, qc, qb, qd⟩).toArray 46)).cell? ⟨w.heap.size, 1, none⟩ = some (.slice qa rs.length qc) := kb.cell 1
  have c2 : (w.alloc (.cells (rfc ⟨rl, rs, rz⟩ ⟨qa, qc, qb, qd⟩).toArray 46)).cell? ⟨w.heap.size, 2, none⟩ = some (.slice qb rz.length qd) := kb.cell 2
  have HZ := mkHid (h.secs.below hY)
  have h0 : -9223372036854775808 ≤ rl := h.len0
  have h1 : rl ≤ 9223372036854775807 := h.len1
  have HY := mkHid hY
  have HNd := fun W => refNeed12 rl W h1
  have HHd : Hid (headOk ⟨rl, rs, rz⟩ ↔ (0 ≤ rl ∧ rl ≤ 6144 ∧ rs.length = 32 ∧ (rz.length : Int) = needL rl)) := Iff.rfl
  have hnn := needL_nn rl
  clear h kb hY
  simp only [rfc] at *
  generalize rs.length = n at *
  generalize hzl : rz.length = zl at *
  have HZl := mkHid hzl
  clear hzl
  by_cases hA : rl < 0
  · have HV := mkHid (right_no1 (r := ⟨rl, rs, rz⟩) (fun h => by have := HHd.out.1 h; omega))
    go_enter Tryz.func31, Tryz.ntmps31
    go_wp2_with fail
    go_quiet (fail)
    go_wp2
    go_ret
    exact ⟨ret_b HV.out, bel_drewN HY.out _⟩
  have dA : decide (rl < 0) = false := decide_eq_false hA
  by_cases hB : 6144 < rl
  · have HV := mkHid (right_no1 (r := ⟨rl, rs, rz⟩) (fun h => by have := HHd.out.1 h; omega))
    go_enter Tryz.func31, Tryz.ntmps31
    go_wp2_with fail
    go_quiet (fail)
    go_wp2
    go_ret
    exact ⟨ret_b HV.out, bel_drewN HY.out _⟩
  have dB : decide (6144 < rl) = false := decide_eq_false hB
  by_cases hC : ¬ n = 32
  · have hC' : ¬ (n : Int) = 32 := by omega
    have bC : ((n : Int) != 32) = true := by simp [hC']
    have HV := mkHid (right_no1 (r := ⟨rl, rs, rz⟩) (fun h => by have := HHd.out.1 h; omega))
    go_enter Tryz.func31, Tryz.ntmps31
    go_wp2_with fail
    go_quiet (fail)
    go_wp2
    go_ret
    exact ⟨ret_b HV.out, bel_drewN HY.out _⟩
  obtain rfl := Classical.not_not.1 hC
  by_cases hD : ¬ (zl : Int) = needL rl
  · have bD : ((zl : Int) != needL rl) = true := by simp [hD]
    have HV := mkHid (right_no1 (r := ⟨rl, rs, rz⟩) (fun h => by have := HHd.out.1 h; omega))
    go_enter Tryz.func31, Tryz.ntmps31
    go_wp2_with fail
    go_quiet (first | (go_at_call 30; exact Calls.quiet_of_same (HNd _)))
    go_wp2
    go_ret
    exact ⟨ret_b HV.out, bel_drewN HY.out _⟩
  have hD := Classical.not_not.1 hD
  have HHo : Hid (headOk ⟨rl, rs, rz⟩) := HHd.out.2 ⟨by omega, by omega, rfl, hD⟩
  have hz13 : zl ≤ 13 := by
    have : needL rl ≤ 12 := by unfold needL; split <;> omega
    omega
  rw [← hD] at HNd
  have HC : ∀ x, ((w.alloc (.cells #[.int .i64 rl, .slice qa 32 qc, .slice qb zl qd] 46)).drewN x).cell? ⟨w.heap.size, 2, none⟩ = some (.slice qb zl qd) := fun x => c2
  have HB : Hid (∀ x, Below w.heap.size w ((w.alloc (.cells #[.int .i64 rl, .slice qa 32 qc, .slice qb zl qd] 46)).drewN x)) := fun x => bel_drewN HY.out x
  have HZs : Hid (∀ x, IsZ ((w.alloc (.cells #[.int .i64 rl, .slice qa 32 qc, .slice qb zl qd] 46)).drewN x) qb zl rz) := fun x => HZ.out.below (bel_drewN (Below.refl _ _) x)
  clear hD hnn HHd HZ HY
  go_enter Tryz.func31, Tryz.ntmps31
  go_wp2_with fail
  go_quiet (first | (go_at_call 30; exact Calls.quiet_of_same (HNd _)))
  go_wp2_with fail
  generalize w.alloc (.cells #[.int .i64 rl, .slice qa 32 qc, .slice qb zl qd] 46) = Y at *
  go_loopw [3] (fun i wr => ∃ k x : Nat, wr = Y.drewN x ∧ k ≤ zl ∧ i = .int .i64 (k : Int) ∧ Hid (secOk rz k)) (fun i _ => zl - (Go.RowKit.intOf i).toNat)
  case atStart => exact ⟨0, nq, rfl, Nat.zero_le _, rfl, secOk_zero _⟩
  case round =>
    obtain ⟨k, x, rfl, hk, rfl, HA⟩ := hrel
    have d2 := HC x
    by_cases hlt : k < zl
    · have hlt' : (k : Int) < (zl : Int) := by omega
      obtain ⟨g, off, rfl, _, hcs⟩ := (HZs.out x).cells (by omega)
      have e0 := hcs k hlt
      obtain ⟨y, hy⟩ : ∃ y, y = rz.getD k 0 := ⟨_, rfl⟩
      rw [← hy] at e0
      have HYy := mkHid hy
      clear hy
      by_cases hlo : y < 51
      · have HV := mkHid (right_no2 (r := ⟨rl, rs, rz⟩) (fun h => by
          have h1 := (h k (by show k < rz.length; rw [HZl.out]; exact hlt)).1
          change 51 ≤ rz.getD k 0 ∧ _ at h1
          rw [← HYy.out] at h1; omega))
        clear hcs
        go_wp2_with fail
        go_ret
        exact ⟨ret_b HV.out, HB.out x⟩
      by_cases hhi : 4096 ≤ y
      · have HV := mkHid (right_no2 (r := ⟨rl, rs, rz⟩) (fun h => by
          have h1 := (h k (by show k < rz.length; rw [HZl.out]; exact hlt)).1
          change 51 ≤ rz.getD k 0 ∧ rz.getD k 0 < 4096 at h1
          rw [← HYy.out] at h1; omega))
        have dlo : decide (y < 51) = false := decide_eq_false hlo
        clear hcs
        go_wp2_with fail
        go_ret
        exact ⟨ret_b HV.out, HB.out x⟩
      have dlo : decide (y < 51) = false := decide_eq_false hlo
      have dhi : decide (4096 ≤ y) = false := decide_eq_false hhi
      have HCs := mkHid hcs
      clear hcs
      go_wp2_with fail
      go_loopw [4] (fun i wr => ∃ j x : Nat, wr = Y.drewN x ∧ j ≤ k ∧ i = .int .i64 (j : Int) ∧ Hid (∀ q, q < j → rz.getD q 0 ≠ y)) (fun i _ => k - (Go.RowKit.intOf i).toNat)
      case atStart => exact ⟨0, x, rfl, Nat.zero_le _, rfl, fun q hq => absurd hq (Nat.not_lt_zero _)⟩
      case round =>
        obtain ⟨j, x1, rfl, hj, rfl, HQ⟩ := hrel
        have f2 := HC x1
        obtain ⟨_, _, hg1, _, hcs⟩ := (HZs.out x1).cells (by omega)
        obtain ⟨rfl, rfl, _⟩ := Addr.mk.inj (Option.some.inj hg1)
        by_cases hjk : j < k
        · have hjk' : (j : Int) < (k : Int) := by omega
          have hjz : (j : Int) < (zl : Int) := by omega
          have f0 : Y.cell? ⟨g, off + j, none⟩ = some (.int .i64 (rz.getD j 0)) := hcs j (by omega)
          have f1 : Y.cell? ⟨g, off + k, none⟩ = some (.int .i64 (rz.getD k 0)) := hcs k hlt
          rw [← HYy.out] at f1
          clear hcs
          by_cases he : rz.getD j 0 = y
          · have HV := mkHid (right_no2 (r := ⟨rl, rs, rz⟩) (fun h => (h k (by show k < rz.length; rw [HZl.out]; exact hlt)).2 j hjk (by rw [← HYy.out]; exact he)))
            rw [he] at f0
            clear he
            go_upto_region 11 with fail
            go_quiet (fail)
            go_wp2_with fail
            go_ret
            exact ⟨ret_b HV.out, HB.out _⟩
          · have HQ1 : Hid (∀ q, q < j + 1 → rz.getD q 0 ≠ y) := fun q hq => by
              rcases Nat.lt_succ_iff_lt_or_eq.1 hq with h | h
              · exact HQ.out q h
              · rw [h]; exact he
            generalize rz.getD j 0 = y2 at *
            have hne : (y2 == y) = false := beq_eq_false_iff_ne.2 he
            go_upto_region 11 with fail
            go_quiet (fail)
            go_wp2_with fail
            go_roundw
            case rel => exact ⟨j + 1, x1 + nq, by first | rfl | exact World.drewN_drewN .., by omega, by go_num, HQ1⟩
            case measure => simp [Go.RowKit.intOf]; omega
        · have hjk' : ¬ (j : Int) < (k : Int) := by omega
          have HA1 : Hid (secOk rz (k + 1)) := secOk_succ HA.out (by rw [← HYy.out]; omega) (fun q hq => by rw [← HYy.out]; exact HQ.out q (by omega))
          clear hcs
          go_wp2_with fail
          go_roundw
          case rel => exact ⟨k + 1, x1, rfl, by omega, by go_num, HA1⟩
          case measure => simp [Go.RowKit.intOf]; omega
    · have hlt' : ¬ (k : Int) < (zl : Int) := by omega
      have HV := mkHid (right_yes HHo.out (by show secOk rz rz.length; rw [HZl.out]; exact (show k = zl by omega) ▸ HA.out))
      go_wp2_with fail
      go_ret
      exact ⟨ret_b HV.out, HB.out x⟩
end Go.Proofs.YthjdmfbengpepaaGreat
