/- The variable that the library's search reads. · Results that lie in a variable. · What the document's Cut answers. -/
import Derived.Test.YtihfpoclflppnaaDoorBlk
import Derived.Test.YtihfpoclflppnaaDoorB0
import Derived.Laws.ResultCell
import Derived.Laws.Rows
import Derived.Test.YtihfpoclflppnaaDoorB5
import Derived.Test.YtihfpoclflppnaaDoorB9
import Derived.BigRegion
import Derived.OwnWalk
import Derived.Laws.IdiomStrings
namespace Go.Proofs.YtihfpoclflppnaaDoor
open Go.RowKit

def MxS (w : World) : Prop := ∃ m : Int, w.cell? ⟨3, 0, none⟩ = some (.int .i64 m)
theorem MxS.below {n : Nat} {w w' : World} (h : MxS w) (hb : Below n w w') (hn : 3 < n) : MxS w' := by
  obtain ⟨m, hm⟩ := h
  exact ⟨m, (hb.cell (p := ⟨3, 0, none⟩) hn).trans hm⟩
theorem MxS.lt {w : World} (h : MxS w) : 3 < w.heap.size := by obtain ⟨m, hm⟩ := h; exact cell_lt hm
theorem MxS.set {w : World} (h : MxS w) (B j : Nat) (v : Value) (hB : ¬ B = 3) : MxS (w.setCell ⟨B, j, none⟩ v) := by
  obtain ⟨m, hm⟩ := h
  exact ⟨m, by rw [World.cell?_setCell_other _ _ _ _ (fun e => hB (by first | (injection e with e1; omega) | (injection e with e1; exact e1.symm) | (injection e)))]; exact hm⟩
end Go.Proofs.YtihfpoclflppnaaDoor
namespace Go.Proofs.YtihfpoclflppnaaDoor
open Go.RowKit

theorem results_cell1 {P : Program} {fn : Func} {p : Tmp} {ty : TypeId} (h : fn.results = #[.cell p ty]) (tmps : Array Value) (w : World) (g : Nat) (x : Value)
    (hp : tmps.getD p undef = .pointer (some ⟨g, 0, none⟩)) (hl : (loadVar ty ⟨g, 0, none⟩).run P w = .ok x w) : (results fn tmps).run P w = .ok x w := by
  have q1 : tmps[p]?.getD undef = .pointer (some ⟨g, 0, none⟩) := by simpa using hp
  simp only [results, h]
  simp [q1, asAddr, hl]

theorem results_cellrow {P : Program} {fn : Func} {p : Tmp} {ty : TypeId} (h : fn.results = #[.cell p ty]) (tmps : Array Value) (w : World) (g : Nat) (t : TypeId) (cs : Array Value) (fr : Nat × Nat) (d : TypeDesc)
    (hp : tmps.getD p undef = .pointer (some ⟨g, 0, none⟩)) (hg : w.heap[g]? = some (.cells cs t fr))
    (hu : P.underlying ty = some d) (hd : (match d with | .struct _ | .array _ _ => true | _ => false) = true) (hi : (P.info? ty).map (·.size) = some cs.size) :
    (results fn tmps).run P w = .ok (.agg cs) w := results_cell1 h tmps w g _ hp (run_loadVar_row w g t ty cs fr d hg hu hd hi)
theorem results_cellrow_tmp {P : Program} {fn : Func} {p u : Tmp} {ty : TypeId} (h : fn.results = #[.cell p ty, .tmp u]) (tmps : Array Value) (w : World) (g : Nat) (t : TypeId) (cs : Array Value) (fr : Nat × Nat) (d : TypeDesc)
    (hp : tmps.getD p undef = .pointer (some ⟨g, 0, none⟩)) (hg : w.heap[g]? = some (.cells cs t fr))
    (hu : P.underlying ty = some d) (hd : (match d with | .struct _ | .array _ _ => true | _ => false) = true) (hi : (P.info? ty).map (·.size) = some cs.size) :
    (results fn tmps).run P w = .ok (.tuple #[.agg cs, tmps.getD u undef]) w := by
  rw [results_cell_tmp h, hp]
  simp [asAddr, Result.andThen, run_loadVar_row w g t ty cs fr d hg hu hd hi]
end Go.Proofs.YtihfpoclflppnaaDoor
namespace Go.Proofs.YtihfpoclflppnaaDoor
open Go.RowKit

theorem slice1 (s : ByteArray) (k : Nat) (h : k < s.size) (u : World) : (Instr.slice 9 (.string s) (some (.int .i64 (k : Int))) (some (.int .i64 ((k : Int) + 1))) none).run Tryd.prog u = .ok (.string (str [sb s (k : Int)])) u := by
  have e : str [sb s (k : Int)] = s.extract k (k + 1) := by
    apply ByteArray.ext
    apply Array.toList_inj.1
    have hk : k < s.data.toList.length := by rw [Array.length_toList]; exact h
    unfold str sb
    rw [ByteArray.data_extract, Array.toList_extract, Int.toNat_natCast, nth_eq _ _ hk]
    simp only [List.extract_eq_take_drop]
    rw [show k + 1 - k = 1 by omega, List.drop_eq_getElem_cons hk, List.take_succ_cons, List.take_zero]
  rw [e]
  rw [run_slice_string u 9 s .i64 .i64 (k : Int) ((k : Int) + 1) Tryd.underlying9 (by omega) (by omega) (by omega)]
  rfl

set_option maxHeartbeats 1000000 in
theorem refCut (s : ByteArray) (c : UInt8) (w : World) (hs : s.size ≤ 4000000000000) :
    Calls Tryd.prog 26 #[.string s, .int .u8 (c.toNat : Int)] w fun e w' => ∃ v, e = .returned v ∧ OwnT w' w.heap.size v (cutL c s.data.toList) ∧ Below w.heap.size w w' := by
  obtain ⟨l, hl⟩ : ∃ l, l = s.data.toList := ⟨_, rfl⟩
  have Hl : Hid (l = s.data.toList) := hl
  have HL : Hid (l.length = s.size) := by unfold Hid; rw [hl]; rfl
  rw [← hl]
  clear hl
  have o1 := OwnT.one w w.heap.size [] (Nat.le_refl _)
  go_enter Tryd.func26, Tryd.ntmps26
  go_wp2
  go_loopw [5, 6] (fun v i wr => ∃ (k : Nat), k ≤ s.size ∧ i = .int .i64 k ∧ OwnT wr w.heap.size v (cutL c (l.take k)) ∧ Below w.heap.size w wr) (fun _ i _ => s.size - (intOf i).toNat)
  case atStart => exact ⟨0, Nat.zero_le _, rfl, o1, (Below.refl _ _).alloc (Nat.le_refl _) _⟩
  case round =>
    obtain ⟨k, hk, rfl, hown, hbel⟩ := hrel
    clear o1
    by_cases hlt : k < s.size
    · have hb0 : (0 : Int) ≤ (k : Int) := by omega
      have hb1 : (k : Int) < (s.size : Int) := by omega
      have hb2 : (k : Int) + 1 ≤ (s.size : Int) := by omega
      have hcn : nth l k = sb s (k : Int) := by rw [Hl.out]; rfl
      have HT := cutL_take c l k (by rw [HL.out]; exact hlt)
      rw [hcn] at HT
      have hpos := cutL_pos c (l.take k)
      have hlen := cutL_len c (l.take k)
      have hlast := cutL_last c (l.take k)
      rw [List.length_take, HL.out] at hlen hlast
      have hx0 := ixs s (k : Int) hb0 hb1
      have hsl := slice1 s k hlt
      clear hcn
      generalize sb s (k : Int) = c0 at *
      generalize hacc : cutL c (l.take k) = acc at *
      clear hacc
      have HB := hown.blk
      by_cases hc : c0 = c
      · have HT' : Hid (cutL c (l.take (k + 1)) = acc ++ [[]]) := by unfold Hid; rw [HT]; unfold cutStep; rw [if_pos hc]
        subst hc
        clear HT hlast hsl
        go_wp2_with (at_builtin; refine list_appX _ rfl _ _ rfl w.heap.size _ acc rfl (hown.alloc _) wr.heap.size [] rfl (heap_alloc_new wr _) (by omega) (by have := hbel.size; simp; omega) ?_; intro v1 w1 hown1 hgrow)
        go_roundw
        case rel => exact ⟨k + 1, by omega, by go_num, by rw [HT'.out]; exact hown1, (hbel.alloc hbel.size _).grown hgrow (by have := hbel.size; simp; omega) (fun j hj => (HB j hj).1)⟩
        case measure => simp [intOf]; omega
      · have hc' : ¬ (c0.toNat : Int) = (c.toNat : Int) := by intro e; exact hc (UInt8.toNat_inj.1 (by omega))
        have HT' : Hid (cutL c (l.take (k + 1)) = acc.set (acc.length - 1) (nthT acc (acc.length - 1) ++ [c0])) := by unfold Hid; rw [HT]; unfold cutStep; rw [if_neg hc]
        clear HT hc
        obtain ⟨g, cap, rfl, hg1, hg2⟩ := hown.form hpos
        obtain ⟨n, hn⟩ : ∃ n, n = acc.length - 1 := ⟨_, rfl⟩
        rw [← hn] at HT' hlast
        have hal : acc.length = n + 1 := by omega
        have hcell := hown.cellAt rfl n (by omega)
        have hfr := hown.frozenAt rfl n
        have hset := fun x => hown.set rfl n x
        have hcap := hown.cap rfl
        unfold maxLen at hcap
        rw [hal] at hset hcap hown ⊢
        have hsz : (str (nthT acc n)).size ≤ 4000000000000 := by rw [str_size]; omega
        have Hcat : Hid (str (nthT acc n) ++ str [c0] = str (nthT acc n ++ [c0])) := by unfold Hid str; rw [ByteArray.mk_append_mk]
        have hsz1 : (str [c0]).size = 1 := rfl
        clear hn hal hlast hlen hpos
        generalize str [c0] = t1 at *
        generalize hlastv : nthT acc n = last at *
        go_wp2
        go_region
        go_wp2
        go_roundw
        case rel => exact ⟨k + 1, by omega, by go_num, by rw [HT'.out, Hcat.out]; exact hset _, (hbel.setCell hg1 _).drew⟩
        case measure => simp [intOf]; omega
    · go_wp2
      go_ret
      have : k = s.size := by omega
      subst this
      refine ⟨_, rfl, ?_, hbel⟩
      rw [List.take_of_length_le (by rw [HL.out]; exact Nat.le_refl _)] at hown
      exact hown
end Go.Proofs.YtihfpoclflppnaaDoor
