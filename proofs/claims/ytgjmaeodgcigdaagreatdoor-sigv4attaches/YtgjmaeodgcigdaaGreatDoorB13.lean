/- What the document's Hex answers, of any slice of bytes. · What the document's Cut answers. · What the document's first answers. · What the document's digit and Decode answer. · What the document's Decode answers. · What the document's Find answers. -/
import Derived.Test.YtgjmaeodgcigdaaGreatDoorB9
import Derived.Test.YtgjmaeodgcigdaaGreatDoorB4
import Derived.Test.YtgjmaeodgcigdaaGreatDoorB0
import Derived.BigRegion
import Derived.OwnWalk
import Derived.Laws.IdiomStrings
import Derived.Test.YtgjmaeodgcigdaaGreatDoorB2
import Derived.Test.YtgjmaeodgcigdaaGreatDoorB8
namespace Go.Proofs.YtgjmaeodgcigdaaGreatDoor
open Go.RowKit
attribute [local go_sem ↓] Go.wp_at_zero Go.wp_at_succ ix

set_option maxHeartbeats 800000 in
theorem refHex (a0 : Option Addr) (len0 cap0 : Nat) (l : List UInt8) (w : World) (w0 : IsB w a0 len0 cap0 l) (hs : len0 ≤ 70368744177664) :
    Calls Tryz.prog 47 #[.slice a0 len0 cap0] w fun e w' => e = .returned (.string ⟨(hexL l).toArray⟩) ∧ Below w.heap.size w w' := by
  have hl0 := w0.le
  have hm0 := w0.max
  have e0 : Hid (l.length = len0) := w0.len_eq
  have c0 : Hid (IsB w a0 len0 cap0 l) := w0
  clear w0
  unfold maxLen at hm0
  go_enter Tryz.func47, Tryz.ntmps47
  go_wp2
  go_loopw [4, 5] (fun v i wr => ∃ k : Nat, k ≤ len0 ∧ i = .int .i64 k ∧ OwnB wr w.heap.size v (hexL (l.take k)) ∧ Below w.heap.size w wr) (fun _ i _ => len0 - (intOf i).toNat)
  case atStart => exact ⟨0, Nat.zero_le _, rfl, OwnB.nil _ _, Below.refl _ _⟩
  case round =>
    obtain ⟨k, hk, rfl, hown, hbel⟩ := hrel
    by_cases hlt : k < len0
    · obtain ⟨b0, o0, rfl, hc0⟩ := c0.out.cells (by omega)
      have g0 := hc0 k hlt
      have gb : b0 < w.heap.size := cell_lt g0
      have g1 := (hbel.cell (p := ⟨b0, o0 + k, none⟩) gb).trans g0
      have gz : b0 < wr.heap.size := Nat.lt_of_lt_of_le gb hbel.size
      clear hc0
      have hlt' : (k : Int) < (len0 : Int) := by omega
      have hlt0 : (0 : Int) ≤ (k : Int) := by omega
      have hx0 : (0 : Int) ≤ ((nth l k).toNat : Int) := by omega
      have hx1 : ((nth l k).toNat : Int) ≤ 255 := by have := (nth l k).toNat_lt; omega
      have hq := div_hiN (nth l k)
      have hw := wrap8_nat (hiN (nth l k)) (by have := hiN_lt (nth l k); omega)
      have hb : (((nth l k).toNat : Int)).tmod 16 = (loN (nth l k) : Int) := by rw [Int.tmod_eq_emod_of_nonneg (by omega)]; exact mod_loN _
      have hq1 := hiN_lt (nth l k)
      have hb1 := loN_lt (nth l k)
      have HT : Hid (hexL (l.take (k + 1)) = hexL (l.take k) ++ [dg (hiN (nth l k)), dg (loN (nth l k))]) := hexL_take l k (by rw [e0.out]; exact hlt)
      have HL : Hid ((hexL (l.take k)).length = 2 * k) := hexL_take_length l k (by rw [e0.out]; exact hk)
      have HB := hown.blk
      go_wp2
      go_region_held3 (fun w' => w'.cell? ⟨b0, o0 + k, none⟩ = some (.int .u8 ((nth l k).toNat : Int)))
        (first | go_keep | (rw [hgrow.cell_far _ (by simp; omega) (fun e => by have := (HB _ e.symm).1; simp at this; omega)]; assumption))
        ((refine step_app8 _ (by rfl) _ _ (by rfl) w.heap.size _ (hexL (l.take k)) (by rfl) ((hown.alloc _).heap rfl) wr.heap.size 2 2 [dg (hiN (nth l k)), dg (loN (nth l k))] (by rfl) (by rfl) (heap_alloc_new wr _) (by omega) (by rw [HL.out]; omega) (by have := hbel.size; simp; omega) (wr.heap.size + 1) (by simp) ?_; intro gg cap w1 hown1 hgrow hat hlt1))
      all_goals
        go_wp2
        go_roundw
        case rel => exact ⟨k + 1, by omega, by go_num, by rw [HT.out]; exact hown1, ((hbel.alloc hbel.size _).drew).grown hgrow (by have := hbel.size; simp; omega) (fun j hj => (HB j hj).1)⟩
        case measure => simp [intOf]; omega
    · have hcv := conv_own wr w.heap.size _ _ hown
      go_wp2
      go_ret
      have : k = len0 := by omega
      subst this
      exact ⟨ret_str (by rw [List.take_of_length_le (by rw [e0.out]; exact Nat.le_refl _)]), hbel⟩
end Go.Proofs.YtgjmaeodgcigdaaGreatDoor
namespace Go.Proofs.YtgjmaeodgcigdaaGreatDoor
open Go.RowKit

theorem slice1 (s : ByteArray) (k : Nat) (h : k < s.size) (u : World) : (Instr.slice 9 (.string s) (some (.int .i64 (k : Int))) (some (.int .i64 ((k : Int) + 1))) none).run Tryz.prog u = .ok (.string (str [sb s (k : Int)])) u := by
  have e : str [sb s (k : Int)] = s.extract k (k + 1) := by
    apply ByteArray.ext
    apply Array.toList_inj.1
    have hk : k < s.data.toList.length := by rw [Array.length_toList]; exact h
    unfold str sb
    rw [ByteArray.data_extract, Array.toList_extract, Int.toNat_natCast, nth_eq _ _ hk]
    simp only [List.extract_eq_take_drop]
    rw [show k + 1 - k = 1 by omega, List.drop_eq_getElem_cons hk, List.take_succ_cons, List.take_zero]
  rw [e]
  rw [run_slice_string u 9 s .i64 .i64 (k : Int) ((k : Int) + 1) Tryz.underlying9 (by omega) (by omega) (by omega)]
  rfl

set_option maxHeartbeats 1000000 in
theorem refCut (s : ByteArray) (c : UInt8) (w : World) (hs : s.size ≤ 4000000000000) :
    Calls Tryz.prog 61 #[.string s, .int .u8 (c.toNat : Int)] w fun e w' => ∃ v, e = .returned v ∧ OwnT w' w.heap.size v (cutL c s.data.toList) ∧ Below w.heap.size w w' := by
  obtain ⟨l, hl⟩ : ∃ l, l = s.data.toList := ⟨_, rfl⟩
  have Hl : Hid (l = s.data.toList) := hl
  have HL : Hid (l.length = s.size) := by unfold Hid; rw [hl]; rfl
  rw [← hl]
  clear hl
  have o1 := OwnT.one w w.heap.size [] (Nat.le_refl _)
  go_enter Tryz.func61, Tryz.ntmps61
  go_wp2
  go_loopw [5, 6] (fun v i wr => ∃ (k : Nat), k ≤ s.size ∧ i = .int .i64 k ∧ OwnT wr w.heap.size v (cutL c (l.take k)) ∧ Below w.heap.size w wr) (fun _ i _ => s.size - (intOf i).toNat)
  case atStart => exact ⟨0, Nat.zero_le _, rfl, o1, (Below.refl _ _).alloc (Nat.le_refl _) _⟩
  case round =>
    obtain ⟨k, hk, rfl, hown, hbel⟩ := hrel
    clear o1
    by_cases hlt : k < s.size
    · have hb0 : (0 : Int) ≤ (k : Int) := by omega
      have hb1 : (k : Int) < (s.size : Int) := by omega
      have hb2 : (k : Int) + 1 ≤ (s.size : Int) := by omega
      have hcn : nth l k = sb s (k : Int) := by rw [Hl.out]; rfl
      have HT := cutL_take c l k (by rw [HL.out]; exact hlt)
      rw [hcn] at HT
      have hpos := cutL_pos c (l.take k)
      have hlen := cutL_len c (l.take k)
      have hlast := cutL_last c (l.take k)
      rw [List.length_take, HL.out] at hlen hlast
      have hx0 := ixs s (k : Int) hb0 hb1
      have hsl := slice1 s k hlt
      clear hcn
      generalize sb s (k : Int) = c0 at *
      generalize hacc : cutL c (l.take k) = acc at *
      clear hacc
      have HB := hown.blk
      by_cases hc : c0 = c
      · have HT' : Hid (cutL c (l.take (k + 1)) = acc ++ [[]]) := by unfold Hid; rw [HT]; unfold cutStep; rw [if_pos hc]
        subst hc
        clear HT hlast hsl
        go_wp2_with (at_builtin; refine list_appX _ rfl _ _ rfl w.heap.size _ acc rfl (hown.alloc _) wr.heap.size [] rfl (heap_alloc_new wr _) (by omega) (by have := hbel.size; simp; omega) ?_; intro v1 w1 hown1 hgrow)
        go_roundw
        case rel => exact ⟨k + 1, by omega, by go_num, by rw [HT'.out]; exact hown1, (hbel.alloc hbel.size _).grown hgrow (by have := hbel.size; simp; omega) (fun j hj => (HB j hj).1)⟩
        case measure => simp [intOf]; omega
      · have hc' : ¬ (c0.toNat : Int) = (c.toNat : Int) := by intro e; exact hc (UInt8.toNat_inj.1 (by omega))
        have HT' : Hid (cutL c (l.take (k + 1)) = acc.set (acc.length - 1) (nthT acc (acc.length - 1) ++ [c0])) := by unfold Hid; rw [HT]; unfold cutStep; rw [if_neg hc]
        clear HT hc
        obtain ⟨g, cap, rfl, hg1, hg2⟩ := hown.form hpos
        obtain ⟨n, hn⟩ : ∃ n, n = acc.length - 1 := ⟨_, rfl⟩
        rw [← hn] at HT' hlast
        have hal : acc.length = n + 1 := by omega
        have hcell := hown.cellAt rfl n (by omega)
        have hfr := hown.frozenAt rfl n
        have hset := fun x => hown.set rfl n x
        have hcap := hown.cap rfl
        unfold maxLen at hcap
        rw [hal] at hset hcap hown ⊢
        have hsz : (str (nthT acc n)).size ≤ 4000000000000 := by rw [str_size]; omega
        have Hcat : Hid (str (nthT acc n) ++ str [c0] = str (nthT acc n ++ [c0])) := by unfold Hid str; rw [ByteArray.mk_append_mk]
        have hsz1 : (str [c0]).size = 1 := rfl
        clear hn hal hlast hlen hpos
        generalize str [c0] = t1 at *
        generalize hlastv : nthT acc n = last at *
        go_wp2
        go_region
        go_wp2
        go_roundw
        case rel => exact ⟨k + 1, by omega, by go_num, by rw [HT'.out, Hcat.out]; exact hset _, (hbel.setCell hg1 _).drew⟩
        case measure => simp [intOf]; omega
    · go_wp2
      go_ret
      have : k = s.size := by omega
      subst this
      refine ⟨_, rfl, ?_, hbel⟩
      rw [List.take_of_length_le (by rw [HL.out]; exact Nat.le_refl _)] at hown
      exact hown
end Go.Proofs.YtgjmaeodgcigdaaGreatDoor
namespace Go.Proofs.YtgjmaeodgcigdaaGreatDoor
open Go.RowKit

set_option maxHeartbeats 1000000 in
theorem refFirst (s : ByteArray) (c : UInt8) (w : World) (hs : s.size ≤ 40000000000000) :
    Calls Tryz.prog 92 #[.string s, .int .u8 (c.toNat : Int)] w fun e w' => e = .returned (.tuple #[.string (str (headL c s.data.toList)), .string (str (tailL c s.data.toList))]) ∧ Below w.heap.size w w' := by
  obtain ⟨l, hl⟩ : ∃ l, l = s.data.toList := ⟨_, rfl⟩
  have Hl : Hid (l = s.data.toList) := hl
  have HL : Hid (l.length = s.size) := by unfold Hid; rw [hl]; rfl
  have T1 := fun k => ext_take s k
  have T2 := fun k => ext_drop s k
  have T3 := str_of s
  rw [← hl] at T1 T2 T3 ⊢
  have H1 : Hid (∀ k, s.extract 0 k = str (l.take k)) := T1
  have H2 : Hid (∀ k, s.extract k s.size = str (l.drop k)) := T2
  have H3 : Hid (str l = s) := T3
  clear hl T1 T2 T3
  go_enter Tryz.func92, Tryz.ntmps92
  go_wp2
  go_loopw [6] (fun i wr => ∃ (k : Nat), k ≤ s.size ∧ i = .int .i64 k ∧ Hid (∀ i, i < k → ¬ nth l i = c) ∧ Below w.heap.size w wr) (fun i _ => s.size - (intOf i).toNat)
  case atStart => exact ⟨0, Nat.zero_le _, rfl, fun i hi => absurd hi (Nat.not_lt_zero _), Below.refl _ _⟩
  case round =>
    obtain ⟨k, hk, rfl, HD, hbel⟩ := hrel
    by_cases hlt : k < s.size
    · have hb0 : (0 : Int) ≤ (k : Int) := by omega
      have hb1 : (k : Int) < (s.size : Int) := by omega
      have hb2 : (k : Int) + 1 ≤ (s.size : Int) := by omega
      have hcn : nth l k = sb s (k : Int) := by rw [Hl.out]; rfl
      have hkl : k < l.length := by rw [HL.out]; exact hlt
      have hx0 := ixs s (k : Int) hb0 hb1
      generalize sb s (k : Int) = c0 at *
      by_cases hc : c0 = c
      · have Hq := head_at c l k hkl HD.out (hcn.trans hc)
        have HQ1 : Hid (headL c l = l.take k) := Hq.1
        have HQ2 : Hid (tailL c l = l.drop (k + 1)) := Hq.2
        subst hc
        clear hcn hkl Hq
        go_wp2
        go_quiet (fail)
        go_wp2
        go_ret2
        exact ⟨ret_ss (by rw [HQ1.out]; exact H1.out k) (by rw [HQ2.out]; exact H2.out (k + 1)), bel_drewN hbel _⟩
      · have hc' : ¬ (c0.toNat : Int) = (c.toNat : Int) := by intro e; exact hc (UInt8.toNat_inj.1 (by omega))
        have HT : Hid (∀ i, i < k + 1 → ¬ nth l i = c) := by
          intro i hi
          rcases Nat.lt_or_ge i k with h | h
          · exact HD.out i h
          · have : i = k := by omega
            subst this
            rw [hcn]; exact hc
        clear hcn hkl hc
        go_wp2
        go_roundw
        case rel => exact ⟨k + 1, by omega, by go_num, HT, hbel⟩
        case measure => simp [intOf]; omega
    · have Hq := head_none c l (fun i hi => HD.out i (by rw [HL.out] at hi; omega))
      have HQ1 : Hid (headL c l = l) := Hq.1
      have HQ2 : Hid (tailL c l = []) := Hq.2
      clear Hq
      go_wp2
      go_ret2
      exact ⟨ret_ss (by rw [HQ1.out, H3.out]) (by rw [HQ2.out]; rfl), hbel⟩
end Go.Proofs.YtgjmaeodgcigdaaGreatDoor
namespace Go.Proofs.YtgjmaeodgcigdaaGreatDoor
open Go.RowKit
attribute [local go_sem ↓] ixs

set_option maxHeartbeats 1000000 in
theorem refDigit (c : UInt8) (w : World) :
    Calls Tryz.prog 91 #[.int .u8 (c.toNat : Int)] w fun e w' => e = .returned (.int .i64 (digB c : Int)) ∧ w' = w := by
  obtain ⟨n, hn⟩ : ∃ n, n = c.toNat := ⟨_, rfl⟩
  have H : Hid (digB c = digN n) := by unfold Hid digB; rw [hn]
  have h256 : n < 256 := by rw [hn]; exact c.toNat_lt
  rw [← hn]
  clear hn
  by_cases c1 : n < 48
  · have i1 : (n : Int) < 48 := by omega
    go_enter Tryz.func91, Tryz.ntmps91
    go_wp2
    go_ret
    exact ⟨ret_i (by rw [H.out]; unfold digN; rw [if_neg (by omega), if_neg (by omega), if_neg (by omega)]; rfl), rfl⟩
  by_cases c2 : n ≤ 57
  · have i1 : (48 : Int) ≤ (n : Int) := by omega
    have i2 : (n : Int) ≤ 57 := by omega
    go_enter Tryz.func91, Tryz.ntmps91
    go_wp2
    go_ret
    exact ⟨ret_i (by rw [H.out]; unfold digN; rw [if_pos (by omega)]; omega), rfl⟩
  by_cases c3 : n < 65
  · have i1 : (57 : Int) < (n : Int) := by omega
    have i2 : (n : Int) < 65 := by omega
    go_enter Tryz.func91, Tryz.ntmps91
    go_wp2
    go_ret
    exact ⟨ret_i (by rw [H.out]; unfold digN; rw [if_neg (by omega), if_neg (by omega), if_neg (by omega)]; rfl), rfl⟩
  by_cases c4 : n ≤ 70
  · have i1 : (65 : Int) ≤ (n : Int) := by omega
    have i2 : (n : Int) ≤ 70 := by omega
    go_enter Tryz.func91, Tryz.ntmps91
    go_wp2
    go_ret
    exact ⟨ret_i (by rw [H.out]; unfold digN; rw [if_neg (by omega), if_neg (by omega), if_pos (by omega)]; omega), rfl⟩
  by_cases c5 : n < 97
  · have i1 : (70 : Int) < (n : Int) := by omega
    have i2 : (n : Int) < 97 := by omega
    go_enter Tryz.func91, Tryz.ntmps91
    go_wp2
    go_ret
    exact ⟨ret_i (by rw [H.out]; unfold digN; rw [if_neg (by omega), if_neg (by omega), if_neg (by omega)]; rfl), rfl⟩
  by_cases c6 : n ≤ 102
  · have i1 : (97 : Int) ≤ (n : Int) := by omega
    have i2 : (n : Int) ≤ 102 := by omega
    go_enter Tryz.func91, Tryz.ntmps91
    go_wp2
    go_ret
    exact ⟨ret_i (by rw [H.out]; unfold digN; rw [if_neg (by omega), if_pos (by omega)]; omega), rfl⟩
  have i1 : (102 : Int) < (n : Int) := by omega
  go_enter Tryz.func91, Tryz.ntmps91
  go_wp2
  go_ret
  exact ⟨ret_i (by rw [H.out]; unfold digN; rw [if_neg (by omega), if_neg (by omega), if_neg (by omega)]; rfl), rfl⟩
end Go.Proofs.YtgjmaeodgcigdaaGreatDoor
namespace Go.Proofs.YtgjmaeodgcigdaaGreatDoor
open Go.RowKit

set_option maxRecDepth 20000 in
set_option maxHeartbeats 2000000 in
theorem refDecode (s : ByteArray) (w : World) (hs : s.size ≤ 40000000000000) :
    Calls Tryz.prog 42 #[.string s] w fun e w' => e = .returned (.tuple #[.string ⟨(decS s.data.toList).toArray⟩, .int .i64 (decC s.data.toList)]) ∧ Below w.heap.size w w' := by
  obtain ⟨l, hl⟩ : ∃ l, l = s.data.toList := ⟨_, rfl⟩
  have Hl : Hid (l = s.data.toList) := hl
  have HL : Hid (l.length = s.size) := by unfold Hid; rw [hl]; rfl
  rw [← hl]
  clear hl
  go_enter Tryz.func42, Tryz.ntmps42
  go_wp2
  go_loopw [4, 5] (fun v i wr => ∃ (k : Nat) (out : List UInt8), k ≤ s.size ∧ out.length ≤ k ∧ i = .int .i64 k ∧ OwnB wr w.heap.size v out ∧ Hid (DecTo l out k) ∧ Below w.heap.size w wr) (fun _ i _ => s.size - (intOf i).toNat)
  case atStart => exact ⟨0, [], Nat.zero_le _, Nat.le_refl _, rfl, OwnB.nil _ _, DecTo.zero l, Below.refl _ _⟩
  case round =>
    obtain ⟨k, out, hk, hol, rfl, hown, HD, hbel⟩ := hrel
    by_cases hlt : k < s.size
    · have hb0 : (0 : Int) ≤ (k : Int) := by omega
      have hb1 : (k : Int) < (s.size : Int) := by omega
      have hcn : nth l k = sb s (k : Int) := by rw [Hl.out]; rfl
      have hkl : k < l.length := by rw [HL.out]; exact hlt
      have HB := hown.blk
      have hx0 := ixs s (k : Int) hb0 hb1
      generalize sb s (k : Int) = c0 at *
      by_cases hc : c0 = 37
      · have hc' : (c0.toNat : Int) = 37 := by rw [hc]; rfl
        have hc2 : nth l k = 37 := hcn.trans hc
        by_cases hsh : s.size - k < 3
        · have Hn : Hid (decL l = none) := HD.out.short hkl hc2 (by rw [HL.out]; exact hsh)
          have hsh' : (s.size : Int) - (k : Int) < 3 := by omega
          clear hkl hcn hc hc2 hsh
          go_wp2
          go_ret2
          exact ⟨ret_sc (decS_none Hn.out).symm (decC_none Hn.out).symm, hbel⟩
        · have hsh' : ¬ (s.size : Int) - (k : Int) < 3 := by omega
          have hb2 : (0 : Int) ≤ (k : Int) + 1 := by omega
          have hb3 : (k : Int) + 1 < (s.size : Int) := by omega
          have hb4 : (0 : Int) ≤ (k : Int) + 2 := by omega
          have hb5 : (k : Int) + 2 < (s.size : Int) := by omega
          have e1 : nth l (k + 1) = sb s ((k : Int) + 1) := by rw [Hl.out]; rfl
          have e2 : nth l (k + 2) = sb s ((k : Int) + 2) := by rw [Hl.out]; rfl
          have Hbad := HD.out.bad (by rw [HL.out]; omega) hc2
          have Hhex := HD.out.hex (by rw [HL.out]; omega) hc2
          rw [e1, e2] at Hbad Hhex
          have hx1 := ixs s ((k : Int) + 1) hb2 hb3
          have hx2 := ixs s ((k : Int) + 2) hb4 hb5
          obtain ⟨p1, hp1⟩ : ∃ p : Nat, p = k + 1 := ⟨_, rfl⟩
          obtain ⟨p2, hp2⟩ : ∃ p : Nat, p = k + 2 := ⟨_, rfl⟩
          have g1 : IntKind.i64.wrap ((k : Int) + 1) = (p1 : Int) := by rw [wrapi64_in _ (by omega) (by omega)]; omega
          have g2 : IntKind.i64.wrap ((k : Int) + 2) = (p2 : Int) := by rw [wrapi64_in _ (by omega) (by omega)]; omega
          have hy1 := ixs s (p1 : Int) (by omega) (by omega)
          have hy2 := ixs s (p2 : Int) (by omega) (by omega)
          have E1 : sb s (p1 : Int) = sb s ((k : Int) + 1) := by rw [hp1]; rfl
          have E2 : sb s (p2 : Int) = sb s ((k : Int) + 2) := by rw [hp2]; rfl
          rw [E1] at hy1
          rw [E2] at hy2
          clear E1 E2 hp1 hp2
          have G1 : Hid (IntKind.i64.wrap ((k : Int) + 1) = (p1 : Int)) := g1
          have G2 : Hid (IntKind.i64.wrap ((k : Int) + 2) = (p2 : Int)) := g2
          clear g1 g2
          have d1 : digB (sb s ((k : Int) + 1)) ≤ 16 := digN_le _
          have d2 : digB (sb s ((k : Int) + 2)) ≤ 16 := digN_le _
          clear e1 e2 hkl hcn hc hc2 hsh
          generalize sb s ((k : Int) + 1) = c1 at *
          generalize sb s ((k : Int) + 2) = c2 at *
          by_cases ha : digB c1 < 16
          · have ha' : ¬ (15 : Int) < (digB c1 : Int) := by omega
            by_cases hb : digB c2 < 16
            · have hb' : ¬ (15 : Int) < (digB c2 : Int) := by omega
              have HT : Hid (DecTo l (out ++ [UInt8.ofNat (digB c1 * 16 + digB c2)]) (k + 3)) := Hhex ha hb
              clear Hbad Hhex
              obtain ⟨c, hcc⟩ : ∃ c, c = UInt8.ofNat (digB c1 * 16 + digB c2) := ⟨_, rfl⟩
              have j1 : (digB c1 : Int) * 16 + (digB c2 : Int) = (c.toNat : Int) := by rw [hcc, UInt8.toNat_ofNat']; omega
              have j2 := wrap8_nat c.toNat c.toNat_lt
              obtain ⟨m, hm⟩ : ∃ m : Nat, m = digB c1 * 16 := ⟨_, rfl⟩
              have j3 : Hid (IntKind.i64.wrap ((digB c1 : Int) * 16) = (m : Int)) := by unfold Hid; rw [wrapi64_in _ (by omega) (by omega)]; omega
              have j4 : Hid (IntKind.i64.wrap ((m : Int) + (digB c2 : Int)) = (c.toNat : Int)) := by unfold Hid; rw [← j1, wrapi64_in _ (by omega) (by omega)]; omega
              clear hm j1
              rw [← hcc] at HT
              clear hcc
              go_wp2_with (go_at_call 91; refine (refDigit _ _).mono ?_; rintro e w' ⟨rfl, hww⟩; rw [hww]; clear hww w')
              have g1 := G1.out
              have g2 := G2.out
              have g3 := j3.out
              have g4 := j4.out
              go_region_held3 (fun w' => True) (trivial)
                (first | (go_at_call 91; refine (refDigit _ _).mono ?_; rintro e w' ⟨rfl, hww⟩; rw [hww]; clear hww w') | (refine step_app8 _ (by rfl) _ _ (by rfl) w.heap.size _ out (by rfl) ((hown.alloc _).heap rfl) wr.heap.size 1 1 [c] (by rfl) (by rfl) (heap_alloc_new wr _) (by omega) (by omega) (by have := hbel.size; simp; omega) (wr.heap.size + 1) (by simp) ?_; intro gg cap w1 hown1 hgrow hat hlt1))
              all_goals
                clear g1 g2 g3 g4
                go_wp2
                go_roundw
                case rel => exact ⟨k + 3, out ++ [c], by omega, by simp; omega, by go_num, hown1, HT, ((hbel.alloc hbel.size _).drew).grown hgrow (by have := hbel.size; simp; omega) (fun j hj => (HB j hj).1)⟩
                case measure => simp [intOf]; omega
            · have hb' : (15 : Int) < (digB c2 : Int) := by omega
              have Hn : Hid (decL l = none) := Hbad (fun h => hb h.2)
              clear Hbad Hhex
              go_wp2_with (go_at_call 91; refine (refDigit _ _).mono ?_; rintro e w' ⟨rfl, hww⟩; rw [hww]; clear hww w')
              go_ret2
              exact ⟨ret_sc (decS_none Hn.out).symm (decC_none Hn.out).symm, hbel⟩
          · have ha' : (15 : Int) < (digB c1 : Int) := by omega
            have Hn : Hid (decL l = none) := Hbad (fun h => ha h.1)
            clear Hbad Hhex
            go_wp2_with (go_at_call 91; refine (refDigit _ _).mono ?_; rintro e w' ⟨rfl, hww⟩; rw [hww]; clear hww w')
            go_ret2
            exact ⟨ret_sc (decS_none Hn.out).symm (decC_none Hn.out).symm, hbel⟩
      · have hc' : ¬ (c0.toNat : Int) = 37 := by intro e; exact hc (UInt8.toNat_inj.1 (by have : (37 : UInt8).toNat = 37 := rfl; omega))
        have HT : Hid (DecTo l (out ++ [c0]) (k + 1)) := by
          have := HD.out.plain hkl (by rw [hcn]; exact hc)
          rw [hcn] at this
          exact this
        clear hkl hcn hc
        go_wp2_with (at_builtin; refine list_app1 _ rfl _ _ rfl w.heap.size _ out rfl (hown.alloc _) wr.heap.size 1 [c0] rfl rfl (heap_alloc_new wr _) (by omega) (by have := hbel.size; simp; omega) ?_; intro v1 w1 hown1 hgrow)
        go_roundw
        case rel => exact ⟨k + 1, out ++ [c0], by omega, by simp; omega, by go_num, hown1, HT, (hbel.alloc hbel.size _).grown hgrow (by have := hbel.size; simp; omega) (fun j hj => (HB j hj).1)⟩
        case measure => simp [intOf]; omega
    · have hcv := conv_own wr w.heap.size _ _ hown
      have Hn : Hid (decL l = some out) := HD.out.done (by rw [HL.out]; omega)
      go_wp2
      go_ret2
      exact ⟨ret_sc (decS_some Hn.out).symm (decC_some Hn.out).symm, hbel⟩
end Go.Proofs.YtgjmaeodgcigdaaGreatDoor
namespace Go.Proofs.YtgjmaeodgcigdaaGreatDoor
open Go.RowKit

set_option maxHeartbeats 1000000 in
theorem refFind (a : Option Addr) (n cap : Nat) (l : List Pr) (nm : List UInt8) (w : World) (h : IsP w a n cap l) :
    Calls Tryz.prog 93 #[.slice a n cap, .string (str nm)] w fun e w' => e = .returned (.tuple #[.string (str ((findL l nm).getD [])), .bool (findL l nm).isSome]) ∧ w' = w := by
  have HL : Hid (l.length = n) := h.len_eq
  have H : Hid (IsP w a n cap l) := h
  have hm : n ≤ 9223372036854775807 := by have := h.le; have := h.max; unfold maxLen at this; omega
  clear h
  go_enter Tryz.func93, Tryz.ntmps93
  go_wp2
  go_loopw [6] (fun i wr => ∃ (k : Nat), k ≤ n ∧ i = .int .i64 k ∧ Hid (∀ i, i < k → ¬ (nthP l i).1 = nm) ∧ wr = w) (fun i _ => n - (intOf i).toNat)
  case atStart => exact ⟨0, Nat.zero_le _, rfl, fun i hi => absurd hi (Nat.not_lt_zero _), rfl⟩
  case round =>
    obtain ⟨k, hk, rfl, HD, rfl⟩ := hrel
    by_cases hlt : k < n
    · obtain ⟨b, off, rfl, hc⟩ := H.out.cells (by omega)
      obtain ⟨c1, c2⟩ := hc k hlt
      have hb0 : (0 : Int) ≤ (k : Int) := by omega
      have hb1 : (k : Int) < (n : Int) := by omega
      clear hc
      by_cases he : (nthP l k).1 = nm
      · have HQ : Hid (findL l nm = some (nthP l k).2) := find_at l nm k (by rw [HL.out]; exact hlt) HD.out he
        have hq : ((str (nthP l k).1).toList == (str nm).toList) = true := by rw [str_beq]; simpa using he
        clear he
        generalize nthP l k = p at *
        go_wp2
        go_ret2
        exact ⟨ret_sb (by rw [HQ.out]; rfl) (by rw [HQ.out]; rfl), by first | rfl | trivial⟩
      · have hq : ((str (nthP l k).1).toList == (str nm).toList) = false := by rw [str_beq]; simpa using he
        have HT : Hid (∀ i, i < k + 1 → ¬ (nthP l i).1 = nm) := by
          intro i hi
          rcases Nat.lt_or_ge i k with h | h
          · exact HD.out i h
          · have : i = k := by omega
            subst this
            exact he
        clear he
        generalize nthP l k = p at c1 c2 hq
        go_wp2
        go_roundw
        case rel => exact ⟨k + 1, by omega, by go_num, HT, by first | rfl | trivial⟩
        case measure => simp [intOf]; omega
    · have HQ : Hid (findL l nm = none) := find_none l nm (fun i hi => HD.out i (by rw [HL.out] at hi; omega))
      go_wp2
      go_ret2
      exact ⟨ret_sb (by rw [HQ.out]; rfl) (by rw [HQ.out]; rfl), by first | rfl | trivial⟩
end Go.Proofs.YtgjmaeodgcigdaaGreatDoor
