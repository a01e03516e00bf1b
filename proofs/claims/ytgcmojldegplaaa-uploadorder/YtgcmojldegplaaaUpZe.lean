/- The program's upload: slices.Grow, slices.Concat of parts; bytes.Clone. -/
import Derived.Test.YtgcmojldegplaaaUp5
import Derived.Lib.AppendZeros
import Derived.Lib.SliceRun
namespace Go.Proofs.Ytgcmojldegplaaa
open Go.RowKit

set_option maxRecDepth 20000 in
set_option maxHeartbeats 1000000 in
theorem codGrow16 (n : Nat) (w : World) (h1 : 1 ≤ n) (h2 : n ≤ 1000) :
    Calls Try.prog 24 #[.slice none 0 0, .int .i64 (n : Int)] w fun e w' => ∃ v, e = .returned v ∧ OwnC rtP w' w.heap.size v [] ∧ Below w.heap.size w w' := by
  obtain ⟨i0, hi, hz0, hz1, hz2⟩ := info_parts okP.hi
  have hrun := Lib.run_append_nil_zeros (P := Try.prog) w 23 3 23 43 i0 rtP.z .i64 .i64 Try.underlying23 Try.underlying3 hi hz0 n (by omega) (by rw [hz1]; decide) (by omega) (by rw [hz2]; show n * 32 ≤ _; omega)
  have hcap := grownCap_ge w n 0 43
  have hmx := grownCap_le_maxLen w n 0 43 (by unfold maxLen; omega)
  generalize grownCap w n 0 43 = cap at *
  have HO : Hid (OwnC rtP (w.drew.alloc (.cells (Builtin.zeroCells rtP.z.cells n ++ Builtin.zeroCells rtP.z.cells (cap - n)) 43)) w.heap.size (.slice (some ⟨w.heap.size, 0, none⟩) 0 cap) []) :=
    World.ownsRow_made w.drew _ cap (Nat.le_refl _) hmx (by rw [Array.size_append, size_zeroCells, size_zeroCells]; show n * 2 + (cap - n) * 2 = cap * 2; omega)
  have HB : Hid (Below w.heap.size w (w.drew.alloc (.cells (Builtin.zeroCells rtP.z.cells n ++ Builtin.zeroCells rtP.z.cells (cap - n)) 43))) := ((Below.refl _ w).drew).alloc (Nat.le_refl _) _
  generalize hW : w.drew.alloc (.cells (Builtin.zeroCells rtP.z.cells n ++ Builtin.zeroCells rtP.z.cells (cap - n)) 43) = W at *
  have i1 : ¬ (n : Int) < 0 := by omega
  have i2 : (0 : Int) < (n : Int) := by omega
  have i3 : IntKind.i64.wrap (n : Int) = n := wrapi64_in _ (by omega) (by omega)
  clear hi hz0 hz1 hz2 hW hmx
  go_enter Try.func24, Try.ntmps24
  go_wp2_with (at_builtin; refine Lib.wpList_append_run _ rfl _ _ _ _ rfl _ _ rfl rfl _ _ hrun ?_)
  go_ret
  exact ⟨_, rfl, HO.out, HB.out⟩
def preC (A Y B : List Pq) (k : Nat) : List Pq := if k = 0 then [] else if k = 1 then A else if k = 2 then A ++ Y else A ++ Y ++ B
def preK (n1 n2 n3 k : Nat) : Nat := if k = 0 then 0 else if k = 1 then n1 else if k = 2 then n1 + n2 else n1 + n2 + n3
set_option maxRecDepth 20000 in
set_option maxHeartbeats 4000000 in
theorem codConcat16 (X : Nat) (a1 : Option Addr) (n1 c1 : Nat) (a2 : Option Addr) (n2 c2 : Nat) (a3 : Option Addr) (n3 c3 : Nat) (A Y B : List Pq) (w : World) (hX : Blk w X 23 [.slice a1 n1 c1, .slice a2 n2 c2, .slice a3 n3 c3])
    (h1 : SrcC rtP w a1 n1 c1 A) (h2 : SrcC rtP w a2 n2 c2 Y) (h3 : SrcC rtP w a3 n3 c3 B) (hp : 1 ≤ n2) (hn : n1 + n2 + n3 ≤ 1000) :
    Calls Try.prog 20 #[.slice (some ⟨X, 0, none⟩) 3 3] w fun e w' => ∃ v, e = .returned v ∧ OwnC rtP w' w.heap.size v (A ++ Y ++ B) ∧ Below w.heap.size w w' := by
  have g0 : w.cell? ⟨X, 0, none⟩ = some (.slice a1 n1 c1) := hX.cell 0
  have g1 : w.cell? ⟨X, 1, none⟩ = some (.slice a2 n2 c2) := hX.cell 1
  have g2 : w.cell? ⟨X, 2, none⟩ = some (.slice a3 n3 c3) := hX.cell 2
  have HG := codGrow16 (n1 + n2 + n3)
  have HXw : Hid (∀ W, Below w.heap.size w W → Blk W X 23 [.slice a1 n1 c1, .slice a2 n2 c2, .slice a3 n3 c3]) := fun W hW => hX.on hW
  have HP1 : Hid (∀ W, Below w.heap.size w W → SrcC rtP W a1 n1 c1 A) := fun W hW => h1.below hW
  have HP2 : Hid (∀ W, Below w.heap.size w W → SrcC rtP W a2 n2 c2 Y) := fun W hW => h2.below hW
  have HP3 : Hid (∀ W, Below w.heap.size w W → SrcC rtP W a3 n3 c3 B) := fun W hW => h3.below hW
  have L1 := mkHid h1.len
  have L2 := mkHid h2.len
  clear hX h1 h2 h3
  go_enter Try.func20, Try.ntmps20
  go_wp2
  go_loopw [3, 11] (fun s i wr => ∃ k : Nat, k ≤ 3 ∧ i = .int .i64 k ∧ s = .int .i64 ((preK n1 n2 n3 k : Nat) : Int) ∧ wr = w) (fun _ i _ => 3 - (intOf i).toNat)
  case atStart => exact ⟨0, Nat.zero_le _, rfl, rfl, rfl⟩
  case round =>
    obtain ⟨k, hk, rfl, rfl, hww⟩ := hrel
    replace hww := hww.symm
    subst hww
    match k, hk with
    | 0, _ =>
      have y1 : (preK n1 n2 n3 0 : Nat) = 0 := rfl
      rw [y1]
      have i1 : ¬ (n1 : Int) < 0 := by omega
      have i3 : IntKind.i64.wrap (n1 : Int) = n1 := wrapi64_in _ (by omega) (by omega)
      go_wp2
      go_roundw
      case rel => exact ⟨1, by omega, by go_num, by first | rfl | (simp [preK]), by first | rfl | trivial⟩
      case measure => simp [intOf]
    | 1, _ =>
      have y1 : (preK n1 n2 n3 1 : Nat) = n1 := rfl
      rw [y1]
      have i1 : ¬ (n1 : Int) + (n2 : Int) < 0 := by omega
      have i3 : IntKind.i64.wrap ((n1 : Int) + (n2 : Int)) = (n1 : Int) + (n2 : Int) := wrapi64_in _ (by omega) (by omega)
      go_wp2
      go_roundw
      case rel => exact ⟨2, by omega, by go_num, by first | rfl | (simp [preK]), by first | rfl | trivial⟩
      case measure => simp [intOf]
    | 2, _ =>
      have y1 : ((preK n1 n2 n3 2 : Nat) : Int) = (n1 : Int) + (n2 : Int) := by simp [preK]
      rw [y1]
      have i1 : ¬ (n1 : Int) + (n2 : Int) + (n3 : Int) < 0 := by omega
      have i3 : IntKind.i64.wrap ((n1 : Int) + (n2 : Int) + (n3 : Int)) = (n1 : Int) + (n2 : Int) + (n3 : Int) := wrapi64_in _ (by omega) (by omega)
      go_wp2
      go_roundw
      case rel => exact ⟨3, by omega, by go_num, by first | rfl | (simp [preK]), by first | rfl | trivial⟩
      case measure => simp [intOf]
    | 3, _ =>
      have y1 : ((preK n1 n2 n3 3 : Nat) : Int) = ((n1 + n2 + n3 : Nat) : Int) := rfl
      rw [y1]
      go_wp2_with (go_at_call 24; refine (HG _ (by omega) (by omega)).mono ?_; rintro e x1 ⟨v1, rfl, ho1, hb1⟩)
      have HO1 : Hid (OwnC rtP x1 w.heap.size v1 (preC A Y B 0)) := ho1
      have HB1 : Hid (Below w.heap.size w x1) := hb1
      clear ho1 hb1 g0 g1 g2
      go_loopw [6, 27] (fun v i wy => ∃ k : Nat, k ≤ 3 ∧ i = .int .i64 k ∧ Hid (OwnC rtP wy w.heap.size v (preC A Y B k)) ∧ Hid (Below w.heap.size w wy)) (fun _ i _ => 3 - (intOf i).toNat)
      case atStart => exact ⟨0, Nat.zero_le _, rfl, HO1, HB1⟩
      case round =>
        obtain ⟨k, hk, rfl, HO, HB⟩ := hrel
        clear HO1 HB1
        match k, hk with
        | 0, _ =>
          have g0 : wr.cell? ⟨X, 0, none⟩ = some (.slice a1 n1 c1) := (HXw.out wr HB.out).cell 0
          go_wp2_with (at_builtin; refine list_appC okP _ rfl _ _ rfl w.heap.size _ _ rfl HO.out a1 n1 c1 A rfl (HP1.out wr HB.out) (by show (0 + n1) * 32 ≤ _; omega) HB.out.size ?_; intro v2 y2 ho2 hg2)
          go_roundw
          case rel => exact ⟨1, by omega, by go_num, ho2, HB.out.grown hg2 HB.out.size (fun i hi => (HO.out.lt hi).1)⟩
          case measure => simp [intOf]
        | 1, _ =>
          have g1 : wr.cell? ⟨X, 1, none⟩ = some (.slice a2 n2 c2) := (HXw.out wr HB.out).cell 1
          go_wp2_with (at_builtin; refine list_appC okP _ rfl _ _ rfl w.heap.size _ _ rfl HO.out a2 n2 c2 Y rfl (HP2.out wr HB.out) (by show (A.length + n2) * 32 ≤ _; rw [L1.out]; omega) HB.out.size ?_; intro v2 y2 ho2 hg2)
          go_roundw
          case rel => exact ⟨2, by omega, by go_num, ho2, HB.out.grown hg2 HB.out.size (fun i hi => (HO.out.lt hi).1)⟩
          case measure => simp [intOf]
        | 2, _ =>
          have g2 : wr.cell? ⟨X, 2, none⟩ = some (.slice a3 n3 c3) := (HXw.out wr HB.out).cell 2
          go_wp2_with (at_builtin; refine list_appC okP _ rfl _ _ rfl w.heap.size _ _ rfl HO.out a3 n3 c3 B rfl (HP3.out wr HB.out) (by show ((A ++ Y).length + n3) * 32 ≤ _; rw [List.length_append, L1.out, L2.out]; omega) HB.out.size ?_; intro v2 y2 ho2 hg2)
          go_roundw
          case rel => exact ⟨3, by omega, by go_num, ho2, HB.out.grown hg2 HB.out.size (fun i hi => (HO.out.lt hi).1)⟩
          case measure => simp [intOf]
        | 3, _ =>
          go_wp2
          go_ret
          exact ⟨_, rfl, HO.out, HB.out⟩
set_option maxRecDepth 20000 in
/-- bytes.Clone -/
theorem codClone16 (a : Option Addr) (n c : Nat) (l : List UInt8) (w : World) (h : IsB w a n c l) (hn : n ≤ 1000000) :
    Calls Try.prog 21 #[.slice a n c] w fun e w' => (∃ v, e = .returned v ∧ OwnB w' w.heap.size v l) ∧ Below w.heap.size w w' := by
  cases a with
  | none =>
    have h0 := h.nil rfl
    have h1 := h.le
    have h2 := h.len_eq
    have hl : l = [] := List.eq_nil_of_length_eq_zero (by omega)
    have hn0 : n = 0 := by omega
    subst hl hn0 h0
    clear h h1 h2
    have hE : ∀ W, (binOp .eql 26 (.slice none 0 0) (.slice none 0 0)).run Try.prog W = .ok (.bool true) W := fun W => Lib.run_eql_slice_nil (P := Try.prog) W 26 5 none 0 0 0 0 Try.underlying26
    go_enter Try.func21, Try.ntmps21
    go_wp2_with fail
    go_ret
    exact ⟨⟨_, rfl, OwnB.nil _ _⟩, Below.refl _ _⟩
  | some ad =>
    have hY : Below w.heap.size w (w.alloc (.cells #[] 5)) := (Below.refl _ w).alloc (Nat.le_refl _) _
    have HO : Hid (OwnB (w.alloc (.cells #[] 5)) w.heap.size (.slice (some ⟨w.heap.size, 0, none⟩) 0 0) []) := OwnB.empty w w.heap.size (Nat.le_refl _)
    have HI := mkHid (h.below hY rfl)
    have HY := mkHid hY
    have hl := h.len_eq
    clear h hY
    have hE : ∀ W, (binOp .eql 26 (.slice (some ad) n c) (.slice none 0 0)).run Try.prog W = .ok (.bool false) W := fun W => Lib.run_eql_slice_nil (P := Try.prog) W 26 5 (some ad) n c 0 0 Try.underlying26
    go_enter Try.func21, Try.ntmps21
    go_wp2_with (at_builtin; refine list_appS _ rfl (.tmp 5) (.tmp 6) rfl w.heap.size _ [] rfl HO.out (some ad) n c l rfl HI.out (by simp only [List.length_nil]; omega) HY.out.size ?_; intro v2 V2 ho2 hg2; rw [List.nil_append] at ho2; have HD2 := mkHid (HY.out.grown hg2 HY.out.size (fun j hj => (World.ownsRow.lt HO.out j hj).1)))
    go_ret
    exact ⟨⟨_, rfl, ho2⟩, HD2.out⟩
end Go.Proofs.Ytgcmojldegplaaa
