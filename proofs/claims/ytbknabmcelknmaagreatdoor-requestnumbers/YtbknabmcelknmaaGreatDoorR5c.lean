/- request: the reader's lines. -/
import Derived.Test.YtbknabmcelknmaaGreatDoorReq5
import Derived.Test.YtbknabmcelknmaaGreatDoorJ13
import Derived.Test.YtbknabmcelknmaaGreatDoorOwnP
import Derived.RangeFuncBox
namespace Go.Proofs.YtbknabmcelknmaaGreatDoor
open Go.RowKit

/-- all that was there is as it was, but for the block B -/
def Moved (B : Nat) (w w' : World) : Prop := w.grownBy w' (some B)
theorem Moved.size {B : Nat} {w w' : World} (h : Moved B w w') : w.heap.size ≤ w'.heap.size := h.4
theorem Moved.block {B : Nat} {w w' : World} (h : Moved B w w') (k : Nat) (hk : k < w.heap.size) (hne : k ≠ B) : w'.heap[k]? = w.heap[k]? := h.5 k hk (by intro e; exact hne (Option.some.inj e))
theorem Moved.of {B : Nat} {w w' : World} (h : Below w.heap.size w w') : Moved B w w' := ⟨h.1, h.2, h.3, h.4, fun k hk _ => h.5 k hk⟩
theorem Moved.refl (B : Nat) (w : World) : Moved B w w := .of (Below.refl _ _)
theorem Moved.trans {B : Nat} {w w1 w2 : World} (h : Moved B w w1) (k : Moved B w1 w2) : Moved B w w2 :=
  ⟨by first | exact k.1.trans h.1 | exact h.1.trans k.1, by first | exact k.2.trans h.2 | exact h.2.trans k.2, by first | exact k.3.trans h.3 | exact h.3.trans k.3, Nat.le_trans h.4 k.4, fun i hi hne => (k.5 i (Nat.lt_of_lt_of_le hi h.4) hne).trans (h.5 i hi hne)⟩
theorem Moved.blk {B : Nat} {w w' : World} (h : Moved B w w') {C t : Nat} {cs : List Value} (hc : Blk w C t cs) (hne : C ≠ B) : Blk w' C t cs := by
  unfold Blk at *; rw [h.block C (Blk.lt hc) hne]; exact hc
theorem Moved.below {B : Nat} {w w' : World} (h : Moved B w w') {n : Nat} (hn : n ≤ B) (hs : n ≤ w.heap.size) : Below n w w' := ⟨h.1, h.2, h.3, h.4, fun k hk => h.block k (by omega) (by omega)⟩
theorem Moved.set (B : Nat) (w : World) (v : Value) : Moved B w (w.setCell ⟨B, 0, none⟩ v) := grownBy_setCell' w B v
theorem Moved.cell {B : Nat} {w w' : World} (h : Moved B w w') (p : Addr) (hp : p.block < w.heap.size) (hne : p.block ≠ B) : w'.cell? p = w.cell? p := by
  unfold World.cell?; rw [h.block _ hp hne]
theorem OwnP.moved {e : TypeId} {w w' : World} {base B : Nat} {v : Value} {l : List Pr} (h : OwnP e w base v l) (hb : Moved B w w') (hB : B < base) : OwnP e w' base v l := by
  refine ⟨h.1, ?_⟩
  rcases h.2 with h2 | ⟨g, cap, cur, h3, h4, h5, h6⟩
  · exact .inl h2
  · exact .inr ⟨g, cap, cur, h3, h4, by rw [hb.block g (Array.getElem?_eq_some_iff.1 h5).1 (by omega)]; exact h5, h6⟩
theorem bp_panic {P : Program} {fn : Func} {Q : Ending → World → Prop} {chain : List PanicEntry} {tmps : Array Value} {w : World} (h : Q (.panicked chain) w) : bodyPost P fn Q (.panic chain) { tmps := tmps, defers := [] } w := by
  exact ⟨rfl, h⟩
/-- the library's bound for short texts holds a number -/
def Mx (w : World) : Prop := ∃ m : Int, w.cell? ⟨3, 0, none⟩ = some (.int .i64 m)
theorem Mx.moved {B : Nat} {w w' : World} (h : Mx w) (hb : Moved B w w') (hB : 3 < B) : Mx w' := by
  obtain ⟨m, hm⟩ := h
  exact ⟨m, (hb.cell ⟨3, 0, none⟩ (cell_lt hm) (by show 3 ≠ B; omega)).trans hm⟩
theorem Mx.below {w w' : World} (h : Mx w) (hb : Below w.heap.size w w') : Mx w' := by
  obtain ⟨m, hm⟩ := h
  exact ⟨m, (hb.cell (p := ⟨3, 0, none⟩) (cell_lt hm)).trans hm⟩

theorem codLineCut (l : List UInt8) (w : World) (hm : Mx w) (hs : l.length ≤ 1000000) :
    Calls Tryz.prog 65 #[.string (str l), .string ⟨#[13, 10]⟩] w fun e w' => e = .returned (.tuple #[.string (str (match lineL l with | none => l | some x => x.1)), .string (str (match lineL l with | none => [] | some x => x.2)), .bool (lineL l).isSome]) ∧ Below w.heap.size w w' := by
  obtain ⟨m, hm⟩ := hm
  refine (Tryz.strings_Cut (str l) ⟨#[13, 10]⟩ m w (by rw [str_size]; omega) hm).mono ?_
  rintro e w' ⟨rfl, n, rfl⟩
  rw [str_list, show (ByteArray.mk #[13, 10]).data.toList = [13, 10] from rfl, cut_line]
  refine ⟨?_, bel_drewN (Below.refl _ _) _⟩
  cases lineL l with
  | none => rfl
  | some x => rfl

set_option maxHeartbeats 1000000 in
theorem codLine (B : Nat) (l : List UInt8) (e : Int) (w : World) (hB : Blk w B 57 [.string (str l)]) (hm : Mx w) (hs : l.length ≤ 1000000) :
    Calls Tryz.prog 64 #[.pointer (some ⟨B, 0, none⟩), .int .i64 e] w fun x w' => (match lineL l with
      | none => x = refused e ∧ Blk w' B 57 [.string (str l)]
      | some y => x = .returned (.string (str y.1)) ∧ Blk w' B 57 [.string (str y.2)]) ∧ Moved B w w' := by
  have HC := codLineCut l w hm hs
  have hc : w.cell? ⟨B, 0, none⟩ = some (.string (str l)) := hB.cell 0
  cases hl : lineL l with
  | none =>
    rw [hl] at HC
    replace HC : Calls Tryz.prog 65 #[.string (str l), .string ⟨#[13, 10]⟩] w fun e w' => e = .returned (.tuple #[.string (str l), .string (str []), .bool false]) ∧ Below w.heap.size w w' := HC
    have HN := codNeed false e
    simp only [Bool.false_eq_true, if_false] at HN
    unfold refused at HN ⊢
    dsimp only
    generalize str l = s at *
    generalize str [] = s0 at *
    go_enter Tryz.func64, Tryz.ntmps64
    go_wp2_with (first | (go_at_call 65; refine HC.mono ?_; rintro x w1 ⟨rfl, hb⟩) | (go_at_call 67; refine (HN _).mono ?_; rintro x w2 ⟨rfl, hww⟩; rw [hww]; clear hww w2))
    refine bp_panic ?_
    exact ⟨⟨by first | rfl | trivial, hB.on hb⟩, Moved.of hb⟩
  | some y =>
    obtain ⟨h, rest⟩ := y
    rw [hl] at HC
    replace HC : Calls Tryz.prog 65 #[.string (str l), .string ⟨#[13, 10]⟩] w fun e w' => e = .returned (.tuple #[.string (str h), .string (str rest), .bool true]) ∧ Below w.heap.size w w' := HC
    have HN := codNeed true e
    simp only [if_true] at HN
    dsimp only
    generalize str l = s at *
    generalize str h = s1 at *
    generalize str rest = s2 at *
    go_enter Tryz.func64, Tryz.ntmps64
    go_wp2_with (first | (go_at_call 65; refine HC.mono ?_; rintro x w1 ⟨rfl, hb⟩; have hB1 := hB.on hb; have hc1 := hB1.cell 0; have hf1 := hB1.frozen 0) | (go_at_call 67; refine (HN _).mono ?_; rintro x w2 ⟨rfl, hww⟩; rw [hww]; clear hww w2))
    go_ret
    exact ⟨⟨rfl, hB1.set 0 _⟩, (Moved.of hb).trans (Moved.set _ _ _)⟩
end Go.Proofs.YtbknabmcelknmaaGreatDoor
