/- request: the reader's lines. A text of bytes that the call owns. What uri.digit answers. -/
import Derived.Test.YtbknabmcelknmaaGreatDoorReq5
import Derived.Test.YtbknabmcelknmaaGreatDoorJ11
import Derived.RangeFuncBox
import Derived.Test.YtbknabmcelknmaaGreatDoorOwnS
import Derived.Laws.IdiomStrings
import Derived.Test.YtbknabmcelknmaaGreatDoorJ0
import Derived.Test.YtbknabmcelknmaaGreatDoorJ6
namespace Go.Proofs.YtbknabmcelknmaaGreatDoor
open Go.RowKit

/-- all that was there is as it was, but for the block B -/
def Moved (B : Nat) (w w' : World) : Prop := w.grownBy w' (some B)
theorem Moved.size {B : Nat} {w w' : World} (h : Moved B w w') : w.heap.size ≤ w'.heap.size := h.4
theorem Moved.block {B : Nat} {w w' : World} (h : Moved B w w') (k : Nat) (hk : k < w.heap.size) (hne : k ≠ B) : w'.heap[k]? = w.heap[k]? := h.5 k hk (by intro e; exact hne (Option.some.inj e))
theorem Moved.of {B : Nat} {w w' : World} (h : Below w.heap.size w w') : Moved B w w' := ⟨h.1, h.2, h.3, h.4, fun k hk _ => h.5 k hk⟩
theorem Moved.refl (B : Nat) (w : World) : Moved B w w := .of (Below.refl _ _)
theorem Moved.trans {B : Nat} {w w1 w2 : World} (h : Moved B w w1) (k : Moved B w1 w2) : Moved B w w2 :=
  ⟨by first | exact k.1.trans h.1 | exact h.1.trans k.1, by first | exact k.2.trans h.2 | exact h.2.trans k.2, by first | exact k.3.trans h.3 | exact h.3.trans k.3, Nat.le_trans h.4 k.4, fun i hi hne => (k.5 i (Nat.lt_of_lt_of_le hi h.4) hne).trans (h.5 i hi hne)⟩
theorem Moved.blk {B : Nat} {w w' : World} (h : Moved B w w') {C t : Nat} {cs : List Value} (hc : Blk w C t cs) (hne : C ≠ B) : Blk w' C t cs := by
  unfold Blk at *; rw [h.block C (Blk.lt hc) hne]; exact hc
theorem Moved.below {B : Nat} {w w' : World} (h : Moved B w w') {n : Nat} (hn : n ≤ B) (hs : n ≤ w.heap.size) : Below n w w' := ⟨h.1, h.2, h.3, h.4, fun k hk => h.block k (by omega) (by omega)⟩
theorem Moved.set (B : Nat) (w : World) (v : Value) : Moved B w (w.setCell ⟨B, 0, none⟩ v) := grownBy_setCell' w B v
theorem Moved.cell {B : Nat} {w w' : World} (h : Moved B w w') (p : Addr) (hp : p.block < w.heap.size) (hne : p.block ≠ B) : w'.cell? p = w.cell? p := by
  unfold World.cell?; rw [h.block _ hp hne]
theorem OwnP.moved {e : TypeId} {w w' : World} {base B : Nat} {v : Value} {l : List Pr} (h : OwnP e w base v l) (hb : Moved B w w') (hB : B < base) : OwnP e w' base v l := by
  refine ⟨h.1, ?_⟩
  rcases h.2 with h2 | ⟨g, cap, cur, h3, h4, h5, h6⟩
  · exact .inl h2
  · exact .inr ⟨g, cap, cur, h3, h4, by rw [hb.block g (Array.getElem?_eq_some_iff.1 h5).1 (by omega)]; exact h5, h6⟩
theorem bp_panic {P : Program} {fn : Func} {Q : Ending → World → Prop} {chain : List PanicEntry} {tmps : Array Value} {w : World} (h : Q (.panicked chain) w) : bodyPost P fn Q (.panic chain) { tmps := tmps, defers := [] } w := by
  exact ⟨rfl, h⟩
/-- the library's bound for short texts holds a number -/
def Mx (w : World) : Prop := ∃ m : Int, w.cell? ⟨3, 0, none⟩ = some (.int .i64 m)
theorem Mx.moved {B : Nat} {w w' : World} (h : Mx w) (hb : Moved B w w') (hB : 3 < B) : Mx w' := by
  obtain ⟨m, hm⟩ := h
  exact ⟨m, (hb.cell ⟨3, 0, none⟩ (cell_lt hm) (by show 3 ≠ B; omega)).trans hm⟩
theorem Mx.below {w w' : World} (h : Mx w) (hb : Below w.heap.size w w') : Mx w' := by
  obtain ⟨m, hm⟩ := h
  exact ⟨m, (hb.cell (p := ⟨3, 0, none⟩) (cell_lt hm)).trans hm⟩

theorem codLineCut (l : List UInt8) (w : World) (hm : Mx w) (hs : l.length ≤ 1000000) :
    Calls Tryz.prog 65 #[.string (str l), .string ⟨#[13, 10]⟩] w fun e w' => e = .returned (.tuple #[.string (str (match lineL l with | none => l | some x => x.1)), .string (str (match lineL l with | none => [] | some x => x.2)), .bool (lineL l).isSome]) ∧ Below w.heap.size w w' := by
  obtain ⟨m, hm⟩ := hm
  refine (Tryz.strings_Cut (str l) ⟨#[13, 10]⟩ m w (by rw [str_size]; omega) hm).mono ?_
  rintro e w' ⟨rfl, n, rfl⟩
  rw [str_list, show (ByteArray.mk #[13, 10]).data.toList = [13, 10] from rfl, cut_line]
  refine ⟨?_, bel_drewN (Below.refl _ _) _⟩
  cases lineL l with
  | none => rfl
  | some x => rfl

set_option maxHeartbeats 1000000 in
theorem codLine (B : Nat) (l : List UInt8) (e : Int) (w : World) (hB : Blk w B 57 [.string (str l)]) (hm : Mx w) (hs : l.length ≤ 1000000) :
    Calls Tryz.prog 64 #[.pointer (some ⟨B, 0, none⟩), .int .i64 e] w fun x w' => (match lineL l with
      | none => x = refused e ∧ Blk w' B 57 [.string (str l)]
      | some y => x = .returned (.string (str y.1)) ∧ Blk w' B 57 [.string (str y.2)]) ∧ Moved B w w' := by
  have HC := codLineCut l w hm hs
  have hc : w.cell? ⟨B, 0, none⟩ = some (.string (str l)) := hB.cell 0
  cases hl : lineL l with
  | none =>
    rw [hl] at HC
    replace HC : Calls Tryz.prog 65 #[.string (str l), .string ⟨#[13, 10]⟩] w fun e w' => e = .returned (.tuple #[.string (str l), .string (str []), .bool false]) ∧ Below w.heap.size w w' := HC
    have HN := codNeed false e
    simp only [Bool.false_eq_true, if_false] at HN
    unfold refused at HN ⊢
    dsimp only
    generalize str l = s at *
    generalize str [] = s0 at *
    go_enter Tryz.func64, Tryz.ntmps64
    go_wp2_with (first | (go_at_call 65; refine HC.mono ?_; rintro x w1 ⟨rfl, hb⟩) | (go_at_call 67; refine (HN _).mono ?_; rintro x w2 ⟨rfl, hww⟩; rw [hww]; clear hww w2))
    refine bp_panic ?_
    exact ⟨⟨by first | rfl | trivial, hB.on hb⟩, Moved.of hb⟩
  | some y =>
    obtain ⟨h, rest⟩ := y
    rw [hl] at HC
    replace HC : Calls Tryz.prog 65 #[.string (str l), .string ⟨#[13, 10]⟩] w fun e w' => e = .returned (.tuple #[.string (str h), .string (str rest), .bool true]) ∧ Below w.heap.size w w' := HC
    have HN := codNeed true e
    simp only [if_true] at HN
    dsimp only
    generalize str l = s at *
    generalize str h = s1 at *
    generalize str rest = s2 at *
    go_enter Tryz.func64, Tryz.ntmps64
    go_wp2_with (first | (go_at_call 65; refine HC.mono ?_; rintro x w1 ⟨rfl, hb⟩; have hB1 := hB.on hb; have hc1 := hB1.cell 0; have hf1 := hB1.frozen 0) | (go_at_call 67; refine (HN _).mono ?_; rintro x w2 ⟨rfl, hww⟩; rw [hww]; clear hww w2))
    go_ret
    exact ⟨⟨rfl, hB1.set 0 _⟩, (Moved.of hb).trans (Moved.set _ _ _)⟩
end Go.Proofs.YtbknabmcelknmaaGreatDoor
namespace Go.Proofs.YtbknabmcelknmaaGreatDoor
open Go.RowKit

theorem conv_own (w : World) (base : Nat) (v : Value) (l : List UInt8) (h : OwnB w base v l) : (convert 22 9 v).run Tryz.prog w = .ok (.string ⟨l.toArray⟩) w := by
  obtain ⟨a, cap, rfl, hb⟩ := h.isB
  by_cases hl : 0 < l.length
  · obtain ⟨b, off, rfl, hc⟩ := hb.cells hl
    refine run_convert_bytes_back w 22 9 5 ⟨b, off, none⟩ cap l Tryz.underlying22 Tryz.underlying5 Tryz.underlying9 fun j hj => ?_
    rw [Addr.add_lit, hc j hj, nth_eq l j hj]
  · have : l = [] := List.eq_nil_of_length_eq_zero (by omega)
    subst this
    cases a with
    | none => exact run_convert_bytes_nil w 22 5 Tryz.underlying22 Tryz.underlying5 _ _ _ Tryz.underlying9
    | some x => exact run_convert_bytes_back w 22 9 5 x cap [] Tryz.underlying22 Tryz.underlying5 Tryz.underlying9 fun j hj => absurd hj (Nat.not_lt_zero _)

theorem ret_str {a b : List UInt8} (h : a = b) : Ending.returned (.string ⟨a.toArray⟩) = .returned (.string ⟨b.toArray⟩) := by rw [h]

end Go.Proofs.YtbknabmcelknmaaGreatDoor
namespace Go.Proofs.YtbknabmcelknmaaGreatDoor
open Go.RowKit
attribute [local go_sem ↓] ixs

/-- the number of a digit, or nought -/
def digV (c : UInt8) : Nat := if digB c < 16 then digB c else 0
def digK (c : UInt8) : Bool := decide (digB c < 16)
theorem digV_lt (c : UInt8) : digV c < 16 := by unfold digV; split <;> omega
theorem digV_yes {c : UInt8} (h : digB c < 16) : digV c = digB c := by unfold digV; rw [if_pos h]
theorem ret_dk {c : UInt8} {n : Nat} {v : Int} {b : Bool} (H : digB c = digN n) (hv : digN n < 16 → v = (digN n : Int)) (hz : ¬ digN n < 16 → v = 0) (hb : b = decide (digN n < 16)) :
    Ending.returned (.tuple #[.int .u8 v, .bool b]) = .returned (.tuple #[.int .u8 (digV c : Int), .bool (digK c)]) := by
  have e1 : v = (digV c : Int) := by
    unfold digV; rw [H]
    by_cases h : digN n < 16
    · rw [if_pos h, hv h]
    · rw [if_neg h, hz h]; rfl
  have e2 : b = digK c := by unfold digK; rw [H, hb]
  rw [e1, e2]

set_option maxHeartbeats 1000000 in
theorem codDigit (c : UInt8) (w : World) :
    Calls Tryz.prog 143 #[.int .u8 (c.toNat : Int)] w fun e w' => e = .returned (.tuple #[.int .u8 (digV c : Int), .bool (digK c)]) ∧ w' = w := by
  obtain ⟨n, hn⟩ : ∃ n, n = c.toNat := ⟨_, rfl⟩
  have H : Hid (digB c = digN n) := by unfold Hid digB; rw [hn]
  have h256 : n < 256 := by rw [hn]; exact c.toNat_lt
  rw [← hn]
  clear hn
  by_cases c1 : n < 48
  · have i1 : (n : Int) < 48 := by omega
    have D : Hid (digN n = 16) := by unfold Hid digN; rw [if_neg (by omega), if_neg (by omega), if_neg (by omega)]
    go_enter Tryz.func143, Tryz.ntmps143
    go_wp2
    go_ret2
    exact ⟨ret_dk H.out (fun h => absurd h (by rw [D.out]; omega)) (fun _ => rfl) (by rw [D.out]; rfl), rfl⟩
  by_cases c2 : n ≤ 57
  · have i1 : (48 : Int) ≤ (n : Int) := by omega
    have i2 : (n : Int) ≤ 57 := by omega
    obtain ⟨m, hm⟩ : ∃ m : Nat, m = n - 48 := ⟨_, rfl⟩
    have hw : IntKind.u8.wrap ((n : Int) - 48) = (m : Int) := by rw [← wrap8_nat m (by omega)]; congr 1; omega
    have D : Hid (digN n = m) := by unfold Hid digN; rw [if_pos (by omega)]; omega
    have HR : Hid (m < 16) := by unfold Hid; omega
    clear hm
    go_enter Tryz.func143, Tryz.ntmps143
    go_wp2
    go_ret2
    exact ⟨ret_dk H.out (fun _ => by rw [D.out]) (fun h => absurd (by rw [D.out]; exact HR.out) h) (by rw [D.out]; simp [HR.out]), rfl⟩
  by_cases c3 : n < 65
  · have i1 : (57 : Int) < (n : Int) := by omega
    have i2 : (n : Int) < 65 := by omega
    have D : Hid (digN n = 16) := by unfold Hid digN; rw [if_neg (by omega), if_neg (by omega), if_neg (by omega)]
    go_enter Tryz.func143, Tryz.ntmps143
    go_wp2
    go_ret2
    exact ⟨ret_dk H.out (fun h => absurd h (by rw [D.out]; omega)) (fun _ => rfl) (by rw [D.out]; rfl), rfl⟩
  by_cases c4 : n ≤ 70
  · have i1 : (65 : Int) ≤ (n : Int) := by omega
    have i2 : (n : Int) ≤ 70 := by omega
    obtain ⟨m, hm⟩ : ∃ m : Nat, m = n - 65 := ⟨_, rfl⟩
    have hw : IntKind.u8.wrap ((n : Int) - 65) = (m : Int) := by rw [← wrap8_nat m (by omega)]; congr 1; omega
    obtain ⟨q, hq⟩ : ∃ q : Nat, q = m + 10 := ⟨_, rfl⟩
    have hw2 : IntKind.u8.wrap ((m : Int) + 10) = (q : Int) := by rw [← wrap8_nat q (by omega)]; congr 1; omega
    have D : Hid (digN n = q) := by unfold Hid digN; rw [if_neg (by omega), if_neg (by omega), if_pos (by omega)]; omega
    have HR : Hid (q < 16) := by unfold Hid; omega
    clear hm hq
    go_enter Tryz.func143, Tryz.ntmps143
    go_wp2
    go_ret2
    exact ⟨ret_dk H.out (fun _ => by rw [D.out]) (fun h => absurd (by rw [D.out]; exact HR.out) h) (by rw [D.out]; simp [HR.out]), rfl⟩
  by_cases c5 : n < 97
  · have i1 : (70 : Int) < (n : Int) := by omega
    have i2 : (n : Int) < 97 := by omega
    have D : Hid (digN n = 16) := by unfold Hid digN; rw [if_neg (by omega), if_neg (by omega), if_neg (by omega)]
    go_enter Tryz.func143, Tryz.ntmps143
    go_wp2
    go_ret2
    exact ⟨ret_dk H.out (fun h => absurd h (by rw [D.out]; omega)) (fun _ => rfl) (by rw [D.out]; rfl), rfl⟩
  by_cases c6 : n ≤ 102
  · have i1 : (97 : Int) ≤ (n : Int) := by omega
    have i2 : (n : Int) ≤ 102 := by omega
    obtain ⟨m, hm⟩ : ∃ m : Nat, m = n - 97 := ⟨_, rfl⟩
    have hw : IntKind.u8.wrap ((n : Int) - 97) = (m : Int) := by rw [← wrap8_nat m (by omega)]; congr 1; omega
    obtain ⟨q, hq⟩ : ∃ q : Nat, q = m + 10 := ⟨_, rfl⟩
    have hw2 : IntKind.u8.wrap ((m : Int) + 10) = (q : Int) := by rw [← wrap8_nat q (by omega)]; congr 1; omega
    have D : Hid (digN n = q) := by unfold Hid digN; rw [if_neg (by omega), if_pos (by omega)]; omega
    have HR : Hid (q < 16) := by unfold Hid; omega
    clear hm hq
    go_enter Tryz.func143, Tryz.ntmps143
    go_wp2
    go_ret2
    exact ⟨ret_dk H.out (fun _ => by rw [D.out]) (fun h => absurd (by rw [D.out]; exact HR.out) h) (by rw [D.out]; simp [HR.out]), rfl⟩
  have i1 : (102 : Int) < (n : Int) := by omega
  have D : Hid (digN n = 16) := by unfold Hid digN; rw [if_neg (by omega), if_neg (by omega), if_neg (by omega)]
  go_enter Tryz.func143, Tryz.ntmps143
  go_wp2
  go_ret2
  exact ⟨ret_dk H.out (fun h => absurd h (by rw [D.out]; omega)) (fun _ => rfl) (by rw [D.out]; rfl), rfl⟩
end Go.Proofs.YtbknabmcelknmaaGreatDoor
