/- Slices of bytes that a call makes: appends of whatever slice, of a text; laws at this program's types. -/
import Derived.Test.YtbfmcljjbdaglabOwn
import Derived.Laws.AppendOwnNone
import Derived.Lib.AppendStr
import Derived.Lib.ConvBytes
namespace Go.Proofs.Ytbfmcljjbdaglab
open Go.RowKit

theorem OwnB.empty (w : World) (base : Nat) (hb : base ≤ w.heap.size) : OwnB (w.alloc (.cells #[] 5)) base (.slice (some ⟨w.heap.size, 0, none⟩) 0 0) [] :=
  World.ownsRow_made w #[] 0 hb (Nat.zero_le _) rfl
theorem OwnB.length_of {w : World} {base : Nat} {v : Value} {l : List UInt8} (h : OwnB w base v l) : ∃ a cap, v = .slice a l.length cap ∧ l.length ≤ cap ∧ cap ≤ maxLen := by
  obtain ⟨a, cap, e, hb⟩ := h.isB
  exact ⟨a, cap, e, hb.le, hb.max⟩

/-- a text's bytes -/
def sL (s : ByteArray) : List UInt8 := s.data.toList
theorem sL_length (s : ByteArray) : (sL s).length = s.size := by unfold sL; rw [Array.length_toList]; rfl
theorem sL_cells (s : ByteArray) : Lib.strCells s = bv (sL s) := rfl

/-- a value that is a slice of these bytes -/
def IsV (w : World) (v : Value) (l : List UInt8) : Prop := ∃ a cap, v = .slice a l.length cap ∧ IsB w a l.length cap l
theorem IsB.isV {w : World} {a : Option Addr} {len cap : Nat} {l : List UInt8} (h : IsB w a len cap l) : IsV w (.slice a len cap) l := by
  have := h.len_eq
  subst this
  exact ⟨a, cap, rfl, h⟩
theorem OwnB.isV {w : World} {base : Nat} {v : Value} {l : List UInt8} (h : OwnB w base v l) : IsV w v l := h.isB
theorem IsV.below {w w' : World} {n : Nat} {v : Value} {l : List UInt8} (h : IsV w v l) (hb : Below n w w') (hn : n = w.heap.size) : IsV w' v l := by
  obtain ⟨a, cap, e, hi⟩ := h
  exact ⟨a, cap, e, hi.below hb hn⟩
/-- nil, as bytes -/
theorem isB_none (w : World) : IsB w none 0 0 [] := ⟨rfl, Nat.le_refl _, Nat.zero_le _, fun _ => rfl, fun h => absurd h (Nat.lt_irrefl 0)⟩
theorem IsV.nil (w : World) : IsV w (.slice none 0 0) [] := (isB_none w).isV
theorem grow_bel {w w1 w2 : World} {v : Value} {l : List UInt8} (hb : Below w.heap.size w w1) (ho : OwnB w1 w.heap.size v l) (hg : w1.grownBy w2 v.ownBlock) : Below w.heap.size w w2 :=
  hb.grown hg hb.size (fun k hk => (ho.blk k hk).1)
theorem grow_bel1 {w w1 w2 : World} {o : Obj} {v : Value} {l : List UInt8} (hb : Below w.heap.size w w1) (ho : OwnB w1 w.heap.size v l) (hg : (w1.alloc o).grownBy w2 v.ownBlock) : Below w.heap.size w w2 :=
  (hb.alloc hb.size _).grown hg (by have := hb.size; simp; omega) (fun k hk => (ho.blk k hk).1)

theorem conv_str_isB (w : World) (s : ByteArray) (hm : s.size ≤ maxLen) : IsB (Lib.bytesWorld w 5 s) (some ⟨w.heap.size, 0, none⟩) s.size (grownCap w s.size 0 5) (sL s) :=
  ⟨sL_length s, grownCap_ge w s.size 0 5, grownCap_le_maxLen w s.size 0 5 hm, fun e => (by cases e), fun _ => ⟨w.heap.size, 0, rfl, fun i hi => by rw [Nat.zero_add, Lib.bytesWorld_cell w 5 s i hi]; rfl⟩⟩
theorem conv_str_bel (w : World) (s : ByteArray) : Below w.heap.size w (Lib.bytesWorld w 5 s) :=
  ⟨by rfl, by rfl, by rfl, by rw [Lib.bytesWorld_size]; omega, fun j hj => Lib.bytesWorld_at_old w 5 s j hj⟩
end Go.Proofs.Ytbfmcljjbdaglab
