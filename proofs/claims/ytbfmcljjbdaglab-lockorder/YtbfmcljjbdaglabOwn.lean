/- Slices of bytes that a call itself makes and appends to: laws at this program's types. -/
import Derived.Test.YtbfmcljjbdaglabBits
import Derived.Deep.RegionHeld3
import Derived.Deep.AppendLies
import Derived.Deep.DrawnRows
namespace Go.Proofs.Ytbfmcljjbdaglab
open Go.RowKit

theorem info8 : (Try.prog.info? 5).map (fun i => (i.zero, i.size, i.bytes)) = some (some (.int .u8 0), 1, 1) := by kernel_rfl

/-- bytes as cells -/
def bv (l : List UInt8) : List Value := l.map fun b => .int .u8 (b.toNat : Int)
theorem bv_append (l m : List UInt8) : bv (l ++ m) = bv l ++ bv m := by simp [bv]
theorem bv_length (l : List UInt8) : (bv l).length = l.length := by simp [bv]
theorem bv_one (l : List UInt8) : ∀ u ∈ bv l, u.oneCell' = true := by
  intro u hu
  obtain ⟨b, _, rfl⟩ := List.mem_map.1 hu
  rfl
theorem bv_at (l : List UInt8) (i : Nat) (h : i < l.length) : (bv l)[i]? = some (.int .u8 ((nth l i).toNat : Int)) := by
  rw [nth_eq l i h]; simp [bv, List.getElem?_eq_getElem h]

/-- v owns the bytes l, in blocks from base on -/
def OwnB (w : World) (base : Nat) (v : Value) (l : List UInt8) : Prop := w.ownsRow base 5 1 v l.length (bv l)

theorem OwnB.nil (w : World) (base : Nat) : OwnB w base (.slice none 0 0) [] := World.ownsRow_nil _ _ _ _

theorem OwnB.heap {w w' : World} {base : Nat} {v : Value} {l : List UInt8} (h : OwnB w base v l) (e : w'.heap = w.heap) : OwnB w' base v l := by
  unfold OwnB World.ownsRow at *; rw [e]; exact h

theorem OwnB.base {w : World} {base base' : Nat} {v : Value} {l : List UInt8} (h : OwnB w base v l) (hb : base' ≤ base) : OwnB w base' v l := by
  refine ⟨h.1, ?_⟩
  rcases h.2 with h2 | ⟨g, cap, cur, h3, h4, h5⟩
  · exact .inl h2
  · exact .inr ⟨g, cap, cur, h3, Nat.le_trans hb h4, h5⟩

theorem OwnB.alloc {w : World} {base : Nat} {v : Value} {l : List UInt8} (h : OwnB w base v l) (o : Obj) : OwnB (w.alloc o) base v l := World.ownsRow.alloc h o

theorem OwnB.blk {w : World} {base : Nat} {v : Value} {l : List UInt8} (h : OwnB w base v l) : ∀ k, v.ownBlock = some k → base ≤ k ∧ k < w.heap.size := World.ownsRow.lt h

/-- as a slice of bytes -/
theorem OwnB.isB {w : World} {base : Nat} {v : Value} {l : List UInt8} (h : OwnB w base v l) : ∃ a cap, v = .slice a l.length cap ∧ IsB w a l.length cap l := by
  obtain ⟨h1, h2⟩ := h
  rcases h2 with ⟨rfl, h0⟩ | ⟨g, cap, cur, rfl, hb, hg, hle, hmax, hsz, htk⟩
  · have : l = [] := List.eq_nil_of_length_eq_zero h0
    subst this
    exact ⟨none, 0, rfl, rfl, Nat.le_refl _, Nat.zero_le _, fun _ => rfl, fun hp => absurd hp (Nat.lt_irrefl 0)⟩
  · refine ⟨_, cap, rfl, rfl, hle, hmax, fun e => (by cases e), fun hp => ⟨g, 0, rfl, fun i hi => ?_⟩⟩
    have hc := World.ownsRow.cells (w := w) (base := base) (e := 5) (size := 1) (v := .slice (some ⟨g, 0, none⟩) l.length cap) (n := l.length) (xs := bv l) ⟨h1, .inr ⟨g, cap, cur, rfl, hb, hg, hle, hmax, hsz, htk⟩⟩ (g := g) rfl i _ (bv_at l i hi)
    rw [Addr.add_lit] at hc; exact hc

/-- a byte of it; a byte of it turned -/
theorem OwnB.cellAt {w : World} {base g cap : Nat} {l : List UInt8} {n : Nat} (h : OwnB w base (.slice (some ⟨g, 0, none⟩) n cap) l) (hn : l.length = n) (j : Nat) (hj : j < n) : w.cell? ⟨g, j, none⟩ = some (.int .u8 ((nth l j).toNat : Int)) := by
  subst hn
  rw [World.ownsRow.cellAt h j (by omega), bv_at l j hj]
theorem OwnB.frozenAt {w : World} {base g cap : Nat} {l : List UInt8} {n : Nat} (h : OwnB w base (.slice (some ⟨g, 0, none⟩) n cap) l) (hn : l.length = n) (j : Nat) : w.frozen? ⟨g, j, none⟩ = false := by
  subst hn
  exact World.ownsRow.frozenAt h j
theorem OwnB.set {w : World} {base g cap : Nat} {l : List UInt8} {n : Nat} (h : OwnB w base (.slice (some ⟨g, 0, none⟩) n cap) l) (hn : l.length = n) (j : Nat) (x : UInt8) : OwnB (w.setCell ⟨g, j, none⟩ (.int .u8 (x.toNat : Int))) base (.slice (some ⟨g, 0, none⟩) n cap) (l.set j x) := by
  subst hn
  have := (World.ownsRow.stored h j (.int .u8 (x.toNat : Int))).1
  unfold OwnB
  rw [List.length_set]
  have e : bv (l.set j x) = (bv l).set j (.int .u8 (x.toNat : Int)) := by unfold bv; rw [List.map_set]
  rw [e]; exact this

/-- bytes in a block of their own -/
theorem IsB.ofBlock {w : World} {B : Nat} (l : List UInt8) (hm : l.length ≤ maxLen) (hb : w.heap[B]? = some (.cells (bv l).toArray 5 (0, 0))) : IsB w (some ⟨B, 0, none⟩) l.length l.length l :=
  ⟨rfl, Nat.le_refl _, hm, fun e => (by cases e), fun _ => ⟨B, 0, rfl, fun i hi => by
    rw [cell_of_row w B (0 + i) _ _ _ hb, Nat.zero_add]
    simpa using bv_at l i hi⟩⟩

theorem made_zeros (n : Nat) : (madeCells (Value.int .u8 0).cells (n * 1)).toList = bv (List.replicate n 0) := by
  simp only [madeCells, Value.cells, bv, List.map_replicate]
  rw [List.eq_replicate_iff]
  simp [Nat.mod_one]

end Go.Proofs.Ytbfmcljjbdaglab
