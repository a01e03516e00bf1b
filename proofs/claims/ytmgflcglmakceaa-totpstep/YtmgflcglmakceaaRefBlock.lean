/- What the document's block answers. -/
import Derived.Test.YtmgflcglmakceaaRefPad
namespace Go.Proofs.Ytmgflcglmakceaa
open Go.RowKit
attribute [local go_sem ↓] Go.wp_at_zero Go.wp_at_succ

def xor8 (a b : UInt8) : UInt8 := a ^^^ b
theorem w_xor8 (a b : UInt8) : bits .xor .u8 (a.toNat : Int) (b.toNat : Int) = ((xor8 a b).toNat : Int) := bits_xor8 a b

/-- a key as a block, each byte with another one: the first j -/
def blkTo (k : List UInt8) (x : UInt8) (j : Nat) : List UInt8 := (List.range 64).map fun i => if i < j then xor8 (nth k i) x else 0
def blkL (k : List UInt8) (x : UInt8) : List UInt8 := blkTo k x 64
theorem blkTo_length (k : List UInt8) (x : UInt8) (j : Nat) : (blkTo k x j).length = 64 := by simp [blkTo]
theorem blkL_length (k : List UInt8) (x : UInt8) : (blkL k x).length = 64 := blkTo_length k x 64
theorem blkTo_at (k : List UInt8) (x : UInt8) (j i : Nat) (h : i < 64) : nth (blkTo k x j) i = if i < j then xor8 (nth k i) x else 0 := by
  rw [nth_eq _ _ (by rw [blkTo_length]; exact h)]; simp [blkTo]
theorem ext_nth8 (l m : List UInt8) (h : l.length = m.length) (hn : ∀ k, k < l.length → nth l k = nth m k) : l = m := by
  apply List.ext_getElem h
  intro i h1 h2
  have := hn i h1
  rwa [nth_eq l i h1, nth_eq m i h2] at this
theorem blkTo_zero (k : List UInt8) (x : UInt8) : blkTo k x 0 = List.replicate 64 0 := by
  refine ext_nth8 _ _ (by rw [blkTo_length, List.length_replicate]) fun i hi => ?_
  rw [blkTo_length] at hi
  rw [blkTo_at _ _ _ _ hi, if_neg (by omega), nth_eq _ _ (by rw [List.length_replicate]; exact hi), List.getElem_replicate]
theorem nth_set8 (l : List UInt8) (j i : Nat) (x : UInt8) (h : i < l.length) : nth (l.set j x) i = if j = i then x else nth l i := by
  rw [nth_eq _ _ (by rw [List.length_set]; exact h), List.getElem_set]
  split
  · rfl
  · rw [nth_eq _ _ h]
theorem blkTo_succ (k : List UInt8) (x : UInt8) (j : Nat) : (blkTo k x j).set j (xor8 (nth k j) x) = blkTo k x (j + 1) := by
  refine ext_nth8 _ _ (by rw [List.length_set, blkTo_length, blkTo_length]) fun i hi => ?_
  rw [List.length_set, blkTo_length] at hi
  rw [nth_set8 _ _ _ _ (by rw [blkTo_length]; exact hi), blkTo_at _ _ _ _ hi, blkTo_at _ _ _ _ hi]
  by_cases e : j = i
  · subst e; rw [if_pos rfl, if_pos (by omega)]
  · rw [if_neg e]
    by_cases h : i < j
    · rw [if_pos h, if_pos (by omega)]
    · rw [if_neg h, if_neg (by omega)]
theorem blkTo_set2 (k : List UInt8) (x y : UInt8) (j : Nat) : ((blkTo k x j).set j y).set j (xor8 (nth k j) x) = blkTo k x (j + 1) := by
  rw [List.set_set, blkTo_succ]
theorem nth_over (l : List UInt8) (j : Nat) (h : l.length ≤ j) : nth l j = 0 := by
  unfold nth; rw [List.getD_eq_getElem?_getD, List.getElem?_eq_none h]; rfl

theorem set_bel (w : World) (B j : Nat) (v : Value) {n : Nat} (h : n ≤ B) : Below n w (w.setCell ⟨B, j, none⟩ v) :=
  ⟨rfl, rfl, rfl, by simp [World.setCell], fun k hk => Below.heap_setCell _ _ _ _ (fun e => by simp only at e; omega)⟩

set_option maxRecDepth 20000 in
set_option maxHeartbeats 1000000 in
theorem refBlock (a : Option Addr) (len cap : Nat) (k : List UInt8) (x : UInt8) (w : World) (h : IsB w a len cap k) :
    Calls Try.prog 32 #[.slice a len cap, .int .u8 (x.toNat : Int)] w fun e w' => ∃ v, e = .returned v ∧ OwnB w' w.heap.size v (blkL k x) ∧ Below w.heap.size w w' := by
  have H : Hid (IsB w a len cap k) := h
  have HE : Hid (k.length = len) := h.len_eq
  have hle := h.le
  have hmx := h.max
  unfold maxLen at hmx
  clear h
  go_enter Try.func32, Try.ntmps32
  go_wp2_with (at_make; refine make_full8 _ rfl _ _ rfl w.heap.size .i64 .i64 _ _ 64 rfl rfl rfl rfl (by omega) (Nat.le_refl _) ?_; intro w1 hown1 hgrow1)
  have hbel1 : Below w.heap.size w w1 := (Below.refl _ _).grown hgrow1 (Nat.le_refl _) (fun k h => by cases h)
  have hown0 : OwnB w1 w.heap.size (.slice (some ⟨w.heap.size, 0, none⟩) 64 64) (blkTo k x 0) := by rw [blkTo_zero]; exact hown1
  clear hown1 hgrow1
  go_loopw [6] (fun i wr => ∃ j : Nat, j ≤ 64 ∧ i = .int .i64 (j : Int) ∧ Hid (OwnB wr w.heap.size (.slice (some ⟨w.heap.size, 0, none⟩) 64 64) (blkTo k x j)) ∧ Below w.heap.size w wr) (fun i _ => 64 - (intOf i).toNat)
  case atStart => exact ⟨0, by omega, rfl, hown0, hbel1⟩
  case round =>
    clear hown0 hbel1
    obtain ⟨j, hj, rfl, hown, hbel⟩ := hrel
    by_cases hlt : j < 64
    · have hj64 : (j : Int) < 64 := by omega
      have HS : Hid (∀ y, ((blkTo k x j).set j y).set j (xor8 (nth k j) x) = blkTo k x (j + 1)) := fun y => blkTo_set2 k x y j
      have HS1 : Hid ((blkTo k x j).set j (xor8 (nth k j) x) = blkTo k x (j + 1)) := blkTo_succ k x j
      have c0 := hown.out.cellAt (blkTo_length k x j) j hlt
      rw [blkTo_at _ _ _ _ hlt, if_neg (by omega)] at c0
      have f0 := hown.out.frozenAt (blkTo_length k x j) j
      by_cases hk : j < len
      · obtain ⟨b, off, rfl, hc⟩ := H.out.cells (by omega)
        have g0 := hc j hk
        have gb : b < w.heap.size := cell_lt g0
        have g := (hbel.cell (p := ⟨b, off + j, none⟩) gb).trans g0
        have hk' : (j : Int) < (len : Int) := by omega
        have hx := w_xor8 (nth k j) x
        have HO1 := OwnB.set hown.out (blkTo_length k x j) j (nth k j)
        have HO2 : Hid (OwnB ((wr.setCell ⟨w.heap.size, j, none⟩ (.int .u8 ((nth k j).toNat : Int))).setCell ⟨w.heap.size, j, none⟩ (.int .u8 ((xor8 (nth k j) x).toNat : Int))) w.heap.size (.slice (some ⟨w.heap.size, 0, none⟩) 64 64) (blkTo k x (j + 1))) := by
          have := OwnB.set HO1 (by rw [List.length_set, blkTo_length]) j (xor8 (nth k j) x)
          rw [HS.out] at this; exact this
        clear hc g0 HO1 hown
        have hb2 : Below w.heap.size w ((wr.setCell ⟨w.heap.size, j, none⟩ (.int .u8 ((nth k j).toNat : Int))).setCell ⟨w.heap.size, j, none⟩ (.int .u8 ((xor8 (nth k j) x).toNat : Int))) := (hbel.trans (set_bel _ _ _ _ (Nat.le_refl _))).trans (set_bel _ _ _ _ (Nat.le_refl _))
        go_wp2
        exact ⟨⟨j + 1, by omega, by go_num, HO2, hb2⟩, by simp [intOf]; omega⟩
      · have hk' : ¬ (j : Int) < (len : Int) := by omega
        have hz : nth k j = 0 := nth_over k j (by rw [HE.out]; omega)
        have hx := w_xor8 0 x
        have HO1 : Hid (OwnB (wr.setCell ⟨w.heap.size, j, none⟩ (.int .u8 ((xor8 0 x).toNat : Int))) w.heap.size (.slice (some ⟨w.heap.size, 0, none⟩) 64 64) (blkTo k x (j + 1))) := by
          have := OwnB.set hown.out (blkTo_length k x j) j (xor8 (nth k j) x)
          rw [HS1.out, hz] at this; exact this
        have hb1 : Below w.heap.size w (wr.setCell ⟨w.heap.size, j, none⟩ (.int .u8 ((xor8 0 x).toNat : Int))) := hbel.trans (set_bel _ _ _ _ (Nat.le_refl _))
        have hx0 : bits .xor .u8 0 (x.toNat : Int) = ((xor8 0 x).toNat : Int) := hx
        have c0' : wr.cell? ⟨w.heap.size, j, none⟩ = some (.int .u8 0) := c0
        clear c0 hz hx hown HS HS1
        go_wp2
        exact ⟨⟨j + 1, by omega, by go_num, HO1, hb1⟩, by simp [intOf]; omega⟩
    · have e : j = 64 := by omega
      have HO : Hid (OwnB wr w.heap.size (.slice (some ⟨w.heap.size, 0, none⟩) 64 64) (blkL k x)) := by
        have := hown.out
        rw [e] at this; exact this
      have hj64 : ¬ (j : Int) < 64 := by omega
      clear hown e
      go_wp2
      go_ret
      exact ⟨_, rfl, HO.out, hbel⟩
theorem OwnB.below {w w' : World} {base : Nat} {v : Value} {l : List UInt8} (h : OwnB w base v l) (hb : Below w.heap.size w w') : OwnB w' base v l := by
  have hk := h.blk
  refine ⟨h.1, ?_⟩
  rcases h.2 with h2 | ⟨g, cap, cur, h3, h4, h5, h6⟩
  · exact .inl h2
  · exact .inr ⟨g, cap, cur, h3, h4, by rw [hb.block g (hk g (by rw [h3]; rfl)).2]; exact h5, h6⟩

/-- the HMAC by a digest -/
def hkey (H : List UInt8 → List UInt8) (key : List UInt8) : List UInt8 := if 64 < key.length then H key else key
def hmL (H : List UInt8 → List UInt8) (key l : List UInt8) : List UInt8 := H (blkL (hkey H key) 92 ++ H (blkL (hkey H key) 54 ++ l))

end Go.Proofs.Ytmgflcglmakceaa
