/- What the document's block answers. · What the document's Hmac256 answers. -/
import Derived.Test.YtgjmaeodgcigdaaGreatDoorB10
import Derived.Test.YtgjmaeodgcigdaaGreatDoorRefSha
namespace Go.Proofs.YtgjmaeodgcigdaaGreatDoor
open Go.RowKit
attribute [local go_sem ↓] Go.wp_at_zero Go.wp_at_succ

def xor8 (a b : UInt8) : UInt8 := a ^^^ b
theorem w_xor8 (a b : UInt8) : bits .xor .u8 (a.toNat : Int) (b.toNat : Int) = ((xor8 a b).toNat : Int) := bits_xor8 a b

/-- a key as a block, each byte with another one: the first j -/
def blkTo (k : List UInt8) (x : UInt8) (j : Nat) : List UInt8 := (List.range 64).map fun i => if i < j then xor8 (nth k i) x else 0
def blkL (k : List UInt8) (x : UInt8) : List UInt8 := blkTo k x 64
theorem blkTo_length (k : List UInt8) (x : UInt8) (j : Nat) : (blkTo k x j).length = 64 := by simp [blkTo]
theorem blkL_length (k : List UInt8) (x : UInt8) : (blkL k x).length = 64 := blkTo_length k x 64
theorem blkTo_at (k : List UInt8) (x : UInt8) (j i : Nat) (h : i < 64) : nth (blkTo k x j) i = if i < j then xor8 (nth k i) x else 0 := by
  rw [nth_eq _ _ (by rw [blkTo_length]; exact h)]; simp [blkTo]
theorem ext_nth8 (l m : List UInt8) (h : l.length = m.length) (hn : ∀ k, k < l.length → nth l k = nth m k) : l = m := by
  apply List.ext_getElem h
  intro i h1 h2
  have := hn i h1
  rwa [nth_eq l i h1, nth_eq m i h2] at this
theorem blkTo_zero (k : List UInt8) (x : UInt8) : blkTo k x 0 = List.replicate 64 0 := by
  refine ext_nth8 _ _ (by rw [blkTo_length, List.length_replicate]) fun i hi => ?_
  rw [blkTo_length] at hi
  rw [blkTo_at _ _ _ _ hi, if_neg (by omega), nth_eq _ _ (by rw [List.length_replicate]; exact hi), List.getElem_replicate]
theorem nth_set8 (l : List UInt8) (j i : Nat) (x : UInt8) (h : i < l.length) : nth (l.set j x) i = if j = i then x else nth l i := by
  rw [nth_eq _ _ (by rw [List.length_set]; exact h), List.getElem_set]
  split
  · rfl
  · rw [nth_eq _ _ h]
theorem blkTo_succ (k : List UInt8) (x : UInt8) (j : Nat) : (blkTo k x j).set j (xor8 (nth k j) x) = blkTo k x (j + 1) := by
  refine ext_nth8 _ _ (by rw [List.length_set, blkTo_length, blkTo_length]) fun i hi => ?_
  rw [List.length_set, blkTo_length] at hi
  rw [nth_set8 _ _ _ _ (by rw [blkTo_length]; exact hi), blkTo_at _ _ _ _ hi, blkTo_at _ _ _ _ hi]
  by_cases e : j = i
  · subst e; rw [if_pos rfl, if_pos (by omega)]
  · rw [if_neg e]
    by_cases h : i < j
    · rw [if_pos h, if_pos (by omega)]
    · rw [if_neg h, if_neg (by omega)]
theorem blkTo_set2 (k : List UInt8) (x y : UInt8) (j : Nat) : ((blkTo k x j).set j y).set j (xor8 (nth k j) x) = blkTo k x (j + 1) := by
  rw [List.set_set, blkTo_succ]
theorem nth_over (l : List UInt8) (j : Nat) (h : l.length ≤ j) : nth l j = 0 := by
  unfold nth; rw [List.getD_eq_getElem?_getD, List.getElem?_eq_none h]; rfl

theorem set_bel (w : World) (B j : Nat) (v : Value) {n : Nat} (h : n ≤ B) : Below n w (w.setCell ⟨B, j, none⟩ v) :=
  ⟨rfl, rfl, rfl, by simp [World.setCell], fun k hk => Below.heap_setCell _ _ _ _ (fun e => by simp only at e; omega)⟩

set_option maxRecDepth 20000 in
set_option maxHeartbeats 1000000 in
theorem refBlock (a : Option Addr) (len cap : Nat) (k : List UInt8) (x : UInt8) (w : World) (h : IsB w a len cap k) :
    Calls Tryz.prog 105 #[.slice a len cap, .int .u8 (x.toNat : Int)] w fun e w' => ∃ v, e = .returned v ∧ OwnB w' w.heap.size v (blkL k x) ∧ Below w.heap.size w w' := by
  have H : Hid (IsB w a len cap k) := h
  have HE : Hid (k.length = len) := h.len_eq
  have hle := h.le
  have hmx := h.max
  unfold maxLen at hmx
  clear h
  go_enter Tryz.func105, Tryz.ntmps105
  go_wp2_with (at_make; refine make_full8 _ rfl _ _ rfl w.heap.size .i64 .i64 _ _ 64 rfl rfl rfl rfl (by omega) (Nat.le_refl _) ?_; intro w1 hown1 hgrow1)
  have hbel1 : Below w.heap.size w w1 := (Below.refl _ _).grown hgrow1 (Nat.le_refl _) (fun k h => by cases h)
  have hown0 : OwnB w1 w.heap.size (.slice (some ⟨w.heap.size, 0, none⟩) 64 64) (blkTo k x 0) := by rw [blkTo_zero]; exact hown1
  clear hown1 hgrow1
  go_loopw [6] (fun i wr => ∃ j : Nat, j ≤ 64 ∧ i = .int .i64 (j : Int) ∧ Hid (OwnB wr w.heap.size (.slice (some ⟨w.heap.size, 0, none⟩) 64 64) (blkTo k x j)) ∧ Below w.heap.size w wr) (fun i _ => 64 - (intOf i).toNat)
  case atStart => exact ⟨0, by omega, rfl, hown0, hbel1⟩
  case round =>
    clear hown0 hbel1
    obtain ⟨j, hj, rfl, hown, hbel⟩ := hrel
    by_cases hlt : j < 64
    · have hj64 : (j : Int) < 64 := by omega
      have HS : Hid (∀ y, ((blkTo k x j).set j y).set j (xor8 (nth k j) x) = blkTo k x (j + 1)) := fun y => blkTo_set2 k x y j
      have HS1 : Hid ((blkTo k x j).set j (xor8 (nth k j) x) = blkTo k x (j + 1)) := blkTo_succ k x j
      have c0 := hown.out.cellAt (blkTo_length k x j) j hlt
      rw [blkTo_at _ _ _ _ hlt, if_neg (by omega)] at c0
      have f0 := hown.out.frozenAt (blkTo_length k x j) j
      by_cases hk : j < len
      · obtain ⟨b, off, rfl, hc⟩ := H.out.cells (by omega)
        have g0 := hc j hk
        have gb : b < w.heap.size := cell_lt g0
        have g := (hbel.cell (p := ⟨b, off + j, none⟩) gb).trans g0
        have hk' : (j : Int) < (len : Int) := by omega
        have hx := w_xor8 (nth k j) x
        have HO1 := OwnB.set hown.out (blkTo_length k x j) j (nth k j)
        have HO2 : Hid (OwnB ((wr.setCell ⟨w.heap.size, j, none⟩ (.int .u8 ((nth k j).toNat : Int))).setCell ⟨w.heap.size, j, none⟩ (.int .u8 ((xor8 (nth k j) x).toNat : Int))) w.heap.size (.slice (some ⟨w.heap.size, 0, none⟩) 64 64) (blkTo k x (j + 1))) := by
          have := OwnB.set HO1 (by rw [List.length_set, blkTo_length]) j (xor8 (nth k j) x)
          rw [HS.out] at this; exact this
        clear hc g0 HO1 hown
        have hb2 : Below w.heap.size w ((wr.setCell ⟨w.heap.size, j, none⟩ (.int .u8 ((nth k j).toNat : Int))).setCell ⟨w.heap.size, j, none⟩ (.int .u8 ((xor8 (nth k j) x).toNat : Int))) := (hbel.trans (set_bel _ _ _ _ (Nat.le_refl _))).trans (set_bel _ _ _ _ (Nat.le_refl _))
        go_wp2
        exact ⟨⟨j + 1, by omega, by go_num, HO2, hb2⟩, by simp [intOf]; omega⟩
      · have hk' : ¬ (j : Int) < (len : Int) := by omega
        have hz : nth k j = 0 := nth_over k j (by rw [HE.out]; omega)
        have hx := w_xor8 0 x
        have HO1 : Hid (OwnB (wr.setCell ⟨w.heap.size, j, none⟩ (.int .u8 ((xor8 0 x).toNat : Int))) w.heap.size (.slice (some ⟨w.heap.size, 0, none⟩) 64 64) (blkTo k x (j + 1))) := by
          have := OwnB.set hown.out (blkTo_length k x j) j (xor8 (nth k j) x)
          rw [HS1.out, hz] at this; exact this
        have hb1 : Below w.heap.size w (wr.setCell ⟨w.heap.size, j, none⟩ (.int .u8 ((xor8 0 x).toNat : Int))) := hbel.trans (set_bel _ _ _ _ (Nat.le_refl _))
        have hx0 : bits .xor .u8 0 (x.toNat : Int) = ((xor8 0 x).toNat : Int) := hx
        have c0' : wr.cell? ⟨w.heap.size, j, none⟩ = some (.int .u8 0) := c0
        clear c0 hz hx hown HS HS1
        go_wp2
        exact ⟨⟨j + 1, by omega, by go_num, HO1, hb1⟩, by simp [intOf]; omega⟩
    · have e : j = 64 := by omega
      have HO : Hid (OwnB wr w.heap.size (.slice (some ⟨w.heap.size, 0, none⟩) 64 64) (blkL k x)) := by
        have := hown.out
        rw [e] at this; exact this
      have hj64 : ¬ (j : Int) < 64 := by omega
      clear hown e
      go_wp2
      go_ret
      exact ⟨_, rfl, HO.out, hbel⟩
theorem OwnB.below {w w' : World} {base : Nat} {v : Value} {l : List UInt8} (h : OwnB w base v l) (hb : Below w.heap.size w w') : OwnB w' base v l := by
  have hk := h.blk
  refine ⟨h.1, ?_⟩
  rcases h.2 with h2 | ⟨g, cap, cur, h3, h4, h5, h6⟩
  · exact .inl h2
  · exact .inr ⟨g, cap, cur, h3, h4, by rw [hb.block g (hk g (by rw [h3]; rfl)).2]; exact h5, h6⟩

/-- the HMAC by a digest -/
def hkey (H : List UInt8 → List UInt8) (key : List UInt8) : List UInt8 := if 64 < key.length then H key else key
def hmL (H : List UInt8 → List UInt8) (key l : List UInt8) : List UInt8 := H (blkL (hkey H key) 92 ++ H (blkL (hkey H key) 54 ++ l))

end Go.Proofs.YtgjmaeodgcigdaaGreatDoor
namespace Go.Proofs.YtgjmaeodgcigdaaGreatDoor
open Go.RowKit

theorem sha256L_length (l : List UInt8) : (sha256L l).length = 32 := by unfold sha256L hashL; rw [outB_length]

set_option maxRecDepth 20000 in
set_option maxHeartbeats 1000000 in
theorem refHmac256 (a : Option Addr) (len cap : Nat) (key : List UInt8) (a1 : Option Addr) (len1 cap1 : Nat) (l : List UInt8) (w : World) (h : IsB w a len cap key) (h1 : IsB w a1 len1 cap1 l) (hn : len < 1073741824) (hn1 : len1 < 1073741824) :
    Calls Tryz.prog 54 #[.slice a len cap, .slice a1 len1 cap1] w fun e w' => ∃ v, e = .returned v ∧ OwnB w' w.heap.size v (hmL sha256L key l) ∧ Below w.heap.size w w' := by
  have H : Hid (IsB w a len cap key) := h
  have H1 : Hid (IsB w a1 len1 cap1 l) := h1
  have HE : Hid (key.length = len) := h.len_eq
  have HE1 : Hid (l.length = len1) := h1.len_eq
  clear h h1
  by_cases hk : 64 < len
  · have hk' : (64 : Int) < (len : Int) := by omega
    have HK : Hid (hkey sha256L key = sha256L key) := by unfold Hid hkey; rw [HE.out, if_pos hk]
    go_enter Tryz.func54, Tryz.ntmps54
    go_wp2_with fail
    refine (refSha256 a len cap key w H.out (by omega)).mono ?_
    rintro e y0 ⟨v0, rfl, o0, t0⟩
    obtain ⟨xk, ck, rfl, ik⟩ := o0.isB
    have IK : Hid (IsB y0 xk (sha256L key).length ck (hkey sha256L key)) := by rw [HK.out]; exact ik
    clear ik o0
    generalize (sha256L key).length = nk at *
    have B0 : Hid (IsB y0 a1 len1 cap1 l) := H1.out.below t0 rfl
    go_wp2_with fail
    refine (refBlock xk nk ck (hkey sha256L key) 92 y0 IK.out).mono ?_
    rintro e y1 ⟨v1, rfl, o1, c1⟩
    have IK1 : Hid (IsB y1 xk nk ck (hkey sha256L key)) := IK.out.below c1 rfl
    have B1 : Hid (IsB y1 a1 len1 cap1 l) := B0.out.below c1 rfl
    have t1 : Below w.heap.size w y1 := t0.trans (c1.mono t0.size)
    clear IK B0
    go_wp2_with fail
    refine (refBlock xk nk ck (hkey sha256L key) 54 y1 IK1.out).mono ?_
    rintro e y2 ⟨v2, rfl, o2, c2⟩
    have B2 : Hid (IsB y2 a1 len1 cap1 l) := B1.out.below c2 rfl
    have l2 : Hid ((blkL (hkey sha256L key) 54).length = 64) := blkL_length _ _
    have l1 : Hid ((blkL (hkey sha256L key) 92).length = 64) := blkL_length _ _
    go_wp2_with (at_builtin; refine list_appS _ rfl (.tmp 13) (.tmp 14) rfl y1.heap.size v2 (blkL (hkey sha256L key) 54) rfl o2 a1 len1 cap1 l rfl B2.out (by rw [l2.out]; omega) c2.size ?_; intro v3 y3 o3 g3)
    have c3 : Below y1.heap.size y1 y3 := c2.grown g3 c2.size (fun k hk => (o2.blk k hk).1)
    obtain ⟨x3, q3, rfl, i3⟩ := o3.isB
    have I3 : Hid (IsB y3 x3 (blkL (hkey sha256L key) 54 ++ l).length q3 (blkL (hkey sha256L key) 54 ++ l)) := i3
    have hl3 : (blkL (hkey sha256L key) 54 ++ l).length < 4294967296 := by rw [List.length_append, l2.out, HE1.out]; omega
    clear i3 o3 o2 g3 IK1 B1 B2
    generalize (blkL (hkey sha256L key) 54 ++ l).length = n3 at *
    refine (refSha256 x3 n3 q3 _ y3 I3.out hl3).mono ?_
    rintro e y4 ⟨v4, rfl, o4, c4⟩
    have c34 : Below y1.heap.size y1 y4 := c3.trans (c4.mono c3.size)
    have o1' : OwnB y4 y0.heap.size v1 (blkL (hkey sha256L key) 92) := o1.below c34
    have t4 : Below y0.heap.size y0 y4 := c1.trans (c34.mono c1.size)
    obtain ⟨x4, q4, rfl, i4⟩ := o4.isB
    have I4 : Hid (IsB y4 x4 (sha256L (blkL (hkey sha256L key) 54 ++ l)).length q4 (sha256L (blkL (hkey sha256L key) 54 ++ l))) := i4
    have hl4 : (sha256L (blkL (hkey sha256L key) 54 ++ l)).length = 32 := sha256L_length _
    rw [hl4] at I4 ⊢
    clear i4 o4 I3 hl4
    go_wp2_with (at_builtin; refine list_appS _ rfl (.tmp 11) (.tmp 16) rfl y0.heap.size v1 (blkL (hkey sha256L key) 92) rfl o1' x4 32 q4 (sha256L (blkL (hkey sha256L key) 54 ++ l)) rfl I4.out (by rw [l1.out]; omega) t4.size ?_; intro v5 y5 o5 g5)
    have t5 : Below y0.heap.size y0 y5 := t4.grown g5 t4.size (fun k hk => (o1'.blk k hk).1)
    have T5 : Below w.heap.size w y5 := t0.trans (t5.mono t0.size)
    obtain ⟨x5, q5, rfl, i5⟩ := o5.isB
    have I5 : Hid (IsB y5 x5 (blkL (hkey sha256L key) 92 ++ sha256L (blkL (hkey sha256L key) 54 ++ l)).length q5 (blkL (hkey sha256L key) 92 ++ sha256L (blkL (hkey sha256L key) 54 ++ l))) := i5
    have hl5 : (blkL (hkey sha256L key) 92 ++ sha256L (blkL (hkey sha256L key) 54 ++ l)).length < 4294967296 := by rw [List.length_append, l1.out, sha256L_length]; omega
    clear i5 o5 g5 I4 o1 o1'
    generalize (blkL (hkey sha256L key) 92 ++ sha256L (blkL (hkey sha256L key) 54 ++ l)).length = n5 at *
    refine (refSha256 x5 n5 q5 _ y5 I5.out hl5).mono ?_
    rintro e y6 ⟨v6, rfl, o6, c6⟩
    go_wp2_with fail
    go_ret
    exact ⟨_, rfl, o6.base T5.size, T5.trans (c6.mono T5.size)⟩
  · have hk' : ¬ (64 : Int) < (len : Int) := by omega
    have HK : Hid (hkey sha256L key = key) := by unfold Hid hkey; rw [HE.out, if_neg hk]
    have t0 : Below w.heap.size w w := Below.refl _ _
    have IK : Hid (IsB w a len cap (hkey sha256L key)) := by rw [HK.out]; exact H.out
    have B0 : Hid (IsB w a1 len1 cap1 l) := H1.out
    clear H H1
    go_enter Tryz.func54, Tryz.ntmps54
    go_wp2_with fail
    refine (refBlock a len cap (hkey sha256L key) 92 w IK.out).mono ?_
    rintro e y1 ⟨v1, rfl, o1, c1⟩
    have IK1 : Hid (IsB y1 a len cap (hkey sha256L key)) := IK.out.below c1 rfl
    have B1 : Hid (IsB y1 a1 len1 cap1 l) := B0.out.below c1 rfl
    have t1 : Below w.heap.size w y1 := t0.trans (c1.mono t0.size)
    clear IK B0
    go_wp2_with fail
    refine (refBlock a len cap (hkey sha256L key) 54 y1 IK1.out).mono ?_
    rintro e y2 ⟨v2, rfl, o2, c2⟩
    have B2 : Hid (IsB y2 a1 len1 cap1 l) := B1.out.below c2 rfl
    have l2 : Hid ((blkL (hkey sha256L key) 54).length = 64) := blkL_length _ _
    have l1 : Hid ((blkL (hkey sha256L key) 92).length = 64) := blkL_length _ _
    go_wp2_with (at_builtin; refine list_appS _ rfl (.tmp 13) (.tmp 14) rfl y1.heap.size v2 (blkL (hkey sha256L key) 54) rfl o2 a1 len1 cap1 l rfl B2.out (by rw [l2.out]; omega) c2.size ?_; intro v3 y3 o3 g3)
    have c3 : Below y1.heap.size y1 y3 := c2.grown g3 c2.size (fun k hk => (o2.blk k hk).1)
    obtain ⟨x3, q3, rfl, i3⟩ := o3.isB
    have I3 : Hid (IsB y3 x3 (blkL (hkey sha256L key) 54 ++ l).length q3 (blkL (hkey sha256L key) 54 ++ l)) := i3
    have hl3 : (blkL (hkey sha256L key) 54 ++ l).length < 4294967296 := by rw [List.length_append, l2.out, HE1.out]; omega
    clear i3 o3 o2 g3 IK1 B1 B2
    generalize (blkL (hkey sha256L key) 54 ++ l).length = n3 at *
    refine (refSha256 x3 n3 q3 _ y3 I3.out hl3).mono ?_
    rintro e y4 ⟨v4, rfl, o4, c4⟩
    have c34 : Below y1.heap.size y1 y4 := c3.trans (c4.mono c3.size)
    have o1' : OwnB y4 w.heap.size v1 (blkL (hkey sha256L key) 92) := o1.below c34
    have t4 : Below w.heap.size w y4 := c1.trans (c34.mono c1.size)
    obtain ⟨x4, q4, rfl, i4⟩ := o4.isB
    have I4 : Hid (IsB y4 x4 (sha256L (blkL (hkey sha256L key) 54 ++ l)).length q4 (sha256L (blkL (hkey sha256L key) 54 ++ l))) := i4
    have hl4 : (sha256L (blkL (hkey sha256L key) 54 ++ l)).length = 32 := sha256L_length _
    rw [hl4] at I4 ⊢
    clear i4 o4 I3 hl4
    go_wp2_with (at_builtin; refine list_appS _ rfl (.tmp 11) (.tmp 16) rfl w.heap.size v1 (blkL (hkey sha256L key) 92) rfl o1' x4 32 q4 (sha256L (blkL (hkey sha256L key) 54 ++ l)) rfl I4.out (by rw [l1.out]; omega) t4.size ?_; intro v5 y5 o5 g5)
    have t5 : Below w.heap.size w y5 := t4.grown g5 t4.size (fun k hk => (o1'.blk k hk).1)
    have T5 : Below w.heap.size w y5 := t0.trans (t5.mono t0.size)
    obtain ⟨x5, q5, rfl, i5⟩ := o5.isB
    have I5 : Hid (IsB y5 x5 (blkL (hkey sha256L key) 92 ++ sha256L (blkL (hkey sha256L key) 54 ++ l)).length q5 (blkL (hkey sha256L key) 92 ++ sha256L (blkL (hkey sha256L key) 54 ++ l))) := i5
    have hl5 : (blkL (hkey sha256L key) 92 ++ sha256L (blkL (hkey sha256L key) 54 ++ l)).length < 4294967296 := by rw [List.length_append, l1.out, sha256L_length]; omega
    clear i5 o5 g5 I4 o1 o1'
    generalize (blkL (hkey sha256L key) 92 ++ sha256L (blkL (hkey sha256L key) 54 ++ l)).length = n5 at *
    refine (refSha256 x5 n5 q5 _ y5 I5.out hl5).mono ?_
    rintro e y6 ⟨v6, rfl, o6, c6⟩
    go_wp2_with fail
    go_ret
    exact ⟨_, rfl, o6.base T5.size, T5.trans (c6.mono T5.size)⟩
end Go.Proofs.YtgjmaeodgcigdaaGreatDoor
