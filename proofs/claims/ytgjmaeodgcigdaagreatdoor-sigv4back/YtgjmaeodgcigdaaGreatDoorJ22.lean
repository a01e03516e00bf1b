/- A constant text as bytes. A text of any bytes. Bytes that a call made, also out of a text: what is appended to them. -/
import Derived.Test.YtgjmaeodgcigdaaGreatDoorJ3
import Derived.Lib.SlBytesConst
import Derived.Test.YtgjmaeodgcigdaaGreatDoorJ9
import Derived.Test.YtgjmaeodgcigdaaGreatDoorJ1
import Derived.Test.YtgjmaeodgcigdaaGreatDoorJ20
import Derived.Deep.Upon
namespace Go.Proofs.YtgjmaeodgcigdaaGreatDoor
open Go.RowKit

theorem isB_marked (w : World) (l : List UInt8) (fr : Nat × Nat) (hm : l.length ≤ maxLen) : IsB (w.alloc (.cells (bv l).toArray 5 fr)) (some ⟨w.heap.size, 0, none⟩) l.length l.length l :=
  ⟨rfl, Nat.le_refl _, hm, (fun e => by cases e), fun _ => ⟨w.heap.size, 0, rfl, fun i hi => by
    have h := bv_at l i hi
    have hh : (w.alloc (.cells (bv l).toArray 5 fr)).heap[w.heap.size]? = some (.cells (bv l).toArray 5 fr) := by
      show (w.heap.push _)[w.heap.size]? = _
      simp
    rw [Nat.zero_add]
    unfold World.cell?
    dsimp only
    rw [hh]
    simpa using h⟩⟩
end Go.Proofs.YtgjmaeodgcigdaaGreatDoor
namespace Go.Proofs.YtgjmaeodgcigdaaGreatDoor
open Go.RowKit

theorem conv_isB (w : World) (a : Option Addr) (len cap : Nat) (l : List UInt8) (hb : IsB w a len cap l) : (convert 23 9 (.slice a len cap)).run Tryz.prog w = .ok (.string (str l)) w := by
  have hlen := hb.len_eq
  subst hlen
  by_cases hl : 0 < l.length
  · obtain ⟨b, off, rfl, hc⟩ := hb.cells hl
    refine run_convert_bytes_back w 23 9 5 ⟨b, off, none⟩ cap l Tryz.underlying23 Tryz.underlying5 Tryz.underlying9 fun j hj => ?_
    rw [Addr.add_lit, hc j hj, nth_eq l j hj]
  · have : l = [] := List.eq_nil_of_length_eq_zero (by omega)
    subst this
    cases a with
    | none => exact run_convert_bytes_nil w 23 5 Tryz.underlying23 Tryz.underlying5 _ _ _ Tryz.underlying9
    | some x => exact run_convert_bytes_back w 23 9 5 x cap [] Tryz.underlying23 Tryz.underlying5 Tryz.underlying9 fun j hj => absurd hj (Nat.not_lt_zero _)
theorem sL_str (l : List UInt8) : sL (str l) = l := by unfold sL str; simp
end Go.Proofs.YtgjmaeodgcigdaaGreatDoor
namespace Go.Proofs.YtgjmaeodgcigdaaGreatDoor
open Go.RowKit

/-- v owns the bytes l, in a block from base on: told by its cells -/
def OwnX (w : World) (base : Nat) (v : Value) (l : List UInt8) : Prop :=
  ∃ g cap, v = .slice (some ⟨g, 0, none⟩) l.length cap ∧ base ≤ g ∧ l.length ≤ cap ∧ cap ≤ maxLen ∧ g < w.heap.size ∧ (∀ j, j < l.length → w.cell? ⟨g, j, none⟩ = (bv l)[j]?) ∧
    ∀ j, j < cap → (w.cell? ⟨g, j, none⟩).isSome = true ∧ w.frozen? ⟨g, j, none⟩ = false
theorem OwnX.isB {w : World} {base : Nat} {v : Value} {l : List UInt8} (h : OwnX w base v l) : ∃ a cap, v = .slice a l.length cap ∧ IsB w a l.length cap l := by
  obtain ⟨g, cap, rfl, _, hle, hmx, _, hc, _⟩ := h
  exact ⟨_, cap, rfl, rfl, hle, hmx, fun e => (by cases e), fun _ => ⟨g, 0, rfl, fun i hi => by rw [Nat.zero_add, hc i hi]; exact bv_at l i hi⟩⟩
theorem OwnX.isV {w : World} {base : Nat} {v : Value} {l : List UInt8} (h : OwnX w base v l) : IsV w v l := h.isB
theorem OwnX.blk {w : World} {base : Nat} {v : Value} {l : List UInt8} (h : OwnX w base v l) : ∀ k, v.ownBlock = some k → base ≤ k ∧ k < w.heap.size := by
  obtain ⟨g, cap, rfl, hb, _, _, hg, _⟩ := h
  intro k hk
  have : g = k := by simpa [Value.ownBlock] using hk
  subst this
  exact ⟨hb, hg⟩
theorem OwnX.on {w w' : World} {base : Nat} {v : Value} {l : List UInt8} (h : OwnX w base v l) (hb : Below w.heap.size w w') : OwnX w' base v l := by
  obtain ⟨g, cap, rfl, h1, h2, h3, h4, h5, h6⟩ := h
  have hg := hb.block g h4
  refine ⟨g, cap, rfl, h1, h2, h3, Nat.lt_of_lt_of_le h4 hb.size, fun j hj => ?_, fun j hj => ?_⟩
  · rw [World.cell?_of_block (a := ⟨g, j, none⟩) hg]; exact h5 j hj
  · rw [World.cell?_of_block (a := ⟨g, j, none⟩) hg, World.frozen?_of_block (a := ⟨g, j, none⟩) hg]; exact h6 j hj
theorem OwnX.base {w : World} {b b' : Nat} {v : Value} {l : List UInt8} (h : OwnX w b v l) (hb : b' ≤ b) : OwnX w b' v l := by
  obtain ⟨g, cap, rfl, h1, h2⟩ := h
  exact ⟨g, cap, rfl, Nat.le_trans hb h1, h2⟩
theorem OwnX.drew {w : World} {b : Nat} {v : Value} {l : List UInt8} (h : OwnX w b v l) : OwnX w.drew b v l := h
theorem OwnX.heap {w w' : World} {b : Nat} {v : Value} {l : List UInt8} (h : OwnX w b v l) (e : w'.heap = w.heap) : OwnX w' b v l := by
  unfold OwnX World.cell? World.frozen? at *
  rw [e]; exact h
theorem OwnX.alloc {w : World} {b : Nat} {v : Value} {l : List UInt8} (h : OwnX w b v l) (o : Obj) : OwnX (w.alloc o) b v l := h.on ((Below.refl _ w).alloc (Nat.le_refl _) _)
/-- []byte(s) -/
theorem conv_str_ownX (w : World) (s : ByteArray) (hm : s.size ≤ maxLen) (base : Nat) (hb : base ≤ w.heap.size) : OwnX (Lib.bytesWorld w 5 s) base (.slice (some ⟨w.heap.size, 0, none⟩) s.size (grownCap w s.size 0 5)) (sL s) := by
  have hl := sL_length s
  have hg := grownCap_ge w s.size 0 5
  have hz : (Lib.bytesCells w 5 s).size = grownCap w s.size 0 5 := by
    have hs : s.data.size = s.size := rfl
    simp [Lib.bytesCells]
    omega
  refine ⟨w.heap.size, grownCap w s.size 0 5, by rw [hl], hb, by omega, grownCap_le_maxLen w s.size 0 5 hm, by rw [Lib.bytesWorld_size]; omega, fun j hj => ?_, fun j hj => ⟨?_, ?_⟩⟩
  · rw [Lib.bytesWorld_cell w 5 s j (by omega)]; exact (bv_at (sL s) j hj).symm
  · unfold World.cell?
    dsimp only
    rw [Lib.bytesWorld_at_new]
    dsimp only
    simp [hz, hj]
  · unfold World.frozen?
    dsimp only
    rw [Lib.bytesWorld_at_new]
    simp
    omega
theorem setCells_grown (g : Nat) (vs : List Value) : ∀ (o : Nat) (w : World), w.grownBy (w.setCells g o vs) (some g) := by
  induction vs with
  | nil => intro o w; exact World.grownBy.refl _ _
  | cons v r ih =>
    intro o w
    have h1 : Moved g w (w.setCell ⟨g, o, none⟩ v) := Moved.setAny g w o v
    have h2 : Moved g (w.setCell ⟨g, o, none⟩ v) ((w.setCell ⟨g, o, none⟩ v).setCells g (o + 1) r) := ih (o + 1) _
    exact h1.trans h2
theorem bv_get (l : List UInt8) (j : Nat) (h : j < l.length) : ∃ u, (bv l)[j]? = some u := ⟨_, bv_at l j h⟩
/-- append, of whatever source -/
theorem run_appX (tx ty : TypeId) (w : World) (base : Nat) (v : Value) (l : List UInt8) (x : Value) (m : List UInt8) (h : OwnX w base v l) (hs : Src Tryz.prog 1 tx x m.length (bv m) w) (hb : l.length + m.length ≤ 140737488355328) (hbase : base ≤ w.heap.size) :
    ∃ v' w', (Builtin.append_ #[23, tx] ty #[v, x]).run Tryz.prog w = .ok v' w' ∧ OwnX w' base v' (l ++ m) ∧ w.grownBy w' v.ownBlock ∧ (v'.ownBlock = v.ownBlock ∨ v'.ownBlock = some w.heap.size) := by
  obtain ⟨i0, hi, hz0, hz1, hz2⟩ := info_parts info8
  obtain ⟨g, cap, rfl, h1, h2, h3, h4, h5, h6⟩ := h
  have hl : (l ++ m).length = l.length + m.length := List.length_append
  have hs' : Src Tryz.prog i0.size tx x m.length (bv m) w := by rw [hz1]; exact hs
  by_cases hroom : l.length + m.length ≤ cap
  · have hsome : ∀ j, j < (bv m).length → (w.cell? ⟨g, 0 + l.length * i0.size + j, none⟩).isSome = true := fun j hj => by
      rw [bv_length] at hj; rw [hz1, Nat.zero_add, Nat.mul_one]; exact (h6 _ (by omega)).1
    have hfr : ∀ j, j < (bv m).length → w.frozen? ⟨g, 0 + l.length * i0.size + j, none⟩ = false := fun j hj => by
      rw [bv_length] at hj; rw [hz1, Nat.zero_add, Nat.mul_one]; exact (h6 _ (by omega)).2
    have hr := run_append_room_src (P := Tryz.prog) w 23 tx ty 5 i0 Tryz.underlying23 hi g 0 l.length cap x m.length (bv m) hs' hroom hsome hfr
    rw [hz1, Nat.zero_add, Nat.mul_one] at hr hsome
    have hgr := setCells_grown g (bv m) l.length w
    have hout : ∀ j, j < l.length → (w.setCells g l.length (bv m)).cell? ⟨g, j, none⟩ = w.cell? ⟨g, j, none⟩ := fun j hj => World.cell?_setCells_out g _ _ _ _ (fun _ _ => Or.inl hj)
    have hin : ∀ j, j < m.length → (w.setCells g l.length (bv m)).cell? ⟨g, l.length + j, none⟩ = (bv m)[j]? := fun j hj => by
      rw [World.cell?_setCells_in g (bv m) l.length w hsome j (by rw [bv_length]; exact hj), List.getElem?_eq_getElem (by rw [bv_length]; exact hj)]
    refine ⟨_, _, hr, ⟨g, cap, by rw [hl], h1, by omega, h3, Nat.lt_of_lt_of_le h4 hgr.4, fun j hj => ?_, fun j hj => ⟨?_, ?_⟩⟩, hgr, .inl rfl⟩
    · rw [bv_append]
      by_cases hjl : j < l.length
      · rw [hout j hjl, List.getElem?_append_left (by rw [bv_length]; exact hjl)]; exact h5 j hjl
      · obtain ⟨q, rfl⟩ : ∃ q, j = l.length + q := ⟨j - l.length, by omega⟩
        rw [hin q (by omega), List.getElem?_append_right (by rw [bv_length]; omega), bv_length, Nat.add_sub_cancel_left]
    · by_cases hjl : j < l.length
      · rw [hout j hjl]; exact (h6 j hj).1
      · by_cases hjm : j < l.length + m.length
        · obtain ⟨q, rfl⟩ : ∃ q, j = l.length + q := ⟨j - l.length, by omega⟩
          rw [hin q (by omega)]
          obtain ⟨u, hu⟩ := bv_get m q (by omega)
          rw [hu]; rfl
        · rw [World.cell?_setCells_out g _ _ _ _ (fun _ _ => Or.inr (by rw [bv_length]; show l.length + m.length ≤ j; omega))]; exact (h6 j hj).1
    · exact (World.frozen?_setCells g _ _ _ _).trans (h6 j hj).2
  · have hold : (Builtin.firstCells i0.size l.length (.slice (some ⟨g, 0, none⟩) l.length cap)).run Tryz.prog w.drew = .ok (bv l).toArray w.drew := by
      refine run_firstCells_some w.drew i0.size l.length ⟨g, 0, none⟩ l.length cap (bv l) (by rw [bv_length, hz1, Nat.mul_one]) (fun j u hu => ?_)
      have hj : j < l.length := by
        have := (List.getElem?_eq_some_iff.1 hu).1
        rwa [bv_length] at this
      rw [Addr.add_lit, Nat.zero_add]
      exact (h5 j hj).trans hu
    have hmx : l.length + m.length ≤ maxLen := by unfold maxLen; omega
    have hr := run_append_grow_src (P := Tryz.prog) w 23 tx ty 5 i0 _ Tryz.underlying23 hi hz0 (some ⟨g, 0, none⟩) l.length cap (bv l) hold x m.length (bv m) hs' (by omega) (by omega) (by rw [hz2]; exact growslice_fits (by omega) (by omega))
    have hge := grownCap_ge w (l.length + m.length) cap 5
    have hz : ((bv l ++ bv m).toArray ++ Builtin.zeroCells (Value.int .u8 0).cells (grownCap w (l.length + m.length) cap 5 - (l.length + m.length))).size = grownCap w (l.length + m.length) cap 5 := by
      have hz1 : (Value.int IntKind.u8 0).cells.size = 1 := rfl
      simp only [Array.size_append, List.size_toArray, size_zeroCells, hz1, List.length_append, bv_length]
      omega
    refine ⟨_, _, hr, ⟨w.heap.size, _, by rw [hl], hbase, by omega, grownCap_le_maxLen w _ cap 5 hmx, by simp, fun j hj => ?_, fun j hj => ⟨?_, ?_⟩⟩, ⟨rfl, rfl, rfl, by simp, fun k hk _ => Below.heap_alloc w.drew _ k hk⟩, .inr rfl⟩
    · have e1 := World.cell?_alloc_new w.drew ((bv l ++ bv m).toArray ++ Builtin.zeroCells (Value.int .u8 0).cells (grownCap w (l.length + m.length) cap 5 - (l.length + m.length))) 5 j
      rw [show w.heap.size = w.drew.heap.size from rfl, e1, bv_append, Array.getElem?_append_left (by simp only [List.size_toArray, List.length_append, bv_length]; omega), List.getElem?_toArray]
    · have e1 := World.cell?_alloc_new w.drew ((bv l ++ bv m).toArray ++ Builtin.zeroCells (Value.int .u8 0).cells (grownCap w (l.length + m.length) cap 5 - (l.length + m.length))) 5 j
      rw [show w.heap.size = w.drew.heap.size from rfl, e1, Array.getElem?_eq_getElem (by rw [hz]; exact hj)]; rfl
    · exact World.frozen?_alloc_new w.drew _ _ j
/-- what is appended: a text; a slice -/
theorem src_str (w : World) (s : ByteArray) : Src Tryz.prog 1 9 (.string s) (sL s).length (bv (sL s)) w := by rw [sL_length]; exact Src.ofString w Tryz.underlying9 s
theorem src_isB (w : World) (a : Option Addr) (n c : Nat) (m : List UInt8) (h : IsB w a n c m) : Src Tryz.prog 1 23 (.slice a n c) m.length (bv m) w := by
  have hl := h.len_eq
  subst hl
  cases a with
  | none =>
    have h0 := h.nil rfl
    have hle := h.le
    have : m = [] := List.eq_nil_of_length_eq_zero (by omega)
    subst this
    exact Src.ofNil w Tryz.underlying23 _
  | some ad =>
    refine Src.ofSlice w Tryz.underlying23 ad m.length c (bv m) (by rw [bv_length, Nat.mul_one]) (fun j u hj => ?_) (bv_one m)
    have hjl : j < m.length := by
      have := (List.getElem?_eq_some_iff.1 hj).1
      rwa [bv_length] at this
    obtain ⟨b, off, e, hc⟩ := h.cells (by omega)
    have e := Option.some.inj e
    rw [bv_at m j hjl] at hj
    rw [e, Addr.add_lit, hc j hjl]; exact hj
theorem wp_appX {o : Oper} {a : Act} {K : Act → World → Prop} {Q : Exit → Act → World → Prop} (w : World) (s x : Operand) (tx : TypeId)
    (ho : o.op = .call { callee := .builtin .append, args := #[s, x], argTypes := #[23, tx] }) (base : Nat) (v : Value) (l : List UInt8) (hs : a.eval s = v) (hown : OwnX w base v l) (xv : Value) (m : List UInt8) (hx : a.eval x = xv) (hsrc : Src Tryz.prog 1 tx xv m.length (bv m) w)
    (hb : l.length + m.length ≤ 140737488355328) (hbase : base ≤ w.heap.size) (h : ∀ v' w', OwnX w' base v' (l ++ m) → w.grownBy w' v.ownBlock → (v'.ownBlock = v.ownBlock ∨ v'.ownBlock = some w.heap.size) → K (a.put o.dst v') w') : o.wp Tryz.prog a w K Q := by
  obtain ⟨v', w', hr, h2, h3, h4⟩ := run_appX tx o.type w base v l xv m hown hsrc hb hbase
  unfold Oper.wp
  simp [execOp, ho, resolve, invoke, builtin, hs, hx, hr, Result.andThen]
  exact h v' w' h2 h3 h4
theorem list_appXs {ops : Array Oper} {rest : List Oper} {o : Oper} {a : Act} {Q : Exit → Act → World → Prop} (w : World) (hgd : o.guard = none) (s x : Operand) (tx : TypeId)
    (ho : o.op = .call { callee := .builtin .append, args := #[s, x], argTypes := #[23, tx] }) (base : Nat) (v : Value) (l : List UInt8) (hs : a.eval s = v) (hown : OwnX w base v l) (xv : Value) (m : List UInt8) (hx : a.eval x = xv) (hsrc : Src Tryz.prog 1 tx xv m.length (bv m) w)
    (hb : l.length + m.length ≤ 140737488355328) (hbase : base ≤ w.heap.size) (h : ∀ v' w', OwnX w' base v' (l ++ m) → w.grownBy w' v.ownBlock → (v'.ownBlock = v.ownBlock ∨ v'.ownBlock = some w.heap.size) → wpList Tryz.prog ops Q rest (a.put o.dst v') w') : wpList Tryz.prog ops Q (o :: rest) a w :=
  wpList_plain hgd fun _ hK => wp_appX w s x tx ho base v l hs hown xv m hx hsrc hb hbase fun v' w' h2 h3 h4 => hK _ _ (h v' w' h2 h3 h4)
theorem step_appX {ops : Array Oper} {o : Oper} {a : Act} {K : Act → World → Prop} {Q : Exit → Act → World → Prop} {E : Prop} (w : World) (hgd : o.guard = none) (s x : Operand) (tx : TypeId)
    (ho : o.op = .call { callee := .builtin .append, args := #[s, x], argTypes := #[23, tx] }) (base : Nat) (v : Value) (l : List UInt8) (hs : a.eval s = v) (hown : OwnX w base v l) (xv : Value) (m : List UInt8) (hx : a.eval x = xv) (hsrc : Src Tryz.prog 1 tx xv m.length (bv m) w)
    (hb : l.length + m.length ≤ 140737488355328) (hbase : base ≤ w.heap.size) (h : ∀ v' w', OwnX w' base v' (l ++ m) → w.grownBy w' v.ownBlock → (v'.ownBlock = v.ownBlock ∨ v'.ownBlock = some w.heap.size) → K (a.put o.dst v') w') :
    if Region.wanted o (yielded ops a.tmps) = true then Oper.wp Tryz.prog o a w K Q else E := by
  have hw : Region.wanted o (yielded ops a.tmps) = true := by simp [Region.wanted, hgd]
  rw [if_pos hw]
  exact wp_appX w s x tx ho base v l hs hown xv m hx hsrc hb hbase h
theorem OwnX.grown_bel {w w1 w2 : World} {base : Nat} {v : Value} {l : List UInt8} (ho : OwnX w1 base v l) (hb : Below base w w1) (hs : base ≤ w1.heap.size) (hg : w1.grownBy w2 v.ownBlock) : Below base w w2 :=
  hb.grown hg hs (fun k hk => (ho.blk k hk).1)
end Go.Proofs.YtgjmaeodgcigdaaGreatDoor
