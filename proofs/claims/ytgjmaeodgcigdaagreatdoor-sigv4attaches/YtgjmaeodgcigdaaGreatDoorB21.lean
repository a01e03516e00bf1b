/- A constant text as bytes. · A text of any bytes. · Bytes that a call made, also out of a text: what is appended to them. · What the document's Key answers. · What the document's Sign answers. -/
import Derived.Test.YtgjmaeodgcigdaaGreatDoorB2
import Derived.Lib.SlBytesConst
import Derived.Test.YtgjmaeodgcigdaaGreatDoorB8
import Derived.Test.YtgjmaeodgcigdaaGreatDoorB0
import Derived.Test.YtgjmaeodgcigdaaGreatDoorB19
import Derived.Deep.Upon
import Derived.Test.YtgjmaeodgcigdaaGreatDoorB9
import Derived.Test.YtgjmaeodgcigdaaGreatDoorB12
import Derived.Deep.CutRange
import Derived.Test.YtgjmaeodgcigdaaGreatDoorS6b
namespace Go.Proofs.YtgjmaeodgcigdaaGreatDoor
open Go.RowKit

theorem isB_marked (w : World) (l : List UInt8) (fr : Nat × Nat) (hm : l.length ≤ maxLen) : IsB (w.alloc (.cells (bv l).toArray 5 fr)) (some ⟨w.heap.size, 0, none⟩) l.length l.length l :=
  ⟨rfl, Nat.le_refl _, hm, (fun e => by cases e), fun _ => ⟨w.heap.size, 0, rfl, fun i hi => by
    have h := bv_at l i hi
    have hh : (w.alloc (.cells (bv l).toArray 5 fr)).heap[w.heap.size]? = some (.cells (bv l).toArray 5 fr) := by
      show (w.heap.push _)[w.heap.size]? = _
      simp
    rw [Nat.zero_add]
    unfold World.cell?
    dsimp only
    rw [hh]
    simpa using h⟩⟩
end Go.Proofs.YtgjmaeodgcigdaaGreatDoor
namespace Go.Proofs.YtgjmaeodgcigdaaGreatDoor
open Go.RowKit

theorem conv_isB (w : World) (a : Option Addr) (len cap : Nat) (l : List UInt8) (hb : IsB w a len cap l) : (convert 23 9 (.slice a len cap)).run Tryz.prog w = .ok (.string (str l)) w := by
  have hlen := hb.len_eq
  subst hlen
  by_cases hl : 0 < l.length
  · obtain ⟨b, off, rfl, hc⟩ := hb.cells hl
    refine run_convert_bytes_back w 23 9 5 ⟨b, off, none⟩ cap l Tryz.underlying23 Tryz.underlying5 Tryz.underlying9 fun j hj => ?_
    rw [Addr.add_lit, hc j hj, nth_eq l j hj]
  · have : l = [] := List.eq_nil_of_length_eq_zero (by omega)
    subst this
    cases a with
    | none => exact run_convert_bytes_nil w 23 5 Tryz.underlying23 Tryz.underlying5 _ _ _ Tryz.underlying9
    | some x => exact run_convert_bytes_back w 23 9 5 x cap [] Tryz.underlying23 Tryz.underlying5 Tryz.underlying9 fun j hj => absurd hj (Nat.not_lt_zero _)
theorem sL_str (l : List UInt8) : sL (str l) = l := by unfold sL str; simp
end Go.Proofs.YtgjmaeodgcigdaaGreatDoor
namespace Go.Proofs.YtgjmaeodgcigdaaGreatDoor
open Go.RowKit

/-- v owns the bytes l, in a block from base on: told by its cells -/
def OwnX (w : World) (base : Nat) (v : Value) (l : List UInt8) : Prop :=
  ∃ g cap, v = .slice (some ⟨g, 0, none⟩) l.length cap ∧ base ≤ g ∧ l.length ≤ cap ∧ cap ≤ maxLen ∧ g < w.heap.size ∧ (∀ j, j < l.length → w.cell? ⟨g, j, none⟩ = (bv l)[j]?) ∧
    ∀ j, j < cap → (w.cell? ⟨g, j, none⟩).isSome = true ∧ w.frozen? ⟨g, j, none⟩ = false
theorem OwnX.isB {w : World} {base : Nat} {v : Value} {l : List UInt8} (h : OwnX w base v l) : ∃ a cap, v = .slice a l.length cap ∧ IsB w a l.length cap l := by
  obtain ⟨g, cap, rfl, _, hle, hmx, _, hc, _⟩ := h
  exact ⟨_, cap, rfl, rfl, hle, hmx, fun e => (by cases e), fun _ => ⟨g, 0, rfl, fun i hi => by rw [Nat.zero_add, hc i hi]; exact bv_at l i hi⟩⟩
theorem OwnX.isV {w : World} {base : Nat} {v : Value} {l : List UInt8} (h : OwnX w base v l) : IsV w v l := h.isB
theorem OwnX.blk {w : World} {base : Nat} {v : Value} {l : List UInt8} (h : OwnX w base v l) : ∀ k, v.ownBlock = some k → base ≤ k ∧ k < w.heap.size := by
  obtain ⟨g, cap, rfl, hb, _, _, hg, _⟩ := h
  intro k hk
  have : g = k := by simpa [Value.ownBlock] using hk
  subst this
  exact ⟨hb, hg⟩
theorem OwnX.on {w w' : World} {base : Nat} {v : Value} {l : List UInt8} (h : OwnX w base v l) (hb : Below w.heap.size w w') : OwnX w' base v l := by
  obtain ⟨g, cap, rfl, h1, h2, h3, h4, h5, h6⟩ := h
  have hg := hb.block g h4
  refine ⟨g, cap, rfl, h1, h2, h3, Nat.lt_of_lt_of_le h4 hb.size, fun j hj => ?_, fun j hj => ?_⟩
  · rw [World.cell?_of_block (a := ⟨g, j, none⟩) hg]; exact h5 j hj
  · rw [World.cell?_of_block (a := ⟨g, j, none⟩) hg, World.frozen?_of_block (a := ⟨g, j, none⟩) hg]; exact h6 j hj
theorem OwnX.base {w : World} {b b' : Nat} {v : Value} {l : List UInt8} (h : OwnX w b v l) (hb : b' ≤ b) : OwnX w b' v l := by
  obtain ⟨g, cap, rfl, h1, h2⟩ := h
  exact ⟨g, cap, rfl, Nat.le_trans hb h1, h2⟩
theorem OwnX.drew {w : World} {b : Nat} {v : Value} {l : List UInt8} (h : OwnX w b v l) : OwnX w.drew b v l := h
theorem OwnX.heap {w w' : World} {b : Nat} {v : Value} {l : List UInt8} (h : OwnX w b v l) (e : w'.heap = w.heap) : OwnX w' b v l := by
  unfold OwnX World.cell? World.frozen? at *
  rw [e]; exact h
theorem OwnX.alloc {w : World} {b : Nat} {v : Value} {l : List UInt8} (h : OwnX w b v l) (o : Obj) : OwnX (w.alloc o) b v l := h.on ((Below.refl _ w).alloc (Nat.le_refl _) _)
/-- []byte(s) -/
theorem conv_str_ownX (w : World) (s : ByteArray) (hm : s.size ≤ maxLen) (base : Nat) (hb : base ≤ w.heap.size) : OwnX (Lib.bytesWorld w 5 s) base (.slice (some ⟨w.heap.size, 0, none⟩) s.size (grownCap w s.size 0 5)) (sL s) := by
  have hl := sL_length s
  have hg := grownCap_ge w s.size 0 5
  have hz : (Lib.bytesCells w 5 s).size = grownCap w s.size 0 5 := by
    have hs : s.data.size = s.size := rfl
    simp [Lib.bytesCells]
    omega
  refine ⟨w.heap.size, grownCap w s.size 0 5, by rw [hl], hb, by omega, grownCap_le_maxLen w s.size 0 5 hm, by rw [Lib.bytesWorld_size]; omega, fun j hj => ?_, fun j hj => ⟨?_, ?_⟩⟩
  · rw [Lib.bytesWorld_cell w 5 s j (by omega)]; exact (bv_at (sL s) j hj).symm
  · unfold World.cell?
    dsimp only
    rw [Lib.bytesWorld_at_new]
    dsimp only
    simp [hz, hj]
  · unfold World.frozen?
    dsimp only
    rw [Lib.bytesWorld_at_new]
    simp
    omega
theorem setCells_grown (g : Nat) (vs : List Value) : ∀ (o : Nat) (w : World), w.grownBy (w.setCells g o vs) (some g) := by
  induction vs with
  | nil => intro o w; exact World.grownBy.refl _ _
  | cons v r ih =>
    intro o w
    have h1 : Moved g w (w.setCell ⟨g, o, none⟩ v) := Moved.setAny g w o v
    have h2 : Moved g (w.setCell ⟨g, o, none⟩ v) ((w.setCell ⟨g, o, none⟩ v).setCells g (o + 1) r) := ih (o + 1) _
    exact h1.trans h2
theorem bv_get (l : List UInt8) (j : Nat) (h : j < l.length) : ∃ u, (bv l)[j]? = some u := ⟨_, bv_at l j h⟩
/-- append, of whatever source -/
theorem run_appX (tx ty : TypeId) (w : World) (base : Nat) (v : Value) (l : List UInt8) (x : Value) (m : List UInt8) (h : OwnX w base v l) (hs : Src Tryz.prog 1 tx x m.length (bv m) w) (hb : l.length + m.length ≤ 140737488355328) (hbase : base ≤ w.heap.size) :
    ∃ v' w', (Builtin.append_ #[23, tx] ty #[v, x]).run Tryz.prog w = .ok v' w' ∧ OwnX w' base v' (l ++ m) ∧ w.grownBy w' v.ownBlock ∧ (v'.ownBlock = v.ownBlock ∨ v'.ownBlock = some w.heap.size) := by
  obtain ⟨i0, hi, hz0, hz1, hz2⟩ := info_parts info8
  obtain ⟨g, cap, rfl, h1, h2, h3, h4, h5, h6⟩ := h
  have hl : (l ++ m).length = l.length + m.length := List.length_append
  have hs' : Src Tryz.prog i0.size tx x m.length (bv m) w := by rw [hz1]; exact hs
  by_cases hroom : l.length + m.length ≤ cap
  · have hsome : ∀ j, j < (bv m).length → (w.cell? ⟨g, 0 + l.length * i0.size + j, none⟩).isSome = true := fun j hj => by
      rw [bv_length] at hj; rw [hz1, Nat.zero_add, Nat.mul_one]; exact (h6 _ (by omega)).1
    have hfr : ∀ j, j < (bv m).length → w.frozen? ⟨g, 0 + l.length * i0.size + j, none⟩ = false := fun j hj => by
      rw [bv_length] at hj; rw [hz1, Nat.zero_add, Nat.mul_one]; exact (h6 _ (by omega)).2
    have hr := run_append_room_src (P := Tryz.prog) w 23 tx ty 5 i0 Tryz.underlying23 hi g 0 l.length cap x m.length (bv m) hs' hroom hsome hfr
    rw [hz1, Nat.zero_add, Nat.mul_one] at hr hsome
    have hgr := setCells_grown g (bv m) l.length w
    have hout : ∀ j, j < l.length → (w.setCells g l.length (bv m)).cell? ⟨g, j, none⟩ = w.cell? ⟨g, j, none⟩ := fun j hj => World.cell?_setCells_out g _ _ _ _ (fun _ _ => Or.inl hj)
    have hin : ∀ j, j < m.length → (w.setCells g l.length (bv m)).cell? ⟨g, l.length + j, none⟩ = (bv m)[j]? := fun j hj => by
      rw [World.cell?_setCells_in g (bv m) l.length w hsome j (by rw [bv_length]; exact hj), List.getElem?_eq_getElem (by rw [bv_length]; exact hj)]
    refine ⟨_, _, hr, ⟨g, cap, by rw [hl], h1, by omega, h3, Nat.lt_of_lt_of_le h4 hgr.4, fun j hj => ?_, fun j hj => ⟨?_, ?_⟩⟩, hgr, .inl rfl⟩
    · rw [bv_append]
      by_cases hjl : j < l.length
      · rw [hout j hjl, List.getElem?_append_left (by rw [bv_length]; exact hjl)]; exact h5 j hjl
      · obtain ⟨q, rfl⟩ : ∃ q, j = l.length + q := ⟨j - l.length, by omega⟩
        rw [hin q (by omega), List.getElem?_append_right (by rw [bv_length]; omega), bv_length, Nat.add_sub_cancel_left]
    · by_cases hjl : j < l.length
      · rw [hout j hjl]; exact (h6 j hj).1
      · by_cases hjm : j < l.length + m.length
        · obtain ⟨q, rfl⟩ : ∃ q, j = l.length + q := ⟨j - l.length, by omega⟩
          rw [hin q (by omega)]
          obtain ⟨u, hu⟩ := bv_get m q (by omega)
          rw [hu]; rfl
        · rw [World.cell?_setCells_out g _ _ _ _ (fun _ _ => Or.inr (by rw [bv_length]; show l.length + m.length ≤ j; omega))]; exact (h6 j hj).1
    · exact (World.frozen?_setCells g _ _ _ _).trans (h6 j hj).2
  · have hold : (Builtin.firstCells i0.size l.length (.slice (some ⟨g, 0, none⟩) l.length cap)).run Tryz.prog w.drew = .ok (bv l).toArray w.drew := by
      refine run_firstCells_some w.drew i0.size l.length ⟨g, 0, none⟩ l.length cap (bv l) (by rw [bv_length, hz1, Nat.mul_one]) (fun j u hu => ?_)
      have hj : j < l.length := by
        have := (List.getElem?_eq_some_iff.1 hu).1
        rwa [bv_length] at this
      rw [Addr.add_lit, Nat.zero_add]
      exact (h5 j hj).trans hu
    have hmx : l.length + m.length ≤ maxLen := by unfold maxLen; omega
    have hr := run_append_grow_src (P := Tryz.prog) w 23 tx ty 5 i0 _ Tryz.underlying23 hi hz0 (some ⟨g, 0, none⟩) l.length cap (bv l) hold x m.length (bv m) hs' (by omega) (by omega) (by rw [hz2]; exact growslice_fits (by omega) (by omega))
    have hge := grownCap_ge w (l.length + m.length) cap 5
    have hz : ((bv l ++ bv m).toArray ++ Builtin.zeroCells (Value.int .u8 0).cells (grownCap w (l.length + m.length) cap 5 - (l.length + m.length))).size = grownCap w (l.length + m.length) cap 5 := by
      have hz1 : (Value.int IntKind.u8 0).cells.size = 1 := rfl
      simp only [Array.size_append, List.size_toArray, size_zeroCells, hz1, List.length_append, bv_length]
      omega
    refine ⟨_, _, hr, ⟨w.heap.size, _, by rw [hl], hbase, by omega, grownCap_le_maxLen w _ cap 5 hmx, by simp, fun j hj => ?_, fun j hj => ⟨?_, ?_⟩⟩, ⟨rfl, rfl, rfl, by simp, fun k hk _ => Below.heap_alloc w.drew _ k hk⟩, .inr rfl⟩
    · have e1 := World.cell?_alloc_new w.drew ((bv l ++ bv m).toArray ++ Builtin.zeroCells (Value.int .u8 0).cells (grownCap w (l.length + m.length) cap 5 - (l.length + m.length))) 5 j
      rw [show w.heap.size = w.drew.heap.size from rfl, e1, bv_append, Array.getElem?_append_left (by simp only [List.size_toArray, List.length_append, bv_length]; omega), List.getElem?_toArray]
    · have e1 := World.cell?_alloc_new w.drew ((bv l ++ bv m).toArray ++ Builtin.zeroCells (Value.int .u8 0).cells (grownCap w (l.length + m.length) cap 5 - (l.length + m.length))) 5 j
      rw [show w.heap.size = w.drew.heap.size from rfl, e1, Array.getElem?_eq_getElem (by rw [hz]; exact hj)]; rfl
    · exact World.frozen?_alloc_new w.drew _ _ j
/-- what is appended: a text; a slice -/
theorem src_str (w : World) (s : ByteArray) : Src Tryz.prog 1 9 (.string s) (sL s).length (bv (sL s)) w := by rw [sL_length]; exact Src.ofString w Tryz.underlying9 s
theorem src_isB (w : World) (a : Option Addr) (n c : Nat) (m : List UInt8) (h : IsB w a n c m) : Src Tryz.prog 1 23 (.slice a n c) m.length (bv m) w := by
  have hl := h.len_eq
  subst hl
  cases a with
  | none =>
    have h0 := h.nil rfl
    have hle := h.le
    have : m = [] := List.eq_nil_of_length_eq_zero (by omega)
    subst this
    exact Src.ofNil w Tryz.underlying23 _
  | some ad =>
    refine Src.ofSlice w Tryz.underlying23 ad m.length c (bv m) (by rw [bv_length, Nat.mul_one]) (fun j u hj => ?_) (bv_one m)
    have hjl : j < m.length := by
      have := (List.getElem?_eq_some_iff.1 hj).1
      rwa [bv_length] at this
    obtain ⟨b, off, e, hc⟩ := h.cells (by omega)
    have e := Option.some.inj e
    rw [bv_at m j hjl] at hj
    rw [e, Addr.add_lit, hc j hjl]; exact hj
theorem wp_appX {o : Oper} {a : Act} {K : Act → World → Prop} {Q : Exit → Act → World → Prop} (w : World) (s x : Operand) (tx : TypeId)
    (ho : o.op = .call { callee := .builtin .append, args := #[s, x], argTypes := #[23, tx] }) (base : Nat) (v : Value) (l : List UInt8) (hs : a.eval s = v) (hown : OwnX w base v l) (xv : Value) (m : List UInt8) (hx : a.eval x = xv) (hsrc : Src Tryz.prog 1 tx xv m.length (bv m) w)
    (hb : l.length + m.length ≤ 140737488355328) (hbase : base ≤ w.heap.size) (h : ∀ v' w', OwnX w' base v' (l ++ m) → w.grownBy w' v.ownBlock → (v'.ownBlock = v.ownBlock ∨ v'.ownBlock = some w.heap.size) → K (a.put o.dst v') w') : o.wp Tryz.prog a w K Q := by
  obtain ⟨v', w', hr, h2, h3, h4⟩ := run_appX tx o.type w base v l xv m hown hsrc hb hbase
  unfold Oper.wp
  simp [execOp, ho, resolve, invoke, builtin, hs, hx, hr, Result.andThen]
  exact h v' w' h2 h3 h4
theorem list_appXs {ops : Array Oper} {rest : List Oper} {o : Oper} {a : Act} {Q : Exit → Act → World → Prop} (w : World) (hgd : o.guard = none) (s x : Operand) (tx : TypeId)
    (ho : o.op = .call { callee := .builtin .append, args := #[s, x], argTypes := #[23, tx] }) (base : Nat) (v : Value) (l : List UInt8) (hs : a.eval s = v) (hown : OwnX w base v l) (xv : Value) (m : List UInt8) (hx : a.eval x = xv) (hsrc : Src Tryz.prog 1 tx xv m.length (bv m) w)
    (hb : l.length + m.length ≤ 140737488355328) (hbase : base ≤ w.heap.size) (h : ∀ v' w', OwnX w' base v' (l ++ m) → w.grownBy w' v.ownBlock → (v'.ownBlock = v.ownBlock ∨ v'.ownBlock = some w.heap.size) → wpList Tryz.prog ops Q rest (a.put o.dst v') w') : wpList Tryz.prog ops Q (o :: rest) a w :=
  wpList_plain hgd fun _ hK => wp_appX w s x tx ho base v l hs hown xv m hx hsrc hb hbase fun v' w' h2 h3 h4 => hK _ _ (h v' w' h2 h3 h4)
theorem step_appX {ops : Array Oper} {o : Oper} {a : Act} {K : Act → World → Prop} {Q : Exit → Act → World → Prop} {E : Prop} (w : World) (hgd : o.guard = none) (s x : Operand) (tx : TypeId)
    (ho : o.op = .call { callee := .builtin .append, args := #[s, x], argTypes := #[23, tx] }) (base : Nat) (v : Value) (l : List UInt8) (hs : a.eval s = v) (hown : OwnX w base v l) (xv : Value) (m : List UInt8) (hx : a.eval x = xv) (hsrc : Src Tryz.prog 1 tx xv m.length (bv m) w)
    (hb : l.length + m.length ≤ 140737488355328) (hbase : base ≤ w.heap.size) (h : ∀ v' w', OwnX w' base v' (l ++ m) → w.grownBy w' v.ownBlock → (v'.ownBlock = v.ownBlock ∨ v'.ownBlock = some w.heap.size) → K (a.put o.dst v') w') :
    if Region.wanted o (yielded ops a.tmps) = true then Oper.wp Tryz.prog o a w K Q else E := by
  have hw : Region.wanted o (yielded ops a.tmps) = true := by simp [Region.wanted, hgd]
  rw [if_pos hw]
  exact wp_appX w s x tx ho base v l hs hown xv m hx hsrc hb hbase h
theorem OwnX.grown_bel {w w1 w2 : World} {base : Nat} {v : Value} {l : List UInt8} (ho : OwnX w1 base v l) (hb : Below base w w1) (hs : base ≤ w1.heap.size) (hg : w1.grownBy w2 v.ownBlock) : Below base w w2 :=
  hb.grown hg hs (fun k hk => (ho.blk k hk).1)
end Go.Proofs.YtgjmaeodgcigdaaGreatDoor
namespace Go.Proofs.YtgjmaeodgcigdaaGreatDoor
open Go.RowKit

def sLocal : List UInt8 := [108, 111, 99, 97, 108]
def sS3 : List UInt8 := [115, 51]
def sReq : List UInt8 := [97, 119, 115, 52, 95, 114, 101, 113, 117, 101, 115, 116]
def sAws : List UInt8 := [65, 87, 83, 52]
def keyL (secret date : List UInt8) : List UInt8 := hmL sha256L (hmL sha256L (hmL sha256L (hmL sha256L (sAws ++ secret) date) sLocal) sS3) sReq
theorem hm_length (k l : List UInt8) : (hmL sha256L k l).length = 32 := by unfold hmL; rw [sha256L_length]
/-- Hmac256, with what it tells -/
theorem refHm (a : Option Addr) (n c : Nat) (key : List UInt8) (a1 : Option Addr) (n1 c1 : Nat) (l : List UInt8) (w : World) (h : IsB w a n c key) (h1 : IsB w a1 n1 c1 l) (hn : n < 1073741824) (hn1 : n1 < 1073741824) :
    Calls Tryz.prog 54 #[.slice a n c, .slice a1 n1 c1] w fun e w' => (∃ va vc, e = .returned (.slice va 32 vc) ∧ IsB w' va 32 vc (hmL sha256L key l)) ∧ Below w.heap.size w w' := (refHmac256 a n c key a1 n1 c1 l w h h1 hn hn1).mono (by
  rintro e w' ⟨v, rfl, ho, hb⟩
  obtain ⟨va, vc, rfl, hi⟩ := ho.isB
  rw [hm_length] at hi ⊢
  exact ⟨⟨va, vc, rfl, hi⟩, hb⟩)

set_option maxRecDepth 20000 in
set_option maxHeartbeats 1000000 in
theorem refKey (sec dat : List UInt8) (w : World) (z1 : sec.length ≤ 100000) (z2 : dat.length ≤ 100000) :
    Calls Tryz.prog 18 #[.string (str sec), .string (str dat)] w fun e w' => (∃ va vc, e = .returned (.slice va 32 vc) ∧ IsB w' va 32 vc (keyL sec dat)) ∧ Below w.heap.size w w' := by
  have y1 : ¬ 9223372036854775807 < 4 + (str sec).size := by rw [str_size]; omega
  have ek : (⟨#[65, 87, 83, 52]⟩ : ByteArray) ++ str sec = str (sAws ++ sec) := by rw [show (⟨#[65, 87, 83, 52]⟩ : ByteArray) = str sAws from rfl, str_append2]
  have hcv1 := conv_str w ((⟨#[65, 87, 83, 52]⟩ : ByteArray) ++ str sec)
  have lk : (sAws ++ sec).length = sec.length + 4 := by rw [List.length_append]; simp [sAws]; omega
  have hi1 := conv_str_isB w ((⟨#[65, 87, 83, 52]⟩ : ByteArray) ++ str sec) (by rw [ek, str_size]; unfold maxLen; omega)
  have hb1 := conv_str_bel w ((⟨#[65, 87, 83, 52]⟩ : ByteArray) ++ str sec)
  have hsz1 : ((⟨#[65, 87, 83, 52]⟩ : ByteArray) ++ str sec).size < 1073741824 := by rw [ek, str_size]; omega
  have hsl1 : sL ((⟨#[65, 87, 83, 52]⟩ : ByteArray) ++ str sec) = sAws ++ sec := by rw [ek]; exact sL_str _
  rw [hsl1] at hi1
  generalize Lib.bytesWorld w 5 ((⟨#[65, 87, 83, 52]⟩ : ByteArray) ++ str sec) = x1 at *
  generalize grownCap w ((⟨#[65, 87, 83, 52]⟩ : ByteArray) ++ str sec).size 0 5 = g1 at *
  generalize ((⟨#[65, 87, 83, 52]⟩ : ByteArray) ++ str sec).size = n1 at *
  have hcv2 := conv_str x1 (str dat)
  have hi2 := conv_str_isB x1 (str dat) (by rw [str_size]; unfold maxLen; omega)
  have hb2 := conv_str_bel x1 (str dat)
  have hsz2 : (str dat).size < 1073741824 := by rw [str_size]; omega
  rw [sL_str] at hi2
  generalize Lib.bytesWorld x1 5 (str dat) = x2 at *
  generalize grownCap x1 (str dat).size 0 5 = g2 at *
  generalize hn2 : (str dat).size = n2 at *
  have HA := refHm _ _ _ _ _ _ _ _ _ (hi1.below hb2 rfl) hi2 hsz1 hsz2
  have B2 : Below w.heap.size w x2 := hb1.trans (hb2.mono hb1.size)
  clear hi1 hi2 hsl1 ek lk z1 z2 hn2
  unfold keyL
  generalize hmL sha256L (sAws ++ sec) dat = k1 at *
  generalize str sec = ssec at *
  generalize str dat = sdat at *
  go_enter Tryz.func18, Tryz.ntmps18
  go_upto_region 2 with (go_at_call 54; refine HA.mono ?_; rintro e w3 ⟨⟨va3, vc3, rfl, hi3⟩, hb3⟩)
  clear HA hcv1 hcv2 hb1 hb2
  have T3 := B2.trans (hb3.mono B2.size)
  have hc4 := Lib.run_convert_bytes_const (P := Tryz.prog) w3 23 5 #[.int .u8 108, .int .u8 111, .int .u8 99, .int .u8 97, .int .u8 108] 5 5 Tryz.underlying23 Tryz.underlying5
  rw [show (#[.int .u8 108, .int .u8 111, .int .u8 99, .int .u8 97, .int .u8 108] : Array Value).size = 5 from rfl] at hc4
  have hi4 : IsB (w3.alloc (.cells #[.int .u8 108, .int .u8 111, .int .u8 99, .int .u8 97, .int .u8 108] 5 (5, 6))) (some ⟨w3.heap.size, 0, none⟩) 5 5 sLocal := isB_marked w3 sLocal (5, 6) (by decide)
  have b4 : Below w3.heap.size w3 (w3.alloc (.cells #[.int .u8 108, .int .u8 111, .int .u8 99, .int .u8 97, .int .u8 108] 5 (5, 6))) := (Below.refl _ w3).alloc (Nat.le_refl _) _
  have HA4 := refHm _ _ _ _ _ _ _ _ _ (hi3.below b4 rfl) hi4 (by omega) (by omega)
  have T4 := T3.trans (b4.mono T3.size)
  go_upto_region 3 with (go_at_call 54; refine HA4.mono ?_; rintro e w5 ⟨⟨va5, vc5, rfl, hi5⟩, hb5⟩)
  clear HA4 hc4 hi4 b4
  have T5 := T4.trans (hb5.mono T4.size)
  have hc6 := Lib.run_convert_bytes_const (P := Tryz.prog) w5 23 5 #[.int .u8 115, .int .u8 51] 2 2 Tryz.underlying23 Tryz.underlying5
  rw [show (#[.int .u8 115, .int .u8 51] : Array Value).size = 2 from rfl] at hc6
  have hi6 : IsB (w5.alloc (.cells #[.int .u8 115, .int .u8 51] 5 (2, 3))) (some ⟨w5.heap.size, 0, none⟩) 2 2 sS3 := isB_marked w5 sS3 (2, 3) (by decide)
  have b6 : Below w5.heap.size w5 (w5.alloc (.cells #[.int .u8 115, .int .u8 51] 5 (2, 3))) := (Below.refl _ w5).alloc (Nat.le_refl _) _
  have HA6 := refHm _ _ _ _ _ _ _ _ _ (hi5.below b6 rfl) hi6 (by omega) (by omega)
  have T6 := T5.trans (b6.mono T5.size)
  go_upto_region 4 with (go_at_call 54; refine HA6.mono ?_; rintro e w7 ⟨⟨va7, vc7, rfl, hi7⟩, hb7⟩)
  clear HA6 hc6 hi6 b6
  have T7 := T6.trans (hb7.mono T6.size)
  have hc8 := Lib.run_convert_bytes_const (P := Tryz.prog) w7 23 5 #[.int .u8 97, .int .u8 119, .int .u8 115, .int .u8 52, .int .u8 95, .int .u8 114, .int .u8 101, .int .u8 113, .int .u8 117, .int .u8 101, .int .u8 115, .int .u8 116] 12 12 Tryz.underlying23 Tryz.underlying5
  rw [show (#[.int .u8 97, .int .u8 119, .int .u8 115, .int .u8 52, .int .u8 95, .int .u8 114, .int .u8 101, .int .u8 113, .int .u8 117, .int .u8 101, .int .u8 115, .int .u8 116] : Array Value).size = 12 from rfl] at hc8
  have hi8 : IsB (w7.alloc (.cells #[.int .u8 97, .int .u8 119, .int .u8 115, .int .u8 52, .int .u8 95, .int .u8 114, .int .u8 101, .int .u8 113, .int .u8 117, .int .u8 101, .int .u8 115, .int .u8 116] 5 (12, 13))) (some ⟨w7.heap.size, 0, none⟩) 12 12 sReq := isB_marked w7 sReq (12, 13) (by decide)
  have b8 : Below w7.heap.size w7 (w7.alloc (.cells #[.int .u8 97, .int .u8 119, .int .u8 115, .int .u8 52, .int .u8 95, .int .u8 114, .int .u8 101, .int .u8 113, .int .u8 117, .int .u8 101, .int .u8 115, .int .u8 116] 5 (12, 13))) := (Below.refl _ w7).alloc (Nat.le_refl _) _
  have HA8 := refHm _ _ _ _ _ _ _ _ _ (hi7.below b8 rfl) hi8 (by omega) (by omega)
  have T8 := T7.trans (b8.mono T7.size)
  go_wp2_with (go_at_call 54; refine HA8.mono ?_; rintro e w9 ⟨⟨va9, vc9, rfl, hi9⟩, hb9⟩)
  go_ret
  exact ⟨⟨_, _, rfl, hi9⟩, T8.trans (hb9.mono T8.size)⟩
end Go.Proofs.YtgjmaeodgcigdaaGreatDoor
namespace Go.Proofs.YtgjmaeodgcigdaaGreatDoor
open Go.RowKit

def sScope : List UInt8 := [47, 108, 111, 99, 97, 108, 47, 115, 51, 47, 97, 119, 115, 52, 95, 114, 101, 113, 117, 101, 115, 116]
def sAlg : List UInt8 := [65, 87, 83, 52, 45, 72, 77, 65, 67, 45, 83, 72, 65, 50, 53, 54, 10]
def scopeL (d : List UInt8) : List UInt8 := d ++ sScope
def signText (S c : List UInt8) : List UInt8 := sAlg ++ S ++ [10] ++ scopeL (S.take 8) ++ [10] ++ hexL (sha256L c)
def signX (sec S : List UInt8) (r : Rq) (ts : List (List UInt8)) : List UInt8 := hexL (hmL sha256L (keyL sec (S.take 8)) (signText S (canonX r ts)))
def signE (E : Int) (r : Rq) (ts : List (List UInt8)) : Int := if E = 0 then canonE r ts else E
def signT (sec S : List UInt8) (E : Int) (r : Rq) (ts : List (List UInt8)) : List UInt8 := if signE E r ts = 0 then signX sec S r ts else []
theorem canonT_len {r : Rq} {ts : List (List UInt8)} (zm : r.m.length ≤ 30000) (zp : r.p.length ≤ 30000) (zq : r.q.length ≤ 30000) (zh : ∀ i, i < r.hs.length → (nthP r.hs i).2.length ≤ 30000) : (canonT r ts).length ≤ 10000000 := by
  unfold canonT
  by_cases h : canonE r ts = 0
  · rw [if_pos h]
    have hnm : namesL ts = true := by
      cases hn : namesL ts with
      | true => rfl
      | false => have := (canon_no1 (r := r) hn).1; rw [h] at this; cases this
    obtain ⟨nl, n24⟩ := names_facts hnm
    obtain ⟨qn, qz⟩ := queryP_facts r.q zq
    have l1 := encL_length true (decS r.p)
    have l2 := decS_len r.p
    have l3 := canon_len qz
    have l3' : (queryP r.q).length * 180002 ≤ 24 * 180002 := Nat.mul_le_mul_right _ qn
    have l4 := lines_len 30000 zh nl ts.length (Nat.le_refl _)
    have l4' : ts.length * (30000 + 66) ≤ 24 * (30000 + 66) := Nat.mul_le_mul_right _ n24
    have l5 := joinTo_le [59] ts 64 nl ts.length (Nat.le_refl _)
    have h3 : ([59] : List UInt8).length = 1 := rfl
    rw [h3] at l5
    have l5' : ts.length * (64 + 1) ≤ 24 * (64 + 1) := Nat.mul_le_mul_right _ n24
    have l6 : (hexL (sha256L r.b)).length = 64 := by rw [hexL_length, sha256L_length]
    unfold canonX joinS
    simp only [List.length_append, List.length_cons, List.length_nil]
    omega
  · rw [if_neg h]; exact Nat.zero_le _
theorem refScope (d : List UInt8) (w : World) (hd : d.length ≤ 100000) : Calls Tryz.prog 53 #[.string (str d)] w fun e w' => e = .returned (.string (str (scopeL d))) ∧ w' = w := by
  have y : ¬ 9223372036854775807 < (str d).size + 22 := by rw [str_size]; omega
  have HT : Hid (str d ++ ⟨#[47, 108, 111, 99, 97, 108, 47, 115, 51, 47, 97, 119, 115, 52, 95, 114, 101, 113, 117, 101, 115, 116]⟩ = str (scopeL d)) := by
    unfold Hid
    rw [show (⟨#[47, 108, 111, 99, 97, 108, 47, 115, 51, 47, 97, 119, 115, 52, 95, 114, 101, 113, 117, 101, 115, 116]⟩ : ByteArray) = str sScope from rfl, str_append2]; rfl
  generalize str d = s at *
  go_enter Tryz.func53, Tryz.ntmps53
  go_wp2
  go_ret
  exact ⟨ret_s HT.out, rfl⟩

set_option maxRecDepth 20000 in
set_option maxHeartbeats 2000000 in
theorem refSign (sec m p q : List UInt8) (ha : Option Addr) (hn hc : Nat) (hs : List Pr) (ba : Option Addr) (bn bc : Nat) (bd : List UInt8) (ta : Option Addr) (tn tc : Nat) (ts : List (List UInt8)) (t : Nat) (S : List UInt8) (E : Int) (w : World)
    (hP : IsP w ha hn hc hs) (hB : IsB w ba bn bc bd) (hT : IsT w ta tn tc ts) (zs : sec.length ≤ 100000) (zm : m.length ≤ 30000) (zp : p.length ≤ 30000) (zq : q.length ≤ 30000) (zb : bn ≤ 30000) (zh : ∀ i, i < hs.length → (nthP hs i).2.length ≤ 30000) (zt : ∀ i, i < ts.length → (nthT ts i).length ≤ 140737488351232)
    (hS : E = 0 → S.length = 16) (HSw : ∀ w, Calls Tryz.prog 52 #[.int .u64 (t : Int)] w fun e w' => e = .returned (.tuple #[.string (str S), .int .i64 E]) ∧ Below w.heap.size w w') :
    Calls Tryz.prog 15 #[.string (str sec), .agg #[.string (str m), .string (str p), .string (str q), .slice ha hn hc, .slice ba bn bc], .slice ta tn tc, .int .u64 (t : Int)] w fun e w' => e = .returned (.tuple #[.string (str (signT sec S E ⟨m, p, q, hs, bd⟩ ts)), .int .i64 (signE E ⟨m, p, q, hs, bd⟩ ts)]) ∧ Below w.heap.size w w' := by
  have T0 : Below w.heap.size w (w.alloc (.cells #[.string (str m), .string (str p), .string (str q), .slice ha hn hc, .slice ba bn bc] 25)) := (Below.refl _ w).alloc (Nat.le_refl _) _
  have K0 := Blk.newAt w w.heap.size 25 _ [.string (str m), .string (str p), .string (str q), .slice ha hn hc, .slice ba bn bc] rfl rfl
  have HCa : ∀ W, Below w.heap.size w W → Calls Tryz.prog 13 #[.agg #[.string (str m), .string (str p), .string (str q), .slice ha hn hc, .slice ba bn bc], .slice ta tn tc] W fun e w' => e = .returned (.tuple #[.string (str (canonT ⟨m, p, q, hs, bd⟩ ts)), .int .i64 (canonE ⟨m, p, q, hs, bd⟩ ts)]) ∧ Below W.heap.size W w' := fun W hW => refCanonical m p q ha hn hc hs ba bn bc bd ta tn tc ts W (hP.below hW rfl) (hB.below hW rfl) (hT.below hW rfl) zm zp zq zb zh zt
  have lc := canonT_len (r := ⟨m, p, q, hs, bd⟩) (ts := ts) zm zp zq zh
  have HTT : Hid (∀ (E : Int), E = 0 → canonE ⟨m, p, q, hs, bd⟩ ts = 0 → signE E ⟨m, p, q, hs, bd⟩ ts = 0 ∧ signT sec S E ⟨m, p, q, hs, bd⟩ ts = hexL (hmL sha256L (keyL sec (S.take 8)) (signText S (canonT ⟨m, p, q, hs, bd⟩ ts)))) := fun E h1 h2 => by
    have e1 : signE E ⟨m, p, q, hs, bd⟩ ts = 0 := by unfold signE; rw [if_pos h1, h2]
    refine ⟨e1, ?_⟩
    unfold signT; rw [if_pos e1]; unfold signX canonT; rw [if_pos h2]
  have HT2 : Hid (∀ (E : Int), E = 0 → ¬ canonE ⟨m, p, q, hs, bd⟩ ts = 0 → signE E ⟨m, p, q, hs, bd⟩ ts = canonE ⟨m, p, q, hs, bd⟩ ts ∧ signT sec S E ⟨m, p, q, hs, bd⟩ ts = []) := fun E h1 h2 => by
    have e1 : signE E ⟨m, p, q, hs, bd⟩ ts = canonE ⟨m, p, q, hs, bd⟩ ts := by unfold signE; rw [if_pos h1]
    refine ⟨e1, ?_⟩
    unfold signT; rw [e1, if_neg h2]
  have HT3 : Hid (¬ E = 0 → signE E ⟨m, p, q, hs, bd⟩ ts = E ∧ signT sec S E ⟨m, p, q, hs, bd⟩ ts = []) := fun h1 => by
    have e1 : signE E ⟨m, p, q, hs, bd⟩ ts = E := by unfold signE; rw [if_neg h1]
    refine ⟨e1, ?_⟩
    unfold signT; rw [e1, if_neg h1]
  clear hP hB hT zm zp zq zb zh zt
  by_cases hE0 : E = 0
  · subst hE0
    have h16 := hS rfl
    by_cases hc0 : canonE ⟨m, p, q, hs, bd⟩ ts = 0
    · obtain ⟨e1, e2⟩ := HTT.out 0 rfl hc0
      rw [e1, e2]
      rw [hc0] at HCa
      clear HTT HT2 HT3 e1 e2 hc0 hS
      generalize canonT ⟨m, p, q, hs, bd⟩ ts = ct at *
      have hex : (str S).extract 0 8 = str (S.take 8) := by rw [ext_take, str_list]
      have l8 : (S.take 8).length = 8 := by rw [List.length_take]; omega
      have hs16 : (str S).size = 16 := by rw [str_size]; exact h16
      have HSc := fun W => refScope (S.take 8) W (by omega)
      have HKe := fun W => refKey sec (S.take 8) W zs (by omega)
      have lsc : (scopeL (S.take 8)).length = 30 := by unfold scopeL; rw [List.length_append, l8]; rfl
      have lx : (hexL (sha256L ct)).length = 64 := by rw [hexL_length, sha256L_length]
      have lst : (signText S ct).length ≤ 1000 := by
        unfold signText
        simp only [List.length_append, List.length_cons, List.length_nil, lsc, lx, h16]
        decide
      have HSh : ∀ W a n c, IsB W a n c ct → Calls Tryz.prog 48 #[.slice a n c] W fun e w' => (∃ va vc, e = .returned (.slice va 32 vc) ∧ IsB w' va 32 vc (sha256L ct)) ∧ Below W.heap.size W w' := fun W a n c hi => (refSha256 a n c ct W hi (by have := hi.len_eq; omega)).mono (by
        rintro e w' ⟨v, rfl, ho, hb⟩
        obtain ⟨va, vc, rfl, hi⟩ := ho.isB
        rw [sha256L_length] at hi ⊢
        exact ⟨⟨va, vc, rfl, hi⟩, hb⟩)
      have HH1 : ∀ va vc W, IsB W va 32 vc (sha256L ct) → Calls Tryz.prog 47 #[.slice va 32 vc] W fun e w' => e = .returned (.string (str (hexL (sha256L ct)))) ∧ Below W.heap.size W w' := fun va vc W hi => refHex va 32 vc (sha256L ct) W hi (by omega)
      have HTx : Hid ((⟨#[65, 87, 83, 52, 45, 72, 77, 65, 67, 45, 83, 72, 65, 50, 53, 54, 10]⟩ : ByteArray) ++ str S ++ ⟨#[10]⟩ ++ str (scopeL (S.take 8)) ++ ⟨#[10]⟩ ++ str (hexL (sha256L ct)) = str (signText S ct)) := by
        unfold Hid
        rw [show (⟨#[65, 87, 83, 52, 45, 72, 77, 65, 67, 45, 83, 72, 65, 50, 53, 54, 10]⟩ : ByteArray) = str sAlg from rfl, show (⟨#[10]⟩ : ByteArray) = str [10] from rfl, str_append2, str_append2, str_append2, str_append2, str_append2]
        rfl
      have zsc : (str (scopeL (S.take 8))).size = 30 := by rw [str_size]; exact lsc
      have zx : (str (hexL (sha256L ct))).size = 64 := by rw [str_size]; exact lx
      have HHm : ∀ W a c a1 n1 c1, IsB W a 32 c (keyL sec (S.take 8)) → IsB W a1 n1 c1 (signText S ct) → Calls Tryz.prog 54 #[.slice a 32 c, .slice a1 n1 c1] W fun e w' => (∃ va vc, e = .returned (.slice va 32 vc) ∧ IsB w' va 32 vc (hmL sha256L (keyL sec (S.take 8)) (signText S ct))) ∧ Below W.heap.size W w' := fun W a c a1 n1 c1 h1 h2 => refHm a 32 c _ a1 n1 c1 _ W h1 h2 (by omega) (by have := h2.len_eq; omega)
      have HH2 : ∀ va vc W, IsB W va 32 vc (hmL sha256L (keyL sec (S.take 8)) (signText S ct)) → Calls Tryz.prog 47 #[.slice va 32 vc] W fun e w' => e = .returned (.string (str (hexL (hmL sha256L (keyL sec (S.take 8)) (signText S ct))))) ∧ Below W.heap.size W w' := fun va vc W hi => refHex va 32 vc _ W hi (by omega)
      have HCv : ∀ W (l : List UInt8), l.length ≤ 10000000 → ∃ cap x, (convert 9 23 (.string (str l))).run Tryz.prog W = .ok (.slice (some ⟨W.heap.size, 0, none⟩) l.length cap) x ∧ IsB x (some ⟨W.heap.size, 0, none⟩) l.length cap l ∧ Below W.heap.size W x := fun W l hl => by
        have h1 := conv_str W (str l)
        have h2 := conv_str_isB W (str l) (by rw [str_size]; unfold maxLen; omega)
        rw [sL_str, str_size] at h2
        rw [str_size] at h1
        exact ⟨_, _, h1, h2, conv_str_bel W (str l)⟩
      have ltx : (signText S ct).length ≤ 10000000 := by omega
      clear lst lx lsc l8 h16
      go_enter Tryz.func15, Tryz.ntmps15
      go_upto_region 8 with (first
        | (go_at_call 52; refine (HSw _).mono ?_; rintro e w1 ⟨rfl, hb1⟩; have T1 := T0.trans (hb1.mono T0.size); have K1 := K0.on hb1; have c0 := K1.cell 0; have c1 := K1.cell 1; have c2 := K1.cell 2; have c3 := K1.cell 3; have c4 := K1.cell 4)
        | (go_at_call 13; refine (HCa _ T1).mono ?_; rintro e w2 ⟨rfl, hb2⟩; have T2 := T1.trans (hb2.mono T1.size); obtain ⟨cp5, x5, hcv5, hi5, hb5⟩ := HCv w2 ct lc; have T5 := T2.trans (hb5.mono T2.size))
        | (go_at_call 53; refine (HSc _).mono ?_; rintro e w3 ⟨rfl, hww⟩; rw [hww]; clear hww w3)
        | (go_at_call 48; refine (HSh _ _ _ _ hi5).mono ?_; rintro e w6 ⟨⟨va6, vc6, rfl, hi6⟩, hb6⟩; have T6 := T5.trans (hb6.mono T5.size))
        | (go_at_call 47; refine (HH1 _ _ _ hi6).mono ?_; rintro e w7 ⟨rfl, hb7⟩; have T7 := T6.trans (hb7.mono T6.size)))
      clear HCa HSc HSh HH1 HSw hcv5 hi5 K0
      go_wp2_with (first
        | (go_at_call 18; refine (HKe _).mono ?_; rintro e w8 ⟨⟨va8, vc8, rfl, hi8⟩, hb8⟩; have T8 := T7.trans (hb8.mono T7.size); obtain ⟨cp9, x9, hcv9, hi9, hb9⟩ := HCv w8 (signText S ct) ltx; rw [← HTx.out] at hcv9; have T9 := T8.trans (hb9.mono T8.size))
        | (go_at_call 54; refine (HHm _ _ _ _ _ _ (hi8.below hb9 rfl) hi9).mono ?_; rintro e w10 ⟨⟨va10, vc10, rfl, hi10⟩, hb10⟩; have T10 := T9.trans (hb10.mono T9.size))
        | (go_at_call 47; refine (HH2 _ _ _ hi10).mono ?_; rintro e w11 ⟨rfl, hb11⟩))
      go_ret2
      exact ⟨rfl, T10.trans (hb11.mono T10.size)⟩
    · obtain ⟨e1, e2⟩ := HT2.out 0 rfl hc0
      rw [e1, e2, show str [] = (⟨#[]⟩ : ByteArray) from rfl]
      have hz : (canonE ⟨m, p, q, hs, bd⟩ ts == 0) = false := by simpa using hc0
      clear HTT HT2 HT3 e1 e2 hc0
      generalize canonE ⟨m, p, q, hs, bd⟩ ts = ce at *
      go_enter Tryz.func15, Tryz.ntmps15
      go_wp2_with (first | (go_at_call 52; refine (HSw _).mono ?_; rintro e w1 ⟨rfl, hb1⟩; have T1 := T0.trans (hb1.mono T0.size); have K1 := K0.on hb1; have c0 := K1.cell 0; have c1 := K1.cell 1; have c2 := K1.cell 2; have c3 := K1.cell 3; have c4 := K1.cell 4) | (go_at_call 13; refine (HCa _ T1).mono ?_; rintro e w2 ⟨rfl, hb2⟩))
      go_ret2
      exact ⟨rfl, T1.trans (hb2.mono T1.size)⟩
  · obtain ⟨e1, e2⟩ := HT3.out hE0
    rw [e1, e2, show str [] = (⟨#[]⟩ : ByteArray) from rfl]
    have hz : (E == 0) = false := by simpa using hE0
    clear HTT HT2 HT3 e1 e2 hE0 hS
    go_enter Tryz.func15, Tryz.ntmps15
    go_wp2_with (go_at_call 52; refine (HSw _).mono ?_; rintro e w1 ⟨rfl, hb1⟩)
    go_ret2
    exact ⟨rfl, T0.trans (hb1.mono T0.size)⟩
end Go.Proofs.YtgjmaeodgcigdaaGreatDoor
