/- Slices of words that a call itself makes and appends to: laws at this program's types. · What the document's k256, bytes and words answer. · What the document's padded answers. · What the document's words answers. · An append of words leaves the cells that were owned as they were. -/
import Derived.Test.YthjdmfbengpepaaGreatB7
import Derived.Test.YthjdmfbengpepaaGreatB9
import Derived.Test.YthjdmfbengpepaaGreatB10
import Derived.Test.YthjdmfbengpepaaGreatB0
import Derived.Laws.AppendOwnNone
namespace Go.Proofs.YthjdmfbengpepaaGreat
open Go.RowKit

theorem info32 : (Tryz.prog.info? 126).map (fun i => (i.zero, i.size, i.bytes)) = some (some (.int .u32 0), 1, 4) := by kernel_rfl

/-- a slice of words in a world -/
structure IsW (w : World) (a : Option Addr) (len cap : Nat) (l : List UInt32) : Prop where
  len_eq : l.length = len
  le : len ≤ cap
  max : cap ≤ maxLen
  nil : a = none → cap = 0
  cells : 0 < len → ∃ b off, a = some ⟨b, off, none⟩ ∧ ∀ i, i < len → w.cell? ⟨b, off + i, none⟩ = some (.int .u32 ((nthW l i).toNat : Int))

theorem IsW.below {w w' : World} {n : Nat} {a : Option Addr} {len cap : Nat} {l : List UInt32} (h : IsW w a len cap l) (hb : Below n w w') (hn : n = w.heap.size) : IsW w' a len cap l :=
  ⟨h.len_eq, h.le, h.max, h.nil, fun hp => by
    obtain ⟨b, off, e, hc⟩ := h.cells hp
    refine ⟨b, off, e, fun i hi => ?_⟩
    have := hc i hi
    have hlt : b < w.heap.size := cell_lt this
    rw [hb.cell (p := ⟨b, off + i, none⟩) (by simpa [hn] using hlt)]; exact this⟩

/-- v owns the words l, in blocks from base on -/
def OwnW (w : World) (base : Nat) (v : Value) (l : List UInt32) : Prop := w.ownsRow base 126 1 v l.length (wv l)

theorem OwnW.nil (w : World) (base : Nat) : OwnW w base (.slice none 0 0) [] := World.ownsRow_nil _ _ _ _

theorem OwnW.heap {w w' : World} {base : Nat} {v : Value} {l : List UInt32} (h : OwnW w base v l) (e : w'.heap = w.heap) : OwnW w' base v l := by
  unfold OwnW World.ownsRow at *; rw [e]; exact h

theorem OwnW.base {w : World} {base base' : Nat} {v : Value} {l : List UInt32} (h : OwnW w base v l) (hb : base' ≤ base) : OwnW w base' v l := by
  refine ⟨h.1, ?_⟩
  rcases h.2 with h2 | ⟨g, cap, cur, h3, h4, h5⟩
  · exact .inl h2
  · exact .inr ⟨g, cap, cur, h3, Nat.le_trans hb h4, h5⟩

theorem OwnW.alloc {w : World} {base : Nat} {v : Value} {l : List UInt32} (h : OwnW w base v l) (o : Obj) : OwnW (w.alloc o) base v l := World.ownsRow.alloc h o

theorem OwnW.blk {w : World} {base : Nat} {v : Value} {l : List UInt32} (h : OwnW w base v l) : ∀ k, v.ownBlock = some k → base ≤ k ∧ k < w.heap.size := World.ownsRow.lt h

/-- as a slice of words -/
theorem OwnW.isB {w : World} {base : Nat} {v : Value} {l : List UInt32} (h : OwnW w base v l) : ∃ a cap, v = .slice a l.length cap ∧ IsW w a l.length cap l := by
  obtain ⟨h1, h2⟩ := h
  rcases h2 with ⟨rfl, h0⟩ | ⟨g, cap, cur, rfl, hb, hg, hle, hmax, hsz, htk⟩
  · have : l = [] := List.eq_nil_of_length_eq_zero h0
    subst this
    exact ⟨none, 0, rfl, rfl, Nat.le_refl _, Nat.zero_le _, fun _ => rfl, fun hp => absurd hp (Nat.lt_irrefl 0)⟩
  · refine ⟨_, cap, rfl, rfl, hle, hmax, fun e => (by cases e), fun hp => ⟨g, 0, rfl, fun i hi => ?_⟩⟩
    have hc := World.ownsRow.cells (w := w) (base := base) (e := 126) (size := 1) (v := .slice (some ⟨g, 0, none⟩) l.length cap) (n := l.length) (xs := wv l) ⟨h1, .inr ⟨g, cap, cur, rfl, hb, hg, hle, hmax, hsz, htk⟩⟩ (g := g) rfl i _ (wv_at l i hi)
    rw [Addr.add_lit] at hc; exact hc

/-- a byte of it; a byte of it turned -/
theorem OwnW.cellAt {w : World} {base g cap : Nat} {l : List UInt32} {n : Nat} (h : OwnW w base (.slice (some ⟨g, 0, none⟩) n cap) l) (hn : l.length = n) (j : Nat) (hj : j < n) : w.cell? ⟨g, j, none⟩ = some (.int .u32 ((nthW l j).toNat : Int)) := by
  subst hn
  rw [World.ownsRow.cellAt h j (by omega), wv_at l j hj]
theorem OwnW.frozenAt {w : World} {base g cap : Nat} {l : List UInt32} {n : Nat} (h : OwnW w base (.slice (some ⟨g, 0, none⟩) n cap) l) (hn : l.length = n) (j : Nat) : w.frozen? ⟨g, j, none⟩ = false := by
  subst hn
  exact World.ownsRow.frozenAt h j
theorem OwnW.set {w : World} {base g cap : Nat} {l : List UInt32} {n : Nat} (h : OwnW w base (.slice (some ⟨g, 0, none⟩) n cap) l) (hn : l.length = n) (j : Nat) (x : UInt32) : OwnW (w.setCell ⟨g, j, none⟩ (.int .u32 (x.toNat : Int))) base (.slice (some ⟨g, 0, none⟩) n cap) (l.set j x) := by
  subst hn
  have := (World.ownsRow.stored h j (.int .u32 (x.toNat : Int))).1
  unfold OwnW
  rw [List.length_set]
  have e : wv (l.set j x) = (wv l).set j (.int .u32 (x.toNat : Int)) := by unfold wv; rw [List.map_set]
  rw [e]; exact this

/-- words in a block of their own -/
theorem IsW.ofBlock {w : World} {B : Nat} (l : List UInt32) (hm : l.length ≤ maxLen) (hb : w.heap[B]? = some (.cells (wv l).toArray 126 (0, 0))) : IsW w (some ⟨B, 0, none⟩) l.length l.length l :=
  ⟨rfl, Nat.le_refl _, hm, fun e => (by cases e), fun _ => ⟨B, 0, rfl, fun i hi => by
    rw [cell_of_row w B (0 + i) _ _ _ hb, Nat.zero_add]
    simpa using wv_at l i hi⟩⟩

/-- make([]byte, 0, n) -/
theorem make_own32 {ops : Array Oper} {rest : List Oper} {o : Oper} {a : Act} {Q : Exit → Act → World → Prop} (w : World)
    (hg : o.guard = none) (l c : Operand) (hop : o.op = Op.makeSlice 162 l c) (base : Nat)
    (kl kc : IntKind) (C : Int) (n : Nat) (hl : a.eval l = .int kl 0) (hc : a.eval c = .int kc C) (hC : C = (n : Int)) (b2 : n ≤ 70368744177664) (b4 : base ≤ w.heap.size)
    (hK : ∀ w', OwnW w' base (.slice (some ⟨w.heap.size, 0, none⟩) 0 n) [] → w.grownBy w' none → wpList Tryz.prog ops Q rest (a.put o.dst (.slice (some ⟨w.heap.size, 0, none⟩) 0 n)) w') :
    wpList Tryz.prog ops Q (o :: rest) a w := by
  obtain ⟨i0, hi, hz0, hz1, hz2⟩ := info_parts info32
  exact wpList_make_own w hg l c 162 hop base 126 i0 (.int .u32 0) 1 Tryz.underlying162 hi hz0 hz1 kl kc C n hl hc hC (by rw [hz2]; omega) (by unfold maxLen; omega) b4 hK

theorem made_zerosW (n : Nat) : (madeCells (Value.int .u32 0).cells (n * 1)).toList = wv (List.replicate n 0) := by
  simp only [madeCells, Value.cells, wv, List.map_replicate]
  rw [List.eq_replicate_iff]
  simp [Nat.mod_one]

/-- make([]byte, n) -/
theorem make_full32 {ops : Array Oper} {rest : List Oper} {o : Oper} {a : Act} {Q : Exit → Act → World → Prop} (w : World)
    (hg : o.guard = none) (l c : Operand) (hop : o.op = Op.makeSlice 162 l c) (base : Nat)
    (kl kc : IntKind) (L C : Int) (n : Nat) (hl : a.eval l = .int kl L) (hc : a.eval c = .int kc C) (hL : L = (n : Int)) (hC : C = (n : Int)) (b2 : n ≤ 70368744177664) (b4 : base ≤ w.heap.size)
    (hK : ∀ w', OwnW w' base (.slice (some ⟨w.heap.size, 0, none⟩) n n) (List.replicate n 0) → w.grownBy w' none → wpList Tryz.prog ops Q rest (a.put o.dst (.slice (some ⟨w.heap.size, 0, none⟩) n n)) w') :
    wpList Tryz.prog ops Q (o :: rest) a w := by
  obtain ⟨i0, hi, hz0, hz1, hz2⟩ := info_parts info32
  exact wpList_make_full w hg l c 162 hop base 126 i0 (.int .u32 0) 1 Tryz.underlying162 hi hz0 hz1 kl kc L C n hl hc hL hC (by rw [hz2]; omega) (by unfold maxLen; omega) b4
    (fun w' h g => hK w' (by unfold OwnW; rw [List.length_replicate]; rw [made_zerosW] at h; exact h) g)

/-- append of words that lie in a block of their own, in a region that draws -/
theorem step_app32 {ops : Array Oper} {o : Oper} {a : Act} {K : Act → World → Prop} {Q : Exit → Act → World → Prop} {E : Prop} (w : World) (hgd : o.guard = none) (s x : Operand)
    (ho : o.op = .call { callee := .builtin .append, args := #[s, x], argTypes := #[162, 162] }) (base : Nat)
    (v : Value) (l : List UInt32) (hs : a.eval s = v) (hown : OwnW w base v l) (B m c : Nat) (news : List UInt32) (hx : a.eval x = .slice (some ⟨B, 0, none⟩) m c) (hl : news.length = m)
    (hb : w.heap[B]? = some (.cells (wv news).toArray 126 (0, 0))) (hm : 0 < m) (hbytes : l.length + m ≤ 35184372088832) (hbase : base ≤ w.heap.size) (H : Nat) (hH : w.heap.size = H)
    (h : ∀ g cap w', OwnW w' base (.slice (some ⟨g, 0, none⟩) (l.length + m) cap) (l ++ news) → w.grownBy w' v.ownBlock → (v.ownBlock = some g ∨ g = H) → g < w'.heap.size → K (a.put o.dst (.slice (some ⟨g, 0, none⟩) (l.length + m) cap)) w') :
    if Region.wanted o (yielded ops a.tmps) = true then Oper.wp Tryz.prog o a w K Q else E := by
  obtain ⟨i0, hi, hz0, hz1, hz2⟩ := info_parts info32
  refine step_append_lies w hgd s x 162 ho base 126 i0 (.int .u32 0) 1 4 Tryz.underlying162 hi hz0 hz1 hz2 rfl (by omega) v l.length (wv l) hs hown ⟨B, 0, none⟩ m c (wv news) hx (by rw [wv_length]; omega)
    (fun j u hu => World.news_of_block hb j u (by simpa using hu)) (wv_one news) hm (by unfold maxLen; omega) (by omega) hbase H hH ?_
  intro g cap w' h1 h2 h3 h4
  exact h g cap w' (by unfold OwnW; rw [wv_append, List.length_append, hl]; exact h1) h2 h3 h4

/-- the same in a plain region -/
theorem list_app32 {ops : Array Oper} {rest : List Oper} {o : Oper} {a : Act} {Q : Exit → Act → World → Prop} (w : World) (hgd : o.guard = none) (s x : Operand)
    (ho : o.op = .call { callee := .builtin .append, args := #[s, x], argTypes := #[162, 162] }) (base : Nat)
    (v : Value) (l : List UInt32) (hs : a.eval s = v) (hown : OwnW w base v l) (B m c : Nat) (news : List UInt32) (hx : a.eval x = .slice (some ⟨B, 0, none⟩) m c) (hl : news.length = m)
    (hb : w.heap[B]? = some (.cells (wv news).toArray 126 (0, 0))) (hm : 0 < m) (hbytes : l.length + m ≤ 35184372088832) (hbase : base ≤ w.heap.size) (H : Nat) (hH : w.heap.size = H)
    (h : ∀ g cap w', OwnW w' base (.slice (some ⟨g, 0, none⟩) (l.length + m) cap) (l ++ news) → w.grownBy w' v.ownBlock → (v.ownBlock = some g ∨ g = H) → g < w'.heap.size → wpList Tryz.prog ops Q rest (a.put o.dst (.slice (some ⟨g, 0, none⟩) (l.length + m) cap)) w') :
    wpList Tryz.prog ops Q (o :: rest) a w := by
  obtain ⟨i0, hi, hz0, hz1, hz2⟩ := info_parts info32
  refine wpList_append_lies w hgd s x 162 ho base 126 i0 (.int .u32 0) 1 4 Tryz.underlying162 hi hz0 hz1 hz2 rfl (by omega) v l.length (wv l) hs hown ⟨B, 0, none⟩ m c (wv news) hx (by rw [wv_length]; omega)
    (fun j u hu => World.news_of_block hb j u (by simpa using hu)) (wv_one news) hm (by unfold maxLen; omega) (by omega) hbase H hH ?_
  intro g cap w' h1 h2 h3 h4
  exact h g cap w' (by unfold OwnW; rw [wv_append, List.length_append, hl]; exact h1) h2 h3 h4

end Go.Proofs.YthjdmfbengpepaaGreat
namespace Go.Proofs.YthjdmfbengpepaaGreat
open Go.RowKit
attribute [local go_sem ↓] Go.wp_at_zero Go.wp_at_succ

set_option maxRecDepth 20000 in
set_option maxHeartbeats 1000000 in
theorem refK256 (w : World) :
    Calls Tryz.prog 103 #[] w fun e w' => e = .returned (.slice (some ⟨w.heap.size, 0, none⟩) 64 64) ∧ Blk w' w.heap.size 126 (wv kL) ∧ Below w.heap.size w w' := by
  go_enter Tryz.func103, Tryz.ntmps103
  go_wp2
  go_ret
  exact ⟨rfl, Blk.newAt w _ _ _ (wv kL) rfl rfl, (Below.refl _ _).alloc (Nat.le_refl _) _⟩

theorem outB_four (ws : List UInt32) (k : Nat) : outB ws (4 * (k + 1)) = outB ws (4 * k) ++ [dgW ws (4 * k), dgW ws (4 * k + 1), dgW ws (4 * k + 2), dgW ws (4 * k + 3)] := by
  have e : 4 * (k + 1) = 4 * k + 1 + 1 + 1 + 1 := by omega
  rw [e, outB_succ, outB_succ, outB_succ, outB_succ]; simp
theorem dgB_four (ws : List UInt32) (k : Nat) :
    IntKind.u8.wrap (((nthW ws k).toNat : Int) / 16777216) = ((dgW ws (4 * k)).toNat : Int) ∧ IntKind.u8.wrap (((nthW ws k).toNat : Int) / 65536) = ((dgW ws (4 * k + 1)).toNat : Int) ∧ IntKind.u8.wrap (((nthW ws k).toNat : Int) / 256) = ((dgW ws (4 * k + 2)).toNat : Int) ∧ IntKind.u8.wrap ((nthW ws k).toNat : Int) = ((dgW ws (4 * k + 3)).toNat : Int) := by
  have h : ∀ r, r < 4 → ((nthW ws k).toNat : Int) / 2 ^ (24 - 8 * r) % 256 = ((dgW ws (4 * k + r)).toNat : Int) := by
    intro r hr
    have := dgW_val ws (4 * k + r)
    rw [show (4 * k + r) / 4 = k by omega, show (4 * k + r) % 4 = r by omega] at this
    exact this
  rw [wrap8_mod, wrap8_mod, wrap8_mod, wrap8_mod]
  refine ⟨h 0 (by omega), h 1 (by omega), h 2 (by omega), ?_⟩
  have := h 3 (by omega)
  simpa using this

set_option maxRecDepth 20000 in
set_option maxHeartbeats 1000000 in
theorem refBytes (a : Option Addr) (len cap : Nat) (ws : List UInt32) (w : World) (h : IsW w a len cap ws) (hl : len ≤ 8) :
    Calls Tryz.prog 107 #[.slice a len cap] w fun e w' => ∃ v, e = .returned v ∧ OwnB w' w.heap.size v (outB ws (4 * len)) ∧ Below w.heap.size w w' := by
  have H : Hid (IsW w a len cap ws) := h
  have hle := h.le
  clear h
  go_enter Tryz.func107, Tryz.ntmps107
  go_wp2
  go_loopw [3, 4] (fun v i wr => ∃ k : Nat, k ≤ len ∧ i = .int .i64 k ∧ OwnB wr w.heap.size v (outB ws (4 * k)) ∧ Below w.heap.size w wr) (fun _ i _ => len - (intOf i).toNat)
  case atStart => exact ⟨0, Nat.zero_le _, rfl, OwnB.nil _ _, Below.refl _ _⟩
  case round =>
    obtain ⟨k, hk, rfl, hown, hbel⟩ := hrel
    by_cases hlt : k < len
    · obtain ⟨b0, o0, rfl, hc0⟩ := H.out.cells (by omega)
      have g0 := hc0 k hlt
      have gb : b0 < w.heap.size := cell_lt g0
      have g1 := (hbel.cell (p := ⟨b0, o0 + k, none⟩) gb).trans g0
      have gz : b0 < wr.heap.size := Nat.lt_of_lt_of_le gb hbel.size
      clear hc0 g0
      have hlt' : (k : Int) < (len : Int) := by omega
      have HO : Hid (outB ws (4 * (k + 1)) = outB ws (4 * k) ++ [dgW ws (4 * k), dgW ws (4 * k + 1), dgW ws (4 * k + 2), dgW ws (4 * k + 3)]) := outB_four ws k
      have HL : Hid ((outB ws (4 * k)).length = 4 * k) := outB_length ws (4 * k)
      obtain ⟨d0, d1, d2, d3⟩ := dgB_four ws k
      have u0 := (dgW ws (4 * k)).toNat_lt
      have HB := hown.blk
      go_wp2
      go_region_held3 (fun w' => w'.cell? ⟨b0, o0 + k, none⟩ = some (.int .u32 ((nthW ws k).toNat : Int)))
        (first | go_keep | (rw [hgrow.cell_far _ (by simp; omega) (fun e => by have := (HB _ e.symm).1; simp at this; omega)]; assumption))
        ((refine step_app8 _ (by rfl) _ _ (by rfl) w.heap.size _ (outB ws (4 * k)) (by rfl) ((hown.alloc _).heap rfl) wr.heap.size 4 4 [dgW ws (4 * k), dgW ws (4 * k + 1), dgW ws (4 * k + 2), dgW ws (4 * k + 3)] (by rfl) (by rfl) (heap_alloc_new wr _) (by omega) (by rw [HL.out]; omega) (by have := hbel.size; simp; omega) (wr.heap.size + 1) (by simp) ?_; intro gg cap w1 hown1 hgrow hat hlt1))
      all_goals
        go_wp2
        go_roundw
        case rel => exact ⟨k + 1, by omega, by go_num, by rw [HO.out]; exact hown1, ((hbel.alloc hbel.size _).drew).grown hgrow (by have := hbel.size; simp; omega) (fun j hj => (HB j hj).1)⟩
        case measure => simp [intOf]; omega
    · have e : k = len := by omega
      rw [e] at hown
      go_wp2
      go_ret
      exact ⟨_, rfl, hown, hbel⟩
end Go.Proofs.YthjdmfbengpepaaGreat
namespace Go.Proofs.YthjdmfbengpepaaGreat
open Go.RowKit
attribute [local go_sem ↓] Go.wp_at_zero Go.wp_at_succ

def padZ (l : List UInt8) (k : Nat) : List UInt8 := l ++ (128 :: List.replicate k 0)
theorem padZ_length (l : List UInt8) (k : Nat) : (padZ l k).length = l.length + 1 + k := by simp [padZ]; omega
theorem padZ_succ (l : List UInt8) (k : Nat) : padZ l (k + 1) = padZ l k ++ [0] := by
  unfold padZ; rw [List.replicate_succ']; simp
def padB (l : List UInt8) (j : Nat) : List UInt8 := padZ l (zN l.length) ++ (List.range j).map (be (l.length * 8))
theorem padB_length (l : List UInt8) (j : Nat) : (padB l j).length = l.length + 1 + zN l.length + j := by simp [padB, padZ_length]
theorem padB_succ (l : List UInt8) (j : Nat) : padB l (j + 1) = padB l j ++ [be (l.length * 8) j] := by
  unfold padB; rw [List.range_succ, List.map_append]; simp
theorem padB_all (l : List UInt8) : padB l 8 = l ++ padOf l.length := by
  unfold padB padZ padOf be8; simp
theorem pad_stop (n k : Nat) (h : k ≤ zN n) : ((n + 1 + k) % 64 = 56) ↔ k = zN n := by
  unfold zN at *; omega

/-- a slice's length, for a measure -/
def sliceLen2 : Value → Nat | .slice _ k _ => k | _ => 0

set_option maxRecDepth 20000 in
set_option maxHeartbeats 1000000 in
theorem refPadded (a : Option Addr) (len cap : Nat) (l : List UInt8) (w : World) (h : IsB w a len cap l) (hn : len < 4294967296) :
    Calls Tryz.prog 104 #[.slice a len cap] w fun e w' => ∃ v, e = .returned v ∧ OwnB w' w.heap.size v (l ++ padOf l.length) ∧ Below w.heap.size w w' := by
  have H : Hid (IsB w a len cap l) := h
  have HE : Hid (l.length = len) := h.len_eq
  have hle := h.le
  have hmx := h.max
  unfold maxLen at hmx
  clear h
  go_enter Tryz.func104, Tryz.ntmps104
  go_wp2_with (first | (at_builtin; refine list_appS _ rfl (.tmp 6) (.tmp 7) rfl w.heap.size _ [] rfl (OwnB.empty w _ (Nat.le_refl _)) a len cap l rfl (H.out.below ((Below.refl _ _).alloc (Nat.le_refl _) _) rfl) (by simp; omega) (by simp) ?_; intro v1 w1 hown1 hgrow1) | (at_builtin; refine list_app8 _ rfl (.tmp 8) (.tmp 9) rfl w.heap.size v1 ([] ++ l) rfl (hown1.alloc _) w1.heap.size 1 1 [128] rfl rfl (heap_alloc_new w1 _) (by omega) (by have := HE.out; simp; omega) (by have := hgrow1.size; simp at this ⊢; omega) _ rfl ?_; intro g2 cap2 w2 hown2 hgrow2 hat2 hlt2))
  have hbel1 : Below w.heap.size w w1 := ((Below.refl _ _).alloc (Nat.le_refl _) _).grown hgrow1 (by simp) (fun k hk => Nat.le_of_eq (Option.some.inj hk))
  have hbel2 : Below w.heap.size w w2 := (hbel1.alloc hbel1.size _).grown hgrow2 (by have := hbel1.size; simp; omega) (fun k hk => (hown1.blk k hk).1)
  have hown0 : OwnB w2 w.heap.size (.slice (some ⟨g2, 0, none⟩) (([] ++ l).length + 1) cap2) (padZ l 0) := hown2
  clear hown1 hgrow1 hown2 hgrow2 hbel1 hat2 hlt2
  go_loopw [3] (fun v wr => ∃ k : Nat, Hid (k ≤ zN l.length) ∧ OwnB wr w.heap.size v (padZ l k) ∧ Below w.heap.size w wr) (fun v _ => len + 70 - sliceLen2 v)
  case atStart => exact ⟨0, Nat.zero_le _, hown0, hbel2⟩
  case round =>
    clear hown0 hbel2
    obtain ⟨k, hk, hown, hbel⟩ := hrel
    obtain ⟨a3, cap3, rfl, hle3, hmx3⟩ := hown.length_of
    have HL3 : Hid ((padZ l k).length = len + 1 + k) := by unfold Hid; rw [padZ_length, HE.out]
    have hz64 := zN_lt l.length
    have hk' := hk.out
    generalize hm3 : (padZ l k).length = m3 at *
    have HM3 : Hid ((padZ l k).length = m3) := hm3
    clear hm3
    have hm3b : m3 = len + 1 + k := HL3.out
    have hmx4 : m3 ≤ 9223372036854775807 := by omega
    by_cases hst : k = zN l.length
    · have hmod : (m3 : Int) % 64 = 56 := by have := (pad_stop l.length k hk').2 hst; rw [HE.out] at this; omega
      have HB : Hid (OwnB wr w.heap.size (.slice a3 m3 cap3) (padB l 0)) := by
        have e : padB l 0 = padZ l k := by unfold padB; rw [hst]; simp
        rw [e]; exact hown
      clear hown hk hst hm3b hk' HM3 HL3
      go_wp2
      clear hmod
      go_loopw [3, 5] (fun v i wr => ∃ j : Nat, j ≤ 8 ∧ i = .int .i64 (7 - (j : Int)) ∧ OwnB wr w.heap.size v (padB l j) ∧ Below w.heap.size w wr) (fun _ i _ => (intOf i + 1).toNat)
      case atStart => exact ⟨0, by omega, rfl, HB.out, hbel⟩
      case round =>
        clear HB hbel
        obtain ⟨j, hj, rfl, hown, hbel⟩ := hrel
        have HL4 : Hid ((padB l j).length = len + 1 + zN l.length + j) := by unfold Hid; rw [padB_length, HE.out]
        by_cases hlt : j < 8
        · obtain ⟨t, ht⟩ : ∃ t : Nat, 7 - (j : Int) = (t : Int) := ⟨7 - j, by omega⟩
          have HT : Hid (7 - (j : Int) = (t : Int)) := ht
          have ht8 : t < 8 := by omega
          have htj : t = 7 - j := by omega
          have HV : Hid ((len : Int) * 8 / 2 ^ (8 * t) % 256 = ((be (l.length * 8) j).toNat : Int)) := by
            have := be_val len j
            unfold Hid; rw [HE.out, ← this, htj]; congr 3; omega
          have HVw : IntKind.u8.wrap ((len : Int) * 8 / 2 ^ (8 * t)) = ((be (l.length * 8) j).toNat : Int) := by rw [wrap8_mod]; exact HV.out
          have HO : Hid (padB l (j + 1) = padB l j ++ [be (l.length * 8) j]) := padB_succ l j
          have HB := hown.blk
          clear htj
          rw [ht]
          clear ht
          have h8 : (8 * (t : Int)).toNat = 8 * t := by omega
          go_wp2_with (at_builtin; refine list_app8 _ rfl (.tmp 26) (.tmp 33) rfl w.heap.size _ (padB l j) rfl (hown.alloc _) wr.heap.size 1 1 [be (l.length * 8) j] rfl rfl (heap_alloc_new wr _) (by omega) (by rw [HL4.out]; omega) (by have := hbel.size; simp; omega) _ rfl ?_; intro g4 cap4 w4 hown4 hgrow4 hat4 hlt4)
          go_roundw
          case rel => exact ⟨j + 1, by omega, by have := HT.out; go_num, by rw [HO.out]; exact hown4, (hbel.alloc hbel.size _).grown hgrow4 (by have := hbel.size; simp; omega) (fun q hq => (HB q hq).1)⟩
          case measure => simp [intOf]
        · have e : j = 8 := by omega
          have hge : ¬ ((0 : Int) ≤ 7 - (j : Int)) := by omega
          have HO : Hid (OwnB wr w.heap.size u3 (l ++ padOf l.length)) := by
            have := hown
            rw [e, padB_all] at this; exact this
          clear hown e
          go_wp2
          go_ret
          exact ⟨_, rfl, HO.out, hbel⟩
    · have hmod : ((m3 : Int) % 64 == 56) = false := by
        have := mt (pad_stop l.length k hk').1 hst; rw [HE.out] at this; simp; omega
      have HO : Hid (padZ l (k + 1) = padZ l k ++ [0]) := padZ_succ l k
      have hk1 : k + 1 ≤ zN l.length := by omega
      have HB := hown.blk
      clear hst
      go_wp2_with (at_builtin; refine list_app8 _ rfl (.tmp 15) (.tmp 16) rfl w.heap.size _ (padZ l k) rfl (hown.alloc _) wr.heap.size 1 1 [0] rfl rfl (heap_alloc_new wr _) (by omega) (by rw [HM3.out]; omega) (by have := hbel.size; simp; omega) _ rfl ?_; intro g4 cap4 w4 hown4 hgrow4 hat4 hlt4)
      go_roundw
      case rel => exact ⟨k + 1, hk1, by rw [HO.out]; exact hown4, (hbel.alloc hbel.size _).grown hgrow4 (by have := hbel.size; simp; omega) (fun q hq => (HB q hq).1)⟩
      case measure => simp [sliceLen2]; rw [HM3.out]; omega
end Go.Proofs.YthjdmfbengpepaaGreat
namespace Go.Proofs.YthjdmfbengpepaaGreat
open Go.RowKit
attribute [local go_sem ↓] Go.wp_at_zero Go.wp_at_succ

theorem word_of (b0 b1 b2 b3 : UInt8) :
    bits .or .u32 (bits .or .u32 (bits .or .u32 (IntKind.u32.wrap ((b0.toNat : Int) * 16777216)) (IntKind.u32.wrap ((b1.toNat : Int) * 65536))) (IntKind.u32.wrap ((b2.toNat : Int) * 256))) (b3.toNat : Int)
      = ((((b0.toNat * 256 + b1.toNat) * 256 + b2.toNat) * 256 + b3.toNat : Nat) : Int) := by
  have h0 := b0.toNat_lt
  have h1 := b1.toNat_lt
  have h2 := b2.toNat_lt
  have h3 := b3.toNat_lt
  have w : ∀ x : Nat, x < 4294967296 → IntKind.u32.wrap (x : Int) = ((UInt32.ofNat x).toNat : Int) := by
    intro x hx; rw [wrap32_nat x hx, UInt32.toNat_ofNat', Nat.mod_eq_of_lt hx]
  have e0 : (b0.toNat : Int) * 16777216 = ((b0.toNat * 16777216 : Nat) : Int) := by omega
  have e1 : (b1.toNat : Int) * 65536 = ((b1.toNat * 65536 : Nat) : Int) := by omega
  have e2 : (b2.toNat : Int) * 256 = ((b2.toNat * 256 : Nat) : Int) := by omega
  have e3 : (b3.toNat : Int) = ((UInt32.ofNat b3.toNat).toNat : Int) := by rw [UInt32.toNat_ofNat', Nat.mod_eq_of_lt (by omega)]
  rw [e0, e1, e2, w _ (by omega), w _ (by omega), w _ (by omega), e3, bits_or32, bits_or32, bits_or32]
  rw [UInt32.toNat_or, UInt32.toNat_or, UInt32.toNat_or, UInt32.toNat_ofNat', UInt32.toNat_ofNat', UInt32.toNat_ofNat', UInt32.toNat_ofNat',
    Nat.mod_eq_of_lt (by omega : b0.toNat * 16777216 < 2 ^ 32), Nat.mod_eq_of_lt (by omega : b1.toNat * 65536 < 2 ^ 32), Nat.mod_eq_of_lt (by omega : b2.toNat * 256 < 2 ^ 32), Nat.mod_eq_of_lt (by omega : b3.toNat < 2 ^ 32)]
  have a1 : b0.toNat * 16777216 ||| b1.toNat * 65536 = b0.toNat * 16777216 + b1.toNat * 65536 := by
    have := Nat.two_pow_add_eq_or_of_lt (i := 24) (b := b1.toNat * 65536) (by omega) b0.toNat
    rw [Nat.mul_comm b0.toNat, ← this]
  have a2 : (b0.toNat * 16777216 + b1.toNat * 65536) ||| b2.toNat * 256 = b0.toNat * 16777216 + b1.toNat * 65536 + b2.toNat * 256 := by
    have := Nat.two_pow_add_eq_or_of_lt (i := 16) (b := b2.toNat * 256) (by omega) (b0.toNat * 256 + b1.toNat)
    have e : 2 ^ 16 * (b0.toNat * 256 + b1.toNat) = b0.toNat * 16777216 + b1.toNat * 65536 := by omega
    rw [e] at this; exact this.symm
  have a3 : (b0.toNat * 16777216 + b1.toNat * 65536 + b2.toNat * 256) ||| b3.toNat = b0.toNat * 16777216 + b1.toNat * 65536 + b2.toNat * 256 + b3.toNat := by
    have := Nat.two_pow_add_eq_or_of_lt (i := 8) (b := b3.toNat) (by omega) ((b0.toNat * 256 + b1.toNat) * 256 + b2.toNat)
    have e : 2 ^ 8 * ((b0.toNat * 256 + b1.toNat) * 256 + b2.toNat) = b0.toNat * 16777216 + b1.toNat * 65536 + b2.toNat * 256 := by omega
    rw [e] at this; exact this.symm
  rw [a1, a2, a3]
  omega

theorem word_wd (bl : List UInt8) (i : Nat) :
    bits .or .u32 (bits .or .u32 (bits .or .u32 (IntKind.u32.wrap (((nth bl (4 * i)).toNat : Int) * 16777216)) (IntKind.u32.wrap (((nth bl (4 * i + 1)).toNat : Int) * 65536))) (IntKind.u32.wrap (((nth bl (4 * i + 2)).toNat : Int) * 256))) ((nth bl (4 * i + 3)).toNat : Int)
      = ((wd bl i).toNat : Int) := by
  rw [word_of, wd_nat]
  simp [wn]

theorem wl_low (bl : List UInt8) (n : Nat) (h : n < 16) : wl bl (n + 1) = wl bl n ++ [wd bl n] := by rw [wl, if_pos h]

set_option maxRecDepth 20000 in
set_option maxHeartbeats 1000000 in
theorem refWords (a : Option Addr) (cap : Nat) (bl : List UInt8) (w : World) (h : IsB w a 64 cap bl) :
    Calls Tryz.prog 105 #[.slice a 64 cap] w fun e w' => ∃ v, e = .returned v ∧ OwnW w' w.heap.size v (wl bl 16) ∧ Below w.heap.size w w' := by
  obtain ⟨b0, o0, rfl, hc0⟩ := h.cells (by omega)
  have HC : Hid (∀ i, i < 64 → w.cell? ⟨b0, o0 + i, none⟩ = some (.int .u8 ((nth bl i).toNat : Int))) := hc0
  have gb : b0 < w.heap.size := cell_lt (hc0 0 (by omega))
  clear h hc0
  go_enter Tryz.func105, Tryz.ntmps105
  go_wp2
  go_loopw [3, 4] (fun v i wr => ∃ k t : Nat, k ≤ 16 ∧ Hid (t = 4 * k) ∧ i = .int .i64 (t : Int) ∧ OwnW wr w.heap.size v (wl bl k) ∧ Below w.heap.size w wr) (fun _ i _ => 64 - (intOf i).toNat)
  case atStart => exact ⟨0, 0, Nat.zero_le _, rfl, rfl, OwnW.nil _ _, Below.refl _ _⟩
  case round =>
    obtain ⟨k, t, hk, ht, rfl, hown, hbel⟩ := hrel
    have HL : Hid ((wl bl k).length = k) := wl_length bl k
    by_cases hlt : k < 16
    · obtain ⟨t1, ht1⟩ : ∃ t1, t1 = t + 1 := ⟨_, rfl⟩
      obtain ⟨t2, ht2⟩ : ∃ t2, t2 = t + 2 := ⟨_, rfl⟩
      obtain ⟨t3, ht3⟩ : ∃ t3, t3 = t + 3 := ⟨_, rfl⟩
      have ht0 := ht.out
      have c0 := (hbel.cell (p := ⟨b0, o0 + t, none⟩) gb).trans (HC.out t (by omega))
      have c1 := (hbel.cell (p := ⟨b0, o0 + t1, none⟩) gb).trans (HC.out t1 (by omega))
      have c2 := (hbel.cell (p := ⟨b0, o0 + t2, none⟩) gb).trans (HC.out t2 (by omega))
      have c3 := (hbel.cell (p := ⟨b0, o0 + t3, none⟩) gb).trans (HC.out t3 (by omega))
      have gz : b0 < wr.heap.size := Nat.lt_of_lt_of_le gb hbel.size
      have l0 : (t : Int) < 64 := by omega
      have l1 : (t1 : Int) < 64 := by omega
      have l2 : (t2 : Int) < 64 := by omega
      have l3 : (t3 : Int) < 64 := by omega
      have q1 : IntKind.i64.wrap ((t : Int) + 1) = (t1 : Int) := by rw [wrapi64_in _ (by omega) (by omega)]; omega
      have q2 : IntKind.i64.wrap ((t : Int) + 2) = (t2 : Int) := by rw [wrapi64_in _ (by omega) (by omega)]; omega
      have q3 : IntKind.i64.wrap ((t : Int) + 3) = (t3 : Int) := by rw [wrapi64_in _ (by omega) (by omega)]; omega
      have HO : Hid (wl bl (k + 1) = wl bl k ++ [wd bl k]) := wl_low bl k hlt
      have hwd : bits .or .u32 (bits .or .u32 (bits .or .u32 (IntKind.u32.wrap (((nth bl t).toNat : Int) * 16777216)) (IntKind.u32.wrap (((nth bl t1).toNat : Int) * 65536))) (IntKind.u32.wrap (((nth bl t2).toNat : Int) * 256))) ((nth bl t3).toNat : Int) = ((wd bl k).toNat : Int) := by
        rw [ht3, ht2, ht1, ht0]; exact word_wd bl k
      have r0 := wrap32_nat (nth bl t).toNat (by have := (nth bl t).toNat_lt; omega)
      have r1 := wrap32_nat (nth bl t1).toNat (by have := (nth bl t1).toNat_lt; omega)
      have r2 := wrap32_nat (nth bl t2).toNat (by have := (nth bl t2).toNat_lt; omega)
      have r3 := wrap32_nat (nth bl t3).toNat (by have := (nth bl t3).toNat_lt; omega)
      have HB := hown.blk
      clear ht0 ht1 ht2 ht3
      go_wp2
      go_region_held3 (fun w' => w'.cell? ⟨b0, o0 + t, none⟩ = some (.int .u8 ((nth bl t).toNat : Int)) ∧ w'.cell? ⟨b0, o0 + t1, none⟩ = some (.int .u8 ((nth bl t1).toNat : Int)) ∧ w'.cell? ⟨b0, o0 + t2, none⟩ = some (.int .u8 ((nth bl t2).toNat : Int)) ∧ w'.cell? ⟨b0, o0 + t3, none⟩ = some (.int .u8 ((nth bl t3).toNat : Int)))
        ((go_split_ands; refine ⟨?_, ?_, ?_, ?_⟩ <;> (first | go_keep | (rw [hgrow.cell_far _ (by simp; omega) (fun e => by have := (HB _ e.symm).1; simp at this; omega)]; assumption))))
        ((refine step_app32 _ (by rfl) _ _ (by rfl) w.heap.size _ (wl bl k) (by rfl) ((hown.alloc _).heap rfl) wr.heap.size 1 1 [wd bl k] (by rfl) (by rfl) (heap_alloc_new wr _) (by omega) (by rw [HL.out]; omega) (by have := hbel.size; simp; omega) (wr.heap.size + 1) (by simp) ?_; intro gg cap w1 hown1 hgrow hat hlt1))
      all_goals
        clear q1 q2 q3 hwd r0 r1 r2 r3
        go_wp2
        go_roundw
        case rel => exact ⟨k + 1, t + 4, by omega, by have := ht.out; unfold Hid; omega, by go_num, by rw [HO.out]; exact hown1, ((hbel.alloc hbel.size _).drew).grown hgrow (by have := hbel.size; simp; omega) (fun j hj => (HB j hj).1)⟩
        case measure => simp [intOf]; omega
    · have e : k = 16 := by omega
      have hge : ¬ ((t : Int) < 64) := by have := ht.out; omega
      have HO : Hid (OwnW wr w.heap.size u3 (wl bl 16)) := by rw [← e]; exact hown
      go_wp2
      go_ret
      exact ⟨_, rfl, HO.out, hbel⟩
end Go.Proofs.YthjdmfbengpepaaGreat
namespace Go.Proofs.YthjdmfbengpepaaGreat
open Go.RowKit

/-- an append leaves the cells that were owned as they were -/
theorem app_keeps (w : World) (ty : TypeId) (base g n cap : Nat) (l : List UInt32) (hn : l.length = n) (hown : OwnW w base (.slice (some ⟨g, 0, none⟩) n cap) l)
    (a : Addr) (m c : Nat) (news : List UInt32) (hl : news.length = m) (hnews : ∀ j u, (wv news)[j]? = some u → w.cell? (a.add j) = some u) (hb : n + m ≤ 35184372088832) {v' : Value} {w' : World}
    (hr : (Builtin.append_ #[162, 162] ty #[.slice (some ⟨g, 0, none⟩) n cap, .slice (some a) m c]).run Tryz.prog w = .ok v' w') (j : Nat) (hj : j < n) : w'.cell? ⟨g, j, none⟩ = w.cell? ⟨g, j, none⟩ := by
  subst hn
  obtain ⟨i0, hi, hz0, hz1, hz2⟩ := info_parts info32
  have hglt : g < w.heap.size := (hown.blk g rfl).2
  rcases hown.2 with ⟨h, _⟩ | ⟨g', cap', cur, h, hbg, hg, hnc, hcm, hcs, htake⟩
  · cases h
  · simp only [Value.slice.injEq, Option.some.injEq, Addr.mk.injEq, and_true, true_and] at h
    obtain ⟨rfl, rfl⟩ := h
    by_cases hroom : l.length + m ≤ cap
    · have hr2 := run_append_room (P := Tryz.prog) w 162 ty 126 i0 Tryz.underlying162 hi g l.length cap cur hg a m c (wv news) (by rw [wv_length, hl, hz1]; omega) hnews (wv_one news) hroom (by rw [wv_length, hl, hz1]; omega)
      rw [hr2] at hr
      have hw := (Result.ok.inj hr).2
      rw [← hw, cell_setRow_same w g j cur _ _ _ hg, cell_of_row w g j cur _ _ hg, hz1]
      simp only [Nat.mul_one, List.getElem?_toArray, List.append_assoc]
      have hcl : cur.toList.length = cap * 1 := by rw [Array.length_toList]; exact hcs
      rw [List.getElem?_append_left (by rw [List.length_take]; omega), List.getElem?_take, if_pos hj]
      simp
    · have holds : ∀ j u, (wv l)[j]? = some u → w.cell? ((⟨g, 0, none⟩ : Addr).add j) = some u := World.ownsRow.cells hown (g := g) rfl
      have hr2 := run_append_grow (P := Tryz.prog) w 162 ty 126 i0 (.int .u32 0) Tryz.underlying162 hi hz0 ⟨g, 0, none⟩ l.length cap (wv l) (by rw [wv_length, hz1]; omega) holds a m c (wv news) (by rw [wv_length, hl, hz1]; omega) hnews (by omega) (by omega) (growslice_fits (by omega) (by rw [hz2]; omega))
      rw [hr2] at hr
      have hw := (Result.ok.inj hr).2
      rw [← hw]
      exact World.cell?_alloc_lt _ _ _ hglt

/-- append of words in a region that draws; what was there stays -/
theorem step_app32k {ops : Array Oper} {o : Oper} {a : Act} {K : Act → World → Prop} {Q : Exit → Act → World → Prop} {E : Prop} (w : World) (hgd : o.guard = none) (s x : Operand)
    (ho : o.op = .call { callee := .builtin .append, args := #[s, x], argTypes := #[162, 162] }) (base : Nat)
    (g0 n c0 : Nat) (l : List UInt32) (hn : l.length = n) (hs : a.eval s = .slice (some ⟨g0, 0, none⟩) n c0) (hown : OwnW w base (.slice (some ⟨g0, 0, none⟩) n c0) l) (B m c : Nat) (news : List UInt32) (hx : a.eval x = .slice (some ⟨B, 0, none⟩) m c) (hl : news.length = m)
    (hb : w.heap[B]? = some (.cells (wv news).toArray 126 (0, 0))) (hm : 0 < m) (hbytes : n + m ≤ 35184372088832) (hbase : base ≤ w.heap.size)
    (h : ∀ g cap w', OwnW w' base (.slice (some ⟨g, 0, none⟩) (n + m) cap) (l ++ news) → w.grownBy w' (some g0) → (∀ j, j < n → w'.cell? ⟨g0, j, none⟩ = w.cell? ⟨g0, j, none⟩) → K (a.put o.dst (.slice (some ⟨g, 0, none⟩) (n + m) cap)) w') :
    if Region.wanted o (yielded ops a.tmps) = true then Oper.wp Tryz.prog o a w K Q else E := by
  subst hn
  obtain ⟨i0, hi, hz0, hz1, hz2⟩ := info_parts info32
  have hw : Region.wanted o (yielded ops a.tmps) = true := by simp [Region.wanted, hgd]
  rw [if_pos hw]
  have hnews : ∀ j u, (wv news)[j]? = some u → w.cell? ((⟨B, 0, none⟩ : Addr).add j) = some u := fun j u hu => World.news_of_block hb j u (by simpa using hu)
  obtain ⟨g, cap, w', hr, h2, h3, h4, h5⟩ := run_append_lies (P := Tryz.prog) w 162 o.type base 126 i0 (.int .u32 0) 1 4 Tryz.underlying162 hi hz0 hz1 hz2 rfl (by omega) (.slice (some ⟨g0, 0, none⟩) l.length c0) l.length (wv l) hown ⟨B, 0, none⟩ m c (wv news) (by rw [wv_length]; omega) hnews (wv_one news) hm (by unfold maxLen; omega) (by omega) hbase _ rfl
  have hk := app_keeps w o.type base g0 l.length c0 l rfl hown ⟨B, 0, none⟩ m c news hl hnews hbytes hr
  unfold Oper.wp execOp
  simp only [ho, resolve, invoke, builtin, Sem.run_bind, Sem.run_pure, Result.andThen_ok, List.map_toArray, List.map_cons, List.map_nil, hs, hx, hr]
  exact h g cap w' (by unfold OwnW; rw [wv_append, List.length_append, hl]; exact h2) h3 hk

end Go.Proofs.YthjdmfbengpepaaGreat
