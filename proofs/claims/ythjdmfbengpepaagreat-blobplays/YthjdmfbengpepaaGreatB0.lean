/- Plain facts: bytes and words as the walk spells them, and slices of bytes in a world. · A disk, plain: sectors, writes, what is stable. · Plain facts: the bitwise operations and the wraps of bytes and words, as the walk spells them. · Slices of bytes that a call itself makes and appends to: laws at this program's types. · Slices of bytes that a call makes: appends of whatever slice, of a text; laws at this program's types. · Blocks that are known whole. -/
import Derived.Test.YthjdmfbengpepaaGreatProg
import Derived.WalkKit
import Derived.Below
import Derived.Deep.QuietTactic
import Derived.BigQuiet
import Derived.Deep.RegionHeld3
import Derived.Deep.AppendLies
import Derived.Deep.DrawnRows
import Derived.Laws.AppendOwnNone
import Derived.Lib.AppendStr
import Derived.Lib.ConvBytes
namespace Go.Proofs.YthjdmfbengpepaaGreat
open Go.RowKit

theorem cell_lt {w : World} {a : Addr} {v : Value} (h : w.cell? a = some v) : a.block < w.heap.size := by
  unfold World.cell? at h
  by_cases hb : a.block < w.heap.size
  · exact hb
  · rw [Array.getElem?_eq_none (by omega)] at h; simp at h

/-- the byte at a place (0 behind the end) -/
def nth (l : List UInt8) (i : Nat) : UInt8 := l.getD i 0

theorem nth_eq (l : List UInt8) (i : Nat) (h : i < l.length) : nth l i = l[i] := by
  unfold nth; rw [List.getD_eq_getElem?_getD, List.getElem?_eq_getElem h]; rfl

theorem nth_drop (l : List UInt8) (k i : Nat) : nth (l.drop k) i = nth l (k + i) := by
  unfold nth; rw [List.getD_eq_getElem?_getD, List.getD_eq_getElem?_getD, List.getElem?_drop]
theorem wrap8_mod (x : Int) : IntKind.u8.wrap x = x % 256 := by simp [IntKind.wrap, IntKind.signed, IntKind.bits]

/-- a slice of bytes in a world -/
structure IsB (w : World) (a : Option Addr) (len cap : Nat) (l : List UInt8) : Prop where
  len_eq : l.length = len
  le : len ≤ cap
  max : cap ≤ maxLen
  nil : a = none → cap = 0
  cells : 0 < len → ∃ b off, a = some ⟨b, off, none⟩ ∧ ∀ i, i < len → w.cell? ⟨b, off + i, none⟩ = some (.int .u8 ((nth l i).toNat : Int))

theorem IsB.drewN {w : World} {a : Option Addr} {len cap : Nat} {l : List UInt8} (h : IsB w a len cap l) (n : Nat) : IsB (w.drewN n) a len cap l :=
  ⟨h.len_eq, h.le, h.max, h.nil, fun hp => by obtain ⟨b, off, e, hc⟩ := h.cells hp; exact ⟨b, off, e, fun i hi => by simpa using hc i hi⟩⟩

theorem IsB.below {w w' : World} {n : Nat} {a : Option Addr} {len cap : Nat} {l : List UInt8} (h : IsB w a len cap l) (hb : Below n w w') (hn : n = w.heap.size) : IsB w' a len cap l :=
  ⟨h.len_eq, h.le, h.max, h.nil, fun hp => by
    obtain ⟨b, off, e, hc⟩ := h.cells hp
    refine ⟨b, off, e, fun i hi => ?_⟩
    have := hc i hi
    have hlt : b < w.heap.size := cell_lt this
    rw [hb.cell (p := ⟨b, off + i, none⟩) (by simpa [hn] using hlt)]; exact this⟩


theorem bel_drewN {B : Nat} {a w : World} (h : Below B a w) (n : Nat) : Below B a (w.drewN n) := h.trans ⟨rfl, rfl, rfl, Nat.le_refl _, fun _ _ => rfl⟩

/-- what the frame tells of a slice of numbers that came in -/
def IsRow (k : IntKind) (w : World) (a : Option Addr) (len cap : Nat) (zs : List Int) : Prop :=
  (a = none ∧ len = 0 ∧ cap = 0 ∧ zs = []) ∨
  ∃ x, a = some x ∧ len ≤ cap ∧ cap ≤ maxLen ∧ zs.length = cap ∧ (∀ i, i < zs.length → w.cell? (x.add i) = some (.int k (zs.getD i 0))) ∧ ∀ n ∈ zs, (Lit.int k n).wf = true

theorem IsRow.bytes {w : World} {a : Option Addr} {len cap : Nat} {zs : List Int} (h : IsRow .u8 w a len cap zs) : ∃ l, IsB w a len cap l := by
  rcases h with ⟨rfl, rfl, rfl, _⟩ | ⟨⟨b, off, spot⟩, rfl, h2, h3, h4, h5, h6⟩
  · exact ⟨[], rfl, Nat.le_refl _, Nat.zero_le _, fun _ => rfl, fun h => by omega⟩
  · refine ⟨(zs.take len).map fun n => UInt8.ofNat n.toNat, by simp; omega, h2, h3, fun h => (by cases h), fun hl => ?_⟩
    have hc := h5 0 (by omega)
    have hspot : spot = none := by simpa [Addr.add] using World.cell?_spot hc
    subst hspot
    refine ⟨b, off, rfl, fun i hi => ?_⟩
    have hi' : i < zs.length := by omega
    have hx := h5 i hi'
    rw [Addr.add_lit] at hx
    rw [hx]
    have hm : zs.getD i 0 ∈ zs := by rw [List.getD_eq_getElem?_getD, List.getElem?_eq_getElem hi']; exact List.getElem_mem hi'
    have hw : 0 ≤ zs.getD i 0 ∧ zs.getD i 0 ≤ 255 := by simpa [Lit.wf, IntKind.min, IntKind.max, IntKind.signed, IntKind.bits] using h6 _ hm
    have hn : nth ((zs.take len).map fun n => UInt8.ofNat n.toNat) i = UInt8.ofNat (zs.getD i 0).toNat := by
      rw [nth_eq _ _ (by simp; omega)]
      simp [List.getElem?_eq_getElem hi']
    rw [hn]
    congr 2
    rw [UInt8.toNat_ofNat']
    omega
end Go.Proofs.YthjdmfbengpepaaGreat
namespace Go.Proofs.YthjdmfbengpepaaGreat

/-- a write: where, what, and where its bytes lie -/
structure Wg where
  at_ : Nat
  b : List UInt8
  ad : Option Addr
  cap : Nat
def zero512 : List UInt8 := List.replicate 512 0
/-- the last write to a sector -/
def lastW : List Wg → Nat → Option (List UInt8)
  | [], _ => none
  | g :: l, i => match lastW l i with
    | some b => some b
    | none => if g.at_ = i then some g.b else none
theorem lastW_snoc (l : List Wg) (g : Wg) (i : Nat) : lastW (l ++ [g]) i = if g.at_ = i then some g.b else lastW l i := by
  induction l with
  | nil => simp [lastW]
  | cons h l ih =>
    rw [List.cons_append, lastW, ih]
    by_cases hi : g.at_ = i
    · rw [if_pos hi, if_pos hi]
    · rw [if_neg hi, if_neg hi, lastW]
theorem lastW_append (l m : List Wg) (i : Nat) : lastW (l ++ m) i = match lastW m i with | some b => some b | none => lastW l i := by
  induction l with
  | nil => rw [List.nil_append]; cases lastW m i <;> rfl
  | cons h l ih =>
    rw [List.cons_append, lastW, ih]
    cases hm : lastW m i with
    | some b => rfl
    | none => rw [lastW]
/-- a write to what is stable: one elder of the same sector is gone -/
def settleW (S : List Wg) (g : Wg) : List Wg := S.filter (fun h => !(h.at_ == g.at_)) ++ [g]
theorem lastW_filter (S : List Wg) (j i : Nat) (h : j ≠ i) : lastW (S.filter (fun g => !(g.at_ == j))) i = lastW S i := by
  induction S with
  | nil => rfl
  | cons g S ih =>
    by_cases hg : g.at_ = j
    · rw [List.filter_cons_of_neg (by simp [hg]), ih, lastW]
      cases lastW S i with
      | some b => rfl
      | none => rw [if_neg (by omega)]
    · rw [List.filter_cons_of_pos (by simp [hg]), lastW, lastW, ih]
theorem lastW_settle (S : List Wg) (g : Wg) (i : Nat) : lastW (settleW S g) i = if g.at_ = i then some g.b else lastW S i := by
  unfold settleW
  rw [lastW_snoc]
  by_cases h : g.at_ = i
  · rw [if_pos h, if_pos h]
  · rw [if_neg h, if_neg h, lastW_filter S g.at_ i h]
/-- how many sectors -/
theorem settle_mem {S : List Wg} {g h : Wg} (hm : h ∈ settleW S g) : h ∈ S ∨ h = g := by
  unfold settleW at hm
  rcases List.mem_append.1 hm with e | e
  · exact .inl (List.mem_filter.1 e).1
  · exact .inr (List.mem_singleton.1 e)
/-- the writes that a crash keeps -/
def keptW : List Wg → List Bool → List Wg
  | g :: l, k :: ks => if k = true then g :: keptW l ks else keptW l ks
  | _, _ => []
def stableOf (S : List Wg) (i : Nat) : List UInt8 := (lastW S i).getD zero512
def readOf (S C : List Wg) (i : Nat) : List UInt8 := (lastW C i).getD (stableOf S i)
theorem stable_foldl (l S : List Wg) (i : Nat) : stableOf (l.foldl settleW S) i = (lastW l i).getD (stableOf S i) := by
  induction l generalizing S with
  | nil => rfl
  | cons g l ih =>
    rw [List.foldl_cons, ih, lastW]
    cases h : lastW l i with
    | some b => rfl
    | none =>
      unfold stableOf
      rw [lastW_settle]
      by_cases hi : g.at_ = i
      · rw [if_pos hi, if_pos hi]; first | done | rfl
      · rw [if_neg hi, if_neg hi]; first | done | rfl
end Go.Proofs.YthjdmfbengpepaaGreat
namespace Go.Proofs.YthjdmfbengpepaaGreat

theorem wrap8_nat (n : Nat) (h : n < 256) : IntKind.u8.wrap (n : Int) = n := by
  simp [IntKind.wrap, IntKind.signed, IntKind.bits]; omega
theorem wrap32_nat (n : Nat) (h : n < 4294967296) : IntKind.u32.wrap (n : Int) = n := by
  simp [IntKind.wrap, IntKind.signed, IntKind.bits]; omega
theorem wrap64_nat (n : Nat) (h : n < 18446744073709551616) : IntKind.u64.wrap (n : Int) = n := by
  simp [IntKind.wrap, IntKind.signed, IntKind.bits]; omega

theorem wrapi64_in (n : Int) (h0 : -9223372036854775808 ≤ n) (h1 : n ≤ 9223372036854775807) : IntKind.i64.wrap n = n := by
  simp [IntKind.wrap, IntKind.signed, IntKind.bits]; omega

theorem of8 (a : UInt8) : BitVec.ofInt 8 (a.toNat : Int) = a.toBitVec := by rw [BitVec.ofInt_natCast]; exact BitVec.eq_of_toNat_eq (by simp)
theorem of32 (a : UInt32) : BitVec.ofInt 32 (a.toNat : Int) = a.toBitVec := by rw [BitVec.ofInt_natCast]; exact BitVec.eq_of_toNat_eq (by simp)
theorem of64 (a : UInt64) : BitVec.ofInt 64 (a.toNat : Int) = a.toBitVec := by rw [BitVec.ofInt_natCast]; exact BitVec.eq_of_toNat_eq (by simp)

theorem bits_xor8 (a b : UInt8) : bits .xor .u8 (a.toNat : Int) (b.toNat : Int) = ((a ^^^ b).toNat : Int) := by
  show IntKind.u8.wrap ((BitVec.ofInt 8 (a.toNat : Int) ^^^ BitVec.ofInt 8 (b.toNat : Int)).toNat : Int) = _
  rw [of8, of8]; exact wrap8_nat _ (a ^^^ b).toNat_lt
theorem bits_or8 (a b : UInt8) : bits .or .u8 (a.toNat : Int) (b.toNat : Int) = ((a ||| b).toNat : Int) := by
  show IntKind.u8.wrap ((BitVec.ofInt 8 (a.toNat : Int) ||| BitVec.ofInt 8 (b.toNat : Int)).toNat : Int) = _
  rw [of8, of8]; exact wrap8_nat _ (a ||| b).toNat_lt
theorem bits_and8 (a b : UInt8) : bits .and .u8 (a.toNat : Int) (b.toNat : Int) = ((a &&& b).toNat : Int) := by
  show IntKind.u8.wrap ((BitVec.ofInt 8 (a.toNat : Int) &&& BitVec.ofInt 8 (b.toNat : Int)).toNat : Int) = _
  rw [of8, of8]; exact wrap8_nat _ (a &&& b).toNat_lt
theorem bits_xor32 (a b : UInt32) : bits .xor .u32 (a.toNat : Int) (b.toNat : Int) = ((a ^^^ b).toNat : Int) := by
  show IntKind.u32.wrap ((BitVec.ofInt 32 (a.toNat : Int) ^^^ BitVec.ofInt 32 (b.toNat : Int)).toNat : Int) = _
  rw [of32, of32]; exact wrap32_nat _ (a ^^^ b).toNat_lt
theorem bits_or32 (a b : UInt32) : bits .or .u32 (a.toNat : Int) (b.toNat : Int) = ((a ||| b).toNat : Int) := by
  show IntKind.u32.wrap ((BitVec.ofInt 32 (a.toNat : Int) ||| BitVec.ofInt 32 (b.toNat : Int)).toNat : Int) = _
  rw [of32, of32]; exact wrap32_nat _ (a ||| b).toNat_lt
theorem bits_and32 (a b : UInt32) : bits .and .u32 (a.toNat : Int) (b.toNat : Int) = ((a &&& b).toNat : Int) := by
  show IntKind.u32.wrap ((BitVec.ofInt 32 (a.toNat : Int) &&& BitVec.ofInt 32 (b.toNat : Int)).toNat : Int) = _
  rw [of32, of32]; exact wrap32_nat _ (a &&& b).toNat_lt

theorem toNat8_zero (a : UInt8) : (((a.toNat : Int) == 0) = true) ↔ a = 0 := by
  rw [beq_iff_eq]
  constructor
  · intro h; exact UInt8.toNat_inj.1 (by simpa using h)
  · rintro rfl; rfl
theorem toNat8_inj (a b : UInt8) : ((a.toNat : Int) = (b.toNat : Int)) ↔ a = b := by
  rw [Int.ofNat_inj, UInt8.toNat_inj]

theorem or_xor_zero (d x y : UInt8) : (d ||| (x ^^^ y) = 0) ↔ (d = 0 ∧ x = y) := by
  rw [UInt8.or_eq_zero_iff, UInt8.xor_eq_zero_iff]
end Go.Proofs.YthjdmfbengpepaaGreat
namespace Go.Proofs.YthjdmfbengpepaaGreat
open Go.RowKit

theorem info8 : (Tryz.prog.info? 5).map (fun i => (i.zero, i.size, i.bytes)) = some (some (.int .u8 0), 1, 1) := by kernel_rfl

/-- bytes as cells -/
def bv (l : List UInt8) : List Value := l.map fun b => .int .u8 (b.toNat : Int)
theorem bv_append (l m : List UInt8) : bv (l ++ m) = bv l ++ bv m := by simp [bv]
theorem bv_length (l : List UInt8) : (bv l).length = l.length := by simp [bv]
theorem bv_one (l : List UInt8) : ∀ u ∈ bv l, u.oneCell' = true := by
  intro u hu
  obtain ⟨b, _, rfl⟩ := List.mem_map.1 hu
  rfl
theorem bv_at (l : List UInt8) (i : Nat) (h : i < l.length) : (bv l)[i]? = some (.int .u8 ((nth l i).toNat : Int)) := by
  rw [nth_eq l i h]; simp [bv, List.getElem?_eq_getElem h]

/-- v owns the bytes l, in blocks from base on -/
def OwnB (w : World) (base : Nat) (v : Value) (l : List UInt8) : Prop := w.ownsRow base 5 1 v l.length (bv l)

theorem OwnB.nil (w : World) (base : Nat) : OwnB w base (.slice none 0 0) [] := World.ownsRow_nil _ _ _ _

theorem OwnB.heap {w w' : World} {base : Nat} {v : Value} {l : List UInt8} (h : OwnB w base v l) (e : w'.heap = w.heap) : OwnB w' base v l := by
  unfold OwnB World.ownsRow at *; rw [e]; exact h

theorem OwnB.base {w : World} {base base' : Nat} {v : Value} {l : List UInt8} (h : OwnB w base v l) (hb : base' ≤ base) : OwnB w base' v l := by
  refine ⟨h.1, ?_⟩
  rcases h.2 with h2 | ⟨g, cap, cur, h3, h4, h5⟩
  · exact .inl h2
  · exact .inr ⟨g, cap, cur, h3, Nat.le_trans hb h4, h5⟩

theorem OwnB.alloc {w : World} {base : Nat} {v : Value} {l : List UInt8} (h : OwnB w base v l) (o : Obj) : OwnB (w.alloc o) base v l := World.ownsRow.alloc h o

theorem OwnB.blk {w : World} {base : Nat} {v : Value} {l : List UInt8} (h : OwnB w base v l) : ∀ k, v.ownBlock = some k → base ≤ k ∧ k < w.heap.size := World.ownsRow.lt h

/-- as a slice of bytes -/
theorem OwnB.isB {w : World} {base : Nat} {v : Value} {l : List UInt8} (h : OwnB w base v l) : ∃ a cap, v = .slice a l.length cap ∧ IsB w a l.length cap l := by
  obtain ⟨h1, h2⟩ := h
  rcases h2 with ⟨rfl, h0⟩ | ⟨g, cap, cur, rfl, hb, hg, hle, hmax, hsz, htk⟩
  · have : l = [] := List.eq_nil_of_length_eq_zero h0
    subst this
    exact ⟨none, 0, rfl, rfl, Nat.le_refl _, Nat.zero_le _, fun _ => rfl, fun hp => absurd hp (Nat.lt_irrefl 0)⟩
  · refine ⟨_, cap, rfl, rfl, hle, hmax, fun e => (by cases e), fun hp => ⟨g, 0, rfl, fun i hi => ?_⟩⟩
    have hc := World.ownsRow.cells (w := w) (base := base) (e := 5) (size := 1) (v := .slice (some ⟨g, 0, none⟩) l.length cap) (n := l.length) (xs := bv l) ⟨h1, .inr ⟨g, cap, cur, rfl, hb, hg, hle, hmax, hsz, htk⟩⟩ (g := g) rfl i _ (bv_at l i hi)
    rw [Addr.add_lit] at hc; exact hc

/-- a byte of it; a byte of it turned -/
theorem OwnB.cellAt {w : World} {base g cap : Nat} {l : List UInt8} {n : Nat} (h : OwnB w base (.slice (some ⟨g, 0, none⟩) n cap) l) (hn : l.length = n) (j : Nat) (hj : j < n) : w.cell? ⟨g, j, none⟩ = some (.int .u8 ((nth l j).toNat : Int)) := by
  subst hn
  rw [World.ownsRow.cellAt h j (by omega), bv_at l j hj]
theorem OwnB.frozenAt {w : World} {base g cap : Nat} {l : List UInt8} {n : Nat} (h : OwnB w base (.slice (some ⟨g, 0, none⟩) n cap) l) (hn : l.length = n) (j : Nat) : w.frozen? ⟨g, j, none⟩ = false := by
  subst hn
  exact World.ownsRow.frozenAt h j
theorem OwnB.set {w : World} {base g cap : Nat} {l : List UInt8} {n : Nat} (h : OwnB w base (.slice (some ⟨g, 0, none⟩) n cap) l) (hn : l.length = n) (j : Nat) (x : UInt8) : OwnB (w.setCell ⟨g, j, none⟩ (.int .u8 (x.toNat : Int))) base (.slice (some ⟨g, 0, none⟩) n cap) (l.set j x) := by
  subst hn
  have := (World.ownsRow.stored h j (.int .u8 (x.toNat : Int))).1
  unfold OwnB
  rw [List.length_set]
  have e : bv (l.set j x) = (bv l).set j (.int .u8 (x.toNat : Int)) := by unfold bv; rw [List.map_set]
  rw [e]; exact this

/-- bytes in a block of their own -/
theorem IsB.ofBlock {w : World} {B : Nat} (l : List UInt8) (hm : l.length ≤ maxLen) (hb : w.heap[B]? = some (.cells (bv l).toArray 5 (0, 0))) : IsB w (some ⟨B, 0, none⟩) l.length l.length l :=
  ⟨rfl, Nat.le_refl _, hm, fun e => (by cases e), fun _ => ⟨B, 0, rfl, fun i hi => by
    rw [cell_of_row w B (0 + i) _ _ _ hb, Nat.zero_add]
    simpa using bv_at l i hi⟩⟩

/-- make([]byte, 0, n) -/
theorem make_own8 {ops : Array Oper} {rest : List Oper} {o : Oper} {a : Act} {Q : Exit → Act → World → Prop} (w : World)
    (hg : o.guard = none) (l c : Operand) (hop : o.op = Op.makeSlice 41 l c) (base : Nat)
    (kl kc : IntKind) (C : Int) (n : Nat) (hl : a.eval l = .int kl 0) (hc : a.eval c = .int kc C) (hC : C = (n : Int)) (b2 : n ≤ 281474976710656) (b4 : base ≤ w.heap.size)
    (hK : ∀ w', OwnB w' base (.slice (some ⟨w.heap.size, 0, none⟩) 0 n) [] → w.grownBy w' none → wpList Tryz.prog ops Q rest (a.put o.dst (.slice (some ⟨w.heap.size, 0, none⟩) 0 n)) w') :
    wpList Tryz.prog ops Q (o :: rest) a w := by
  obtain ⟨i0, hi, hz0, hz1, hz2⟩ := info_parts info8
  exact wpList_make_own w hg l c 41 hop base 5 i0 (.int .u8 0) 1 Tryz.underlying41 hi hz0 hz1 kl kc C n hl hc hC (by rw [hz2]; omega) (by unfold maxLen; omega) b4 hK

theorem made_zeros (n : Nat) : (madeCells (Value.int .u8 0).cells (n * 1)).toList = bv (List.replicate n 0) := by
  simp only [madeCells, Value.cells, bv, List.map_replicate]
  rw [List.eq_replicate_iff]
  simp [Nat.mod_one]

/-- make([]byte, n) -/
theorem make_full8 {ops : Array Oper} {rest : List Oper} {o : Oper} {a : Act} {Q : Exit → Act → World → Prop} (w : World)
    (hg : o.guard = none) (l c : Operand) (hop : o.op = Op.makeSlice 41 l c) (base : Nat)
    (kl kc : IntKind) (L C : Int) (n : Nat) (hl : a.eval l = .int kl L) (hc : a.eval c = .int kc C) (hL : L = (n : Int)) (hC : C = (n : Int)) (b2 : n ≤ 281474976710656) (b4 : base ≤ w.heap.size)
    (hK : ∀ w', OwnB w' base (.slice (some ⟨w.heap.size, 0, none⟩) n n) (List.replicate n 0) → w.grownBy w' none → wpList Tryz.prog ops Q rest (a.put o.dst (.slice (some ⟨w.heap.size, 0, none⟩) n n)) w') :
    wpList Tryz.prog ops Q (o :: rest) a w := by
  obtain ⟨i0, hi, hz0, hz1, hz2⟩ := info_parts info8
  exact wpList_make_full w hg l c 41 hop base 5 i0 (.int .u8 0) 1 Tryz.underlying41 hi hz0 hz1 kl kc L C n hl hc hL hC (by rw [hz2]; omega) (by unfold maxLen; omega) b4
    (fun w' h g => hK w' (by unfold OwnB; rw [List.length_replicate]; rw [made_zeros] at h; exact h) g)

/-- append of bytes that lie in a block of their own, in a region that draws -/
theorem step_app8 {ops : Array Oper} {o : Oper} {a : Act} {K : Act → World → Prop} {Q : Exit → Act → World → Prop} {E : Prop} (w : World) (hgd : o.guard = none) (s x : Operand)
    (ho : o.op = .call { callee := .builtin .append, args := #[s, x], argTypes := #[41, 41] }) (base : Nat)
    (v : Value) (l : List UInt8) (hs : a.eval s = v) (hown : OwnB w base v l) (B m c : Nat) (news : List UInt8) (hx : a.eval x = .slice (some ⟨B, 0, none⟩) m c) (hl : news.length = m)
    (hb : w.heap[B]? = some (.cells (bv news).toArray 5 (0, 0))) (hm : 0 < m) (hbytes : l.length + m ≤ 140737488355328) (hbase : base ≤ w.heap.size) (H : Nat) (hH : w.heap.size = H)
    (h : ∀ g cap w', OwnB w' base (.slice (some ⟨g, 0, none⟩) (l.length + m) cap) (l ++ news) → w.grownBy w' v.ownBlock → (v.ownBlock = some g ∨ g = H) → g < w'.heap.size → K (a.put o.dst (.slice (some ⟨g, 0, none⟩) (l.length + m) cap)) w') :
    if Region.wanted o (yielded ops a.tmps) = true then Oper.wp Tryz.prog o a w K Q else E := by
  obtain ⟨i0, hi, hz0, hz1, hz2⟩ := info_parts info8
  refine step_append_lies w hgd s x 41 ho base 5 i0 (.int .u8 0) 1 1 Tryz.underlying41 hi hz0 hz1 hz2 rfl (by omega) v l.length (bv l) hs hown ⟨B, 0, none⟩ m c (bv news) hx (by rw [bv_length]; omega)
    (fun j u hu => World.news_of_block hb j u (by simpa using hu)) (bv_one news) hm (by unfold maxLen; omega) (by omega) hbase H hH ?_
  intro g cap w' h1 h2 h3 h4
  exact h g cap w' (by unfold OwnB; rw [bv_append, List.length_append, hl]; exact h1) h2 h3 h4

/-- the same in a plain region -/
theorem list_app8 {ops : Array Oper} {rest : List Oper} {o : Oper} {a : Act} {Q : Exit → Act → World → Prop} (w : World) (hgd : o.guard = none) (s x : Operand)
    (ho : o.op = .call { callee := .builtin .append, args := #[s, x], argTypes := #[41, 41] }) (base : Nat)
    (v : Value) (l : List UInt8) (hs : a.eval s = v) (hown : OwnB w base v l) (B m c : Nat) (news : List UInt8) (hx : a.eval x = .slice (some ⟨B, 0, none⟩) m c) (hl : news.length = m)
    (hb : w.heap[B]? = some (.cells (bv news).toArray 5 (0, 0))) (hm : 0 < m) (hbytes : l.length + m ≤ 140737488355328) (hbase : base ≤ w.heap.size) (H : Nat) (hH : w.heap.size = H)
    (h : ∀ g cap w', OwnB w' base (.slice (some ⟨g, 0, none⟩) (l.length + m) cap) (l ++ news) → w.grownBy w' v.ownBlock → (v.ownBlock = some g ∨ g = H) → g < w'.heap.size → wpList Tryz.prog ops Q rest (a.put o.dst (.slice (some ⟨g, 0, none⟩) (l.length + m) cap)) w') :
    wpList Tryz.prog ops Q (o :: rest) a w := by
  obtain ⟨i0, hi, hz0, hz1, hz2⟩ := info_parts info8
  refine wpList_append_lies w hgd s x 41 ho base 5 i0 (.int .u8 0) 1 1 Tryz.underlying41 hi hz0 hz1 hz2 rfl (by omega) v l.length (bv l) hs hown ⟨B, 0, none⟩ m c (bv news) hx (by rw [bv_length]; omega)
    (fun j u hu => World.news_of_block hb j u (by simpa using hu)) (bv_one news) hm (by unfold maxLen; omega) (by omega) hbase H hH ?_
  intro g cap w' h1 h2 h3 h4
  exact h g cap w' (by unfold OwnB; rw [bv_append, List.length_append, hl]; exact h1) h2 h3 h4

end Go.Proofs.YthjdmfbengpepaaGreat
namespace Go.Proofs.YthjdmfbengpepaaGreat
open Go.RowKit

theorem OwnB.empty (w : World) (base : Nat) (hb : base ≤ w.heap.size) : OwnB (w.alloc (.cells #[] 5)) base (.slice (some ⟨w.heap.size, 0, none⟩) 0 0) [] :=
  World.ownsRow_made w #[] 0 hb (Nat.zero_le _) rfl
theorem OwnB.length_of {w : World} {base : Nat} {v : Value} {l : List UInt8} (h : OwnB w base v l) : ∃ a cap, v = .slice a l.length cap ∧ l.length ≤ cap ∧ cap ≤ maxLen := by
  obtain ⟨a, cap, e, hb⟩ := h.isB
  exact ⟨a, cap, e, hb.le, hb.max⟩

/-- append(out, b...), of whatever slice -/
theorem list_appS {ops : Array Oper} {rest : List Oper} {o : Oper} {a : Act} {Q : Exit → Act → World → Prop} (w : World) (hgd : o.guard = none) (s x : Operand)
    (ho : o.op = .call { callee := .builtin .append, args := #[s, x], argTypes := #[41, 41] }) (base : Nat)
    (v : Value) (l : List UInt8) (hs : a.eval s = v) (hown : OwnB w base v l) (sa : Option Addr) (m c : Nat) (news : List UInt8) (hx : a.eval x = .slice sa m c) (hB : IsB w sa m c news)
    (hbytes : l.length + m ≤ 140737488355328) (hbase : base ≤ w.heap.size)
    (h : ∀ v' w', OwnB w' base v' (l ++ news) → w.grownBy w' v.ownBlock → wpList Tryz.prog ops Q rest (a.put o.dst v') w') :
    wpList Tryz.prog ops Q (o :: rest) a w := by
  obtain ⟨i0, hi, hz0, hz1, hz2⟩ := info_parts info8
  cases sa with
  | none =>
    have h0 := hB.nil rfl
    have hle := hB.le
    have hm : m = 0 := by omega
    subst hm h0
    have hn : news = [] := List.eq_nil_of_length_eq_zero hB.len_eq
    subst hn
    exact wpList_append_own_none hgd s x 41 ho base 5 i0 1 Tryz.underlying41 hi v l.length (bv l) hs hown hx (h v w (by rw [List.append_nil]; exact hown) (World.grownBy.refl _ _))
  | some ad =>
    refine wpList_append_own w hgd s x 41 ho base 5 i0 (.int .u8 0) 1 1 Tryz.underlying41 hi hz0 hz1 hz2 rfl (by omega) v l.length (bv l) hs hown ad m c (bv news) hx (by rw [bv_length, hB.len_eq]; omega) ?_ (bv_one news) (by unfold maxLen; omega) (by omega) hbase ?_
    · intro j u hj
      have hjl : j < news.length := by
        rcases Nat.lt_or_ge j news.length with h | h
        · exact h
        · rw [List.getElem?_eq_none (by rw [bv_length]; exact h)] at hj; cases hj
      have hl := hB.len_eq
      obtain ⟨b, off, e, hc⟩ := hB.cells (by omega)
      have e := Option.some.inj e
      rw [bv_at news j hjl] at hj
      rw [e, Addr.add_lit, hc j (by omega)]; exact hj
    · intro v' w' h1 h2 _
      exact h v' w' (by unfold OwnB; rw [bv_append, List.length_append, hB.len_eq]; exact h1) h2

/-- a text's bytes -/
def sL (s : ByteArray) : List UInt8 := s.data.toList
theorem sL_length (s : ByteArray) : (sL s).length = s.size := by unfold sL; rw [Array.length_toList]; rfl
theorem sL_cells (s : ByteArray) : Lib.strCells s = bv (sL s) := rfl

/-- append(out, s...), of a text -/
theorem list_appT {ops : Array Oper} {rest : List Oper} {o : Oper} {a : Act} {Q : Exit → Act → World → Prop} (w : World) (hgd : o.guard = none) (s x : Operand)
    (ho : o.op = .call { callee := .builtin .append, args := #[s, x], argTypes := #[41, 9] }) (base : Nat)
    (v : Value) (l : List UInt8) (hs : a.eval s = v) (hown : OwnB w base v l) (t : ByteArray) (hx : a.eval x = .string t)
    (hbytes : l.length + t.size ≤ 140737488355328) (hbase : base ≤ w.heap.size)
    (h : ∀ v' w', OwnB w' base v' (l ++ sL t) → w.grownBy w' v.ownBlock → wpList Tryz.prog ops Q rest (a.put o.dst v') w') :
    wpList Tryz.prog ops Q (o :: rest) a w := by
  obtain ⟨i0, hi, hz0, hz1, hz2⟩ := info_parts info8
  refine Lib.wpList_append_own_string w hgd s x 41 9 ho base 5 i0 Tryz.underlying41 Tryz.underlying9 hi hz0 hz1 hz2 v l.length (bv l) hs hown t hx (by unfold maxLen; omega) hbytes hbase ?_
  intro v' w' h1 h2 _
  exact h v' w' (by unfold OwnB; rw [bv_append, List.length_append, sL_length]; exact h1) h2

/-- append(out, x..), of bytes that lie in a block of their own; where the slice lies isn't told -/
theorem list_app1 {ops : Array Oper} {rest : List Oper} {o : Oper} {a : Act} {Q : Exit → Act → World → Prop} (w : World) (hgd : o.guard = none) (s x : Operand)
    (ho : o.op = .call { callee := .builtin .append, args := #[s, x], argTypes := #[41, 41] }) (base : Nat)
    (v : Value) (l : List UInt8) (hs : a.eval s = v) (hown : OwnB w base v l) (B m : Nat) (news : List UInt8) (hx : a.eval x = .slice (some ⟨B, 0, none⟩) m m) (hl : news.length = m)
    (hb : w.heap[B]? = some (.cells (bv news).toArray 5 (0, 0))) (hbytes : l.length + m ≤ 140737488355328) (hbase : base ≤ w.heap.size)
    (h : ∀ v' w', OwnB w' base v' (l ++ news) → w.grownBy w' v.ownBlock → wpList Tryz.prog ops Q rest (a.put o.dst v') w') :
    wpList Tryz.prog ops Q (o :: rest) a w := by
  subst hl
  exact list_appS w hgd s x ho base v l hs hown (some ⟨B, 0, none⟩) news.length news.length news hx (IsB.ofBlock news (by unfold maxLen; omega) hb) hbytes hbase h

/-- a value that is a slice of these bytes -/
def IsV (w : World) (v : Value) (l : List UInt8) : Prop := ∃ a cap, v = .slice a l.length cap ∧ IsB w a l.length cap l
theorem IsB.isV {w : World} {a : Option Addr} {len cap : Nat} {l : List UInt8} (h : IsB w a len cap l) : IsV w (.slice a len cap) l := by
  have := h.len_eq
  subst this
  exact ⟨a, cap, rfl, h⟩
theorem OwnB.isV {w : World} {base : Nat} {v : Value} {l : List UInt8} (h : OwnB w base v l) : IsV w v l := h.isB
theorem IsV.below {w w' : World} {n : Nat} {v : Value} {l : List UInt8} (h : IsV w v l) (hb : Below n w w') (hn : n = w.heap.size) : IsV w' v l := by
  obtain ⟨a, cap, e, hi⟩ := h
  exact ⟨a, cap, e, hi.below hb hn⟩
/-- nil, as bytes -/
theorem isB_none (w : World) : IsB w none 0 0 [] := ⟨rfl, Nat.le_refl _, Nat.zero_le _, fun _ => rfl, fun h => absurd h (Nat.lt_irrefl 0)⟩
theorem IsV.nil (w : World) : IsV w (.slice none 0 0) [] := (isB_none w).isV
theorem grow_bel {w w1 w2 : World} {v : Value} {l : List UInt8} (hb : Below w.heap.size w w1) (ho : OwnB w1 w.heap.size v l) (hg : w1.grownBy w2 v.ownBlock) : Below w.heap.size w w2 :=
  hb.grown hg hb.size (fun k hk => (ho.blk k hk).1)
theorem grow_bel1 {w w1 w2 : World} {o : Obj} {v : Value} {l : List UInt8} (hb : Below w.heap.size w w1) (ho : OwnB w1 w.heap.size v l) (hg : (w1.alloc o).grownBy w2 v.ownBlock) : Below w.heap.size w w2 :=
  (hb.alloc hb.size _).grown hg (by have := hb.size; simp; omega) (fun k hk => (ho.blk k hk).1)

/-- []byte(s) -/
theorem conv_str (w : World) (s : ByteArray) : (convert 9 41 (.string s)).run Tryz.prog w = .ok (.slice (some ⟨w.heap.size, 0, none⟩) s.size (grownCap w s.size 0 5)) (Lib.bytesWorld w 5 s) :=
  Lib.run_convert_string_bytes w 9 41 5 s Tryz.underlying9 Tryz.underlying41 Tryz.underlying5
theorem conv_str_isB (w : World) (s : ByteArray) (hm : s.size ≤ maxLen) : IsB (Lib.bytesWorld w 5 s) (some ⟨w.heap.size, 0, none⟩) s.size (grownCap w s.size 0 5) (sL s) :=
  ⟨sL_length s, grownCap_ge w s.size 0 5, grownCap_le_maxLen w s.size 0 5 hm, fun e => (by cases e), fun _ => ⟨w.heap.size, 0, rfl, fun i hi => by rw [Nat.zero_add, Lib.bytesWorld_cell w 5 s i hi]; rfl⟩⟩
theorem conv_str_bel (w : World) (s : ByteArray) : Below w.heap.size w (Lib.bytesWorld w 5 s) :=
  ⟨by rfl, by rfl, by rfl, by rw [Lib.bytesWorld_size]; omega, fun j hj => Lib.bytesWorld_at_old w 5 s j hj⟩
end Go.Proofs.YthjdmfbengpepaaGreat
namespace Go.Proofs.YthjdmfbengpepaaGreat
open Go.RowKit

/-- the world under a name of its own: what is known of it, and no more -/
theorem wp_named {P : Program} {c : Code} {Q : Exit → Act → World → Prop} {a : Act} {w : World} (R : World → Prop) (hR : R w) (h : ∀ w', R w' → Code.wp P c Q a w') : Code.wp P c Q a w := h w hR

def Blk (w : World) (B t : Nat) (cs : List Value) : Prop := w.heap[B]? = some (.cells cs.toArray t (0, 0))
theorem Blk.lt {w : World} {B t : Nat} {cs : List Value} (h : Blk w B t cs) : B < w.heap.size := (Array.getElem?_eq_some_iff.1 h).1
theorem Blk.cell {w : World} {B t : Nat} {cs : List Value} (h : Blk w B t cs) (j : Nat) : w.cell? ⟨B, j, none⟩ = cs[j]? := by
  rw [cell_of_row w B j _ _ _ h]; simp
theorem Blk.frozen {w : World} {B t : Nat} {cs : List Value} (h : Blk w B t cs) (j : Nat) : w.frozen? ⟨B, j, none⟩ = false := frozen_of_row w B j _ _ h
theorem Blk.below {w w' : World} {n B t : Nat} {cs : List Value} (h : Blk w B t cs) (hb : Below n w w') (hn : B < n) : Blk w' B t cs := by
  unfold Blk; rw [hb.block B hn]; exact h
theorem Blk.on {w w' : World} {B t : Nat} {cs : List Value} (h : Blk w B t cs) (hb : Below w.heap.size w w') : Blk w' B t cs := h.below hb h.lt
theorem Blk.alloc {w : World} {B t : Nat} {cs : List Value} (h : Blk w B t cs) (o : Obj) : Blk (w.alloc o) B t cs := by
  unfold Blk; rw [Below.heap_alloc w o B h.lt]; exact h
theorem Blk.drewN {w : World} {B t : Nat} {cs : List Value} (h : Blk w B t cs) (n : Nat) : Blk (w.drewN n) B t cs := h
theorem Blk.new (w : World) (t : Nat) (cs : List Value) : Blk (w.alloc (.cells cs.toArray t)) w.heap.size t cs := heap_alloc_new w _
theorem Blk.newAt (w : World) (B t : Nat) (arr : Array Value) (cs : List Value) (hB : w.heap.size = B) (hc : arr = cs.toArray) : Blk (w.alloc (.cells arr t)) B t cs := by
  subst hB hc; exact heap_alloc_new w _
theorem Blk.set {w : World} {B t : Nat} {cs : List Value} (h : Blk w B t cs) (j : Nat) (u : Value) : Blk (w.setCell ⟨B, j, none⟩ u) B t (cs.set j u) := by
  unfold Blk; rw [heap_setCell_same w B j _ t u h]; simp
theorem Blk.row {w : World} {B t : Nat} {cs : List Value} (h : Blk w B t cs) (ds : List Value) : Blk (w.setRow B ds.toArray) B t ds := setRow_heap w B _ _ t _ h
theorem Blk.rowOther {w : World} {B t : Nat} {cs : List Value} (h : Blk w B t cs) (g : Nat) (c : Array Value) (hne : B ≠ g) : Blk (w.setRow g c) B t cs := by
  unfold Blk; rw [setRow_other w g B c hne]; exact h
theorem bel_row {B g : Nat} {a w : World} (h : Below B a w) (hg : B ≤ g) (c : Array Value) : Below B a (w.setRow g c) :=
  h.trans ⟨rfl, rfl, rfl, by simp [World.setRow], fun k hk => setRow_other w g k c (by omega)⟩
theorem Blk.other {w : World} {B t : Nat} {cs : List Value} (h : Blk w B t cs) (a : Addr) (u : Value) (hne : B ≠ a.block) : Blk (w.setCell a u) B t cs := by
  unfold Blk; rw [heap_setCell_other w a B u hne]; exact h
end Go.Proofs.YthjdmfbengpepaaGreat
