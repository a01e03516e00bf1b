/- Plain facts: bytes and words as the walk spells them, and slices of bytes in a world. · A disk, plain: sectors, writes, what is stable. · Plain facts: the bitwise operations and the wraps of bytes and words, as the walk spells them. -/
import Derived.Test.YtbclhaleibjkgaaProg
import Derived.WalkKit
import Derived.Below
import Derived.Deep.QuietTactic
import Derived.BigQuiet
namespace Go.Proofs.Ytbclhaleibjkgaa
open Go.RowKit

theorem mkHid {p : Prop} (h : p) : Hid p := h
theorem cell_lt {w : World} {a : Addr} {v : Value} (h : w.cell? a = some v) : a.block < w.heap.size := by
  unfold World.cell? at h
  by_cases hb : a.block < w.heap.size
  · exact hb
  · rw [Array.getElem?_eq_none (by omega)] at h; simp at h

/-- the byte at a place (0 behind the end) -/
def nth (l : List UInt8) (i : Nat) : UInt8 := l.getD i 0

theorem nth_eq (l : List UInt8) (i : Nat) (h : i < l.length) : nth l i = l[i] := by
  unfold nth; rw [List.getD_eq_getElem?_getD, List.getElem?_eq_getElem h]; rfl

theorem nth_drop (l : List UInt8) (k i : Nat) : nth (l.drop k) i = nth l (k + i) := by
  unfold nth; rw [List.getD_eq_getElem?_getD, List.getD_eq_getElem?_getD, List.getElem?_drop]
theorem wrap8_mod (x : Int) : IntKind.u8.wrap x = x % 256 := by simp [IntKind.wrap, IntKind.signed, IntKind.bits]

/-- a slice of bytes in a world -/
structure IsB (w : World) (a : Option Addr) (len cap : Nat) (l : List UInt8) : Prop where
  len_eq : l.length = len
  le : len ≤ cap
  max : cap ≤ maxLen
  nil : a = none → cap = 0
  cells : 0 < len → ∃ b off, a = some ⟨b, off, none⟩ ∧ ∀ i, i < len → w.cell? ⟨b, off + i, none⟩ = some (.int .u8 ((nth l i).toNat : Int))

theorem IsB.drewN {w : World} {a : Option Addr} {len cap : Nat} {l : List UInt8} (h : IsB w a len cap l) (n : Nat) : IsB (w.drewN n) a len cap l :=
  ⟨h.len_eq, h.le, h.max, h.nil, fun hp => by obtain ⟨b, off, e, hc⟩ := h.cells hp; exact ⟨b, off, e, fun i hi => by simpa using hc i hi⟩⟩

theorem IsB.below {w w' : World} {n : Nat} {a : Option Addr} {len cap : Nat} {l : List UInt8} (h : IsB w a len cap l) (hb : Below n w w') (hn : n = w.heap.size) : IsB w' a len cap l :=
  ⟨h.len_eq, h.le, h.max, h.nil, fun hp => by
    obtain ⟨b, off, e, hc⟩ := h.cells hp
    refine ⟨b, off, e, fun i hi => ?_⟩
    have := hc i hi
    have hlt : b < w.heap.size := cell_lt this
    rw [hb.cell (p := ⟨b, off + i, none⟩) (by simpa [hn] using hlt)]; exact this⟩


theorem bel_drewN {B : Nat} {a w : World} (h : Below B a w) (n : Nat) : Below B a (w.drewN n) := h.trans ⟨rfl, rfl, rfl, Nat.le_refl _, fun _ _ => rfl⟩

/-- what the frame tells of a slice of numbers that came in -/
def IsRow (k : IntKind) (w : World) (a : Option Addr) (len cap : Nat) (zs : List Int) : Prop :=
  (a = none ∧ len = 0 ∧ cap = 0 ∧ zs = []) ∨
  ∃ x, a = some x ∧ len ≤ cap ∧ cap ≤ maxLen ∧ zs.length = cap ∧ (∀ i, i < zs.length → w.cell? (x.add i) = some (.int k (zs.getD i 0))) ∧ ∀ n ∈ zs, (Lit.int k n).wf = true

theorem IsRow.bytes {w : World} {a : Option Addr} {len cap : Nat} {zs : List Int} (h : IsRow .u8 w a len cap zs) : ∃ l, IsB w a len cap l := by
  rcases h with ⟨rfl, rfl, rfl, _⟩ | ⟨⟨b, off, spot⟩, rfl, h2, h3, h4, h5, h6⟩
  · exact ⟨[], rfl, Nat.le_refl _, Nat.zero_le _, fun _ => rfl, fun h => by omega⟩
  · refine ⟨(zs.take len).map fun n => UInt8.ofNat n.toNat, by simp; omega, h2, h3, fun h => (by cases h), fun hl => ?_⟩
    have hc := h5 0 (by omega)
    have hspot : spot = none := by simpa [Addr.add] using World.cell?_spot hc
    subst hspot
    refine ⟨b, off, rfl, fun i hi => ?_⟩
    have hi' : i < zs.length := by omega
    have hx := h5 i hi'
    rw [Addr.add_lit] at hx
    rw [hx]
    have hm : zs.getD i 0 ∈ zs := by rw [List.getD_eq_getElem?_getD, List.getElem?_eq_getElem hi']; exact List.getElem_mem hi'
    have hw : 0 ≤ zs.getD i 0 ∧ zs.getD i 0 ≤ 255 := by simpa [Lit.wf, IntKind.min, IntKind.max, IntKind.signed, IntKind.bits] using h6 _ hm
    have hn : nth ((zs.take len).map fun n => UInt8.ofNat n.toNat) i = UInt8.ofNat (zs.getD i 0).toNat := by
      rw [nth_eq _ _ (by simp; omega)]
      simp [List.getElem?_eq_getElem hi']
    rw [hn]
    congr 2
    rw [UInt8.toNat_ofNat']
    omega
end Go.Proofs.Ytbclhaleibjkgaa
namespace Go.Proofs.Ytbclhaleibjkgaa

/-- a write: where, what, and where its bytes lie -/
structure Wg where
  at_ : Nat
  b : List UInt8
  ad : Option Addr
  cap : Nat
def zero512 : List UInt8 := List.replicate 512 0
/-- the last write to a sector -/
def lastW : List Wg → Nat → Option (List UInt8)
  | [], _ => none
  | g :: l, i => match lastW l i with
    | some b => some b
    | none => if g.at_ = i then some g.b else none
theorem lastW_snoc (l : List Wg) (g : Wg) (i : Nat) : lastW (l ++ [g]) i = if g.at_ = i then some g.b else lastW l i := by
  induction l with
  | nil => simp [lastW]
  | cons h l ih =>
    rw [List.cons_append, lastW, ih]
    by_cases hi : g.at_ = i
    · rw [if_pos hi, if_pos hi]
    · rw [if_neg hi, if_neg hi, lastW]
theorem lastW_append (l m : List Wg) (i : Nat) : lastW (l ++ m) i = match lastW m i with | some b => some b | none => lastW l i := by
  induction l with
  | nil => rw [List.nil_append]; cases lastW m i <;> rfl
  | cons h l ih =>
    rw [List.cons_append, lastW, ih]
    cases hm : lastW m i with
    | some b => rfl
    | none => rw [lastW]
/-- a write to what is stable: one elder of the same sector is gone -/
def settleW (S : List Wg) (g : Wg) : List Wg := S.filter (fun h => !(h.at_ == g.at_)) ++ [g]
theorem lastW_filter (S : List Wg) (j i : Nat) (h : j ≠ i) : lastW (S.filter (fun g => !(g.at_ == j))) i = lastW S i := by
  induction S with
  | nil => rfl
  | cons g S ih =>
    by_cases hg : g.at_ = j
    · rw [List.filter_cons_of_neg (by simp [hg]), ih, lastW]
      cases lastW S i with
      | some b => rfl
      | none => rw [if_neg (by omega)]
    · rw [List.filter_cons_of_pos (by simp [hg]), lastW, lastW, ih]
theorem lastW_settle (S : List Wg) (g : Wg) (i : Nat) : lastW (settleW S g) i = if g.at_ = i then some g.b else lastW S i := by
  unfold settleW
  rw [lastW_snoc]
  by_cases h : g.at_ = i
  · rw [if_pos h, if_pos h]
  · rw [if_neg h, if_neg h, lastW_filter S g.at_ i h]
/-- how many sectors -/
theorem settle_mem {S : List Wg} {g h : Wg} (hm : h ∈ settleW S g) : h ∈ S ∨ h = g := by
  unfold settleW at hm
  rcases List.mem_append.1 hm with e | e
  · exact .inl (List.mem_filter.1 e).1
  · exact .inr (List.mem_singleton.1 e)
/-- the writes that a crash keeps -/
def keptW : List Wg → List Bool → List Wg
  | g :: l, k :: ks => if k = true then g :: keptW l ks else keptW l ks
  | _, _ => []
def stableOf (S : List Wg) (i : Nat) : List UInt8 := (lastW S i).getD zero512
def readOf (S C : List Wg) (i : Nat) : List UInt8 := (lastW C i).getD (stableOf S i)
theorem stable_foldl (l S : List Wg) (i : Nat) : stableOf (l.foldl settleW S) i = (lastW l i).getD (stableOf S i) := by
  induction l generalizing S with
  | nil => rfl
  | cons g l ih =>
    rw [List.foldl_cons, ih, lastW]
    cases h : lastW l i with
    | some b => rfl
    | none =>
      unfold stableOf
      rw [lastW_settle]
      by_cases hi : g.at_ = i
      · rw [if_pos hi, if_pos hi]; first | done | rfl
      · rw [if_neg hi, if_neg hi]; first | done | rfl
end Go.Proofs.Ytbclhaleibjkgaa
namespace Go.Proofs.Ytbclhaleibjkgaa

theorem wrap8_nat (n : Nat) (h : n < 256) : IntKind.u8.wrap (n : Int) = n := by
  simp [IntKind.wrap, IntKind.signed, IntKind.bits]; omega
theorem wrap32_nat (n : Nat) (h : n < 4294967296) : IntKind.u32.wrap (n : Int) = n := by
  simp [IntKind.wrap, IntKind.signed, IntKind.bits]; omega
theorem wrap64_nat (n : Nat) (h : n < 18446744073709551616) : IntKind.u64.wrap (n : Int) = n := by
  simp [IntKind.wrap, IntKind.signed, IntKind.bits]; omega

theorem wrapi64_in (n : Int) (h0 : -9223372036854775808 ≤ n) (h1 : n ≤ 9223372036854775807) : IntKind.i64.wrap n = n := by
  simp [IntKind.wrap, IntKind.signed, IntKind.bits]; omega

theorem of8 (a : UInt8) : BitVec.ofInt 8 (a.toNat : Int) = a.toBitVec := by rw [BitVec.ofInt_natCast]; exact BitVec.eq_of_toNat_eq (by simp)
theorem of32 (a : UInt32) : BitVec.ofInt 32 (a.toNat : Int) = a.toBitVec := by rw [BitVec.ofInt_natCast]; exact BitVec.eq_of_toNat_eq (by simp)
theorem of64 (a : UInt64) : BitVec.ofInt 64 (a.toNat : Int) = a.toBitVec := by rw [BitVec.ofInt_natCast]; exact BitVec.eq_of_toNat_eq (by simp)

theorem bits_xor8 (a b : UInt8) : bits .xor .u8 (a.toNat : Int) (b.toNat : Int) = ((a ^^^ b).toNat : Int) := by
  show IntKind.u8.wrap ((BitVec.ofInt 8 (a.toNat : Int) ^^^ BitVec.ofInt 8 (b.toNat : Int)).toNat : Int) = _
  rw [of8, of8]; exact wrap8_nat _ (a ^^^ b).toNat_lt
theorem bits_or8 (a b : UInt8) : bits .or .u8 (a.toNat : Int) (b.toNat : Int) = ((a ||| b).toNat : Int) := by
  show IntKind.u8.wrap ((BitVec.ofInt 8 (a.toNat : Int) ||| BitVec.ofInt 8 (b.toNat : Int)).toNat : Int) = _
  rw [of8, of8]; exact wrap8_nat _ (a ||| b).toNat_lt
theorem bits_and8 (a b : UInt8) : bits .and .u8 (a.toNat : Int) (b.toNat : Int) = ((a &&& b).toNat : Int) := by
  show IntKind.u8.wrap ((BitVec.ofInt 8 (a.toNat : Int) &&& BitVec.ofInt 8 (b.toNat : Int)).toNat : Int) = _
  rw [of8, of8]; exact wrap8_nat _ (a &&& b).toNat_lt
theorem bits_xor32 (a b : UInt32) : bits .xor .u32 (a.toNat : Int) (b.toNat : Int) = ((a ^^^ b).toNat : Int) := by
  show IntKind.u32.wrap ((BitVec.ofInt 32 (a.toNat : Int) ^^^ BitVec.ofInt 32 (b.toNat : Int)).toNat : Int) = _
  rw [of32, of32]; exact wrap32_nat _ (a ^^^ b).toNat_lt
theorem bits_or32 (a b : UInt32) : bits .or .u32 (a.toNat : Int) (b.toNat : Int) = ((a ||| b).toNat : Int) := by
  show IntKind.u32.wrap ((BitVec.ofInt 32 (a.toNat : Int) ||| BitVec.ofInt 32 (b.toNat : Int)).toNat : Int) = _
  rw [of32, of32]; exact wrap32_nat _ (a ||| b).toNat_lt
theorem bits_and32 (a b : UInt32) : bits .and .u32 (a.toNat : Int) (b.toNat : Int) = ((a &&& b).toNat : Int) := by
  show IntKind.u32.wrap ((BitVec.ofInt 32 (a.toNat : Int) &&& BitVec.ofInt 32 (b.toNat : Int)).toNat : Int) = _
  rw [of32, of32]; exact wrap32_nat _ (a &&& b).toNat_lt

theorem toNat8_zero (a : UInt8) : (((a.toNat : Int) == 0) = true) ↔ a = 0 := by
  rw [beq_iff_eq]
  constructor
  · intro h; exact UInt8.toNat_inj.1 (by simpa using h)
  · rintro rfl; rfl
theorem toNat8_inj (a b : UInt8) : ((a.toNat : Int) = (b.toNat : Int)) ↔ a = b := by
  rw [Int.ofNat_inj, UInt8.toNat_inj]

theorem or_xor_zero (d x y : UInt8) : (d ||| (x ^^^ y) = 0) ↔ (d = 0 ∧ x = y) := by
  rw [UInt8.or_eq_zero_iff, UInt8.xor_eq_zero_iff]
end Go.Proofs.Ytbclhaleibjkgaa
