/- The audit log, plain: a record, its bytes, which are right, which are the same; a record as a value, its slices in a world. -/
import Derived.Test.YtbclhaleibjkgaaRefCan
import Derived.Test.YtbclhaleibjkgaaB15
import Derived.Test.YtbclhaleibjkgaaB6
import Derived.Test.YtbclhaleibjkgaaB23
import Derived.Test.YtbclhaleibjkgaaRefSha
import Derived.Lib.MinMax
namespace Go.Proofs.Ytbclhaleibjkgaa
open Go.RowKit

/-- a record -/
structure Rc where
  seq : Nat
  clk : Nat
  who : ByteArray
  kind : Int
  bkt : ByteArray
  key : ByteArray
  ver : Nat
  err : Int
  sum : List UInt8
  prev : List UInt8
def rc0 : Rc := ⟨0, 0, ⟨#[]⟩, 0, ⟨#[]⟩, ⟨#[]⟩, 0, 0, [], []⟩
/-- where its slices lie -/
structure RcA where
  a : Option Addr
  c : Nat
  b : Option Addr
  d : Nat
def rcc (r : Rc) (q : RcA) : List Value := [.int .u64 (r.seq : Int), .int .u64 (r.clk : Int), .string r.who, .int .i64 r.kind, .string r.bkt, .string r.key, .int .u64 (r.ver : Int), .int .i64 r.err, .slice q.a r.sum.length q.c, .slice q.b r.prev.length q.d]
/-- its numbers fit -/
structure RcN (r : Rc) : Prop where
  seq : r.seq < 18446744073709551616
  clk : r.clk < 18446744073709551616
  ver : r.ver < 18446744073709551616
  kind0 : -9223372036854775808 ≤ r.kind
  kind1 : r.kind ≤ 9223372036854775807
  err0 : -9223372036854775808 ≤ r.err
  err1 : r.err ≤ 9223372036854775807
structure IsRec (w : World) (r : Rc) (q : RcA) : Prop where
  sum : IsB w q.a r.sum.length q.c r.sum
  prev : IsB w q.b r.prev.length q.d r.prev
  num : RcN r
theorem IsRec.below {w w' : World} {r : Rc} {q : RcA} (h : IsRec w r q) (hb : Below w.heap.size w w') : IsRec w' r q := ⟨h.sum.below hb rfl, h.prev.below hb rfl, h.num⟩
/-- how many letters it has -/
def rcLen (r : Rc) : Nat := r.who.size + r.bkt.size + r.key.size + r.sum.length + r.prev.length
/-- Show -/
def showRc (r : Rc) : List UInt8 := bytesL (bytesL (uintL (uintL (textL (textL (uintL (textL (uintL (uintL [] r.seq) r.clk) (sL r.who)) (max r.kind 0).toNat) (sL r.bkt)) (sL r.key)) r.ver) (max r.err 0).toNat) r.sum) r.prev
theorem uint_len14 (b : List UInt8) (n : Nat) : (uintL b n).length = b.length + 9 := by unfold uintL behL beL; simp
theorem bytes_len14 (b c : List UInt8) : (bytesL b c).length = b.length + 5 + c.length := by unfold bytesL behL beL; simp; omega
theorem text_len14 (b c : List UInt8) : (textL b c).length = b.length + 5 + c.length := by unfold textL behL beL; simp; omega
theorem showRc_len (r : Rc) : (showRc r).length = 70 + rcLen r := by
  unfold showRc rcLen
  simp only [uint_len14, bytes_len14, text_len14, sL_length, List.length_nil]
  omega
/-- Digest -/
def digRc (r : Rc) : List UInt8 := sha256L (showRc r)
theorem digRc_len (r : Rc) : (digRc r).length = 32 := sha256L_length _
/-- Right -/
def rightRc (r : Rc) : Bool := decide (0 ≤ r.kind ∧ r.kind ≤ 19 ∧ 0 ≤ r.err ∧ r.err ≤ 9999 ∧ r.who.size ≤ 16 ∧ r.bkt.size ≤ 16 ∧ r.key.size ≤ 48 ∧ (r.sum.length = 0 ∨ r.sum.length = 32) ∧ (r.prev.length = 32 ∧ 1 < r.seq ∨ r.prev.length = 0 ∧ r.seq = 1))
/-- Same -/
noncomputable def sameRc (r s : Rc) : Bool := @decide (r = s) (Classical.propDecidable _)
theorem sameRc_iff (r s : Rc) : sameRc r s = true ↔ r = s := by unfold sameRc; exact @decide_eq_true_iff _ (Classical.propDecidable _)
/-- bytes by their value -/
theorem own_on14 {w w' : World} {base : Nat} {v : Value} {l : List UInt8} (h : OwnB w base v l) (hb : Below w.heap.size w w') : OwnB w' base v l := own_keepO (us := [5]) (KeepO.of_below hb) h (by decide)
theorem IsV.toB {w : World} {a : Option Addr} {n c : Nat} {l : List UInt8} (h : IsV w (.slice a n c) l) : IsB w a n c l := by
  obtain ⟨a', c', e, hb⟩ := h
  injection e with e1 e2 e3
  subst e1 e2 e3
  exact hb
theorem refSameV (v1 v2 : Value) (l m : List UInt8) (w : World) (h1 : IsV w v1 l) (h2 : IsV w v2 m) :
    Calls Try.prog 10 #[v1, v2] w fun e w' => e = .returned (.bool (eqB l m)) ∧ ∃ n, w' = w.drewN n := by
  obtain ⟨a, c, rfl, hb⟩ := h1
  obtain ⟨b, d, rfl, hc⟩ := h2
  exact refSame a _ c l b _ d m w hb hc
theorem digSameV (v1 v2 : Value) (l m : List UInt8) (w : World) (h1 : IsV w v1 l) (h2 : IsV w v2 m) :
    Calls Try.prog 36 #[v1, v2] w fun e w' => e = .returned (.bool (eqB l m)) ∧ ∃ n, w' = w.drewN n := by
  obtain ⟨a, c, rfl, hb⟩ := h1
  obtain ⟨b, d, rfl, hc⟩ := h2
  exact digSame a _ c l b _ d m w hb hc
theorem digSha256V (v1 : Value) (l : List UInt8) (w : World) (h1 : IsV w v1 l) (hn : l.length < 4294967296) :
    Calls Try.prog 34 #[v1] w fun e w' => ∃ v, e = .returned v ∧ OwnB w' w.heap.size v (sha256L l) ∧ Below w.heap.size w w' := by
  obtain ⟨a, c, rfl, hb⟩ := h1
  exact digSha256 a _ c l w hb hn
theorem refSha256V (v1 : Value) (l : List UInt8) (w : World) (h1 : IsV w v1 l) (hn : l.length < 4294967296) :
    Calls Try.prog 35 #[v1] w fun e w' => ∃ v, e = .returned v ∧ OwnB w' w.heap.size v (sha256L l) ∧ Below w.heap.size w w' := by
  obtain ⟨a, c, rfl, hb⟩ := h1
  exact refSha256 a _ c l w hb hn
theorem canUintV (v1 : Value) (l : List UInt8) (n : Nat) (w : World) (h1 : IsV w v1 l) (hl : l.length ≤ 1000000) :
    Calls Try.prog 27 #[v1, .int .u64 (n : Int)] w fun e w' => ∃ v, e = .returned v ∧ OwnB w' w.heap.size v (uintL l n) ∧ Below w.heap.size w w' := by
  obtain ⟨a, c, rfl, hb⟩ := h1
  exact canUint a _ c l n w hb (by omega)
theorem canTextV (v1 : Value) (l : List UInt8) (s : ByteArray) (w : World) (h1 : IsV w v1 l) (hl : l.length ≤ 1000000) (hs : s.size ≤ 1000000) :
    Calls Try.prog 28 #[v1, .string s] w fun e w' => ∃ v, e = .returned v ∧ OwnB w' w.heap.size v (textL l (sL s)) ∧ Below w.heap.size w w' := by
  obtain ⟨a, c, rfl, hb⟩ := h1
  exact canText a _ c l s w hb (by omega) (by omega)
theorem canBytesV (v1 v2 : Value) (l m : List UInt8) (w : World) (h1 : IsV w v1 l) (h2 : IsV w v2 m) (hl : l.length ≤ 1000000) (hs : m.length ≤ 1000000) :
    Calls Try.prog 30 #[v1, v2] w fun e w' => ∃ v, e = .returned v ∧ OwnB w' w.heap.size v (bytesL l m) ∧ Below w.heap.size w w' := by
  obtain ⟨a, c, rfl, hb⟩ := h1
  obtain ⟨b, d, rfl, hc⟩ := h2
  exact canBytes a _ c l b _ d m w hb hc (by omega) (by omega)
theorem refUintV (v1 : Value) (l : List UInt8) (n : Nat) (w : World) (h1 : IsV w v1 l) (hl : l.length ≤ 1000000) :
    Calls Try.prog 31 #[v1, .int .u64 (n : Int)] w fun e w' => ∃ v, e = .returned v ∧ OwnB w' w.heap.size v (uintL l n) ∧ Below w.heap.size w w' := by
  obtain ⟨a, c, rfl, hb⟩ := h1
  exact refUint a _ c l n w hb (by omega)
theorem refTextV (v1 : Value) (l : List UInt8) (s : ByteArray) (w : World) (h1 : IsV w v1 l) (hl : l.length ≤ 1000000) (hs : s.size ≤ 1000000) :
    Calls Try.prog 32 #[v1, .string s] w fun e w' => ∃ v, e = .returned v ∧ OwnB w' w.heap.size v (textL l (sL s)) ∧ Below w.heap.size w w' := by
  obtain ⟨a, c, rfl, hb⟩ := h1
  exact refText a _ c l s w hb (by omega) (by omega)
theorem refBytesV (v1 v2 : Value) (l m : List UInt8) (w : World) (h1 : IsV w v1 l) (h2 : IsV w v2 m) (hl : l.length ≤ 1000000) (hs : m.length ≤ 1000000) :
    Calls Try.prog 33 #[v1, v2] w fun e w' => ∃ v, e = .returned v ∧ OwnB w' w.heap.size v (bytesL l m) ∧ Below w.heap.size w w' := by
  obtain ⟨a, c, rfl, hb⟩ := h1
  obtain ⟨b, d, rfl, hc⟩ := h2
  exact refBytes2 a _ c l b _ d m w hb hc (by omega) (by omega)
end Go.Proofs.Ytbclhaleibjkgaa
