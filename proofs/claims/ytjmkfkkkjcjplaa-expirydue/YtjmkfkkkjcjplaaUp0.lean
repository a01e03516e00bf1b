/- Parts and uploads, plain; as values in a world. -/
import Derived.Test.YtjmkfkkkjcjplaaOwnC
import Derived.Test.YtjmkfkkkjcjplaaRet
namespace Go.Proofs.Ytjmkfkkkjcjplaa
open Go.RowKit

/-- a part; where its bytes lie -/
structure Pa where
  n : Int
  d : List UInt8
structure PaA where
  ad : Option Addr
  cap : Nat
abbrev PqU := Pa × PaA
def pac (p : PqU) : List Value := [.int .i64 p.1.n, .slice p.2.ad p.1.d.length p.2.cap]
/-- a part's number fits, its bytes lie there -/
structure PaOK (w : World) (p : PqU) : Prop where
  n0 : -9223372036854775808 ≤ p.1.n
  n1 : p.1.n ≤ 9223372036854775807
  d : IsB w p.2.ad p.1.d.length p.2.cap p.1.d
theorem PaOK.below {w w' : World} {p : PqU} (h : PaOK w p) (hb : Below w.heap.size w w') : PaOK w' p := ⟨h.n0, h.n1, h.d.below hb rfl⟩
/-- which parts are right -/
def rightGo : Int → List Pa → Bool
  | _, [] => true
  | q, p :: l => (decide (1 ≤ p.n) && decide (p.n ≤ 4) && decide (p.d.length ≤ 1536) && decide (q < p.n)) && rightGo p.n l
def rightPs (l : List Pa) : Bool := rightGo 0 l
/-- how many bytes -/
def totalPs (l : List Pa) : Nat := (l.map fun p => p.d.length).sum
/-- with a part more -/
def putPs (l : List Pa) (n : Int) (d : List UInt8) : List Pa := l.takeWhile (fun p => decide (p.n < n)) ++ ⟨n, d⟩ :: (l.dropWhile (fun p => decide (p.n < n))).dropWhile (fun p => decide (p.n ≤ n))
theorem right_cons {q : Int} {p : Pa} {l : List Pa} (h : rightGo q (p :: l) = true) : 1 ≤ p.n ∧ p.n ≤ 4 ∧ p.d.length ≤ 1536 ∧ q < p.n ∧ rightGo p.n l = true := by
  unfold rightGo at h
  simp only [Bool.and_eq_true, decide_eq_true_iff] at h
  obtain ⟨⟨⟨⟨a, b⟩, c⟩, d⟩, e⟩ := h
  exact ⟨a, b, c, d, e⟩
theorem rightU_len : ∀ (l : List Pa) (q : Int), 0 ≤ q → q ≤ 4 → rightGo q l = true → l.length + q ≤ 4
  | [], q, _, h1, _ => by simpa using h1
  | p :: l, q, h0, h1, h => by
    obtain ⟨a, b, c, d, e⟩ := right_cons h
    have := rightU_len l p.n (by omega) b e
    rw [List.length_cons]; omega
/-- the parts of an upload in a world -/
structure IsPs16 (w : World) (a : Option Addr) (n cap : Nat) (l : List PqU) : Prop where
  row : RowC 2 pac w a n l
  ok : ∀ p ∈ l, PaOK w p
  le : n ≤ cap
  nil : a = none → n = 0 ∧ cap = 0
theorem IsPs16.below {w w' : World} {a : Option Addr} {n cap : Nat} {l : List PqU} (h : IsPs16 w a n cap l) (hb : Below w.heap.size w w') : IsPs16 w' a n cap l :=
  ⟨h.row.below hb (Nat.le_refl _), fun p hp => (h.ok p hp).below hb, h.le, h.nil⟩
/-- an upload but for its parts -/
structure UpH where
  bkt : ByteArray
  key : ByteArray
  id : Nat
  time : Nat
def upc (u : UpH) (v : Value) : List Value := [.string u.bkt, .string u.key, .int .u64 (u.id : Int), .int .u64 (u.time : Int), v]
/-- one block, known whole, and what stands below -/
structure OneB (w W : World) (T : Nat) (cs : List Value) : Prop where
  k : Blk W w.heap.size T cs
  bel : Below w.heap.size w W
theorem OneB.on {w W W' : World} {T : Nat} {cs : List Value} (h : OneB w W T cs) (hb : Below W.heap.size W W') : OneB w W' T cs := ⟨h.k.on hb, h.bel.trans (hb.mono h.bel.size)⟩
theorem OneB.new (w : World) (T : Nat) (cs : List Value) : OneB w (w.alloc (.cells cs.toArray T)) T cs := ⟨Blk.new w T cs, (Below.refl _ w).alloc (Nat.le_refl _) _⟩
end Go.Proofs.Ytjmkfkkkjcjplaa
