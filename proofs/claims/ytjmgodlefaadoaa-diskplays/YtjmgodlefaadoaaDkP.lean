/- A disk, plain: how it stands, whatever holds it; the document's disk stands so. -/
import Derived.Test.YtjmgodlefaadoaaDk7
namespace Go.Proofs.Ytjmgodlefaadoaa
open Go.RowKit

structure Pl where
  n : Nat
  st : Nat → List UInt8
  ca : List (Nat × List UInt8)
  off : Bool
  arm : Option Nat
  wr : Nat
  fl : Nat
namespace Pl
def new (n : Nat) : Pl := ⟨n, fun _ => zero512, [], false, none, 0, 0⟩
def put (st : Nat → List UInt8) (g : Nat × List UInt8) : Nat → List UInt8 := fun i => if g.1 = i then g.2 else st i
def kept : List (Nat × List UInt8) → List Bool → List (Nat × List UInt8)
  | g :: l, k :: ks => if k = true then g :: kept l ks else kept l ks
  | _, _ => []
def stE (p : Pl) (i : Int) : Int := if inR p.n i = true then 0 else 50
def stB (p : Pl) (i : Int) : List UInt8 := if inR p.n i = true then p.st i.toNat else []
def rdE (p : Pl) (i : Int) : Int := if p.off = true then 51 else p.stE i
def rdB (p : Pl) (i : Int) : List UInt8 := if p.off = true then [] else if inR p.n i = true then p.ca.foldl put p.st i.toNat else []
def wrE (p : Pl) (i : Int) (b : List UInt8) : Int := if p.off = true then 51 else if inR p.n i = false then 50 else if b.length ≠ 512 then 1 else if p.arm = some 0 then 51 else 0
def write (p : Pl) (i : Int) (b : List UInt8) : Pl :=
  if p.off = true then p else if inR p.n i = false then p else if b.length ≠ 512 then p else if p.arm = some 0 then { p with off := true } else { p with arm := p.arm.map (· - 1), wr := p.wr + 1, ca := p.ca ++ [(i.toNat, b)] }
def flE (p : Pl) : Int := if p.off = true then 51 else 0
def flush (p : Pl) : Pl := if p.off = true then p else { p with st := p.ca.foldl put p.st, ca := [], fl := p.fl + 1 }
def armed (p : Pl) (z : Int) : Pl := { p with arm := if 0 ≤ z then some z.toNat else none }
def crash (p : Pl) (ks : List Bool) : Pl := { p with st := (kept p.ca ks).foldl put p.st, ca := [], off := false, arm := none }
end Pl
def plW (g : Wg) : Nat × List UInt8 := (g.at_, g.b)
def plOf (r : Rd) : Pl := ⟨r.n, stableOf r.S, r.C.map plW, r.off, if r.armed = true then some r.left else none, r.wr, r.fl⟩

theorem put_fold (l : List Wg) (st : Nat → List UInt8) (i : Nat) : (l.map plW).foldl Pl.put st i = (lastW l i).getD (st i) := by
  induction l generalizing st with
  | nil => rfl
  | cons g l ih =>
    rw [List.map_cons, List.foldl_cons, ih, lastW]
    cases lastW l i with
    | some b => rfl
    | none =>
      by_cases h : g.at_ = i
      · simp [Pl.put, plW, h]
      · simp [Pl.put, plW, h]
theorem fold_stable (l S : List Wg) : stableOf (l.foldl settleW S) = (l.map plW).foldl Pl.put (stableOf S) := funext fun i => by rw [stable_foldl, put_fold]
theorem kept_map (l : List Wg) (ks : List Bool) : Pl.kept (l.map plW) ks = (keptW l ks).map plW := by
  induction l generalizing ks with
  | nil => simp [Pl.kept, keptW]
  | cons g l ih =>
    cases ks with
    | nil => simp [Pl.kept, keptW]
    | cons k ks =>
      rw [List.map_cons, Pl.kept, keptW, ih]
      cases k <;> simp
theorem pl_new (n : Nat) : plOf ⟨n, [], [], false, false, 0, 0, 0⟩ = Pl.new n := rfl
theorem pl_stE (r : Rd) (i : Int) : stE r i = (plOf r).stE i := rfl
theorem pl_stB (r : Rd) (i : Int) : stB r i = (plOf r).stB i := rfl
theorem pl_rdE (r : Rd) (i : Int) : rdE r i = (plOf r).rdE i := rfl
theorem pl_rdB (r : Rd) (i : Int) : rdB r i = (plOf r).rdB i := by
  unfold rdB Pl.rdB readOf plOf
  simp only [put_fold]
theorem pl_flE (r : Rd) : flE r = (plOf r).flE := rfl
theorem pl_flush (r : Rd) : plOf (flushR r) = (plOf r).flush := by
  cases r with
  | mk n S C off armed left wr fl =>
    cases off with
    | true => rfl
    | false => simp [flushR, Pl.flush, plOf, fold_stable]
theorem pl_arm (r : Rd) (z : Int) : plOf (armR r z) = (plOf r).armed z := by
  unfold armR Pl.armed plOf
  by_cases h : 0 ≤ z
  · have e : max z 0 = z := by omega
    simp [h, e]
  · simp [h]
theorem pl_crash (r : Rd) (ks : List Bool) : plOf (crashR r ks) = (plOf r).crash ks := by
  unfold crashR Pl.crash
  simp only [plOf, fold_stable, kept_map]
  rfl
theorem pl_wrE (r : Rd) (i : Int) (b : List UInt8) : wrE r i b = (plOf r).wrE i b := by
  unfold wrE Pl.wrE plOf
  cases r with
  | mk n S C off armed left wr fl => cases armed <;> simp
theorem pl_write {r r' : Rd} {i : Int} {b : List UInt8} (h : WrTo r i b r') : plOf r' = (plOf r).write i b := by
  cases r with
  | mk n S C off armed left wr fl =>
    unfold WrTo wrE at h
    unfold Pl.write
    cases off with
    | true =>
      rcases h with ⟨h1, _⟩ | ⟨_, h1, _⟩ | ⟨_, _, rfl⟩
      · simp at h1
      · cases h1
      · rfl
    | false =>
      cases hi : inR n i with
      | false =>
        rcases h with ⟨h1, _⟩ | ⟨h1, _, _⟩ | ⟨_, _, rfl⟩
        · simp [hi] at h1
        · simp [hi] at h1
        · simp [plOf, hi]
      | true =>
        by_cases hb : b.length = 512
        · cases armed with
          | false =>
            rcases h with ⟨_, g, e1, e2, rfl⟩ | ⟨h1, _, _⟩ | ⟨h1, _, _⟩
            · simp [plOf, hi, hb, plW, e1, e2]
            · simp [hi, hb] at h1
            · simp [hi, hb] at h1
          | true =>
            cases left with
            | zero =>
              rcases h with ⟨h1, _⟩ | ⟨_, _, rfl⟩ | ⟨_, h1, _⟩
              · simp [hi, hb] at h1
              · simp [plOf, hi, hb]
              · simp [hi, hb] at h1
            | succ k =>
              rcases h with ⟨_, g, e1, e2, rfl⟩ | ⟨h1, _, _⟩ | ⟨h1, _, _⟩
              · simp [plOf, hi, hb, plW, e1, e2, nextL]
              · simp [hi, hb] at h1
              · simp [hi, hb] at h1
        · rcases h with ⟨h1, _⟩ | ⟨h1, _, _⟩ | ⟨_, _, rfl⟩
          · simp [hi, hb] at h1
          · simp [hi, hb] at h1
          · simp [plOf, hi, hb]
end Go.Proofs.Ytjmgodlefaadoaa
