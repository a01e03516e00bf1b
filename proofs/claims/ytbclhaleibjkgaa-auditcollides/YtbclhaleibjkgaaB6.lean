/- A disk, plain: how it stands, whatever holds it; the document's disk stands so. · What the statements ask of the program's disk; the bytes of a call. -/
import Derived.Test.YtbclhaleibjkgaaB5
import Derived.Test.YtbclhaleibjkgaaB4
namespace Go.Proofs.Ytbclhaleibjkgaa
open Go.RowKit

structure Pl where
  n : Nat
  st : Nat → List UInt8
  ca : List (Nat × List UInt8)
  off : Bool
  arm : Option Nat
  wr : Nat
  fl : Nat
namespace Pl
def new (n : Nat) : Pl := ⟨n, fun _ => zero512, [], false, none, 0, 0⟩
def put (st : Nat → List UInt8) (g : Nat × List UInt8) : Nat → List UInt8 := fun i => if g.1 = i then g.2 else st i
def kept : List (Nat × List UInt8) → List Bool → List (Nat × List UInt8)
  | g :: l, k :: ks => if k = true then g :: kept l ks else kept l ks
  | _, _ => []
def stE (p : Pl) (i : Int) : Int := if inR p.n i = true then 0 else 50
def stB (p : Pl) (i : Int) : List UInt8 := if inR p.n i = true then p.st i.toNat else []
def rdE (p : Pl) (i : Int) : Int := if p.off = true then 51 else p.stE i
def rdB (p : Pl) (i : Int) : List UInt8 := if p.off = true then [] else if inR p.n i = true then p.ca.foldl put p.st i.toNat else []
def wrE (p : Pl) (i : Int) (b : List UInt8) : Int := if p.off = true then 51 else if inR p.n i = false then 50 else if b.length ≠ 512 then 1 else if p.arm = some 0 then 51 else 0
def write (p : Pl) (i : Int) (b : List UInt8) : Pl :=
  if p.off = true then p else if inR p.n i = false then p else if b.length ≠ 512 then p else if p.arm = some 0 then { p with off := true } else { p with arm := p.arm.map (· - 1), wr := p.wr + 1, ca := p.ca ++ [(i.toNat, b)] }
def flE (p : Pl) : Int := if p.off = true then 51 else 0
def flush (p : Pl) : Pl := if p.off = true then p else { p with st := p.ca.foldl put p.st, ca := [], fl := p.fl + 1 }
def armed (p : Pl) (z : Int) : Pl := { p with arm := if 0 ≤ z then some z.toNat else none }
def crash (p : Pl) (ks : List Bool) : Pl := { p with st := (kept p.ca ks).foldl put p.st, ca := [], off := false, arm := none }
end Pl
def plW (g : Wg) : Nat × List UInt8 := (g.at_, g.b)
def plOf (r : Rd) : Pl := ⟨r.n, stableOf r.S, r.C.map plW, r.off, if r.armed = true then some r.left else none, r.wr, r.fl⟩

theorem put_fold (l : List Wg) (st : Nat → List UInt8) (i : Nat) : (l.map plW).foldl Pl.put st i = (lastW l i).getD (st i) := by
  induction l generalizing st with
  | nil => rfl
  | cons g l ih =>
    rw [List.map_cons, List.foldl_cons, ih, lastW]
    cases lastW l i with
    | some b => rfl
    | none =>
      by_cases h : g.at_ = i
      · simp [Pl.put, plW, h]
      · simp [Pl.put, plW, h]
theorem fold_stable (l S : List Wg) : stableOf (l.foldl settleW S) = (l.map plW).foldl Pl.put (stableOf S) := funext fun i => by rw [stable_foldl, put_fold]
theorem kept_map (l : List Wg) (ks : List Bool) : Pl.kept (l.map plW) ks = (keptW l ks).map plW := by
  induction l generalizing ks with
  | nil => simp [Pl.kept, keptW]
  | cons g l ih =>
    cases ks with
    | nil => simp [Pl.kept, keptW]
    | cons k ks =>
      rw [List.map_cons, Pl.kept, keptW, ih]
      cases k <;> simp
theorem pl_new (n : Nat) : plOf ⟨n, [], [], false, false, 0, 0, 0⟩ = Pl.new n := rfl
theorem pl_stE (r : Rd) (i : Int) : stE r i = (plOf r).stE i := rfl
theorem pl_stB (r : Rd) (i : Int) : stB r i = (plOf r).stB i := rfl
theorem pl_rdE (r : Rd) (i : Int) : rdE r i = (plOf r).rdE i := rfl
theorem pl_rdB (r : Rd) (i : Int) : rdB r i = (plOf r).rdB i := by
  unfold rdB Pl.rdB readOf plOf
  simp only [put_fold]
theorem pl_flE (r : Rd) : flE r = (plOf r).flE := rfl
theorem pl_flush (r : Rd) : plOf (flushR r) = (plOf r).flush := by
  cases r with
  | mk n S C off armed left wr fl =>
    cases off with
    | true => rfl
    | false => simp [flushR, Pl.flush, plOf, fold_stable]
theorem pl_arm (r : Rd) (z : Int) : plOf (armR r z) = (plOf r).armed z := by
  unfold armR Pl.armed plOf
  by_cases h : 0 ≤ z
  · have e : max z 0 = z := by omega
    simp [h, e]
  · simp [h]
theorem pl_crash (r : Rd) (ks : List Bool) : plOf (crashR r ks) = (plOf r).crash ks := by
  unfold crashR Pl.crash
  simp only [plOf, fold_stable, kept_map]
  rfl
theorem pl_wrE (r : Rd) (i : Int) (b : List UInt8) : wrE r i b = (plOf r).wrE i b := by
  unfold wrE Pl.wrE plOf
  cases r with
  | mk n S C off armed left wr fl => cases armed <;> simp
theorem pl_write {r r' : Rd} {i : Int} {b : List UInt8} (h : WrTo r i b r') : plOf r' = (plOf r).write i b := by
  cases r with
  | mk n S C off armed left wr fl =>
    unfold WrTo wrE at h
    unfold Pl.write
    cases off with
    | true =>
      rcases h with ⟨h1, _⟩ | ⟨_, h1, _⟩ | ⟨_, _, rfl⟩
      · simp at h1
      · cases h1
      · rfl
    | false =>
      cases hi : inR n i with
      | false =>
        rcases h with ⟨h1, _⟩ | ⟨h1, _, _⟩ | ⟨_, _, rfl⟩
        · simp [hi] at h1
        · simp [hi] at h1
        · simp [plOf, hi]
      | true =>
        by_cases hb : b.length = 512
        · cases armed with
          | false =>
            rcases h with ⟨_, g, e1, e2, rfl⟩ | ⟨h1, _, _⟩ | ⟨h1, _, _⟩
            · simp [plOf, hi, hb, plW, e1, e2]
            · simp [hi, hb] at h1
            · simp [hi, hb] at h1
          | true =>
            cases left with
            | zero =>
              rcases h with ⟨h1, _⟩ | ⟨_, _, rfl⟩ | ⟨_, h1, _⟩
              · simp [hi, hb] at h1
              · simp [plOf, hi, hb]
              · simp [hi, hb] at h1
            | succ k =>
              rcases h with ⟨_, g, e1, e2, rfl⟩ | ⟨h1, _, _⟩ | ⟨h1, _, _⟩
              · simp [plOf, hi, hb, plW, e1, e2, nextL]
              · simp [hi, hb] at h1
              · simp [hi, hb] at h1
        · rcases h with ⟨h1, _⟩ | ⟨h1, _, _⟩ | ⟨_, _, rfl⟩
          · simp [hi, hb] at h1
          · simp [hi, hb] at h1
          · simp [plOf, hi, hb]
/-- how much there may be -/
structure FewP (p : Pl) : Prop where
  n : p.n ≤ 4096
  ca : p.ca.length ≤ 1000000
  at_ : ∀ g ∈ p.ca, g.1 < p.n ∧ g.2.length = 512
  wr : p.wr ≤ 1000000
  fl : p.fl ≤ 1000000
end Go.Proofs.Ytbclhaleibjkgaa
namespace Go.Proofs.Ytbclhaleibjkgaa
open Go.RowKit

/-- a record of a loop over a function, or of what is deferred -/
def isCtl : Obj → Bool
  | .loop _ => true
  | .deferred _ => true
  | _ => false
/-- every block of cells of one of these types stays -/
structure KeepO (us : List TypeId) (w w' : World) : Prop where
  size : w.heap.size ≤ w'.heap.size
  same : ∀ (k : Nat) (c : Array Value) (t : TypeId) (fz : Nat × Nat), w.heap[k]? = some (.cells c t fz) → t ∈ us → w'.heap[k]? = some (.cells c t fz)
  ctl : ∀ (k : Nat) (o : Obj), w.heap[k]? = some o → isCtl o = true → w'.heap[k]? = some o
theorem KeepO.refl (us : List TypeId) (w : World) : KeepO us w w := ⟨Nat.le_refl _, fun _ _ _ _ h _ => h, fun _ _ h _ => h⟩
theorem KeepO.trans {us : List TypeId} {a b c : World} (h : KeepO us a b) (k : KeepO us b c) : KeepO us a c := ⟨Nat.le_trans h.size k.size, fun i c t fz hi ht => k.same i c t fz (h.same i c t fz hi ht) ht, fun i o hi ho => k.ctl i o (h.ctl i o hi ho) ho⟩
theorem KeepO.less {us vs : List TypeId} {w w' : World} (h : KeepO us w w') (hs : ∀ t ∈ vs, t ∈ us) : KeepO vs w w' := ⟨h.size, fun k c t fz hk ht => h.same k c t fz hk (hs t ht), h.ctl⟩
theorem KeepO.of_below {us : List TypeId} {w w' : World} (h : Below w.heap.size w w') : KeepO us w w' := ⟨h.4, fun k _ _ _ hk _ => (h.5 k (Array.getElem?_eq_some_iff.1 hk).1).trans hk, fun k _ hk _ => (h.5 k (Array.getElem?_eq_some_iff.1 hk).1).trans hk⟩
theorem KeepO.ofT {ts us : List TypeId} {w w' : World} (h : KeepT ts w w') (hs : ∀ t ∈ us, t ∉ ts) : KeepO us w w' :=
  ⟨h.size, fun k c t fz hk ht => h.same k _ hk (fun c' t' fz' e => by injection e with _ h2 _; rw [← h2]; exact hs t ht), fun k o hk ho => h.same k o hk (fun c' t' fz' e => by subst e; cases ho)⟩
theorem KeepO.blk {us : List TypeId} {w w' : World} (h : KeepO us w w') {B t : Nat} {cs : List Value} (hb : Blk w B t cs) (ht : t ∈ us) : Blk w' B t cs := h.same B _ t _ hb ht
theorem KeepO.drew {us : List TypeId} {a w : World} (h : KeepO us a w) : KeepO us a w.drew := ⟨h.size, h.same, h.ctl⟩
theorem own_keepO {us : List TypeId} {w w' : World} (h : KeepO us w w') {e : TypeId} {base size n : Nat} {v : Value} {xs : List Value} (ho : w.ownsRow base e size v n xs) (he : e ∈ us) : w'.ownsRow base e size v n xs := by
  refine ⟨ho.1, ?_⟩
  rcases ho.2 with h2 | ⟨g, cap, cur, h3, h4, h5, h6⟩
  · exact .inl h2
  · exact .inr ⟨g, cap, cur, h3, h4, h.same g _ e _ h5 he, h6⟩
theorem own_base {w : World} {e : TypeId} {base base' size n : Nat} {v : Value} {xs : List Value} (h : w.ownsRow base e size v n xs) (hb : base' ≤ base) : w.ownsRow base' e size v n xs := by
  refine ⟨h.1, ?_⟩
  rcases h.2 with h2 | ⟨g, cap, cur, h3, h4, h5⟩
  · exact .inl h2
  · exact .inr ⟨g, cap, cur, h3, Nat.le_trans hb h4, h5⟩
/-- a call of the script -/
structure Oq where
  kind : Int
  at_ : Int
  n : Int
  by_ : UInt8
  odd : UInt8
  raw : List UInt8
  ra : Option Addr
  rc : Nat
  keep : List Bool
  ka : Option Addr
  kc : Nat
def oqc (o : Oq) : List Value := [.int .i64 o.kind, .int .i64 o.at_, .int .i64 o.n, .int .u8 (o.by_.toNat : Int), .int .u8 (o.odd.toNat : Int), .slice o.ra o.raw.length o.rc, .slice o.ka o.keep.length o.kc]
def oqb (o : Oq) : List UInt8 := if 0 < o.raw.length then o.raw else secL o.by_ o.odd
structure OkQ (w : World) (base : Nat) (o : Oq) : Prop where
  raw : ∀ W, Below base w W → IsB W o.ra o.raw.length o.rc o.raw
  keep : ∀ W, Below base w W → IsKs W o.ka o.keep.length o.kc o.keep
  rawLen : o.raw.length ≤ 140737488351232
  keepLen : o.keep.length ≤ 140737488351232
  at0 : -9223372036854775808 ≤ o.at_
  at1 : o.at_ ≤ 9223372036854775807
  n0 : -9223372036854775808 ≤ o.n
  n1 : o.n ≤ 9223372036854775807
theorem OkQ.on {w w' : World} {base : Nat} {o : Oq} (h : OkQ w base o) (hb : Below base w w') : OkQ w' base o :=
  ⟨fun W hW => h.raw W (hb.trans hW), fun W hW => h.keep W (hb.trans hW), h.rawLen, h.keepLen, h.at0, h.at1, h.n0, h.n1⟩
theorem ret_sl {a : Option Addr} {n n' c : Nat} (h : n = n') : Ending.returned (.slice a n c) = .returned (.slice a n' c) := by rw [h]

end Go.Proofs.Ytbclhaleibjkgaa
