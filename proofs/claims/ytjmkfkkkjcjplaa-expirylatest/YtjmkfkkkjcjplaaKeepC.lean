/- What stays: every block of cells but of some types; the blocks of some types; loops' records. -/
import Derived.Test.YtjmkfkkkjcjplaaBlk
import Derived.Laws.AppendOwnNone
namespace Go.Proofs.Ytjmkfkkkjcjplaa
open Go.RowKit

/-- every block of another type than these stays -/
structure KeepT (ts : List TypeId) (w w' : World) : Prop where
  size : w.heap.size ≤ w'.heap.size
  same : ∀ (k : Nat) (o : Obj), w.heap[k]? = some o → (∀ c t fz, o = .cells c t fz → t ∉ ts) → w'.heap[k]? = some o
theorem KeepT.refl (ts : List TypeId) (w : World) : KeepT ts w w := ⟨Nat.le_refl _, fun _ _ h _ => h⟩
theorem KeepT.trans {ts : List TypeId} {a b c : World} (h : KeepT ts a b) (k : KeepT ts b c) : KeepT ts a c := ⟨Nat.le_trans h.size k.size, fun i o hi ho => k.same i o (h.same i o hi ho) ho⟩
theorem KeepT.of_below {ts : List TypeId} {w w' : World} (h : Below w.heap.size w w') : KeepT ts w w' := ⟨h.4, fun k _ hk _ => (h.5 k (Array.getElem?_eq_some_iff.1 hk).1).trans hk⟩
theorem KeepT.alloc {ts : List TypeId} {a w : World} (h : KeepT ts a w) (o : Obj) : KeepT ts a (w.alloc o) := h.trans (KeepT.of_below ((Below.refl _ w).alloc (Nat.le_refl _) o))
theorem KeepT.drewN {ts : List TypeId} {a w : World} (h : KeepT ts a w) (n : Nat) : KeepT ts a (w.drewN n) := h.trans (KeepT.of_below (bel_drewN (Below.refl _ w) n))
theorem KeepT.set {ts : List TypeId} {a w : World} (h : KeepT ts a w) {B t : Nat} {cs : List Value} (hb : Blk w B t cs) (ht : t ∈ ts) (j : Nat) (u : Value) : KeepT ts a (w.setCell ⟨B, j, none⟩ u) :=
  h.trans ⟨(Nat.le_of_eq (by simp [World.setCell])), fun k o hk ho => by
    by_cases e : k = B
    · subst e
      have : o = .cells cs.toArray t (0, 0) := Option.some.inj (hk.symm.trans hb)
      exact absurd ht (ho _ _ _ this)
    · exact (Below.heap_setCell _ _ _ _ (by exact e)).trans hk⟩
theorem KeepT.blk {ts : List TypeId} {w w' : World} (h : KeepT ts w w') {B t : Nat} {cs : List Value} (hb : Blk w B t cs) (ht : t ∉ ts) : Blk w' B t cs :=
  h.same B _ hb (fun c t' fz e => by injection e with _ h2 _; rw [← h2]; exact ht)
/-- a record of a loop over a function, or of what is deferred -/
def isCtl : Obj → Bool
  | .loop _ => true
  | .deferred _ => true
  | _ => false
/-- every block of cells of one of these types stays -/
structure KeepO (us : List TypeId) (w w' : World) : Prop where
  size : w.heap.size ≤ w'.heap.size
  same : ∀ (k : Nat) (c : Array Value) (t : TypeId) (fz : Nat × Nat), w.heap[k]? = some (.cells c t fz) → t ∈ us → w'.heap[k]? = some (.cells c t fz)
  ctl : ∀ (k : Nat) (o : Obj), w.heap[k]? = some o → isCtl o = true → w'.heap[k]? = some o
theorem KeepO.refl (us : List TypeId) (w : World) : KeepO us w w := ⟨Nat.le_refl _, fun _ _ _ _ h _ => h, fun _ _ h _ => h⟩
theorem KeepO.trans {us : List TypeId} {a b c : World} (h : KeepO us a b) (k : KeepO us b c) : KeepO us a c := ⟨Nat.le_trans h.size k.size, fun i c t fz hi ht => k.same i c t fz (h.same i c t fz hi ht) ht, fun i o hi ho => k.ctl i o (h.ctl i o hi ho) ho⟩
theorem KeepO.less {us vs : List TypeId} {w w' : World} (h : KeepO us w w') (hs : ∀ t ∈ vs, t ∈ us) : KeepO vs w w' := ⟨h.size, fun k c t fz hk ht => h.same k c t fz hk (hs t ht), h.ctl⟩
theorem KeepO.of_below {us : List TypeId} {w w' : World} (h : Below w.heap.size w w') : KeepO us w w' := ⟨h.4, fun k _ _ _ hk _ => (h.5 k (Array.getElem?_eq_some_iff.1 hk).1).trans hk, fun k _ hk _ => (h.5 k (Array.getElem?_eq_some_iff.1 hk).1).trans hk⟩
theorem KeepO.ofT {ts us : List TypeId} {w w' : World} (h : KeepT ts w w') (hs : ∀ t ∈ us, t ∉ ts) : KeepO us w w' :=
  ⟨h.size, fun k c t fz hk ht => h.same k _ hk (fun c' t' fz' e => by injection e with _ h2 _; rw [← h2]; exact hs t ht), fun k o hk ho => h.same k o hk (fun c' t' fz' e => by subst e; cases ho)⟩
theorem KeepO.blk {us : List TypeId} {w w' : World} (h : KeepO us w w') {B t : Nat} {cs : List Value} (hb : Blk w B t cs) (ht : t ∈ us) : Blk w' B t cs := h.same B _ t _ hb ht
theorem KeepO.drew {us : List TypeId} {a w : World} (h : KeepO us a w) : KeepO us a w.drew := ⟨h.size, h.same, h.ctl⟩
theorem own_keepO {us : List TypeId} {w w' : World} (h : KeepO us w w') {e : TypeId} {base size n : Nat} {v : Value} {xs : List Value} (ho : w.ownsRow base e size v n xs) (he : e ∈ us) : w'.ownsRow base e size v n xs := by
  refine ⟨ho.1, ?_⟩
  rcases ho.2 with h2 | ⟨g, cap, cur, h3, h4, h5, h6⟩
  · exact .inl h2
  · exact .inr ⟨g, cap, cur, h3, h4, h.same g _ e _ h5 he, h6⟩
theorem own_base {w : World} {e : TypeId} {base base' size n : Nat} {v : Value} {xs : List Value} (h : w.ownsRow base e size v n xs) (hb : base' ≤ base) : w.ownsRow base' e size v n xs := by
  refine ⟨h.1, ?_⟩
  rcases h.2 with h2 | ⟨g, cap, cur, h3, h4, h5⟩
  · exact .inl h2
  · exact .inr ⟨g, cap, cur, h3, Nat.le_trans hb h4, h5⟩
/-- blocks of these types stay, and whatever lies below fl -/
structure KeepU (fl : Nat) (us : List TypeId) (w w' : World) : Prop where
  o : KeepO us w w'
  low : ∀ k, k < fl → k < w.heap.size → w'.heap[k]? = w.heap[k]?
theorem KeepU.refl (fl : Nat) (us : List TypeId) (w : World) : KeepU fl us w w := ⟨KeepO.refl _ _, fun _ _ _ => rfl⟩
theorem KeepU.trans {fl : Nat} {us : List TypeId} {a b c : World} (h : KeepU fl us a b) (k : KeepU fl us b c) : KeepU fl us a c := ⟨h.o.trans k.o, fun i h1 h2 => (k.low i h1 (Nat.lt_of_lt_of_le h2 h.o.size)).trans (h.low i h1 h2)⟩
theorem KeepU.less {fl : Nat} {us vs : List TypeId} {w w' : World} (h : KeepU fl us w w') (hs : ∀ t ∈ vs, t ∈ us) : KeepU fl vs w w' := ⟨h.o.less hs, h.low⟩
theorem KeepU.of_below {fl : Nat} {us : List TypeId} {w w' : World} (h : Below w.heap.size w w') : KeepU fl us w w' := ⟨KeepO.of_below h, fun k _ hk => h.5 k hk⟩
theorem KeepU.ofB {fl B : Nat} {us : List TypeId} {w w' : World} (h : KeepO us w w') (hb : Below B w w') (hle : fl ≤ B) : KeepU fl us w w' := ⟨h, fun k hk _ => hb.5 k (Nat.lt_of_lt_of_le hk hle)⟩
theorem KeepU.zero {us : List TypeId} {w w' : World} (h : KeepO us w w') : KeepU 0 us w w' := ⟨h, fun k hk _ => absurd hk (Nat.not_lt_zero k)⟩
end Go.Proofs.Ytjmkfkkkjcjplaa
