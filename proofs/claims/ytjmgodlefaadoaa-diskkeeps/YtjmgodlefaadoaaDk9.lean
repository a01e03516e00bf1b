/- What the statements ask of the program's disk; the bytes of a call. -/
import Derived.Test.YtjmgodlefaadoaaDk8
import Derived.Test.YtjmgodlefaadoaaDkP
namespace Go.Proofs.Ytjmgodlefaadoaa
open Go.RowKit

/-- every block of cells of one of these types stays -/
structure KeepO (us : List TypeId) (w w' : World) : Prop where
  size : w.heap.size ≤ w'.heap.size
  same : ∀ (k : Nat) (c : Array Value) (t : TypeId) (fz : Nat × Nat), w.heap[k]? = some (.cells c t fz) → t ∈ us → w'.heap[k]? = some (.cells c t fz)
theorem KeepO.refl (us : List TypeId) (w : World) : KeepO us w w := ⟨Nat.le_refl _, fun _ _ _ _ h _ => h⟩
theorem KeepO.trans {us : List TypeId} {a b c : World} (h : KeepO us a b) (k : KeepO us b c) : KeepO us a c := ⟨Nat.le_trans h.size k.size, fun i c t fz hi ht => k.same i c t fz (h.same i c t fz hi ht) ht⟩
theorem KeepO.less {us vs : List TypeId} {w w' : World} (h : KeepO us w w') (hs : ∀ t ∈ vs, t ∈ us) : KeepO vs w w' := ⟨h.size, fun k c t fz hk ht => h.same k c t fz hk (hs t ht)⟩
theorem KeepO.of_below {us : List TypeId} {w w' : World} (h : Below w.heap.size w w') : KeepO us w w' := ⟨h.4, fun k _ _ _ hk _ => (h.5 k (Array.getElem?_eq_some_iff.1 hk).1).trans hk⟩
theorem KeepO.ofT {ts us : List TypeId} {w w' : World} (h : KeepT ts w w') (hs : ∀ t ∈ us, t ∉ ts) : KeepO us w w' :=
  ⟨h.size, fun k c t fz hk ht => h.same k _ hk (fun c' t' fz' e => by injection e with _ h2 _; rw [← h2]; exact hs t ht)⟩
theorem KeepO.blk {us : List TypeId} {w w' : World} (h : KeepO us w w') {B t : Nat} {cs : List Value} (hb : Blk w B t cs) (ht : t ∈ us) : Blk w' B t cs := h.same B _ t _ hb ht
theorem KeepO.drew {us : List TypeId} {a w : World} (h : KeepO us a w) : KeepO us a w.drew := ⟨h.size, h.same⟩
theorem own_keepO {us : List TypeId} {w w' : World} (h : KeepO us w w') {e : TypeId} {base size n : Nat} {v : Value} {xs : List Value} (ho : w.ownsRow base e size v n xs) (he : e ∈ us) : w'.ownsRow base e size v n xs := by
  refine ⟨ho.1, ?_⟩
  rcases ho.2 with h2 | ⟨g, cap, cur, h3, h4, h5, h6⟩
  · exact .inl h2
  · exact .inr ⟨g, cap, cur, h3, h4, h.same g _ e _ h5 he, h6⟩
theorem IsRD.keepO {us : List TypeId} {w w' : World} {D base : Nat} {r : Rd} {vS vC : Value} (h : IsRD w D base r vS vC) (hk : KeepO us w w') (h1 : 41 ∈ us) (h2 : 77 ∈ us) (h3 : 5 ∈ us) : IsRD w' D base r vS vC :=
  ⟨hk.blk h.blk h1, h.low, own_keepO hk h.ownS h2, own_keepO hk h.ownC h2, fun g hg => ⟨(h.bS g hg).1, own_keepO hk (h.bS g hg).2 h3⟩, fun g hg => ⟨(h.bC g hg).1, own_keepO hk (h.bC g hg).2 h3⟩, h.apart⟩
theorem own_base {w : World} {e : TypeId} {base base' size n : Nat} {v : Value} {xs : List Value} (h : w.ownsRow base e size v n xs) (hb : base' ≤ base) : w.ownsRow base' e size v n xs := by
  refine ⟨h.1, ?_⟩
  rcases h.2 with h2 | ⟨g, cap, cur, h3, h4, h5⟩
  · exact .inl h2
  · exact .inr ⟨g, cap, cur, h3, Nat.le_trans hb h4, h5⟩
theorem IsRD.base {w : World} {D base base' : Nat} {r : Rd} {vS vC : Value} (h : IsRD w D base r vS vC) (hb : base' ≤ base) : IsRD w D base' r vS vC :=
  ⟨h.blk, Nat.le_trans hb h.low, own_base h.ownS hb, own_base h.ownC hb, fun g hg => ⟨(h.bS g hg).1, (h.bS g hg).2.base hb⟩, fun g hg => ⟨(h.bC g hg).1, (h.bC g hg).2.base hb⟩, h.apart⟩

abbrev D9 : List TypeId := [41, 77]
abbrev U9 : List TypeId := [41, 77, 5, 34, 4]
theorem d9_u8 : ∀ t ∈ [5, 34], t ∉ D9 := by decide
/-- how much there may be -/
structure FewP (p : Pl) : Prop where
  n : p.n ≤ 4096
  ca : p.ca.length ≤ 1000000
  at_ : ∀ g ∈ p.ca, g.1 < p.n ∧ g.2.length = 512
  wr : p.wr ≤ 1000000
  fl : p.fl ≤ 1000000
/-- blocks of the types U9 stay, and the blocks X -/
structure KeepX (X : Nat → Prop) (w w' : World) : Prop where
  o : KeepO U9 w w'
  x : ∀ k, X k → k < w.heap.size → w'.heap[k]? = w.heap[k]?
theorem KeepX.of_below {X : Nat → Prop} {w w' : World} (h : Below w.heap.size w w') : KeepX X w w' := ⟨KeepO.of_below h, fun k _ hk => h.5 k hk⟩
theorem KeepX.refl (X : Nat → Prop) (w : World) : KeepX X w w := KeepX.of_below (Below.refl _ w)
theorem KeepX.trans {X : Nat → Prop} {a b c : World} (h : KeepX X a b) (k : KeepX X b c) : KeepX X a c := ⟨h.o.trans k.o, fun i hi hl => (k.x i hi (Nat.lt_of_lt_of_le hl h.o.size)).trans (h.x i hi hl)⟩
/-- what the program's disk promises: 'Is w P base p': at block P, in blocks from base on, none of X, it stands as p -/
structure DiskOK (X : Nat → Prop) (Is : World → Nat → Nat → Pl → Prop) : Prop where
  keep : ∀ {w w' : World} {P base : Nat} {p : Pl}, Is w P base p → KeepT D9 w w' → Is w' P base p
  new : ∀ (z : Int) (w : World) (base : Nat), base ≤ w.heap.size → (∀ k, X k → k < w.heap.size) → -9223372036854775808 ≤ z → z ≤ 9223372036854775807 →
    Calls Try.prog 8 #[.int .i64 z] w fun e w' => (if 64 ≤ z ∧ z ≤ 4096 then ∃ P, e = .returned (.tuple #[.pointer (some ⟨P, 0, none⟩), .int .i64 0]) ∧ Is w' P base (Pl.new z.toNat) else e = .returned (.tuple #[.pointer none, .int .i64 1])) ∧ Below w.heap.size w w'
  write : ∀ (w : World) (P base : Nat) (p : Pl) (i : Int) (ba : Option Addr) (bc : Nat) (b : List UInt8), Is w P base p → FewP p → -9223372036854775808 ≤ i → i ≤ 9223372036854775807 → b.length ≤ 140737488351232 → (∀ W, KeepO [5] w W → Below base w W → IsB W ba b.length bc b) →
    Calls Try.prog 15 #[.pointer (some ⟨P, 0, none⟩), .int .i64 i, .slice ba b.length bc] w fun e w' => e = .returned (.int .i64 (p.wrE i b)) ∧ Is w' P base (p.write i b) ∧ KeepX X w w' ∧ Below base w w'
  flush : ∀ (w : World) (P base : Nat) (p : Pl), Is w P base p → FewP p →
    Calls Try.prog 17 #[.pointer (some ⟨P, 0, none⟩)] w fun e w' => e = .returned (.int .i64 p.flE) ∧ Is w' P base p.flush ∧ KeepX X w w' ∧ Below base w w'
  arm : ∀ (w : World) (P base : Nat) (p : Pl) (z : Int), Is w P base p → FewP p → -9223372036854775808 ≤ z → z ≤ 9223372036854775807 →
    Calls Try.prog 21 #[.pointer (some ⟨P, 0, none⟩), .int .i64 z] w fun e w' => (∃ x, e = .returned x) ∧ Is w' P base (p.armed z) ∧ KeepX X w w' ∧ Below base w w'
  crash : ∀ (w : World) (P base : Nat) (p : Pl) (ka : Option Addr) (kc : Nat) (ks : List Bool), Is w P base p → FewP p → ks.length ≤ 140737488351232 → (∀ W, KeepO [4] w W → Below base w W → IsKs W ka ks.length kc ks) →
    Calls Try.prog 18 #[.pointer (some ⟨P, 0, none⟩), .slice ka ks.length kc] w fun e w' => (∃ x, e = .returned x) ∧ Is w' P base (p.crash ks) ∧ KeepX X w w' ∧ Below base w w'
  read : ∀ (w : World) (P base : Nat) (p : Pl) (i : Int), Is w P base p → FewP p → -9223372036854775808 ≤ i → i ≤ 9223372036854775807 →
    Calls Try.prog 19 #[.pointer (some ⟨P, 0, none⟩), .int .i64 i] w fun e w' => (∃ v, e = .returned (.tuple #[v, .int .i64 (p.rdE i)]) ∧ IsV w' v (p.rdB i)) ∧ Is w' P base p ∧ KeepX X w w' ∧ Below base w w'
  stable : ∀ (w : World) (P base : Nat) (p : Pl) (i : Int), Is w P base p → FewP p → -9223372036854775808 ≤ i → i ≤ 9223372036854775807 →
    Calls Try.prog 22 #[.pointer (some ⟨P, 0, none⟩), .int .i64 i] w fun e w' => (∃ v, e = .returned (.tuple #[v, .int .i64 (p.stE i)]) ∧ IsV w' v (p.stB i)) ∧ Is w' P base p ∧ KeepX X w w' ∧ Below base w w'
  count : ∀ (w : World) (P base : Nat) (p : Pl), Is w P base p → FewP p →
    Calls Try.prog 11 #[.pointer (some ⟨P, 0, none⟩)] w fun e w' => e = .returned (.tuple #[.int .u64 (p.wr : Int), .int .u64 (p.fl : Int)]) ∧ Is w' P base p ∧ KeepX X w w' ∧ Below base w w'
  size : ∀ (w : World) (P base : Nat) (p : Pl), Is w P base p → FewP p →
    Calls Try.prog 12 #[.pointer (some ⟨P, 0, none⟩)] w fun e w' => e = .returned (.int .i64 (p.n : Int)) ∧ Is w' P base p ∧ KeepX X w w' ∧ Below base w w'
  down : ∀ (w : World) (P base : Nat) (p : Pl), Is w P base p → FewP p →
    Calls Try.prog 13 #[.pointer (some ⟨P, 0, none⟩)] w fun e w' => e = .returned (.bool p.off) ∧ Is w' P base p ∧ KeepX X w w' ∧ Below base w w'
  cached : ∀ (w : World) (P base : Nat) (p : Pl), Is w P base p → FewP p →
    Calls Try.prog 14 #[.pointer (some ⟨P, 0, none⟩)] w fun e w' => e = .returned (.int .i64 (p.ca.length : Int)) ∧ Is w' P base p ∧ KeepX X w w' ∧ Below base w w'

/-- the same whatever blocks it must leave alone; what Read answers is of none of its blocks -/
structure DiskAll (Is : (Nat → Prop) → World → Nat → Nat → Pl → Prop) : Prop where
  ok : ∀ X, DiskOK X (Is X)
  readX : ∀ (X : Nat → Prop) (w : World) (P base : Nat) (p : Pl) (i : Int), Is X w P base p → FewP p → -9223372036854775808 ≤ i → i ≤ 9223372036854775807 →
    Calls Try.prog 19 #[.pointer (some ⟨P, 0, none⟩), .int .i64 i] w fun e w' => (∃ a c, e = .returned (.tuple #[.slice a (p.rdB i).length c, .int .i64 (p.rdE i)]) ∧ IsB w' a (p.rdB i).length c (p.rdB i) ∧ Is (fun k => X k ∨ ∃ A, a = some A ∧ k = A.block) w' P base p) ∧ KeepX X w w' ∧ Below base w w'

/-- a call of the script -/
structure Oq where
  kind : Int
  at_ : Int
  n : Int
  by_ : UInt8
  odd : UInt8
  raw : List UInt8
  ra : Option Addr
  rc : Nat
  keep : List Bool
  ka : Option Addr
  kc : Nat
def oqc (o : Oq) : List Value := [.int .i64 o.kind, .int .i64 o.at_, .int .i64 o.n, .int .u8 (o.by_.toNat : Int), .int .u8 (o.odd.toNat : Int), .slice o.ra o.raw.length o.rc, .slice o.ka o.keep.length o.kc]
def oqb (o : Oq) : List UInt8 := if 0 < o.raw.length then o.raw else secL o.by_ o.odd
structure OkQ (w : World) (base : Nat) (o : Oq) : Prop where
  raw : ∀ W, Below base w W → IsB W o.ra o.raw.length o.rc o.raw
  keep : ∀ W, Below base w W → IsKs W o.ka o.keep.length o.kc o.keep
  rawLen : o.raw.length ≤ 140737488351232
  keepLen : o.keep.length ≤ 140737488351232
  at0 : -9223372036854775808 ≤ o.at_
  at1 : o.at_ ≤ 9223372036854775807
  n0 : -9223372036854775808 ≤ o.n
  n1 : o.n ≤ 9223372036854775807
theorem OkQ.on {w w' : World} {base : Nat} {o : Oq} (h : OkQ w base o) (hb : Below base w w') : OkQ w' base o :=
  ⟨fun W hW => h.raw W (hb.trans hW), fun W hW => h.keep W (hb.trans hW), h.rawLen, h.keepLen, h.at0, h.at1, h.n0, h.n1⟩
theorem ret_sl {a : Option Addr} {n n' c : Nat} (h : n = n') : Ending.returned (.slice a n c) = .returned (.slice a n' c) := by rw [h]

set_option maxRecDepth 20000 in
set_option maxHeartbeats 1000000 in
theorem lawBytes9 (o : Oq) (base : Nat) (w : World) (hb : base ≤ w.heap.size) (ho : OkQ w base o) :
    Calls Try.prog 23 #[.agg (oqc o).toArray] w fun e w' => (∃ ba bc, e = .returned (.slice ba (oqb o).length bc) ∧ ∀ W, KeepO [5] w' W → Below base w' W → IsB W ba (oqb o).length bc (oqb o)) ∧ Below w.heap.size w w' := by
  have c3 : (w.alloc (.cells (oqc o).toArray 34)).cell? ⟨w.heap.size, 3, none⟩ = some (.int .u8 (o.by_.toNat : Int)) := (Blk.new w _ (oqc o)).cell 3
  have c4 : (w.alloc (.cells (oqc o).toArray 34)).cell? ⟨w.heap.size, 4, none⟩ = some (.int .u8 (o.odd.toNat : Int)) := (Blk.new w _ (oqc o)).cell 4
  have c5 : (w.alloc (.cells (oqc o).toArray 34)).cell? ⟨w.heap.size, 5, none⟩ = some (.slice o.ra o.raw.length o.rc) := (Blk.new w _ (oqc o)).cell 5
  have HS := fun W => lawSector9 o.by_ o.odd W
  have HB : Hid (Below w.heap.size w (w.alloc (.cells (oqc o).toArray 34))) := (Below.refl _ w).alloc (Nat.le_refl _) _
  have HO := mkHid ho
  have Hb := mkHid hb
  unfold oqc at *
  by_cases hr : 0 < o.raw.length
  · have HQ : Hid (oqb o = o.raw) := by unfold Hid oqb; rw [if_pos hr]
    have hr' : decide (0 < o.raw.length) = true := decide_eq_true hr
    generalize hrl : o.raw.length = rl at *
    have HRl := mkHid hrl
    clear hrl ho hb
    go_enter Try.func23, Try.ntmps23
    go_wp2_with fail
    go_ret
    refine ⟨⟨_, _, ret_sl (by rw [HQ.out, HRl.out]), fun W _ hW => ?_⟩, HB.out⟩
    rw [HQ.out]
    exact HO.out.raw W (((HB.out).mono Hb.out).trans hW)
  · have HQ : Hid (oqb o = secL o.by_ o.odd) := by unfold Hid oqb; rw [if_neg hr]
    have hr0 : o.raw.length = 0 := by omega
    rw [hr0] at c3 c4 c5 HB
    clear ho hb
    go_enter Try.func23, Try.ntmps23
    rw [hr0]
    clear hr hr0
    go_wp2_with fail
    refine (HS _).mono ?_
    rintro e w1 ⟨v, rfl, hv, hb1⟩
    obtain ⟨ba, bc, rfl, _⟩ := hv.isB
    go_wp2_with fail
    go_ret
    refine ⟨⟨ba, bc, ret_sl (by rw [HQ.out]), fun W hK _ => ?_⟩, HB.out.trans (hb1.mono HB.out.size)⟩
    have hv2 : OwnB W _ _ _ := own_keepO hK hv (by decide)
    obtain ⟨ba', bc', e, h⟩ := hv2.isB
    rw [HQ.out]
    injection e with e1 e2 e3
    subst e1 e3
    exact h
end Go.Proofs.Ytjmgodlefaadoaa
