/- The program's disk: what its calls leave alone, by blocks' types; a nil one. · The statements' own: a sector's bytes, the bytes of a call. · What the statements ask of the program's disk; the bytes of a call. · What the program's journal may change. -/
import Derived.Test.YtacnoagjcacniaaGreatPd9
import Derived.Test.YtacnoagjcacniaaGreatB2
import Derived.Test.YtacnoagjcacniaaGreatB6
import Derived.Test.YtacnoagjcacniaaGreatB24
namespace Go.Proofs.YtacnoagjcacniaaGreat
open Go.RowKit

theorem IsD.on {X : Nat → Prop} {w w' : World} {P base : Nat} {p : Pl} (h : IsD X w P base p) (hb : Below w.heap.size w w') : IsD X w' P base p := by
  obtain ⟨S, vC, arm, h⟩ := h
  exact ⟨S, vC, arm, h.on hb⟩
theorem IsD.low {X : Nat → Prop} {w : World} {P base : Nat} {p : Pl} (h : IsD X w P base p) : base ≤ w.heap.size := by
  obtain ⟨S, vC, arm, h⟩ := h
  have := h.low
  have := h.blk.lt
  omega
abbrev PD : List TypeId := [79, 106, 108]
/-- it leaves alone all that isn't its own -/
theorem IsPd.wide {X : Nat → Prop} {w : World} {P base S : Nat} {vC : Value} {arm : Int} {p : Pl} (h : IsPd X w P base S vC arm p) : IsPd (fun k => X k ∨ (k < w.heap.size ∧ k ≠ P ∧ k ≠ S ∧ vC.ownBlock ≠ some k)) w P base S vC arm p :=
  h.more _ (fun e => e.elim h.xP (fun e => e.2.1 rfl)) (fun e => e.elim h.xS (fun e => e.2.2.1 rfl)) (fun k hk e => e.elim (h.xC k hk) (fun e => e.2.2.2 hk)) (fun k hk => hk.elim (h.xlt k) (fun e => e.1))
theorem IsPd.toT {X : Nat → Prop} {w w' : World} {P base S : Nat} {vC : Value} {arm : Int} {p : Pl} (h : IsPd X w P base S vC arm p) (hk : KeepB (fun k => X k ∨ (k < w.heap.size ∧ k ≠ P ∧ k ≠ S ∧ vC.ownBlock ≠ some k)) w w') : KeepT PD w w' :=
  ⟨hk.size, fun k o ho hn => by
    have hl := (Array.getElem?_eq_some_iff.1 ho).1
    refine (hk.x k (.inr ⟨hl, fun e => ?_, fun e => ?_, fun e => ?_⟩) hl).trans ho
    · subst e; exact hn _ _ _ (Option.some.inj (ho.symm.trans h.blk)) (by simp)
    · subst e; exact hn _ _ _ (Option.some.inj (ho.symm.trans h.st)) (by simp)
    · rcases h.ca.2 with ⟨h1, _⟩ | ⟨g, cap, cur, h1, _, hg, _⟩
      · rw [h1] at e; cases e
      · rw [h1] at e
        have e2 : g = k := by simpa [Value.ownBlock] using e
        subst e2
        exact hn _ _ _ (Option.some.inj (ho.symm.trans hg)) (by simp)⟩
theorem IsPd.thin {X Y : Nat → Prop} {w : World} {P base S : Nat} {vC : Value} {arm : Int} {p : Pl} (h : IsPd Y w P base S vC arm p) (hy : ∀ k, X k → Y k) : IsPd X w P base S vC arm p :=
  h.more X (fun e => h.xP (hy _ e)) (fun e => h.xS (hy _ e)) (fun k hk e => h.xC k hk (hy _ e)) (fun k hk => h.xlt k (hy k hk))
theorem IsD.thin {X Y : Nat → Prop} {w : World} {P base : Nat} {p : Pl} (h : IsD Y w P base p) (hy : ∀ k, X k → Y k) : IsD X w P base p := by
  obtain ⟨S, vC, arm, h⟩ := h
  exact ⟨S, vC, arm, h.thin hy⟩
theorem IsD.keep {X : Nat → Prop} {w w' : World} {P base : Nat} {p : Pl} (h : IsD X w P base p) {ts : List TypeId} (hk : KeepT ts w w') (h1 : 79 ∉ ts) (h2 : 106 ∉ ts) (h3 : 108 ∉ ts) : IsD X w' P base p := by
  obtain ⟨S, vC, arm, h⟩ := h
  exact ⟨S, vC, arm, h.keep hk h1 h2 h3⟩
theorem writeT (X : Nat → Prop) (w : World) (P base : Nat) (p : Pl) (i : Int) (ba : Option Addr) (bc : Nat) (b : List UInt8) (h : IsD X w P base p) (hf : FewP p) (hB : ∀ W, KeepT PD w W → Below base w W → IsB W ba b.length bc b) :
    Calls Tryz.prog 81 #[.pointer (some ⟨P, 0, none⟩), .int .i64 i, .slice ba b.length bc] w fun e w' => e = .returned (.int .i64 (p.wrE i b)) ∧ IsD X w' P base (p.write i b) ∧ KeepT PD w w' ∧ KeepB X w w' ∧ Below base w w' := by
  obtain ⟨S, vC, arm, h⟩ := h
  exact (codWrite _ w P base p i ba bc b ⟨S, vC, arm, h.wide⟩ hf (fun W hW hb => hB W (h.toT hW) hb)).mono fun _ _ ⟨h1, h2, h3, h4⟩ => ⟨h1, h2.thin (fun _ e => .inl e), h.toT h3, h3.less (fun _ e => .inl e), h4⟩
theorem flushT (X : Nat → Prop) (w : World) (P base : Nat) (p : Pl) (h : IsD X w P base p) (hf : FewP p) :
    Calls Tryz.prog 82 #[.pointer (some ⟨P, 0, none⟩)] w fun e w' => e = .returned (.int .i64 p.flE) ∧ IsD X w' P base p.flush ∧ KeepT PD w w' ∧ KeepB X w w' ∧ Below base w w' := by
  obtain ⟨S, vC, arm, h⟩ := h
  exact (codFlush _ w P base p ⟨S, vC, arm, h.wide⟩ hf).mono fun _ _ ⟨h1, h2, h3, h4⟩ => ⟨h1, h2.thin (fun _ e => .inl e), h.toT h3, h3.less (fun _ e => .inl e), h4⟩
theorem armT (X : Nat → Prop) (w : World) (P base : Nat) (p : Pl) (z : Int) (h : IsD X w P base p) (hlo : -9223372036854775808 ≤ z) (hhi : z ≤ 9223372036854775807) :
    Calls Tryz.prog 12 #[.pointer (some ⟨P, 0, none⟩), .int .i64 z] w fun e w' => (∃ x, e = .returned x) ∧ IsD X w' P base (p.armed z) ∧ KeepT PD w w' ∧ KeepB X w w' ∧ Below base w w' := by
  obtain ⟨S, vC, arm, h⟩ := h
  exact (codArm _ P base p z w ⟨S, vC, arm, h.wide⟩ hlo hhi).mono fun _ _ ⟨h1, h2, h3, h4⟩ => ⟨h1, h2.thin (fun _ e => .inl e), h.toT h3, h3.less (fun _ e => .inl e), h4⟩
theorem crashT (X : Nat → Prop) (w : World) (P base : Nat) (p : Pl) (ka : Option Addr) (kc : Nat) (ks : List Bool) (h : IsD X w P base p) (hf : FewP p) (hkl : ks.length ≤ 140737488351232) (hks : ∀ W, KeepT PD w W → Below base w W → IsKs W ka ks.length kc ks) :
    Calls Tryz.prog 27 #[.pointer (some ⟨P, 0, none⟩), .slice ka ks.length kc] w fun e w' => (∃ x, e = .returned x) ∧ IsD X w' P base (p.crash ks) ∧ KeepT PD w w' ∧ KeepB X w w' ∧ Below base w w' := by
  obtain ⟨S, vC, arm, h⟩ := h
  exact (codCrash _ w P base p ka kc ks ⟨S, vC, arm, h.wide⟩ hf hkl (fun W hW hb => hks W (h.toT hW) hb)).mono fun _ _ ⟨h1, h2, h3, h4⟩ => ⟨h1, h2.thin (fun _ e => .inl e), h.toT h3, h3.less (fun _ e => .inl e), h4⟩

theorem nilArm (z : Int) (w : World) : Calls Tryz.prog 12 #[.pointer none, .int .i64 z] w fun e w' => (∃ x, e = .returned x) ∧ Below w.heap.size w w' := by
  go_enter Tryz.func12, Tryz.ntmps12
  go_wp2_with fail
  go_end0
  exact ⟨⟨_, rfl⟩, Below.refl _ _⟩
theorem nilCrash (ka : Option Addr) (kn kc : Nat) (w : World) : Calls Tryz.prog 27 #[.pointer none, .slice ka kn kc] w fun e w' => (∃ x, e = .returned x) ∧ Below w.heap.size w w' := by
  go_enter Tryz.func27, Tryz.ntmps27
  go_wp2_with fail
  (try simp only [Exit.inBlock, Exit.then]); refine bodyPost_ret (results_none rfl _ _ _) rfl ?_
  exact ⟨⟨_, rfl⟩, Below.refl _ _⟩
theorem nilRead (i : Int) (w : World) : Calls Tryz.prog 56 #[.pointer none, .int .i64 i] w fun e w' => (∃ v, e = .returned (.tuple #[v, .int .i64 2])) ∧ Below w.heap.size w w' := by
  go_enter Tryz.func56, Tryz.ntmps56
  go_wp2_with fail
  refine (codReachNil i w).mono ?_
  rintro e w1 ⟨rfl, rfl⟩
  go_wp2_with fail
  go_ret2
  exact ⟨⟨_, rfl⟩, Below.refl _ _⟩
theorem nilStable (i : Int) (w : World) : Calls Tryz.prog 45 #[.pointer none, .int .i64 i] w fun e w' => (∃ v, e = .returned (.tuple #[v, .int .i64 2])) ∧ Below w.heap.size w w' := by
  go_enter Tryz.func45, Tryz.ntmps45
  go_wp2_with fail
  go_ret2
  exact ⟨⟨_, rfl⟩, Below.refl _ _⟩
theorem nilWrite (i : Int) (ba : Option Addr) (bn bc : Nat) (w : World) : Calls Tryz.prog 81 #[.pointer none, .int .i64 i, .slice ba bn bc] w fun e w' => e = .returned (.int .i64 2) ∧ Below w.heap.size w w' := by
  go_enter Tryz.func81, Tryz.ntmps81
  go_wp2_with fail
  refine (codReachNil i w).mono ?_
  rintro e w1 ⟨rfl, rfl⟩
  go_wp2_with fail
  go_ret
  exact ⟨rfl, Below.refl _ _⟩
theorem nilFlush (w : World) : Calls Tryz.prog 82 #[.pointer none] w fun e w' => e = .returned (.int .i64 2) ∧ Below w.heap.size w w' := by
  go_enter Tryz.func82, Tryz.ntmps82
  go_wp2_with fail
  refine (codReadyNil w).mono ?_
  rintro e w1 ⟨rfl, rfl⟩
  go_wp2_with fail
  go_ret
  exact ⟨rfl, Below.refl _ _⟩
theorem nilDown (w : World) : Calls Tryz.prog 26 #[.pointer none] w fun e w' => e = .returned (.bool true) ∧ Below w.heap.size w w' := by
  go_enter Tryz.func26, Tryz.ntmps26
  go_wp2_with fail
  go_ret
  exact ⟨rfl, Below.refl _ _⟩
theorem nilSize (w : World) : Calls Tryz.prog 50 #[.pointer none] w fun e w' => e = .returned (.int .i64 0) ∧ Below w.heap.size w w' := by
  go_enter Tryz.func50, Tryz.ntmps50
  go_wp2_with fail
  go_ret
  exact ⟨rfl, Below.refl _ _⟩
theorem nilCached (w : World) : Calls Tryz.prog 47 #[.pointer none] w fun e w' => e = .returned (.int .i64 0) ∧ Below w.heap.size w w' := by
  go_enter Tryz.func47, Tryz.ntmps47
  go_wp2_with fail
  go_ret
  exact ⟨rfl, Below.refl _ _⟩
end Go.Proofs.YtacnoagjcacniaaGreat
namespace Go.Proofs.YtacnoagjcacniaaGreat
open Go.RowKit

/-- a sector filled by a byte, and another one at a place -/
def secL (by' odd : UInt8) : List UInt8 := (List.replicate 512 by').set odd.toNat odd
theorem secL_len (a b : UInt8) : (secL a b).length = 512 := by rw [secL, List.length_set, List.length_replicate]
/-- how far it is filled -/
def secTo (a : UInt8) (k : Nat) : List UInt8 := List.replicate k a ++ List.replicate (512 - k) 0
theorem secTo_len (a : UInt8) (k : Nat) (h : k ≤ 512) : (secTo a k).length = 512 := by simp [secTo]; omega
theorem secTo_set (a : UInt8) (k : Nat) (h : k < 512) : (secTo a k).set k a = secTo a (k + 1) := by
  unfold secTo
  rw [List.set_append_right _ _ (by simp), List.length_replicate, Nat.sub_self]
  have e : 512 - k = (512 - (k + 1)) + 1 := by omega
  rw [e, List.replicate_succ, List.set_cons_zero, List.replicate_succ', List.append_assoc]
  rfl
theorem secTo_all (a b : UInt8) : (secTo a 512).set b.toNat b = secL a b := by unfold secTo secL; rw [Nat.sub_self, List.replicate_zero, List.append_nil]

set_option maxRecDepth 20000 in
set_option maxHeartbeats 1000000 in
theorem lawSector9 (a b : UInt8) (w : World) :
    Calls Tryz.prog 16 #[.int .u8 (a.toNat : Int), .int .u8 (b.toNat : Int)] w fun e w' => ∃ v, e = .returned v ∧ OwnB w' w.heap.size v (secL a b) ∧ Below w.heap.size w w' := by
  have hb256 : b.toNat < 256 := b.toNat_lt
  have hb512 : (b.toNat : Int) < 512 := by omega
  have hb0 : (0 : Int) ≤ (b.toNat : Int) := by omega
  go_enter Tryz.func16, Tryz.ntmps16
  go_wp2_with (at_make; refine make_full8 _ rfl _ _ rfl w.heap.size .i64 .i64 _ _ 512 rfl rfl (by omega) (by omega) (by omega) (Nat.le_refl _) ?_; intro w1 hown1 hgrow1)
  go_loopw [6] (fun i wr => ∃ k : Nat, k ≤ 512 ∧ i = .int .i64 k ∧ OwnB wr w.heap.size (.slice (some ⟨w.heap.size, 0, none⟩) 512 512) (secTo a k) ∧ Below w.heap.size w wr) (fun i _ => 512 - (intOf i).toNat)
  case atStart => exact ⟨0, Nat.zero_le _, rfl, hown1, (Below.refl _ _).grown hgrow1 (Nat.le_refl _) (fun k h => by cases h)⟩
  case round =>
    obtain ⟨k, hk, rfl, hown, hbel⟩ := hrel
    clear hown1 hgrow1
    by_cases hlt : k < 512
    · have hlt' : (k : Int) < 512 := by omega
      have hc := hown.cellAt (secTo_len a k hk) k hlt
      have hf := hown.frozenAt (secTo_len a k hk) k
      have HS : Hid (OwnB (wr.setCell ⟨w.heap.size, k, none⟩ (.int .u8 (a.toNat : Int))) w.heap.size (.slice (some ⟨w.heap.size, 0, none⟩) 512 512) (secTo a (k + 1))) := by
        have := hown.set (secTo_len a k hk) k a
        rw [secTo_set a k hlt] at this; exact this
      clear hown
      go_wp2
      go_roundw
      case rel => exact ⟨k + 1, by omega, by go_num, HS.out, hbel.setCell (Nat.le_refl _) _⟩
      case measure => simp [intOf]; omega
    · have hkn : k = 512 := by omega
      subst hkn
      have hc := hown.cellAt (secTo_len a 512 hk) b.toNat (by omega)
      have hf := hown.frozenAt (secTo_len a 512 hk) b.toNat
      have HS : Hid (OwnB (wr.setCell ⟨w.heap.size, b.toNat, none⟩ (.int .u8 (b.toNat : Int))) w.heap.size (.slice (some ⟨w.heap.size, 0, none⟩) 512 512) (secL a b)) := by
        have := hown.set (secTo_len a 512 hk) b.toNat b
        rw [secTo_all] at this; exact this
      clear hown
      go_wp2
      go_ret
      exact ⟨_, rfl, HS.out, hbel.setCell (Nat.le_refl _) _⟩
end Go.Proofs.YtacnoagjcacniaaGreat
namespace Go.Proofs.YtacnoagjcacniaaGreat
open Go.RowKit

/-- every block of cells of one of these types stays -/
structure KeepO (us : List TypeId) (w w' : World) : Prop where
  size : w.heap.size ≤ w'.heap.size
  same : ∀ (k : Nat) (c : Array Value) (t : TypeId) (fz : Nat × Nat), w.heap[k]? = some (.cells c t fz) → t ∈ us → w'.heap[k]? = some (.cells c t fz)
theorem KeepO.refl (us : List TypeId) (w : World) : KeepO us w w := ⟨Nat.le_refl _, fun _ _ _ _ h _ => h⟩
theorem KeepO.trans {us : List TypeId} {a b c : World} (h : KeepO us a b) (k : KeepO us b c) : KeepO us a c := ⟨Nat.le_trans h.size k.size, fun i c t fz hi ht => k.same i c t fz (h.same i c t fz hi ht) ht⟩
theorem KeepO.less {us vs : List TypeId} {w w' : World} (h : KeepO us w w') (hs : ∀ t ∈ vs, t ∈ us) : KeepO vs w w' := ⟨h.size, fun k c t fz hk ht => h.same k c t fz hk (hs t ht)⟩
theorem KeepO.of_below {us : List TypeId} {w w' : World} (h : Below w.heap.size w w') : KeepO us w w' := ⟨h.4, fun k _ _ _ hk _ => (h.5 k (Array.getElem?_eq_some_iff.1 hk).1).trans hk⟩
theorem KeepO.ofT {ts us : List TypeId} {w w' : World} (h : KeepT ts w w') (hs : ∀ t ∈ us, t ∉ ts) : KeepO us w w' :=
  ⟨h.size, fun k c t fz hk ht => h.same k _ hk (fun c' t' fz' e => by injection e with _ h2 _; rw [← h2]; exact hs t ht)⟩
theorem KeepO.blk {us : List TypeId} {w w' : World} (h : KeepO us w w') {B t : Nat} {cs : List Value} (hb : Blk w B t cs) (ht : t ∈ us) : Blk w' B t cs := h.same B _ t _ hb ht
theorem KeepO.drew {us : List TypeId} {a w : World} (h : KeepO us a w) : KeepO us a w.drew := ⟨h.size, h.same⟩
theorem own_keepO {us : List TypeId} {w w' : World} (h : KeepO us w w') {e : TypeId} {base size n : Nat} {v : Value} {xs : List Value} (ho : w.ownsRow base e size v n xs) (he : e ∈ us) : w'.ownsRow base e size v n xs := by
  refine ⟨ho.1, ?_⟩
  rcases ho.2 with h2 | ⟨g, cap, cur, h3, h4, h5, h6⟩
  · exact .inl h2
  · exact .inr ⟨g, cap, cur, h3, h4, h.same g _ e _ h5 he, h6⟩
theorem IsRD.keepO {us : List TypeId} {w w' : World} {D base : Nat} {r : Rd} {vS vC : Value} (h : IsRD w D base r vS vC) (hk : KeepO us w w') (h1 : 81 ∈ us) (h2 : 102 ∈ us) (h3 : 5 ∈ us) : IsRD w' D base r vS vC :=
  ⟨hk.blk h.blk h1, h.low, own_keepO hk h.ownS h2, own_keepO hk h.ownC h2, fun g hg => ⟨(h.bS g hg).1, own_keepO hk (h.bS g hg).2 h3⟩, fun g hg => ⟨(h.bC g hg).1, own_keepO hk (h.bC g hg).2 h3⟩, h.apart⟩
theorem own_base {w : World} {e : TypeId} {base base' size n : Nat} {v : Value} {xs : List Value} (h : w.ownsRow base e size v n xs) (hb : base' ≤ base) : w.ownsRow base' e size v n xs := by
  refine ⟨h.1, ?_⟩
  rcases h.2 with h2 | ⟨g, cap, cur, h3, h4, h5⟩
  · exact .inl h2
  · exact .inr ⟨g, cap, cur, h3, Nat.le_trans hb h4, h5⟩
theorem IsRD.base {w : World} {D base base' : Nat} {r : Rd} {vS vC : Value} (h : IsRD w D base r vS vC) (hb : base' ≤ base) : IsRD w D base' r vS vC :=
  ⟨h.blk, Nat.le_trans hb h.low, own_base h.ownS hb, own_base h.ownC hb, fun g hg => ⟨(h.bS g hg).1, (h.bS g hg).2.base hb⟩, fun g hg => ⟨(h.bC g hg).1, (h.bC g hg).2.base hb⟩, h.apart⟩

abbrev D9 : List TypeId := [81, 102]
/-- a call of the script -/
structure Oq where
  kind : Int
  at_ : Int
  n : Int
  by_ : UInt8
  odd : UInt8
  raw : List UInt8
  ra : Option Addr
  rc : Nat
  keep : List Bool
  ka : Option Addr
  kc : Nat
def oqc (o : Oq) : List Value := [.int .i64 o.kind, .int .i64 o.at_, .int .i64 o.n, .int .u8 (o.by_.toNat : Int), .int .u8 (o.odd.toNat : Int), .slice o.ra o.raw.length o.rc, .slice o.ka o.keep.length o.kc]
def oqb (o : Oq) : List UInt8 := if 0 < o.raw.length then o.raw else secL o.by_ o.odd
structure OkQ (w : World) (base : Nat) (o : Oq) : Prop where
  raw : ∀ W, Below base w W → IsB W o.ra o.raw.length o.rc o.raw
  keep : ∀ W, Below base w W → IsKs W o.ka o.keep.length o.kc o.keep
  rawLen : o.raw.length ≤ 140737488351232
  keepLen : o.keep.length ≤ 140737488351232
  at0 : -9223372036854775808 ≤ o.at_
  at1 : o.at_ ≤ 9223372036854775807
  n0 : -9223372036854775808 ≤ o.n
  n1 : o.n ≤ 9223372036854775807
theorem OkQ.on {w w' : World} {base : Nat} {o : Oq} (h : OkQ w base o) (hb : Below base w w') : OkQ w' base o :=
  ⟨fun W hW => h.raw W (hb.trans hW), fun W hW => h.keep W (hb.trans hW), h.rawLen, h.keepLen, h.at0, h.at1, h.n0, h.n1⟩
theorem ret_sl {a : Option Addr} {n n' c : Nat} (h : n = n') : Ending.returned (.slice a n c) = .returned (.slice a n' c) := by rw [h]

end Go.Proofs.YtacnoagjcacniaaGreat
namespace Go.Proofs.YtacnoagjcacniaaGreat
open Go.RowKit

abbrev IsD0 (w : World) (P base : Nat) (p : Pl) : Prop := IsD (fun _ => False) w P base p
/-- what the program's journal leaves alone -/
abbrev U10 : List TypeId := [81, 102, 45, 59, 5, 4, 38, 48]
structure KP (base : Nat) (w w' : World) : Prop where
  o : KeepO U10 w w'
  b : Below base w w'
theorem KP.refl (base : Nat) (w : World) : KP base w w := ⟨KeepO.refl _ _, Below.refl _ _⟩
theorem KP.trans {base : Nat} {a b c : World} (h : KP base a b) (k : KP base b c) : KP base a c := ⟨h.o.trans k.o, h.b.trans k.b⟩
theorem KP.of_below {base : Nat} {w w' : World} (h : Below w.heap.size w w') (hb : base ≤ w.heap.size) : KP base w w' := ⟨KeepO.of_below h, h.mono hb⟩
theorem KP.ofPD {base : Nat} {w w' : World} (h : KeepT PD w w') (hb : Below base w w') : KP base w w' := ⟨KeepO.ofT h (by decide), hb⟩
end Go.Proofs.YtacnoagjcacniaaGreat
