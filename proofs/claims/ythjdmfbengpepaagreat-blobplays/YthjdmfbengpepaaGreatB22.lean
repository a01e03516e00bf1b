/- What the statements ask of the program's journal; scripts of transactions. · The statements' alive, over any journal that keeps the document. · The statements' area and mount, over any journal that keeps the document. · The statements' mount, over any journal that keeps the document. · Laws for slices of writes: cut, appended, one of them turned. · A write put among others, plain and in a world. · Regions that draw their order and in the end store into what they have loaded, by hand: what is held need not hold behind the last operation. -/
import Derived.Test.YthjdmfbengpepaaGreatB21
import Derived.Deep.RegionHeld3
import Derived.BigQuiet
import Derived.Test.YthjdmfbengpepaaGreatB17
import Derived.Test.YthjdmfbengpepaaGreatB2
namespace Go.Proofs.YthjdmfbengpepaaGreat
open Go.RowKit

/-- what is asked of the program's journal: 'JA w J P base j': at block J, over the disk at P, it stands as j; 'TA w T J P base t j': a transaction of it stands as t -/
structure JrnOK (JA : World → Nat → Nat → Nat → Jl → Prop) (TA : World → Nat → Nat → Nat → Nat → Tl → Jl → Prop) : Prop where
  disk : ∀ {w : World} {J P base : Nat} {j : Jl}, JA w J P base j → IsD0 w P base j.p
  toJ : ∀ {w : World} {T J P base : Nat} {t : Tl} {j : Jl}, TA w T J P base t j → JA w J P base j
  turn : ∀ {w w' : World} {J P base : Nat} {j : Jl} {p' : Pl}, JA w J P base j → KeepT PD w w' → IsD0 w' P base p' → JA w' J P base ⟨p', j.seq, j.dead⟩
  keepJ : ∀ {w w' : World} {J P base : Nat} {j : Jl}, JA w J P base j → KeepT CT w w' → JA w' J P base j
  keepT : ∀ {w w' : World} {T J P base : Nat} {t : Tl} {j : Jl}, TA w T J P base t j → KeepT CT w w' → TA w' T J P base t j
  mount : ∀ (w : World) (P base m : Nat) (p : Pl), IsD0 w P base p → FewM p m → m ≤ 80000 →
    Calls Tryz.prog 34 #[.pointer (some ⟨P, 0, none⟩)] w fun e w' => (if mountE p = 0 then ∃ J, e = .returned (.tuple #[.pointer (some ⟨J, 0, none⟩), .int .i64 0]) ∧ JA w' J P base ⟨mountP p, mountS p, false⟩ else e = .returned (.tuple #[.pointer none, .int .i64 (mountE p)]) ∧ IsD0 w' P base (mountP p)) ∧ KeepT PD w w' ∧ Below base w w'
  begin_ : ∀ (w : World) (J P base m : Nat) (j : Jl), JA w J P base j → FewM j.p m → m ≤ 80000 →
    Calls Tryz.prog 82 #[.pointer (some ⟨J, 0, none⟩)] w fun e w' => (∃ T, e = .returned (.pointer (some ⟨T, 0, none⟩)) ∧ TA w' T J P base ⟨[], false⟩ j) ∧ KP base w w'
  write : ∀ (w : World) (T J P base m : Nat) (t : Tl) (j : Jl) (i : Int) (ba : Option Addr) (bc : Nat) (b : List UInt8), TA w T J P base t j → t.l.length ≤ 48 → FewM j.p m → m ≤ 80000 → -9223372036854775808 ≤ i → i ≤ 9223372036854775807 → b.length ≤ 140737488351232 → (∀ W, KeepO [5] w W → Below base w W → IsB W ba b.length bc b) →
    Calls Tryz.prog 133 #[.pointer (some ⟨T, 0, none⟩), .int .i64 i, .slice ba b.length bc] w fun e w' => e = .returned (.int .i64 (t.wrE j i b)) ∧ TA w' T J P base (t.write j i b) j ∧ KP base w w'
  read : ∀ (w : World) (T J P base m : Nat) (t : Tl) (j : Jl) (i : Int), TA w T J P base t j → t.l.length ≤ 48 → FewM j.p m → m ≤ 80000 → -9223372036854775808 ≤ i → i ≤ 9223372036854775807 → j.p.off = false →
    Calls Tryz.prog 57 #[.pointer (some ⟨T, 0, none⟩), .int .i64 i] w fun e w' => (∃ v, e = .returned (.tuple #[v, .int .i64 (t.rdE j i)]) ∧ IsV w' v (t.rdB j i)) ∧ TA w' T J P base t j ∧ KP base w w'
  len : ∀ (w : World) (T J P base : Nat) (t : Tl) (j : Jl), TA w T J P base t j → t.l.length ≤ 48 →
    Calls Tryz.prog 134 #[.pointer (some ⟨T, 0, none⟩)] w fun e w' => e = .returned (.int .i64 (t.l.length : Int)) ∧ TA w' T J P base t j ∧ KP base w w'
  commit : ∀ (w : World) (T J P base m : Nat) (t : Tl) (j : Jl), TA w T J P base t j → t.l.length ≤ 48 → FewM j.p m → m ≤ 80000 → j.seq < 18446744073709551616 →
    Calls Tryz.prog 144 #[.pointer (some ⟨T, 0, none⟩)] w fun e w' => e = .returned (.int .i64 (cmE t j)) ∧ TA w' T J P base (cmT t j) (cmJ t j) ∧ KP base w w'
  size : ∀ (w : World) (J P base : Nat) (j : Jl), JA w J P base j →
    Calls Tryz.prog 83 #[.pointer (some ⟨J, 0, none⟩)] w fun e w' => e = .returned (.int .i64 (j.p.n : Int)) ∧ Below w.heap.size w w'
  jread : ∀ (w : World) (J P base m : Nat) (j : Jl) (i : Int), JA w J P base j → FewM j.p m → m ≤ 80000 → -9223372036854775808 ≤ i → i ≤ 9223372036854775807 → j.p.off = false →
    Calls Tryz.prog 81 #[.pointer (some ⟨J, 0, none⟩), .int .i64 i] w fun e w' => (∃ v, e = .returned (.tuple #[v, .int .i64 (jrE j.p i)]) ∧ IsV w' v (jrB j.p i)) ∧ Below w.heap.size w w'

/-- a transaction's sector -/
structure Pq where
  at_ : Int
  by_ : UInt8
  odd : UInt8
def pq0 : Pq := ⟨0, 0, 0⟩
def pqc (q : Pq) : List Value := [.int .i64 q.at_, .int .u8 (q.by_.toNat : Int), .int .u8 (q.odd.toNat : Int)]
structure IsPqs (w : World) (a : Option Addr) (len cap : Nat) (ps : List Pq) : Prop where
  len_eq : ps.length = len
  cells : 0 < len → ∃ b off, a = some ⟨b, off, none⟩ ∧ b < w.heap.size ∧ ∀ i, i < len → ∀ j, j < 3 → w.cell? ⟨b, off + i * 3 + j, none⟩ = (pqc (ps.getD i pq0))[j]?
/-- a transaction of the script -/
structure Xq where
  l : List Pq
  la : Option Addr
  lc : Nat
  arm : Int
  keep : List Bool
  ka : Option Addr
  kc : Nat
  more : Int
  rest : List Bool
  ra : Option Addr
  rc : Nat
def xq0 : Xq := ⟨[], none, 0, 0, [], none, 0, 0, [], none, 0⟩
def xqc (o : Xq) : List Value := [.slice o.la o.l.length o.lc, .int .i64 o.arm, .slice o.ka o.keep.length o.kc, .int .i64 o.more, .slice o.ra o.rest.length o.rc]
structure OkX (w : World) (base : Nat) (o : Xq) : Prop where
  ps : ∀ W, Below base w W → IsPqs W o.la o.l.length o.lc o.l
  keep : ∀ W, Below base w W → IsKs W o.ka o.keep.length o.kc o.keep
  rest : ∀ W, Below base w W → IsKs W o.ra o.rest.length o.rc o.rest
  lLen : o.l.length ≤ 140737488351232
  keepLen : o.keep.length ≤ 140737488351232
  restLen : o.rest.length ≤ 140737488351232
  arm0 : -9223372036854775808 ≤ o.arm
  arm1 : o.arm ≤ 9223372036854775807
  more0 : -9223372036854775808 ≤ o.more
  more1 : o.more ≤ 9223372036854775807
  at0 : ∀ q ∈ o.l, -9223372036854775808 ≤ q.at_ ∧ q.at_ ≤ 9223372036854775807
theorem OkX.on {w w' : World} {base : Nat} {o : Xq} (h : OkX w base o) (hb : Below base w w') : OkX w' base o :=
  ⟨fun W hW => h.ps W (hb.trans hW), fun W hW => h.keep W (hb.trans hW), fun W hW => h.rest W (hb.trans hW), h.lLen, h.keepLen, h.restLen, h.arm0, h.arm1, h.more0, h.more1, h.at0⟩
structure IsXs (w : World) (a : Option Addr) (len cap : Nat) (os : List Xq) : Prop where
  len_eq : os.length = len
  max : len ≤ 140737488351232
  cells : 0 < len → ∃ b off, a = some ⟨b, off, none⟩ ∧ b < w.heap.size ∧ ∀ i, i < len → ∀ j, j < 5 → w.cell? ⟨b, off + i * 5 + j, none⟩ = (xqc (os.getD i xq0))[j]?
  ok : ∀ i, i < len → OkX w w.heap.size (os.getD i xq0)
/-- is the script small? -/
def lightX (os : List Xq) : Bool := decide ((∀ i, i < os.length → (os.getD i xq0).l.length ≤ 60) ∧ os.length ≤ 12)

end Go.Proofs.YthjdmfbengpepaaGreat
namespace Go.Proofs.YthjdmfbengpepaaGreat
open Go.RowKit

/-- a commit while nothing is to go wrong -/
theorem commit_ok {t : Tl} {j : Jl} {m : Nat} (hp : FewM j.p m) (hg : Good j.p) (ho : t.over = false) (hd : j.dead = false) (hne : t.l ≠ []) (hl : t.l.length ≤ 48) (ha : ∀ g ∈ t.l, g.1 < j.p.n ∧ g.2.length = 512) :
    cmE t j = 0 ∧ ∃ q, cmJ t j = ⟨q, nxt j.seq, false⟩ ∧ Good q ∧ q.n = j.p.n ∧ q.ca = [] ∧ q.st = t.l.foldl Pl.put ([(0, sealJ (nxt j.seq) t.l)].foldl Pl.put ((j.p.ca ++ slotQ t.l).foldl Pl.put j.p.st)) := by
  have hnot : ¬ (t.over = true ∨ j.dead = true) := by rw [ho, hd]; simp
  have hn := hp.n0
  obtain ⟨a1, a2⟩ := steps_ok (slotQ t.l) j.p hg.off hg.arm (fun g hgl => by
    unfold slotQ at hgl
    obtain ⟨i, hi, rfl⟩ := List.mem_map.1 hgl
    have hi := List.mem_range.1 hi
    refine ⟨by show 1 + i < _; omega, ?_⟩
    show (t.l.getD i (0, [])).2.length = 512
    rw [List.getD_eq_getElem?_getD, List.getElem?_eq_getElem hi]
    exact (ha _ (List.getElem_mem hi)).2)
  obtain ⟨b1, b2⟩ := steps_ok [(0, sealJ (nxt j.seq) t.l)] (stepsP j.p (slotQ t.l)) (by rw [a2]) (by rw [a2]) (fun g hgl => by
    rw [List.mem_singleton.1 hgl, a2]
    exact ⟨by show 0 < j.p.n; omega, sealJ_length _ _ (by rw [preJ_length]; omega)⟩)
  obtain ⟨c1, c2⟩ := steps_ok t.l (stepsP (stepsP j.p (slotQ t.l)) [(0, sealJ (nxt j.seq) t.l)]) (by rw [b2]) (by rw [b2]) (fun g hgl => by
    have e : (stepsP (stepsP j.p (slotQ t.l)) [(0, sealJ (nxt j.seq) t.l)]).n = j.p.n := by rw [steps_n, steps_n]
    rw [e]; exact ha g hgl)
  have eA : cmA t j = (stepsP j.p (slotQ t.l), 0) := by unfold cmA; rw [a1]
  have eB : cmB t j = (stepsP (stepsP j.p (slotQ t.l)) [(0, sealJ (nxt j.seq) t.l)], 0) := by unfold cmB; rw [eA, if_pos rfl, b1]
  have eC : cmC t j = (stepsP (stepsP (stepsP j.p (slotQ t.l)) [(0, sealJ (nxt j.seq) t.l)]) t.l, 0) := by unfold cmC; rw [eB, if_pos rfl, c1]
  refine ⟨by unfold cmE; rw [if_neg hnot, if_neg hne, eC], _, by unfold cmJ; rw [if_neg hnot, if_neg hne, eC, if_pos rfl, hd], ?_, by rw [steps_n, steps_n, steps_n], by rw [c2], ?_⟩
  · rw [c2]; exact ⟨rfl, rfl⟩
  · rw [c2, b2, a2]; rfl

def aj0 : Jl := ⟨Pl.new 64, 0, false⟩
def at1 : Tl := ⟨[(50, secL 1 2)], false⟩
def at2 : Tl := ⟨[(50, secL 1 2), (60, secL 3 4)], false⟩
theorem aj_mount : mountE (Pl.new 64) = 0 ∧ mountP (Pl.new 64) = Pl.new 64 ∧ mountS (Pl.new 64) = 0 := by
  obtain ⟨h1, _, h2⟩ := mount_good (few_mnew 64 (by omega) (by omega)) (good_new 64)
  refine ⟨h1, ?_, by unfold mountS; rw [held_new]⟩
  rcases h2 with h2 | ⟨s, l, h2, _⟩
  · exact h2.2
  · rw [held_new] at h2; cases h2
theorem at_1 : Tl.wrE ⟨[], false⟩ aj0 50 (secL 1 2) = 0 ∧ Tl.write ⟨[], false⟩ aj0 50 (secL 1 2) = at1 := by
  have h : Tl.wrE ⟨[], false⟩ aj0 50 (secL 1 2) = 0 := by
    unfold Tl.wrE
    rw [secL_len]
    rfl
  exact ⟨h, by unfold Tl.write; rw [if_pos h]; rfl⟩
theorem at_2 : at1.wrE aj0 60 (secL 3 4) = 0 ∧ at1.write aj0 60 (secL 3 4) = at2 := by
  have h : at1.wrE aj0 60 (secL 3 4) = 0 := by
    unfold Tl.wrE
    rw [secL_len]
    rfl
  exact ⟨h, by unfold Tl.write; rw [if_pos h]; rfl⟩
theorem at_3 : cmE at2 aj0 = 0 ∧ ∃ q, cmJ at2 aj0 = ⟨q, 1, false⟩ ∧ jrE q 60 = 0 ∧ jrB q 60 = secL 3 4 ∧ FewM q 100 ∧ q.off = false := by
  have hl : at2.l.length ≤ 48 := by decide
  have hf : FewM aj0.p 0 := few_mnew 64 (by omega) (by omega)
  obtain ⟨h1, q, h2, h3, h4, h5, h6⟩ := commit_ok (t := at2) (j := aj0) hf (good_new 64) rfl rfl (by simp [at2]) hl (fun g hg => by
    simp only [at2, List.mem_cons, List.not_mem_nil, or_false] at hg
    rcases hg with rfl | rfl
    · exact ⟨by decide, secL_len _ _⟩
    · exact ⟨by decide, secL_len _ _⟩)
  have hn : q.n = 64 := h4
  refine ⟨h1, q, h2, ?_, ?_, ?_⟩
  · unfold jrE Pl.rdE Pl.stE; rw [hn, h3.off]; rfl
  · unfold jrB Pl.rdB
    rw [hn, h3.off, h5]
    show q.st 60 = _
    rw [h6]
    simp only [at2, List.foldl_cons, List.foldl_nil]
    rfl
  · have := hf.commit hl (j := aj0)
    rw [h2] at this
    exact ⟨this, h3.off⟩
theorem jWrite {JA : World → Nat → Nat → Nat → Jl → Prop} {TA : World → Nat → Nat → Nat → Nat → Tl → Jl → Prop} (ok : JrnOK JA TA) {w : World} {T J P base base' m : Nat} {t : Tl} {j : Jl} {i : Int} {v : Value} {b : List UInt8} (h : TA w T J P base t j) (hl : t.l.length ≤ 48) (hf : FewM j.p m) (hm : m ≤ 80000) (h0 : -9223372036854775808 ≤ i) (h1 : i ≤ 9223372036854775807) (hb : b.length ≤ 140737488351232) (hv : OwnB w base' v b) :
    Calls Tryz.prog 133 #[.pointer (some ⟨T, 0, none⟩), .int .i64 i, v] w fun e w' => e = .returned (.int .i64 (t.wrE j i b)) ∧ TA w' T J P base (t.write j i b) j ∧ KP base w w' := by
  obtain ⟨ba, bc, rfl, _⟩ := hv.isB
  refine ok.write w T J P base m t j i ba bc b h hl hf hm h0 h1 hb (fun W hK _ => ?_)
  have hv2 : OwnB W _ _ _ := own_keepO hK hv (by decide)
  obtain ⟨ba', bc', e, h⟩ := hv2.isB
  injection e with e1 e2 e3
  subst e1 e3
  exact h
/-- a mount that goes through -/
theorem jMountT {JA : World → Nat → Nat → Nat → Jl → Prop} {TA : World → Nat → Nat → Nat → Nat → Tl → Jl → Prop} (ok : JrnOK JA TA) {w : World} {P base m : Nat} {p : Pl} (h : IsD0 w P base p) (hf : FewM p m) (hm : m ≤ 80000) (he : mountE p = 0) :
    Calls Tryz.prog 34 #[.pointer (some ⟨P, 0, none⟩)] w fun e w' => (∃ J, e = .returned (.tuple #[.pointer (some ⟨J, 0, none⟩), .int .i64 0]) ∧ JA w' J P base ⟨mountP p, mountS p, false⟩) ∧ KeepT PD w w' ∧ Below base w w' := by
  refine (ok.mount w P base m p h hf hm).mono ?_
  rintro e w' ⟨h1, h2⟩
  rw [if_pos he] at h1
  exact ⟨h1, h2⟩
theorem jMount {JA : World → Nat → Nat → Nat → Jl → Prop} {TA : World → Nat → Nat → Nat → Nat → Tl → Jl → Prop} (ok : JrnOK JA TA) {w : World} {P base m : Nat} {p : Pl} (h : IsD0 w P base p) (hf : FewM p m) (hm : m ≤ 80000) (he : mountE p = 0) :
    Calls Tryz.prog 34 #[.pointer (some ⟨P, 0, none⟩)] w fun e w' => (∃ J, e = .returned (.tuple #[.pointer (some ⟨J, 0, none⟩), .int .i64 0]) ∧ JA w' J P base ⟨mountP p, mountS p, false⟩) ∧ KP base w w' :=
  (jMountT ok h hf hm he).mono fun _ _ ⟨h1, h2, h3⟩ => ⟨h1, KP.ofPD h2 h3⟩
theorem jMountNo {JA : World → Nat → Nat → Nat → Jl → Prop} {TA : World → Nat → Nat → Nat → Nat → Tl → Jl → Prop} (ok : JrnOK JA TA) {w : World} {P base m : Nat} {p : Pl} (h : IsD0 w P base p) (hf : FewM p m) (hm : m ≤ 80000) (he : ¬ mountE p = 0) :
    Calls Tryz.prog 34 #[.pointer (some ⟨P, 0, none⟩)] w fun e w' => (e = .returned (.tuple #[.pointer none, .int .i64 (mountE p)]) ∧ IsD0 w' P base (mountP p)) ∧ KP base w w' := by
  refine (ok.mount w P base m p h hf hm).mono ?_
  rintro e w' ⟨h1, h2, h3⟩
  rw [if_neg he] at h1
  exact ⟨h1, KP.ofPD h2 h3⟩
end Go.Proofs.YthjdmfbengpepaaGreat
namespace Go.Proofs.YthjdmfbengpepaaGreat
open Go.RowKit

theorem IsRk.cells {X : Nat → Prop} {w : World} {D base m : Nat} {p : Pl} (h : IsRk X w D base m p) : ∃ va vcap, w.cell? ⟨D, 2, none⟩ = some (.slice va p.ca.length vcap) ∧ w.cell? ⟨D, 3, none⟩ = some (.bool p.off) := by
  obtain ⟨r, vS, vC, a, rfl, _⟩ := h
  obtain ⟨va, vcap, hv, _⟩ := a.ownC.form
  refine ⟨va, vcap, (a.blk.cell 2).trans ?_, a.blk.cell 3⟩
  have : (plOf r).ca.length = r.C.length := by simp [plOf]
  rw [this, ← hv]; rfl
theorem dkSize {w : World} {P base : Nat} {p : Pl} (h : IsD0 w P base p) : Calls Tryz.prog 79 #[.pointer (some ⟨P, 0, none⟩)] w fun e w' => e = .returned (.int .i64 (p.n : Int)) ∧ w' = w := by
  obtain ⟨S, vC, arm, h⟩ := h
  exact codSize P S p.n w (h.blk.cell 0)
end Go.Proofs.YthjdmfbengpepaaGreat
namespace Go.Proofs.YthjdmfbengpepaaGreat
open Go.RowKit

theorem IsRk.keepO {X : Nat → Prop} {w w' : World} {D base m : Nat} {p : Pl} (h : IsRk X w D base m p) {us : List TypeId} (hk : KeepO us w w') (h1 : 81 ∈ us) (h2 : 88 ∈ us) (h3 : 5 ∈ us) : IsRk X w' D base m p := by
  obtain ⟨r, vS, vC, a, b, c, d, e, f⟩ := h
  exact ⟨r, vS, vC, a.keepO hk h1 h2 h3, b, c, d, e, fun k hx => Nat.lt_of_lt_of_le (f k hx) hk.size⟩
theorem steps_51 : ∀ (l : Qs) (p : Pl), (∀ g ∈ l, g.1 < p.n ∧ g.2.length = 512) → stepsE p l = 0 ∨ stepsE p l = 51 := by
  intro l
  induction l with
  | nil =>
    intro p _
    rw [stepsE, Pl.flE]
    split
    · exact .inr rfl
    · exact .inl rfl
  | cons g l ih =>
    intro p hg
    rw [stepsE]
    split
    · exact ih _ (fun x hx => by rw [write_n]; exact hg x (by simp [hx]))
    · rename_i hz
      right
      have hg0 := hg g (by simp)
      unfold Pl.wrE at hz ⊢
      rw [inR_nat hg0.1] at hz ⊢
      by_cases ho : p.off = true
      · rw [if_pos ho]
      · rw [if_neg ho] at hz ⊢
        simp only [Bool.true_eq_false, if_false, hg0.2, ne_eq, not_true_eq_false] at hz ⊢
        split at hz
        · rename_i ha; rw [if_pos ha]
        · exact absurd rfl hz
theorem mount_51 {p : Pl} {m : Nat} (hp : FewM p m) (h : mountE p ≠ 0) : mountE p = 51 := by
  cases ho : p.off with
  | true =>
    have e : p.rdE 0 = 51 := by unfold Pl.rdE; rw [ho]; rfl
    unfold mountE
    rw [if_pos (by rw [e]; decide), e]
  | false =>
    unfold mountE at h ⊢
    have h0 := rdE_zero hp ho
    rw [if_neg (by simp [h0])] at h ⊢
    cases hh : heldJ p with
    | none => rw [hh] at h; exact absurd rfl h
    | some q =>
      obtain ⟨s, l⟩ := q
      rw [hh] at h
      have h1 := heldJ_len hh
      have h2 := heldJ_512 hp ho hh
      rcases steps_51 l p (fun g hg => ⟨(h1.2 g hg).2, h2.1 g hg⟩) with h3 | h3
      · exact absurd h3 h
      · exact h3
/-- what a mount of both gives -/
def MtBoth (JA : World → Nat → Nat → Nat → Jl → Prop) (w0 w : World) (P D base : Nat) (p : Pl) (vj vk : Value) : Prop :=
  if mountE p = 0 then ∃ J K, vj = .pointer (some ⟨J, 0, none⟩) ∧ vk = .pointer (some ⟨K, 0, none⟩) ∧ JA w J P base ⟨mountP p, mountS p, false⟩ ∧ RjAt w K D (mountS p) false ∧ w0.heap.size ≤ K
  else vj = .pointer none ∧ vk = .pointer none ∧ IsD0 w P base (mountP p)

end Go.Proofs.YthjdmfbengpepaaGreat
namespace Go.Proofs.YthjdmfbengpepaaGreat
open Go.RowKit

theorem OwnG.empty (w : World) (base : Nat) (hb : base ≤ w.heap.size) : OwnG 88 (w.alloc (.cells #[] 88)) base (.slice (some ⟨w.heap.size, 0, none⟩) 0 0) [] :=
  World.ownsRow_made w #[] 0 hb (Nat.zero_le _) rfl
/-- writes that can be appended -/
structure SrcG (w : World) (sa : Option Addr) (m c : Nat) (l : List Wg) : Prop where
  len : l.length = m
  nil : sa = none → m = 0 ∧ c = 0
  cells : ∀ ad, sa = some ad → ∀ j u, (wgs l)[j]? = some u → w.cell? (ad.add j) = some u
def cutG (a : Option Addr) (cap k : Nat) : Option Addr := if cap = k then a else a.map (·.add (k * 2))
theorem wgs_take (l : List Wg) (k : Nat) : wgs (l.take k) = (wgs l).take (k * 2) := by
  induction k generalizing l with
  | zero => rfl
  | succ k ih =>
    cases l with
    | nil => rfl
    | cons g l => rw [List.take_succ_cons, wgs, wgs, ih, show (k + 1) * 2 = k * 2 + 1 + 1 by omega, List.take_succ_cons, List.take_succ_cons]
theorem wgs_drop (l : List Wg) (k : Nat) : wgs (l.drop k) = (wgs l).drop (k * 2) := by
  induction k generalizing l with
  | zero => rfl
  | succ k ih =>
    cases l with
    | nil => rfl
    | cons g l => rw [List.drop_succ_cons, wgs, ih, show (k + 1) * 2 = k * 2 + 1 + 1 by omega, List.drop_succ_cons, List.drop_succ_cons]
theorem OwnG.src {w : World} {base : Nat} {a : Option Addr} {n cap : Nat} {ls : List Wg} (h : OwnG 88 w base (.slice a n cap) ls) (hn : n = ls.length) (k : Nat) (hk : k ≤ n) :
    SrcG w a k cap (ls.take k) ∧ SrcG w (cutG a cap k) (n - k) (cap - k) (ls.drop k) := by
  subst hn
  rcases h.2 with ⟨h1, h2⟩ | ⟨g, cap', cur, h3, h4, h5, hle, h7⟩
  · injection h1 with e1 e2 e3
    subst e1 e3
    have hk0 : k = 0 := by omega
    subst hk0
    have hl : ls = [] := List.eq_nil_of_length_eq_zero e2
    subst hl
    exact ⟨⟨rfl, fun _ => ⟨rfl, rfl⟩, fun ad e => by cases e⟩, ⟨rfl, fun _ => ⟨rfl, rfl⟩, fun ad e => by cases e⟩⟩
  · injection h3 with e1 e2 e3
    subst e1 e3
    refine ⟨⟨by rw [List.length_take]; omega, (fun e => by cases e), fun ad e j u hu => ?_⟩, ⟨by rw [List.length_drop], fun e => ?_, fun ad e j u hu => ?_⟩⟩
    · obtain rfl := Option.some.inj e
      rw [wgs_take] at hu
      have hj : j < k * 2 := by
        have := (List.getElem?_eq_some_iff.1 hu).1
        rw [List.length_take] at this; omega
      rw [List.getElem?_take_of_lt hj] at hu
      exact World.ownsRow.cells h (g := g) rfl j u hu
    · unfold cutG at e
      split at e
      · cases e
      · cases e
    · rw [wgs_drop, List.getElem?_drop] at hu
      unfold cutG at e
      split at e
      · rename_i hc
        have := (List.getElem?_eq_some_iff.1 hu).1
        rw [wgs_length] at this
        omega
      · have e2 := Option.some.inj e
        rw [← e2]
        show w.cell? (((⟨g, 0, none⟩ : Addr).add (k * 2)).add j) = some u
        rw [Addr.add_lit, Addr.add_lit]
        have := World.ownsRow.cells h (g := g) rfl (k * 2 + j) u hu
        rw [Addr.add_lit] at this
        rw [show 0 + k * 2 + j = 0 + (k * 2 + j) by omega]
        exact this
theorem SrcG.below {w w' : World} {sa : Option Addr} {m c : Nat} {l : List Wg} (h : SrcG w sa m c l) (hb : Below w.heap.size w w') : SrcG w' sa m c l :=
  ⟨h.len, h.nil, fun ad e j u hu => by have := h.cells ad e j u hu; exact (hb.cell (cell_lt this)).trans this⟩
theorem wgs_one (l : List Wg) : ∀ u ∈ wgs l, u.oneCell' = true := by
  induction l with
  | nil => intro u hu; cases hu
  | cons g l ih =>
    intro u hu
    rcases List.mem_cons.1 hu with rfl | hu
    · rfl
    · rcases List.mem_cons.1 hu with rfl | hu
      · rfl
      · exact ih u hu
/-- append(l, news...) -/
theorem step_appGs {ops : Array Oper} {o : Oper} {a : Act} {K : Act → World → Prop} {Q : Exit → Act → World → Prop} {E : Prop} (w : World) (hgd : o.guard = none) (s x : Operand)
    (ho : o.op = .call { callee := .builtin .append, args := #[s, x], argTypes := #[78, 78] }) (base : Nat)
    (v : Value) (l : List Wg) (hs : a.eval s = v) (hown : OwnG 88 w base v l) (sa : Option Addr) (m c : Nat) (news : List Wg) (hx : a.eval x = .slice sa m c) (hsrc : SrcG w sa m c news)
    (hbytes : (l.length + m) * 32 ≤ 140737488355328) (hbase : base ≤ w.heap.size) (d : Tmp) (hd : o.dst = some d)
    (h : ∀ v' w', OwnG 88 w' base v' (l ++ news) → w.grownBy w' v.ownBlock → K (a.put (some d) v') w') :
    if Region.wanted o (yielded ops a.tmps) = true then Oper.wp Tryz.prog o a w K Q else E := by
  have hw : Region.wanted o (yielded ops a.tmps) = true := by simp [Region.wanted, hgd]
  rw [if_pos hw]
  obtain ⟨i0, hi, hz0, hz1, hz2⟩ := info_parts infoW9
  cases sa with
  | none =>
    obtain ⟨hm, hc⟩ := hsrc.nil rfl
    have hn : news = [] := List.eq_nil_of_length_eq_zero (by rw [hsrc.len, hm])
    subst hn hm hc
    have hrun := run_append_owned_none (P := Tryz.prog) (w := w) base 78 o.type 88 i0 2 Tryz.underlying78 hi v l.length (wgs l) hown
    rw [← hd] at h
    unfold Oper.wp
    simp [execOp, ho, resolve, invoke, builtin, hs, hx, hrun, Result.andThen]
    exact h v w (by rw [List.append_nil]; exact hown) (World.grownBy.refl _ _)
  | some ad =>
    refine wp_append_own w s x 78 ho base 88 i0 wgZ 2 32 Tryz.underlying78 hi hz0 hz1 hz2 rfl (by omega) v l.length (wgs l) hs hown ad m c (wgs news) hx (by rw [wgs_length, hsrc.len]) (hsrc.cells ad rfl) (wgs_one news) (by unfold maxLen; omega) hbytes hbase ?_
    intro v' w' h1 h2 _
    rw [hd]
    exact h v' w' (by unfold OwnG; rw [wgs_append, List.length_append, hsrc.len]; exact h1) h2
/-- the two cuts, as the walk meets them -/
theorem slGh (a : Option Addr) (n cap k : Nat) (hk : k ≤ cap) (ha : a = none ∨ ∃ g, a = some ⟨g, 0, none⟩) (w : World) : (Instr.slice 78 (.slice a n cap) none (some (.int .i64 (k : Int))) none).run Tryz.prog w = .ok (.slice a k cap) w := by
  have he : Tryz.prog.elem 78 = 88 := by kernel_rfl
  have hz : (sizeOf 88).run Tryz.prog w = .ok 2 w := by
    obtain ⟨i0, hi, hz0, hz1, hz2⟩ := info_parts infoW9
    simp [sizeOf, typeInfo, hi, hz1]
  rw [run_slice_h w 78 _ n cap (by rw [he]; exact Tryz.underlying78) .i64 (k : Int) (by omega) (by omega), he, hz]
  simp only [Result.andThen, sliced, Int.toNat_natCast, Nat.zero_mul, Nat.sub_zero]
  rcases ha with rfl | ⟨g, rfl⟩
  · split <;> rfl
  · split <;> simp [Addr.add_lit]
theorem slGl (a : Option Addr) (n cap k : Nat) (hk : k ≤ n) (w : World) : (Instr.slice 78 (.slice a n cap) (some (.int .i64 (k : Int))) none none).run Tryz.prog w = .ok (.slice (cutG a cap k) (n - k) (cap - k)) w := by
  have he : Tryz.prog.elem 78 = 88 := by kernel_rfl
  have hz : (sizeOf 88).run Tryz.prog w = .ok 2 w := by
    obtain ⟨i0, hi, hz0, hz1, hz2⟩ := info_parts infoW9
    simp [sizeOf, typeInfo, hi, hz1]
  rw [run_slice_l w 78 _ n cap (by rw [he]; exact Tryz.underlying78) .i64 (k : Int) (by omega) (by omega), he, hz]
  simp only [Result.andThen, sliced, Int.toNat_natCast, cutG]
end Go.Proofs.YthjdmfbengpepaaGreat
namespace Go.Proofs.YthjdmfbengpepaaGreat
open Go.RowKit

/-- how many are ahead of a sector -/
def posG : List Wg → Nat → Nat
  | [], _ => 0
  | g :: l, i => if g.at_ < i then posG l i + 1 else 0
theorem posG_le (l : List Wg) (i : Nat) : posG l i ≤ l.length := by
  induction l with
  | nil => exact Nat.le_refl _
  | cons g l ih => rw [posG, List.length_cons]; split <;> omega
theorem posG_lt (l : List Wg) (i j : Nat) (h : j < posG l i) : (nthG l j).at_ < i := by
  induction l generalizing j with
  | nil => cases h
  | cons g l ih =>
    rw [posG] at h
    split at h
    · rename_i hg
      cases j with
      | zero => exact hg
      | succ j => exact ih j (by omega)
    · cases h
theorem posG_at (l : List Wg) (i : Nat) (h : posG l i < l.length) : ¬ (nthG l (posG l i)).at_ < i := by
  induction l with
  | nil => cases h
  | cons g l ih =>
    by_cases hg : g.at_ < i
    · have e : posG (g :: l) i = posG l i + 1 := by rw [posG, if_pos hg]
      rw [e] at h ⊢
      exact ih (by simpa using h)
    · have e : posG (g :: l) i = 0 := by rw [posG, if_neg hg]
      rw [e]; exact hg
theorem posG_uniq (l : List Wg) (i k : Nat) (hk : k ≤ l.length) (h1 : ∀ j, j < k → (nthG l j).at_ < i) (h2 : k = l.length ∨ ¬ (nthG l k).at_ < i) : k = posG l i := by
  rcases Nat.lt_trichotomy k (posG l i) with h | h | h
  · rcases h2 with h2 | h2
    · have := posG_le l i; omega
    · exact absurd (posG_lt l i k h) h2
  · exact h
  · have := posG_at l i (by omega)
    exact absurd (h1 _ h) this
/-- what comes of it, where that sector is there, and where it isn't -/
theorem put_hit (l : List Wg) (i : Nat) (g : Wg) (hg : g.at_ = i) (h : posG l i < l.length) (he : (nthG l (posG l i)).at_ = i) : hitQ (l.map plW) i = true ∧ putQ (l.map plW) i g.b = (l.set (posG l i) g).map plW := by
  induction l with
  | nil => cases h
  | cons x l ih =>
    rw [List.map_cons, hitQ, putQ]
    by_cases hx : x.at_ < i
    · have e : posG (x :: l) i = posG l i + 1 := by rw [posG, if_pos hx]
      rw [e] at h he ⊢
      have h3 : (plW x).1 < i := hx
      obtain ⟨h1, h2⟩ := ih (by simpa using h) he
      rw [if_pos h3, if_pos h3, h1, h2]
      exact ⟨rfl, rfl⟩
    · have e : posG (x :: l) i = 0 := by rw [posG, if_neg hx]
      rw [e] at he ⊢
      have h3 : ¬ (plW x).1 < i := hx
      have h4 : (plW x).1 = i := he
      rw [if_neg h3, if_neg h3, if_pos h4]
      refine ⟨by simpa using h4, ?_⟩
      rw [List.set_cons_zero, List.map_cons]
      congr 1
      rw [← hg]; rfl
theorem put_miss (l : List Wg) (i : Nat) (g : Wg) (hg : g.at_ = i) (h : posG l i = l.length ∨ ¬ (nthG l (posG l i)).at_ = i) : hitQ (l.map plW) i = false ∧ putQ (l.map plW) i g.b = (l.take (posG l i) ++ [g] ++ l.drop (posG l i)).map plW := by
  induction l with
  | nil => exact ⟨rfl, by rw [← hg]; rfl⟩
  | cons x l ih =>
    rw [List.map_cons, hitQ, putQ]
    by_cases hx : x.at_ < i
    · have e : posG (x :: l) i = posG l i + 1 := by rw [posG, if_pos hx]
      rw [e] at h ⊢
      have h3 : (plW x).1 < i := hx
      obtain ⟨h1, h2⟩ := ih (by
        rcases h with h | h
        · left; simpa using h
        · right; exact h)
      rw [if_pos h3, if_pos h3, h1, h2]
      exact ⟨rfl, rfl⟩
    · have e : posG (x :: l) i = 0 := by rw [posG, if_neg hx]
      rw [e] at h ⊢
      have h3 : ¬ (plW x).1 < i := hx
      have h4 : ¬ (plW x).1 = i := by
        rcases h with h | h
        · simp at h
        · exact h
      rw [if_neg h3, if_neg h3, if_neg h4]
      refine ⟨by simpa using h4, ?_⟩
      rw [List.take_zero, List.drop_zero, List.nil_append, List.map_append, List.map_cons, List.map_cons, List.map_nil, ← hg]; rfl
/-- one of the row's writes is another one -/
theorem wgs_set (l : List Wg) (k : Nat) (g : Wg) (hk : k < l.length) : ((wgs l).set (k * 2) (.int .i64 (g.at_ : Int))).set (k * 2 + 1) (.slice g.ad g.b.length g.cap) = wgs (l.set k g) := by
  induction l generalizing k with
  | nil => cases hk
  | cons x l ih =>
    cases k with
    | zero => rfl
    | succ k =>
      rw [List.set_cons_succ, wgs, wgs, show (k + 1) * 2 = k * 2 + 1 + 1 by omega, List.set_cons_succ, List.set_cons_succ, show k * 2 + 2 = k * 2 + 1 + 1 from rfl, List.set_cons_succ, List.set_cons_succ, ih k (by simpa using hk)]
theorem OwnG.row {w : World} {base g cap n : Nat} {l : List Wg} (h : OwnG 88 w base (.slice (some ⟨g, 0, none⟩) n cap) l) : ∃ cur : Array Value, w.heap[g]? = some (.cells cur 88 (0, 0)) := by
  rcases h.2 with ⟨h1, _⟩ | ⟨g', _, cur, h1, _, h2, _⟩
  · cases h1
  · injection h1 with e1
    have e2 := Option.some.inj e1
    injection e2 with e3
    subst e3
    exact ⟨cur, h2⟩
theorem OwnG.setOne {w : World} {base g0 cap n : Nat} {l : List Wg} (h : OwnG 88 w base (.slice (some ⟨g0, 0, none⟩) n cap) l) (hn : n = l.length) (k : Nat) (hk : k < n) (g : Wg) :
    OwnG 88 ((w.setCell ⟨g0, k * 2, none⟩ (.int .i64 (g.at_ : Int))).setCell ⟨g0, k * 2 + 1, none⟩ (.slice g.ad g.b.length g.cap)) base (.slice (some ⟨g0, 0, none⟩) n cap) (l.set k g) := by
  subst hn
  have h1 := (World.ownsRow.stored h (k * 2) (.int .i64 (g.at_ : Int))).1
  have h2 := (World.ownsRow.stored h1 (k * 2 + 1) (.slice g.ad g.b.length g.cap)).1
  rw [wgs_set l k g hk] at h2
  unfold OwnG
  rw [List.length_set]
  exact h2
end Go.Proofs.YthjdmfbengpepaaGreat
namespace Go.Proofs.YthjdmfbengpepaaGreat
open Go Go.RowKit

variable {P : Program} {ops : Array Oper} {Q : Exit → Act → World → Prop} {S : World → Prop} {z : Nat}
/-- any order from here on; S is shown behind each operation but number z -/
def LastOk (P : Program) (ops : Array Oper) (Q : Exit → Act → World → Prop) (S : World → Prop) (z : Nat) : Nat → Array Bool → Act → World → Prop
  | 0, l, a, w => Region.ready .any ops l = [] ∧ Q .normal a w
  | f + 1, l, a, w => (Region.ready .any ops l = [] → Q .normal a w) ∧ ∀ i ∈ Region.ready .any ops l, wpOp P ops Q i (fun a' w' => (i ≠ z → S w') ∧ LastOk P ops Q S z f (l.setIfInBounds i true) a' w') a w
theorem LastOk.any : ∀ (f : Nat) (l : Array Bool) (a : Act) (w : World), LastOk P ops Q S z f l a w → wpAny P .any ops Q f l a w
  | 0, _, _, _, h => h
  | f + 1, _, _, _, h => ⟨h.1, fun i hi => wpOp_mono (fun a' w' k => LastOk.any f _ a' w' k.2) (h.2 i hi)⟩
/-- does z wait for i? -/
def waitsB (ops : Array Oper) (z i : Nat) : Bool := (ops[z]?).any fun o => o.after.any fun e => Region.binds .any e && e.on == i
theorem waits_not {i : Nat} {l : Array Bool} (h : waitsB ops z i = true) (hi : l.getD i false = false) : z ∉ Region.ready .any ops l := fun hz => by
  obtain ⟨_, o, ho, hall⟩ := mem_ready.1 hz
  unfold waitsB at h
  rw [ho] at h
  simp only [Option.any_some, Array.any_eq_true, Bool.and_eq_true, beq_iff_eq] at h
  obtain ⟨x, hx, hb, he⟩ := h
  have := hall _ (Array.getElem_mem hx) hb
  rw [he, hi] at this
  cases this
theorem unlisted {i : Nat} {l : Array Bool} (h : l.getD i true = false) : l.getD i false = false := by
  rcases Nat.lt_or_ge i l.size with k | k
  · simp [k] at h ⊢; exact h
  · simp [Array.getElem?_eq_none k] at h
/-- an operation for which z waits, that yields its value wherever S holds, may be taken first -/
theorem LastOk.first {i : Nat} {o : Oper} {v : Value} (hi : ops[i]? = some o) (hs : Region.noSelect ops = true) (hw : waitsB ops z i = true)
    (hQ : ∀ c a w, Q (.panic c) (a.put o.dst v) w → Q (.panic c) a w) : ∀ (f : Nat) (l : Array Bool) (a : Act) (w : World),
      (∀ j oj, ops[j]? = some oj → j ≠ i → l.getD j true = false → (∀ e ∈ oj.after, Region.binds .any e = true → e.on ≠ i) → o.apart ops oj = true) →
      i ∈ Region.ready .any ops l → YieldsIf P ops S o v a → S w → LastOk P ops Q S z f (l.setIfInBounds i true) (a.put o.dst v) w → LastOk P ops Q S z (f + 1) l a w := by
  have hsel := Region.noSelect_spec hs
  intro f
  induction f with
  | zero =>
    intro l a w _ hr hy hS H
    refine ⟨fun h => (by rw [h] at hr; cases hr), fun j hj => ?_⟩
    by_cases e : j = i
    · subst e; exact hy.wpOp hi hS ⟨fun _ => hS, H⟩
    · have := ready_mono hj e
      rw [H.1] at this
      cases this
  | succ f ih =>
    intro l a w hf hr hy hS H
    refine ⟨fun h => (by rw [h] at hr; cases hr), fun j hj => ?_⟩
    by_cases e : j = i
    · subst e; exact hy.wpOp hi hS ⟨fun _ => hS, H⟩
    · obtain ⟨hju, oj, hoj, hall⟩ := mem_ready.1 hj
      have hi0 := (mem_ready.1 hr).1
      have hjz : j ≠ z := fun h => waits_not hw (unlisted hi0) (h ▸ hj)
      have hnot : ∀ x ∈ oj.after, Region.binds .any x = true → x.on ≠ i := fun x hx hb h => by
        have := hall x hx hb
        rw [h, unlisted hi0] at this
        cases this
      have h2 := wpOp_putIf hoj (hf j oj hoj e hju hnot) (fun cs b => hsel i o cs b hi) (fun cs b => hsel j oj cs b hoj) hQ hy (H.2 j (ready_mono hj e))
      refine wpOp_mono (fun a' w' k => ⟨k.2.1, ih _ a' w' (fun x ox hx hxi hu hno => hf x ox hx hxi ?_ hno) (ready_mono hr (Ne.symm e)) k.1 (k.2.1 hjz) ?_⟩) h2
      · by_cases hjx : j = x
        · subst hjx; exact hju
        · rw [getD_set_ne true hjx] at hu; exact hu
      · rw [Array.setIfInBounds_comm _ _ e]
        exact k.2.2
/-- the moves: the region's beginning, an operation taken, those that come up, the end -/
theorem lk0 {id : Nat} {a : Act} {w : World} (S : World → Prop) (z : Nat) (hS : S w.drew) (h : S w.drew → LastOk P ops Q S z ops.size (Array.replicate ops.size false) a w.drew) (hm : P.follows .mixedOrders = true := by kernel_rfl) : (Code.region id ops true).wp P Q a w :=
  wp_region_any hm (LastOk.any _ _ _ _ (h hS))
theorem lkT {o : Oper} {f : Nat} {l : Array Bool} {a : Act} {w : World} (d : Tmp) (i : Nat) (v : Value) (hi : ops[i]? = some o) (hy : YieldsIf P ops S o v a) (hS : S w)
    (h : LastOk P ops Q S z f (l.setIfInBounds i true) (a.put (some d) v) w) (hs : Region.noSelect ops = true := by kernel_rfl) (hw : waitsB ops z i = true := by kernel_rfl) (hf : Region.free .any ops l i = true := by kernel_rfl) (hr : (Region.ready .any ops l).contains i = true := by kernel_rfl)
    (hQ : ∀ c a w, Q (.panic c) (a.put o.dst v) w → Q (.panic c) a w := by exact fun _ _ _ h => h) (hd : o.dst = some d := by rfl) : LastOk P ops Q S z (f + 1) l a w :=
  LastOk.first hi hs hw hQ f l a w (Region.free_spec hi hf) (by simpa using hr) hy hS (by rw [hd]; exact h)
/-- each of these comes up next -/
def NextL (P : Program) (ops : Array Oper) (Q : Exit → Act → World → Prop) (S : World → Prop) (z f : Nat) (l : Array Bool) (a : Act) (w : World) (rs : List Nat) : Prop :=
  ∀ i ∈ rs, wpOp P ops Q i (fun a' w' => (i ≠ z → S w') ∧ LastOk P ops Q S z f (l.setIfInBounds i true) a' w') a w
theorem NextL.nil {f : Nat} {l : Array Bool} {a : Act} {w : World} : NextL P ops Q S z f l a w [] := fun _ h => by cases h
theorem NextL.cons {f : Nat} {l : Array Bool} {a : Act} {w : World} {i : Nat} {o : Oper} {rs : List Nat} (ho : ops[i]? = some o)
    (h : ∀ K' : Act → World → Prop, Shut (∀ a w, S w → (S w → LastOk P ops Q S z f (l.setIfInBounds i true) a w) → K' a w) → if Region.wanted o (yielded ops a.tmps) = true then Oper.wp P o a w K' Q else K' (a.put o.dst undef) w)
    (hs : NextL P ops Q S z f l a w rs) : NextL P ops Q S z f l a w (i :: rs) := fun j hj => by
  rcases List.mem_cons.1 hj with rfl | hj
  · exact wpOp_step ho (fun K' hK => h K' (fun a w hS hW => hK a w ⟨fun _ => hS, hW hS⟩))
  · exact hs j hj
theorem lkR {rs : List Nat} {f : Nat} {l : Array Bool} {a : Act} {w : World} (hr : Region.ready .any ops l = rs) (hne : rs ≠ []) (h : NextL P ops Q S z f l a w rs) : LastOk P ops Q S z (f + 1) l a w :=
  ⟨fun h0 => absurd (hr ▸ h0) hne, hr ▸ h⟩
theorem lk1 {f : Nat} {l : Array Bool} {a : Act} {w : World} {o : Oper} (i : Nat) (ho : ops[i]? = some o)
    (h : ∀ K' : Act → World → Prop, Shut (∀ a w, S w → (S w → LastOk P ops Q S z f (l.setIfInBounds i true) a w) → K' a w) → if Region.wanted o (yielded ops a.tmps) = true then Oper.wp P o a w K' Q else K' (a.put o.dst undef) w) (hr : Region.ready .any ops l = [i] := by kernel_rfl) : LastOk P ops Q S z (f + 1) l a w :=
  lkR hr (by simp) (NextL.cons ho h NextL.nil)
/-- the last one -/
theorem lkZ {f : Nat} {l : Array Bool} {a : Act} {w : World} {o : Oper} (ho : ops[z]? = some o)
    (h : ∀ K' : Act → World → Prop, Shut (∀ a w, Q .normal a w → K' a w) → if Region.wanted o (yielded ops a.tmps) = true then Oper.wp P o a w K' Q else K' (a.put o.dst undef) w) (hr : Region.ready .any ops l = [z] := by kernel_rfl) (hd : Region.ready .any ops (l.setIfInBounds z true) = [] := by kernel_rfl) : LastOk P ops Q S z (f + 1) l a w :=
  lkR hr (by simp) (fun j hj => by
    have : j = z := by simpa using hj
    subst this
    exact wpOp_step ho (fun K' hK => h K' (fun a w hQ => hK a w ⟨fun e => absurd rfl e, by
      cases f with
      | zero => exact ⟨hd, hQ⟩
      | succ f => exact ⟨fun _ => hQ, by rw [hd]; simp⟩⟩)))
end Go.Proofs.YthjdmfbengpepaaGreat
