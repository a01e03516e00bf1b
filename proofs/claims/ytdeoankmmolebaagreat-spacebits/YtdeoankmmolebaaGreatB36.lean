/- The statements' alive, over any journal that keeps the document. · The statements' area and mount, over any journal that keeps the document. · The statements' image of a disk's area. · What nil journals and transactions say; reads and writes at a new disk. · The program's journal keeps the document. · The statements' mount, over any journal that keeps the document. · Laws for slices of writes: cut, appended, one of them turned. · A write put among others, plain and in a world. -/
import Derived.Test.YtdeoankmmolebaaGreatB35
import Derived.Deep.RegionHeld3
import Derived.Test.YtdeoankmmolebaaGreatB32
import Derived.BigQuiet
import Derived.Test.YtdeoankmmolebaaGreatB21
namespace Go.Proofs.YtdeoankmmolebaaGreat
open Go.RowKit

/-- a commit while nothing is to go wrong -/
theorem commit_ok {t : Tl} {j : Jl} {m : Nat} (hp : FewM j.p m) (hg : Good j.p) (ho : t.over = false) (hd : j.dead = false) (hne : t.l ≠ []) (hl : t.l.length ≤ 48) (ha : ∀ g ∈ t.l, g.1 < j.p.n ∧ g.2.length = 512) :
    cmE t j = 0 ∧ ∃ q, cmJ t j = ⟨q, nxt j.seq, false⟩ ∧ Good q ∧ q.n = j.p.n ∧ q.ca = [] ∧ q.st = t.l.foldl Pl.put ([(0, sealJ (nxt j.seq) t.l)].foldl Pl.put ((j.p.ca ++ slotQ t.l).foldl Pl.put j.p.st)) := by
  have hnot : ¬ (t.over = true ∨ j.dead = true) := by rw [ho, hd]; simp
  have hn := hp.n0
  obtain ⟨a1, a2⟩ := steps_ok (slotQ t.l) j.p hg.off hg.arm (fun g hgl => by
    unfold slotQ at hgl
    obtain ⟨i, hi, rfl⟩ := List.mem_map.1 hgl
    have hi := List.mem_range.1 hi
    refine ⟨by show 1 + i < _; omega, ?_⟩
    show (t.l.getD i (0, [])).2.length = 512
    rw [List.getD_eq_getElem?_getD, List.getElem?_eq_getElem hi]
    exact (ha _ (List.getElem_mem hi)).2)
  obtain ⟨b1, b2⟩ := steps_ok [(0, sealJ (nxt j.seq) t.l)] (stepsP j.p (slotQ t.l)) (by rw [a2]) (by rw [a2]) (fun g hgl => by
    rw [List.mem_singleton.1 hgl, a2]
    exact ⟨by show 0 < j.p.n; omega, sealJ_length _ _ (by rw [preJ_length]; omega)⟩)
  obtain ⟨c1, c2⟩ := steps_ok t.l (stepsP (stepsP j.p (slotQ t.l)) [(0, sealJ (nxt j.seq) t.l)]) (by rw [b2]) (by rw [b2]) (fun g hgl => by
    have e : (stepsP (stepsP j.p (slotQ t.l)) [(0, sealJ (nxt j.seq) t.l)]).n = j.p.n := by rw [steps_n, steps_n]
    rw [e]; exact ha g hgl)
  have eA : cmA t j = (stepsP j.p (slotQ t.l), 0) := by unfold cmA; rw [a1]
  have eB : cmB t j = (stepsP (stepsP j.p (slotQ t.l)) [(0, sealJ (nxt j.seq) t.l)], 0) := by unfold cmB; rw [eA, if_pos rfl, b1]
  have eC : cmC t j = (stepsP (stepsP (stepsP j.p (slotQ t.l)) [(0, sealJ (nxt j.seq) t.l)]) t.l, 0) := by unfold cmC; rw [eB, if_pos rfl, c1]
  refine ⟨by unfold cmE; rw [if_neg hnot, if_neg hne, eC], _, by unfold cmJ; rw [if_neg hnot, if_neg hne, eC, if_pos rfl, hd], ?_, by rw [steps_n, steps_n, steps_n], by rw [c2], ?_⟩
  · rw [c2]; exact ⟨rfl, rfl⟩
  · rw [c2, b2, a2]; rfl

def aj0 : Jl := ⟨Pl.new 64, 0, false⟩
def at1 : Tl := ⟨[(50, secL 1 2)], false⟩
def at2 : Tl := ⟨[(50, secL 1 2), (60, secL 3 4)], false⟩
theorem aj_mount : mountE (Pl.new 64) = 0 ∧ mountP (Pl.new 64) = Pl.new 64 ∧ mountS (Pl.new 64) = 0 := by
  obtain ⟨h1, _, h2⟩ := mount_good (few_mnew 64 (by omega) (by omega)) (good_new 64)
  refine ⟨h1, ?_, by unfold mountS; rw [held_new]⟩
  rcases h2 with h2 | ⟨s, l, h2, _⟩
  · exact h2.2
  · rw [held_new] at h2; cases h2
theorem at_1 : Tl.wrE ⟨[], false⟩ aj0 50 (secL 1 2) = 0 ∧ Tl.write ⟨[], false⟩ aj0 50 (secL 1 2) = at1 := by
  have h : Tl.wrE ⟨[], false⟩ aj0 50 (secL 1 2) = 0 := by
    unfold Tl.wrE
    rw [secL_len]
    rfl
  exact ⟨h, by unfold Tl.write; rw [if_pos h]; rfl⟩
theorem at_2 : at1.wrE aj0 60 (secL 3 4) = 0 ∧ at1.write aj0 60 (secL 3 4) = at2 := by
  have h : at1.wrE aj0 60 (secL 3 4) = 0 := by
    unfold Tl.wrE
    rw [secL_len]
    rfl
  exact ⟨h, by unfold Tl.write; rw [if_pos h]; rfl⟩
theorem at_3 : cmE at2 aj0 = 0 ∧ ∃ q, cmJ at2 aj0 = ⟨q, 1, false⟩ ∧ jrE q 60 = 0 ∧ jrB q 60 = secL 3 4 ∧ FewM q 100 ∧ q.off = false := by
  have hl : at2.l.length ≤ 48 := by decide
  have hf : FewM aj0.p 0 := few_mnew 64 (by omega) (by omega)
  obtain ⟨h1, q, h2, h3, h4, h5, h6⟩ := commit_ok (t := at2) (j := aj0) hf (good_new 64) rfl rfl (by simp [at2]) hl (fun g hg => by
    simp only [at2, List.mem_cons, List.not_mem_nil, or_false] at hg
    rcases hg with rfl | rfl
    · exact ⟨by decide, secL_len _ _⟩
    · exact ⟨by decide, secL_len _ _⟩)
  have hn : q.n = 64 := h4
  refine ⟨h1, q, h2, ?_, ?_, ?_⟩
  · unfold jrE Pl.rdE Pl.stE; rw [hn, h3.off]; rfl
  · unfold jrB Pl.rdB
    rw [hn, h3.off, h5]
    show q.st 60 = _
    rw [h6]
    simp only [at2, List.foldl_cons, List.foldl_nil]
    rfl
  · have := hf.commit hl (j := aj0)
    rw [h2] at this
    exact ⟨this, h3.off⟩
theorem jWrite {JA : World → Nat → Nat → Nat → Jl → Prop} {TA : World → Nat → Nat → Nat → Nat → Tl → Jl → Prop} (ok : JrnOK JA TA) {w : World} {T J P base base' m : Nat} {t : Tl} {j : Jl} {i : Int} {v : Value} {b : List UInt8} (h : TA w T J P base t j) (hl : t.l.length ≤ 48) (hf : FewM j.p m) (hm : m ≤ 80000) (h0 : -9223372036854775808 ≤ i) (h1 : i ≤ 9223372036854775807) (hb : b.length ≤ 140737488351232) (hv : OwnB w base' v b) :
    Calls Tryz.prog 61 #[.pointer (some ⟨T, 0, none⟩), .int .i64 i, v] w fun e w' => e = .returned (.int .i64 (t.wrE j i b)) ∧ TA w' T J P base (t.write j i b) j ∧ KP base w w' := by
  obtain ⟨ba, bc, rfl, _⟩ := hv.isB
  refine ok.write w T J P base m t j i ba bc b h hl hf hm h0 h1 hb (fun W hK _ => ?_)
  have hv2 : OwnB W _ _ _ := own_keepO hK hv (by decide)
  obtain ⟨ba', bc', e, h⟩ := hv2.isB
  injection e with e1 e2 e3
  subst e1 e3
  exact h
/-- a mount that goes through -/
theorem jMountT {JA : World → Nat → Nat → Nat → Jl → Prop} {TA : World → Nat → Nat → Nat → Nat → Tl → Jl → Prop} (ok : JrnOK JA TA) {w : World} {P base m : Nat} {p : Pl} (h : IsD0 w P base p) (hf : FewM p m) (hm : m ≤ 80000) (he : mountE p = 0) :
    Calls Tryz.prog 14 #[.pointer (some ⟨P, 0, none⟩)] w fun e w' => (∃ J, e = .returned (.tuple #[.pointer (some ⟨J, 0, none⟩), .int .i64 0]) ∧ JA w' J P base ⟨mountP p, mountS p, false⟩) ∧ KeepT PD w w' ∧ Below base w w' := by
  refine (ok.mount w P base m p h hf hm).mono ?_
  rintro e w' ⟨h1, h2⟩
  rw [if_pos he] at h1
  exact ⟨h1, h2⟩
theorem jMount {JA : World → Nat → Nat → Nat → Jl → Prop} {TA : World → Nat → Nat → Nat → Nat → Tl → Jl → Prop} (ok : JrnOK JA TA) {w : World} {P base m : Nat} {p : Pl} (h : IsD0 w P base p) (hf : FewM p m) (hm : m ≤ 80000) (he : mountE p = 0) :
    Calls Tryz.prog 14 #[.pointer (some ⟨P, 0, none⟩)] w fun e w' => (∃ J, e = .returned (.tuple #[.pointer (some ⟨J, 0, none⟩), .int .i64 0]) ∧ JA w' J P base ⟨mountP p, mountS p, false⟩) ∧ KP base w w' :=
  (jMountT ok h hf hm he).mono fun _ _ ⟨h1, h2, h3⟩ => ⟨h1, KP.ofPD h2 h3⟩
theorem jMountNo {JA : World → Nat → Nat → Nat → Jl → Prop} {TA : World → Nat → Nat → Nat → Nat → Tl → Jl → Prop} (ok : JrnOK JA TA) {w : World} {P base m : Nat} {p : Pl} (h : IsD0 w P base p) (hf : FewM p m) (hm : m ≤ 80000) (he : ¬ mountE p = 0) :
    Calls Tryz.prog 14 #[.pointer (some ⟨P, 0, none⟩)] w fun e w' => (e = .returned (.tuple #[.pointer none, .int .i64 (mountE p)]) ∧ IsD0 w' P base (mountP p)) ∧ KP base w w' := by
  refine (ok.mount w P base m p h hf hm).mono ?_
  rintro e w' ⟨h1, h2, h3⟩
  rw [if_neg he] at h1
  exact ⟨h1, KP.ofPD h2 h3⟩
theorem sec12 (w : World) : Calls Tryz.prog 50 #[.int .u8 1, .int .u8 2] w fun e w' => ∃ v, e = .returned v ∧ OwnB w' w.heap.size v (secL 1 2) ∧ Below w.heap.size w w' := lawSector9 1 2 w
theorem sec34 (w : World) : Calls Tryz.prog 50 #[.int .u8 3, .int .u8 4] w fun e w' => ∃ v, e = .returned v ∧ OwnB w' w.heap.size v (secL 3 4) ∧ Below w.heap.size w w' := lawSector9 3 4 w

end Go.Proofs.YtdeoankmmolebaaGreat
namespace Go.Proofs.YtdeoankmmolebaaGreat
open Go.RowKit

theorem IsRk.cells {X : Nat → Prop} {w : World} {D base m : Nat} {p : Pl} (h : IsRk X w D base m p) : ∃ va vcap, w.cell? ⟨D, 2, none⟩ = some (.slice va p.ca.length vcap) ∧ w.cell? ⟨D, 3, none⟩ = some (.bool p.off) := by
  obtain ⟨r, vS, vC, a, rfl, _⟩ := h
  obtain ⟨va, vcap, hv, _⟩ := a.ownC.form
  refine ⟨va, vcap, (a.blk.cell 2).trans ?_, a.blk.cell 3⟩
  have : (plOf r).ca.length = r.C.length := by simp [plOf]
  rw [this, ← hv]; rfl
theorem dkSize {w : World} {P base : Nat} {p : Pl} (h : IsD0 w P base p) : Calls Tryz.prog 38 #[.pointer (some ⟨P, 0, none⟩)] w fun e w' => e = .returned (.int .i64 (p.n : Int)) ∧ w' = w := by
  obtain ⟨S, vC, arm, h⟩ := h
  exact codSize P S p.n w (h.blk.cell 0)
theorem dkStable {w : World} {P base : Nat} {p : Pl} (h : IsD0 w P base p) (hf : FewP p) (i : Int) : Calls Tryz.prog 23 #[.pointer (some ⟨P, 0, none⟩), .int .i64 i] w fun e w' => (∃ v, e = .returned (.tuple #[v, .int .i64 (p.stE i)]) ∧ IsV w' v (p.stB i)) ∧ Below w.heap.size w w' :=
  (codStable _ P base p i w h hf).mono fun _ _ ⟨⟨a, c, he, hb, _⟩, hbel⟩ => ⟨⟨_, he, ⟨a, c, rfl, hb⟩⟩, hbel⟩

end Go.Proofs.YtdeoankmmolebaaGreat
namespace Go.Proofs.YtdeoankmmolebaaGreat
open Go.RowKit

def imgTo (p : Pl) (q : Nat) : List UInt8 := (List.range (q - 49)).flatMap fun i => p.st (49 + i)
theorem imgTo_succ (p : Pl) (q : Nat) (h : 49 ≤ q) : imgTo p (q + 1) = imgTo p q ++ p.st q := by
  unfold imgTo
  have e : q + 1 - 49 = (q - 49) + 1 := by omega
  have e2 : 49 + (q - 49) = q := by omega
  rw [e, List.range_succ, List.flatMap_append, List.flatMap_singleton, e2]
theorem imgTo_length (p : Pl) (hp : ∀ i, (p.st i).length = 512) : ∀ k, (imgTo p (49 + k)).length = 512 * k := by
  intro k
  induction k with
  | zero => rfl
  | succ k ih => rw [show 49 + (k + 1) = (49 + k) + 1 by omega, imgTo_succ _ _ (by omega), List.length_append, ih, hp]; omega
theorem imgTo_len (p : Pl) (hp : ∀ i, (p.st i).length = 512) (q : Nat) (h : 49 ≤ q) : (imgTo p q).length = 512 * (q - 49) := by
  have := imgTo_length p hp (q - 49)
  rw [show 49 + (q - 49) = q by omega] at this
  exact this

end Go.Proofs.YtdeoankmmolebaaGreat
namespace Go.Proofs.YtdeoankmmolebaaGreat
open Go.RowKit

/-- what nil ones say -/
structure JrnNil : Prop where
  jread : ∀ (w : World) (i : Int), Calls Tryz.prog 44 #[.pointer none, .int .i64 i] w fun e w' => (∃ v, e = .returned (.tuple #[v, .int .i64 2])) ∧ Below w.heap.size w w'
  tread : ∀ (w : World) (i : Int), Calls Tryz.prog 63 #[.pointer none, .int .i64 i] w fun e w' => (∃ v, e = .returned (.tuple #[v, .int .i64 2])) ∧ Below w.heap.size w w'
  mount : ∀ (w : World), Calls Tryz.prog 14 #[.pointer none] w fun e w' => (∃ v, e = .returned (.tuple #[v, .int .i64 2])) ∧ Below w.heap.size w w'
  size : ∀ (w : World), Calls Tryz.prog 46 #[.pointer none] w fun e w' => e = .returned (.int .i64 0) ∧ Below w.heap.size w w'
  begin_ : ∀ (w : World), Calls Tryz.prog 45 #[.pointer none] w fun e w' => e = .returned (.pointer none) ∧ Below w.heap.size w w'
  write : ∀ (w : World) (i : Int) (ba : Option Addr) (bn bc : Nat), Calls Tryz.prog 61 #[.pointer none, .int .i64 i, .slice ba bn bc] w fun e w' => e = .returned (.int .i64 2) ∧ Below w.heap.size w w'
  len : ∀ (w : World), Calls Tryz.prog 55 #[.pointer none] w fun e w' => e = .returned (.int .i64 0) ∧ Below w.heap.size w w'
  commit : ∀ (w : World), Calls Tryz.prog 64 #[.pointer none] w fun e w' => e = .returned (.int .i64 2) ∧ Below w.heap.size w w'

theorem jr_in {i : Int} (h : 49 ≤ i ∧ i < 64) : jrE (Pl.new 64) i = 0 := by
  have h1 : areaI 64 i = true := decide_eq_true h
  have h2 : inR 64 i = true := decide_eq_true ⟨by omega, by show i < ((64 : Nat) : Int); omega⟩
  unfold jrE Pl.rdE Pl.stE
  simp [Pl.new, h1, h2]
theorem jr_out {i : Int} (h : ¬ (49 ≤ i ∧ i < 64)) : jrE (Pl.new 64) i = 50 := by
  have h1 : areaI 64 i = false := decide_eq_false h
  unfold jrE
  simp [Pl.new, h1]
theorem wr0_out {i : Int} (b : List UInt8) (h : ¬ (49 ≤ i ∧ i < 64)) : Tl.wrE ⟨[], false⟩ aj0 i b = 50 := by
  have h1 : areaI 64 i = false := decide_eq_false h
  unfold Tl.wrE
  simp [aj0, Pl.new, h1]
theorem wr0_arg {i : Int} (b : List UInt8) (h : 49 ≤ i ∧ i < 64) (hb : ¬ b.length = 512) : Tl.wrE ⟨[], false⟩ aj0 i b = 1 := by
  have h1 : areaI 64 i = true := decide_eq_true h
  unfold Tl.wrE
  simp [aj0, Pl.new, h1, hb]
theorem wr0_ok {i : Int} (b : List UInt8) (h : 49 ≤ i ∧ i < 64) (hb : b.length = 512) : Tl.wrE ⟨[], false⟩ aj0 i b = 0 := by
  have h1 : areaI 64 i = true := decide_eq_true h
  unfold Tl.wrE
  simp [aj0, Pl.new, h1, hb]

end Go.Proofs.YtdeoankmmolebaaGreat
namespace Go.Proofs.YtdeoankmmolebaaGreat
open Go.RowKit

theorem jrnOK : JrnOK JAt TAx where
  disk := fun h => h.d
  toJ := fun ⟨_, _, h⟩ => h.ja
  turn := fun h hk hd => h.turn hk hd
  keepJ := fun h hk => h.keep hk
  keepT := fun ⟨M, tr, h⟩ hk => ⟨M, tr, h.keep hk⟩
  mount := fun w P base m p h hf hm => codMount P base m p w h hf hm
  begin_ := fun w J P base m j h _ _ => (codBegin w J P base j h h.d.low).mono fun _ _ ⟨⟨T, M, h1, h2⟩, h3⟩ => ⟨⟨T, h1, M, false, h2⟩, KP.of_below h3 h.d.low⟩
  write := fun w T J P base m t j i ba bc b ⟨M, tr, h⟩ hl hf _ h0 h1 _ hB => codTWrite w T J P base t j M tr i ba bc b h hl hf.n h0 h1 (hB w (KeepO.refl _ _) (Below.refl _ _))
  read := fun w T J P base m t j i ⟨M, tr, h⟩ _ hf hm h0 h1 ho => (codTRead w T J P base t j M tr i h (hf.few (by omega)) ho h0 h1).mono fun _ _ ⟨h2, h3⟩ => ⟨h2, ⟨M, tr, h.on h3⟩, KP.of_below h3 h.ja.d.low⟩
  len := fun w T J P base t j ⟨M, tr, h⟩ _ => (codLen w T J P base t j M tr h).mono fun _ _ ⟨h1, h2⟩ => ⟨h1, by rw [h2]; exact ⟨M, tr, h⟩, by rw [h2]; exact KP.refl _ _⟩
  commit := fun w T J P base m t j h hl hf hm _ => codCommit w T J P base m t j h hf hm hl
  size := fun w J P base j h => (codJSize w J P base j h).mono fun _ _ ⟨h1, h2⟩ => ⟨h1, by rw [h2]; exact Below.refl _ _⟩
  jread := fun w J P base m j i h hf hm _ _ ho => codJRead w J P base j i h (hf.few (by omega)) ho

theorem nilJRead (w : World) (i : Int) : Calls Tryz.prog 44 #[.pointer none, .int .i64 i] w fun e w' => (∃ v, e = .returned (.tuple #[v, .int .i64 2])) ∧ Below w.heap.size w w' := by
  go_enter Tryz.func44, Tryz.ntmps44
  go_wp2_with fail
  go_ret2
  exact ⟨⟨_, rfl⟩, Below.refl _ _⟩
theorem nilTRead (w : World) (i : Int) : Calls Tryz.prog 63 #[.pointer none, .int .i64 i] w fun e w' => (∃ v, e = .returned (.tuple #[v, .int .i64 2])) ∧ Below w.heap.size w w' := by
  go_enter Tryz.func63, Tryz.ntmps63
  go_wp2_with fail
  go_ret2
  exact ⟨⟨_, rfl⟩, Below.refl _ _⟩
theorem nilMount (w : World) : Calls Tryz.prog 14 #[.pointer none] w fun e w' => (∃ v, e = .returned (.tuple #[v, .int .i64 2])) ∧ Below w.heap.size w w' := by
  go_enter Tryz.func14, Tryz.ntmps14
  go_wp2_with fail
  go_ret2
  exact ⟨⟨_, rfl⟩, Below.refl _ _⟩
theorem nilJSize (w : World) : Calls Tryz.prog 46 #[.pointer none] w fun e w' => e = .returned (.int .i64 0) ∧ Below w.heap.size w w' := by
  go_enter Tryz.func46, Tryz.ntmps46
  go_wp2_with fail
  go_ret
  exact ⟨rfl, Below.refl _ _⟩
theorem nilBegin (w : World) : Calls Tryz.prog 45 #[.pointer none] w fun e w' => e = .returned (.pointer none) ∧ Below w.heap.size w w' := by
  go_enter Tryz.func45, Tryz.ntmps45
  go_wp2_with fail
  go_ret
  exact ⟨rfl, Below.refl _ _⟩
theorem nilTWrite (w : World) (i : Int) (ba : Option Addr) (bn bc : Nat) : Calls Tryz.prog 61 #[.pointer none, .int .i64 i, .slice ba bn bc] w fun e w' => e = .returned (.int .i64 2) ∧ Below w.heap.size w w' := by
  go_enter Tryz.func61, Tryz.ntmps61
  go_wp2_with fail
  go_ret
  exact ⟨rfl, Below.refl _ _⟩
theorem nilLen (w : World) : Calls Tryz.prog 55 #[.pointer none] w fun e w' => e = .returned (.int .i64 0) ∧ Below w.heap.size w w' := by
  go_enter Tryz.func55, Tryz.ntmps55
  go_wp2_with fail
  go_ret
  exact ⟨rfl, Below.refl _ _⟩
theorem nilCommit (w : World) : Calls Tryz.prog 64 #[.pointer none] w fun e w' => e = .returned (.int .i64 2) ∧ Below w.heap.size w w' := by
  have hb : Hid (Below w.heap.size w (w.alloc (.cells #[.pointer none] 99))) := (Below.refl _ w).alloc (Nat.le_refl _) _
  go_enter Tryz.func64, Tryz.ntmps64
  go_wp2_with fail
  go_ret
  exact ⟨rfl, hb.out⟩
theorem jrnNil : JrnNil where
  jread := nilJRead
  tread := nilTRead
  mount := nilMount
  size := nilJSize
  begin_ := nilBegin
  write := nilTWrite
  len := nilLen
  commit := nilCommit
end Go.Proofs.YtdeoankmmolebaaGreat
namespace Go.Proofs.YtdeoankmmolebaaGreat
open Go.RowKit

theorem IsRk.keepO {X : Nat → Prop} {w w' : World} {D base m : Nat} {p : Pl} (h : IsRk X w D base m p) {us : List TypeId} (hk : KeepO us w w') (h1 : 82 ∈ us) (h2 : 98 ∈ us) (h3 : 5 ∈ us) : IsRk X w' D base m p := by
  obtain ⟨r, vS, vC, a, b, c, d, e, f⟩ := h
  exact ⟨r, vS, vC, a.keepO hk h1 h2 h3, b, c, d, e, fun k hx => Nat.lt_of_lt_of_le (f k hx) hk.size⟩
theorem steps_51 : ∀ (l : Qs) (p : Pl), (∀ g ∈ l, g.1 < p.n ∧ g.2.length = 512) → stepsE p l = 0 ∨ stepsE p l = 51 := by
  intro l
  induction l with
  | nil =>
    intro p _
    rw [stepsE, Pl.flE]
    split
    · exact .inr rfl
    · exact .inl rfl
  | cons g l ih =>
    intro p hg
    rw [stepsE]
    split
    · exact ih _ (fun x hx => by rw [write_n]; exact hg x (by simp [hx]))
    · rename_i hz
      right
      have hg0 := hg g (by simp)
      unfold Pl.wrE at hz ⊢
      rw [inR_nat hg0.1] at hz ⊢
      by_cases ho : p.off = true
      · rw [if_pos ho]
      · rw [if_neg ho] at hz ⊢
        simp only [Bool.true_eq_false, if_false, hg0.2, ne_eq, not_true_eq_false] at hz ⊢
        split at hz
        · rename_i ha; rw [if_pos ha]
        · exact absurd rfl hz
theorem mount_51 {p : Pl} {m : Nat} (hp : FewM p m) (h : mountE p ≠ 0) : mountE p = 51 := by
  cases ho : p.off with
  | true =>
    have e : p.rdE 0 = 51 := by unfold Pl.rdE; rw [ho]; rfl
    unfold mountE
    rw [if_pos (by rw [e]; decide), e]
  | false =>
    unfold mountE at h ⊢
    have h0 := rdE_zero hp ho
    rw [if_neg (by simp [h0])] at h ⊢
    cases hh : heldJ p with
    | none => rw [hh] at h; exact absurd rfl h
    | some q =>
      obtain ⟨s, l⟩ := q
      rw [hh] at h
      have h1 := heldJ_len hh
      have h2 := heldJ_512 hp ho hh
      rcases steps_51 l p (fun g hg => ⟨(h1.2 g hg).2, h2.1 g hg⟩) with h3 | h3
      · exact absurd h3 h
      · exact h3
/-- what a mount of both gives -/
def MtBoth (JA : World → Nat → Nat → Nat → Jl → Prop) (w0 w : World) (P D base : Nat) (p : Pl) (vj vk : Value) : Prop :=
  if mountE p = 0 then ∃ J K, vj = .pointer (some ⟨J, 0, none⟩) ∧ vk = .pointer (some ⟨K, 0, none⟩) ∧ JA w J P base ⟨mountP p, mountS p, false⟩ ∧ RjAt w K D (mountS p) false ∧ w0.heap.size ≤ K
  else vj = .pointer none ∧ vk = .pointer none ∧ IsD0 w P base (mountP p)

end Go.Proofs.YtdeoankmmolebaaGreat
namespace Go.Proofs.YtdeoankmmolebaaGreat
open Go.RowKit

theorem OwnG.empty (w : World) (base : Nat) (hb : base ≤ w.heap.size) : OwnG 98 (w.alloc (.cells #[] 98)) base (.slice (some ⟨w.heap.size, 0, none⟩) 0 0) [] :=
  World.ownsRow_made w #[] 0 hb (Nat.zero_le _) rfl
/-- writes that can be appended -/
structure SrcG (w : World) (sa : Option Addr) (m c : Nat) (l : List Wg) : Prop where
  len : l.length = m
  nil : sa = none → m = 0 ∧ c = 0
  cells : ∀ ad, sa = some ad → ∀ j u, (wgs l)[j]? = some u → w.cell? (ad.add j) = some u
def cutG (a : Option Addr) (cap k : Nat) : Option Addr := if cap = k then a else a.map (·.add (k * 2))
theorem wgs_take (l : List Wg) (k : Nat) : wgs (l.take k) = (wgs l).take (k * 2) := by
  induction k generalizing l with
  | zero => rfl
  | succ k ih =>
    cases l with
    | nil => rfl
    | cons g l => rw [List.take_succ_cons, wgs, wgs, ih, show (k + 1) * 2 = k * 2 + 1 + 1 by omega, List.take_succ_cons, List.take_succ_cons]
theorem wgs_drop (l : List Wg) (k : Nat) : wgs (l.drop k) = (wgs l).drop (k * 2) := by
  induction k generalizing l with
  | zero => rfl
  | succ k ih =>
    cases l with
    | nil => rfl
    | cons g l => rw [List.drop_succ_cons, wgs, ih, show (k + 1) * 2 = k * 2 + 1 + 1 by omega, List.drop_succ_cons, List.drop_succ_cons]
theorem OwnG.src {w : World} {base : Nat} {a : Option Addr} {n cap : Nat} {ls : List Wg} (h : OwnG 98 w base (.slice a n cap) ls) (hn : n = ls.length) (k : Nat) (hk : k ≤ n) :
    SrcG w a k cap (ls.take k) ∧ SrcG w (cutG a cap k) (n - k) (cap - k) (ls.drop k) := by
  subst hn
  rcases h.2 with ⟨h1, h2⟩ | ⟨g, cap', cur, h3, h4, h5, hle, h7⟩
  · injection h1 with e1 e2 e3
    subst e1 e3
    have hk0 : k = 0 := by omega
    subst hk0
    have hl : ls = [] := List.eq_nil_of_length_eq_zero e2
    subst hl
    exact ⟨⟨rfl, fun _ => ⟨rfl, rfl⟩, fun ad e => by cases e⟩, ⟨rfl, fun _ => ⟨rfl, rfl⟩, fun ad e => by cases e⟩⟩
  · injection h3 with e1 e2 e3
    subst e1 e3
    refine ⟨⟨by rw [List.length_take]; omega, (fun e => by cases e), fun ad e j u hu => ?_⟩, ⟨by rw [List.length_drop], fun e => ?_, fun ad e j u hu => ?_⟩⟩
    · obtain rfl := Option.some.inj e
      rw [wgs_take] at hu
      have hj : j < k * 2 := by
        have := (List.getElem?_eq_some_iff.1 hu).1
        rw [List.length_take] at this; omega
      rw [List.getElem?_take_of_lt hj] at hu
      exact World.ownsRow.cells h (g := g) rfl j u hu
    · unfold cutG at e
      split at e
      · cases e
      · cases e
    · rw [wgs_drop, List.getElem?_drop] at hu
      unfold cutG at e
      split at e
      · rename_i hc
        have := (List.getElem?_eq_some_iff.1 hu).1
        rw [wgs_length] at this
        omega
      · have e2 := Option.some.inj e
        rw [← e2]
        show w.cell? (((⟨g, 0, none⟩ : Addr).add (k * 2)).add j) = some u
        rw [Addr.add_lit, Addr.add_lit]
        have := World.ownsRow.cells h (g := g) rfl (k * 2 + j) u hu
        rw [Addr.add_lit] at this
        rw [show 0 + k * 2 + j = 0 + (k * 2 + j) by omega]
        exact this
theorem SrcG.below {w w' : World} {sa : Option Addr} {m c : Nat} {l : List Wg} (h : SrcG w sa m c l) (hb : Below w.heap.size w w') : SrcG w' sa m c l :=
  ⟨h.len, h.nil, fun ad e j u hu => by have := h.cells ad e j u hu; exact (hb.cell (cell_lt this)).trans this⟩
theorem wgs_one (l : List Wg) : ∀ u ∈ wgs l, u.oneCell' = true := by
  induction l with
  | nil => intro u hu; cases hu
  | cons g l ih =>
    intro u hu
    rcases List.mem_cons.1 hu with rfl | hu
    · rfl
    · rcases List.mem_cons.1 hu with rfl | hu
      · rfl
      · exact ih u hu
/-- append(l, news...) -/
theorem step_appGs {ops : Array Oper} {o : Oper} {a : Act} {K : Act → World → Prop} {Q : Exit → Act → World → Prop} {E : Prop} (w : World) (hgd : o.guard = none) (s x : Operand)
    (ho : o.op = .call { callee := .builtin .append, args := #[s, x], argTypes := #[80, 80] }) (base : Nat)
    (v : Value) (l : List Wg) (hs : a.eval s = v) (hown : OwnG 98 w base v l) (sa : Option Addr) (m c : Nat) (news : List Wg) (hx : a.eval x = .slice sa m c) (hsrc : SrcG w sa m c news)
    (hbytes : (l.length + m) * 32 ≤ 140737488355328) (hbase : base ≤ w.heap.size) (d : Tmp) (hd : o.dst = some d)
    (h : ∀ v' w', OwnG 98 w' base v' (l ++ news) → w.grownBy w' v.ownBlock → K (a.put (some d) v') w') :
    if Region.wanted o (yielded ops a.tmps) = true then Oper.wp Tryz.prog o a w K Q else E := by
  have hw : Region.wanted o (yielded ops a.tmps) = true := by simp [Region.wanted, hgd]
  rw [if_pos hw]
  obtain ⟨i0, hi, hz0, hz1, hz2⟩ := info_parts infoW9
  cases sa with
  | none =>
    obtain ⟨hm, hc⟩ := hsrc.nil rfl
    have hn : news = [] := List.eq_nil_of_length_eq_zero (by rw [hsrc.len, hm])
    subst hn hm hc
    have hrun := run_append_owned_none (P := Tryz.prog) (w := w) base 80 o.type 98 i0 2 Tryz.underlying80 hi v l.length (wgs l) hown
    rw [← hd] at h
    unfold Oper.wp
    simp [execOp, ho, resolve, invoke, builtin, hs, hx, hrun, Result.andThen]
    exact h v w (by rw [List.append_nil]; exact hown) (World.grownBy.refl _ _)
  | some ad =>
    refine wp_append_own w s x 80 ho base 98 i0 wgZ 2 32 Tryz.underlying80 hi hz0 hz1 hz2 rfl (by omega) v l.length (wgs l) hs hown ad m c (wgs news) hx (by rw [wgs_length, hsrc.len]) (hsrc.cells ad rfl) (wgs_one news) (by unfold maxLen; omega) hbytes hbase ?_
    intro v' w' h1 h2 _
    rw [hd]
    exact h v' w' (by unfold OwnG; rw [wgs_append, List.length_append, hsrc.len]; exact h1) h2
/-- the two cuts, as the walk meets them -/
theorem slGh (a : Option Addr) (n cap k : Nat) (hk : k ≤ cap) (ha : a = none ∨ ∃ g, a = some ⟨g, 0, none⟩) (w : World) : (Instr.slice 80 (.slice a n cap) none (some (.int .i64 (k : Int))) none).run Tryz.prog w = .ok (.slice a k cap) w := by
  have he : Tryz.prog.elem 80 = 98 := by kernel_rfl
  have hz : (sizeOf 98).run Tryz.prog w = .ok 2 w := by
    obtain ⟨i0, hi, hz0, hz1, hz2⟩ := info_parts infoW9
    simp [sizeOf, typeInfo, hi, hz1]
  rw [run_slice_h w 80 _ n cap (by rw [he]; exact Tryz.underlying80) .i64 (k : Int) (by omega) (by omega), he, hz]
  simp only [Result.andThen, sliced, Int.toNat_natCast, Nat.zero_mul, Nat.sub_zero]
  rcases ha with rfl | ⟨g, rfl⟩
  · split <;> rfl
  · split <;> simp [Addr.add_lit]
theorem slGl (a : Option Addr) (n cap k : Nat) (hk : k ≤ n) (w : World) : (Instr.slice 80 (.slice a n cap) (some (.int .i64 (k : Int))) none none).run Tryz.prog w = .ok (.slice (cutG a cap k) (n - k) (cap - k)) w := by
  have he : Tryz.prog.elem 80 = 98 := by kernel_rfl
  have hz : (sizeOf 98).run Tryz.prog w = .ok 2 w := by
    obtain ⟨i0, hi, hz0, hz1, hz2⟩ := info_parts infoW9
    simp [sizeOf, typeInfo, hi, hz1]
  rw [run_slice_l w 80 _ n cap (by rw [he]; exact Tryz.underlying80) .i64 (k : Int) (by omega) (by omega), he, hz]
  simp only [Result.andThen, sliced, Int.toNat_natCast, cutG]
end Go.Proofs.YtdeoankmmolebaaGreat
namespace Go.Proofs.YtdeoankmmolebaaGreat
open Go.RowKit

/-- how many are ahead of a sector -/
def posG : List Wg → Nat → Nat
  | [], _ => 0
  | g :: l, i => if g.at_ < i then posG l i + 1 else 0
theorem posG_le (l : List Wg) (i : Nat) : posG l i ≤ l.length := by
  induction l with
  | nil => exact Nat.le_refl _
  | cons g l ih => rw [posG, List.length_cons]; split <;> omega
theorem posG_lt (l : List Wg) (i j : Nat) (h : j < posG l i) : (nthG l j).at_ < i := by
  induction l generalizing j with
  | nil => cases h
  | cons g l ih =>
    rw [posG] at h
    split at h
    · rename_i hg
      cases j with
      | zero => exact hg
      | succ j => exact ih j (by omega)
    · cases h
theorem posG_at (l : List Wg) (i : Nat) (h : posG l i < l.length) : ¬ (nthG l (posG l i)).at_ < i := by
  induction l with
  | nil => cases h
  | cons g l ih =>
    by_cases hg : g.at_ < i
    · have e : posG (g :: l) i = posG l i + 1 := by rw [posG, if_pos hg]
      rw [e] at h ⊢
      exact ih (by simpa using h)
    · have e : posG (g :: l) i = 0 := by rw [posG, if_neg hg]
      rw [e]; exact hg
theorem posG_uniq (l : List Wg) (i k : Nat) (hk : k ≤ l.length) (h1 : ∀ j, j < k → (nthG l j).at_ < i) (h2 : k = l.length ∨ ¬ (nthG l k).at_ < i) : k = posG l i := by
  rcases Nat.lt_trichotomy k (posG l i) with h | h | h
  · rcases h2 with h2 | h2
    · have := posG_le l i; omega
    · exact absurd (posG_lt l i k h) h2
  · exact h
  · have := posG_at l i (by omega)
    exact absurd (h1 _ h) this
/-- what comes of it, where that sector is there, and where it isn't -/
theorem put_hit (l : List Wg) (i : Nat) (g : Wg) (hg : g.at_ = i) (h : posG l i < l.length) (he : (nthG l (posG l i)).at_ = i) : hitQ (l.map plW) i = true ∧ putQ (l.map plW) i g.b = (l.set (posG l i) g).map plW := by
  induction l with
  | nil => cases h
  | cons x l ih =>
    rw [List.map_cons, hitQ, putQ]
    by_cases hx : x.at_ < i
    · have e : posG (x :: l) i = posG l i + 1 := by rw [posG, if_pos hx]
      rw [e] at h he ⊢
      have h3 : (plW x).1 < i := hx
      obtain ⟨h1, h2⟩ := ih (by simpa using h) he
      rw [if_pos h3, if_pos h3, h1, h2]
      exact ⟨rfl, rfl⟩
    · have e : posG (x :: l) i = 0 := by rw [posG, if_neg hx]
      rw [e] at he ⊢
      have h3 : ¬ (plW x).1 < i := hx
      have h4 : (plW x).1 = i := he
      rw [if_neg h3, if_neg h3, if_pos h4]
      refine ⟨by simpa using h4, ?_⟩
      rw [List.set_cons_zero, List.map_cons]
      congr 1
      rw [← hg]; rfl
theorem put_miss (l : List Wg) (i : Nat) (g : Wg) (hg : g.at_ = i) (h : posG l i = l.length ∨ ¬ (nthG l (posG l i)).at_ = i) : hitQ (l.map plW) i = false ∧ putQ (l.map plW) i g.b = (l.take (posG l i) ++ [g] ++ l.drop (posG l i)).map plW := by
  induction l with
  | nil => exact ⟨rfl, by rw [← hg]; rfl⟩
  | cons x l ih =>
    rw [List.map_cons, hitQ, putQ]
    by_cases hx : x.at_ < i
    · have e : posG (x :: l) i = posG l i + 1 := by rw [posG, if_pos hx]
      rw [e] at h ⊢
      have h3 : (plW x).1 < i := hx
      obtain ⟨h1, h2⟩ := ih (by
        rcases h with h | h
        · left; simpa using h
        · right; exact h)
      rw [if_pos h3, if_pos h3, h1, h2]
      exact ⟨rfl, rfl⟩
    · have e : posG (x :: l) i = 0 := by rw [posG, if_neg hx]
      rw [e] at h ⊢
      have h3 : ¬ (plW x).1 < i := hx
      have h4 : ¬ (plW x).1 = i := by
        rcases h with h | h
        · simp at h
        · exact h
      rw [if_neg h3, if_neg h3, if_neg h4]
      refine ⟨by simpa using h4, ?_⟩
      rw [List.take_zero, List.drop_zero, List.nil_append, List.map_append, List.map_cons, List.map_cons, List.map_nil, ← hg]; rfl
/-- one of the row's writes is another one -/
theorem wgs_set (l : List Wg) (k : Nat) (g : Wg) (hk : k < l.length) : ((wgs l).set (k * 2) (.int .i64 (g.at_ : Int))).set (k * 2 + 1) (.slice g.ad g.b.length g.cap) = wgs (l.set k g) := by
  induction l generalizing k with
  | nil => cases hk
  | cons x l ih =>
    cases k with
    | zero => rfl
    | succ k =>
      rw [List.set_cons_succ, wgs, wgs, show (k + 1) * 2 = k * 2 + 1 + 1 by omega, List.set_cons_succ, List.set_cons_succ, show k * 2 + 2 = k * 2 + 1 + 1 from rfl, List.set_cons_succ, List.set_cons_succ, ih k (by simpa using hk)]
theorem OwnG.row {w : World} {base g cap n : Nat} {l : List Wg} (h : OwnG 98 w base (.slice (some ⟨g, 0, none⟩) n cap) l) : ∃ cur : Array Value, w.heap[g]? = some (.cells cur 98 (0, 0)) := by
  rcases h.2 with ⟨h1, _⟩ | ⟨g', _, cur, h1, _, h2, _⟩
  · cases h1
  · injection h1 with e1
    have e2 := Option.some.inj e1
    injection e2 with e3
    subst e3
    exact ⟨cur, h2⟩
theorem OwnG.setOne {w : World} {base g0 cap n : Nat} {l : List Wg} (h : OwnG 98 w base (.slice (some ⟨g0, 0, none⟩) n cap) l) (hn : n = l.length) (k : Nat) (hk : k < n) (g : Wg) :
    OwnG 98 ((w.setCell ⟨g0, k * 2, none⟩ (.int .i64 (g.at_ : Int))).setCell ⟨g0, k * 2 + 1, none⟩ (.slice g.ad g.b.length g.cap)) base (.slice (some ⟨g0, 0, none⟩) n cap) (l.set k g) := by
  subst hn
  have h1 := (World.ownsRow.stored h (k * 2) (.int .i64 (g.at_ : Int))).1
  have h2 := (World.ownsRow.stored h1 (k * 2 + 1) (.slice g.ad g.b.length g.cap)).1
  rw [wgs_set l k g hk] at h2
  unfold OwnG
  rw [List.length_set]
  exact h2
end Go.Proofs.YtdeoankmmolebaaGreat
