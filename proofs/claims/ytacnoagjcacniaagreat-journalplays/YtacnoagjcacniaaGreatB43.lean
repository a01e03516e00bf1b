/- The statements' alive, over any journal that keeps the document. · The statements' area and mount, over any journal that keeps the document. · The statements' image of a disk's area. · What nil journals and transactions say; reads and writes at a new disk. · The program's journal keeps the document. -/
import Derived.Test.YtacnoagjcacniaaGreatB42
import Derived.Deep.RegionHeld3
import Derived.Test.YtacnoagjcacniaaGreatB38
namespace Go.Proofs.YtacnoagjcacniaaGreat
open Go.RowKit

/-- a commit while nothing is to go wrong -/
theorem commit_ok {t : Tl} {j : Jl} {m : Nat} (hp : FewM j.p m) (hg : Good j.p) (ho : t.over = false) (hd : j.dead = false) (hne : t.l ≠ []) (hl : t.l.length ≤ 48) (ha : ∀ g ∈ t.l, g.1 < j.p.n ∧ g.2.length = 512) :
    cmE t j = 0 ∧ ∃ q, cmJ t j = ⟨q, nxt j.seq, false⟩ ∧ Good q ∧ q.n = j.p.n ∧ q.ca = [] ∧ q.st = t.l.foldl Pl.put ([(0, sealJ (nxt j.seq) t.l)].foldl Pl.put ((j.p.ca ++ slotQ t.l).foldl Pl.put j.p.st)) := by
  have hnot : ¬ (t.over = true ∨ j.dead = true) := by rw [ho, hd]; simp
  have hn := hp.n0
  obtain ⟨a1, a2⟩ := steps_ok (slotQ t.l) j.p hg.off hg.arm (fun g hgl => by
    unfold slotQ at hgl
    obtain ⟨i, hi, rfl⟩ := List.mem_map.1 hgl
    have hi := List.mem_range.1 hi
    refine ⟨by show 1 + i < _; omega, ?_⟩
    show (t.l.getD i (0, [])).2.length = 512
    rw [List.getD_eq_getElem?_getD, List.getElem?_eq_getElem hi]
    exact (ha _ (List.getElem_mem hi)).2)
  obtain ⟨b1, b2⟩ := steps_ok [(0, sealJ (nxt j.seq) t.l)] (stepsP j.p (slotQ t.l)) (by rw [a2]) (by rw [a2]) (fun g hgl => by
    rw [List.mem_singleton.1 hgl, a2]
    exact ⟨by show 0 < j.p.n; omega, sealJ_length _ _ (by rw [preJ_length]; omega)⟩)
  obtain ⟨c1, c2⟩ := steps_ok t.l (stepsP (stepsP j.p (slotQ t.l)) [(0, sealJ (nxt j.seq) t.l)]) (by rw [b2]) (by rw [b2]) (fun g hgl => by
    have e : (stepsP (stepsP j.p (slotQ t.l)) [(0, sealJ (nxt j.seq) t.l)]).n = j.p.n := by rw [steps_n, steps_n]
    rw [e]; exact ha g hgl)
  have eA : cmA t j = (stepsP j.p (slotQ t.l), 0) := by unfold cmA; rw [a1]
  have eB : cmB t j = (stepsP (stepsP j.p (slotQ t.l)) [(0, sealJ (nxt j.seq) t.l)], 0) := by unfold cmB; rw [eA, if_pos rfl, b1]
  have eC : cmC t j = (stepsP (stepsP (stepsP j.p (slotQ t.l)) [(0, sealJ (nxt j.seq) t.l)]) t.l, 0) := by unfold cmC; rw [eB, if_pos rfl, c1]
  refine ⟨by unfold cmE; rw [if_neg hnot, if_neg hne, eC], _, by unfold cmJ; rw [if_neg hnot, if_neg hne, eC, if_pos rfl, hd], ?_, by rw [steps_n, steps_n, steps_n], by rw [c2], ?_⟩
  · rw [c2]; exact ⟨rfl, rfl⟩
  · rw [c2, b2, a2]; rfl

def aj0 : Jl := ⟨Pl.new 64, 0, false⟩
def at1 : Tl := ⟨[(50, secL 1 2)], false⟩
def at2 : Tl := ⟨[(50, secL 1 2), (60, secL 3 4)], false⟩
theorem aj_mount : mountE (Pl.new 64) = 0 ∧ mountP (Pl.new 64) = Pl.new 64 ∧ mountS (Pl.new 64) = 0 := by
  obtain ⟨h1, _, h2⟩ := mount_good (few_mnew 64 (by omega) (by omega)) (good_new 64)
  refine ⟨h1, ?_, by unfold mountS; rw [held_new]⟩
  rcases h2 with h2 | ⟨s, l, h2, _⟩
  · exact h2.2
  · rw [held_new] at h2; cases h2
theorem at_1 : Tl.wrE ⟨[], false⟩ aj0 50 (secL 1 2) = 0 ∧ Tl.write ⟨[], false⟩ aj0 50 (secL 1 2) = at1 := by
  have h : Tl.wrE ⟨[], false⟩ aj0 50 (secL 1 2) = 0 := by
    unfold Tl.wrE
    rw [secL_len]
    rfl
  exact ⟨h, by unfold Tl.write; rw [if_pos h]; rfl⟩
theorem at_2 : at1.wrE aj0 60 (secL 3 4) = 0 ∧ at1.write aj0 60 (secL 3 4) = at2 := by
  have h : at1.wrE aj0 60 (secL 3 4) = 0 := by
    unfold Tl.wrE
    rw [secL_len]
    rfl
  exact ⟨h, by unfold Tl.write; rw [if_pos h]; rfl⟩
theorem at_3 : cmE at2 aj0 = 0 ∧ ∃ q, cmJ at2 aj0 = ⟨q, 1, false⟩ ∧ jrE q 60 = 0 ∧ jrB q 60 = secL 3 4 ∧ FewM q 100 ∧ q.off = false := by
  have hl : at2.l.length ≤ 48 := by decide
  have hf : FewM aj0.p 0 := few_mnew 64 (by omega) (by omega)
  obtain ⟨h1, q, h2, h3, h4, h5, h6⟩ := commit_ok (t := at2) (j := aj0) hf (good_new 64) rfl rfl (by simp [at2]) hl (fun g hg => by
    simp only [at2, List.mem_cons, List.not_mem_nil, or_false] at hg
    rcases hg with rfl | rfl
    · exact ⟨by decide, secL_len _ _⟩
    · exact ⟨by decide, secL_len _ _⟩)
  have hn : q.n = 64 := h4
  refine ⟨h1, q, h2, ?_, ?_, ?_⟩
  · unfold jrE Pl.rdE Pl.stE; rw [hn, h3.off]; rfl
  · unfold jrB Pl.rdB
    rw [hn, h3.off, h5]
    show q.st 60 = _
    rw [h6]
    simp only [at2, List.foldl_cons, List.foldl_nil]
    rfl
  · have := hf.commit hl (j := aj0)
    rw [h2] at this
    exact ⟨this, h3.off⟩
theorem jWrite {JA : World → Nat → Nat → Nat → Jl → Prop} {TA : World → Nat → Nat → Nat → Nat → Tl → Jl → Prop} (ok : JrnOK JA TA) {w : World} {T J P base base' m : Nat} {t : Tl} {j : Jl} {i : Int} {v : Value} {b : List UInt8} (h : TA w T J P base t j) (hl : t.l.length ≤ 48) (hf : FewM j.p m) (hm : m ≤ 80000) (h0 : -9223372036854775808 ≤ i) (h1 : i ≤ 9223372036854775807) (hb : b.length ≤ 140737488351232) (hv : OwnB w base' v b) :
    Calls Tryz.prog 15 #[.pointer (some ⟨T, 0, none⟩), .int .i64 i, v] w fun e w' => e = .returned (.int .i64 (t.wrE j i b)) ∧ TA w' T J P base (t.write j i b) j ∧ KP base w w' := by
  obtain ⟨ba, bc, rfl, _⟩ := hv.isB
  refine ok.write w T J P base m t j i ba bc b h hl hf hm h0 h1 hb (fun W hK _ => ?_)
  have hv2 : OwnB W _ _ _ := own_keepO hK hv (by decide)
  obtain ⟨ba', bc', e, h⟩ := hv2.isB
  injection e with e1 e2 e3
  subst e1 e3
  exact h
/-- a mount that goes through -/
theorem jMountT {JA : World → Nat → Nat → Nat → Jl → Prop} {TA : World → Nat → Nat → Nat → Nat → Tl → Jl → Prop} (ok : JrnOK JA TA) {w : World} {P base m : Nat} {p : Pl} (h : IsD0 w P base p) (hf : FewM p m) (hm : m ≤ 80000) (he : mountE p = 0) :
    Calls Tryz.prog 30 #[.pointer (some ⟨P, 0, none⟩)] w fun e w' => (∃ J, e = .returned (.tuple #[.pointer (some ⟨J, 0, none⟩), .int .i64 0]) ∧ JA w' J P base ⟨mountP p, mountS p, false⟩) ∧ KeepT PD w w' ∧ Below base w w' := by
  refine (ok.mount w P base m p h hf hm).mono ?_
  rintro e w' ⟨h1, h2⟩
  rw [if_pos he] at h1
  exact ⟨h1, h2⟩
theorem jMount {JA : World → Nat → Nat → Nat → Jl → Prop} {TA : World → Nat → Nat → Nat → Nat → Tl → Jl → Prop} (ok : JrnOK JA TA) {w : World} {P base m : Nat} {p : Pl} (h : IsD0 w P base p) (hf : FewM p m) (hm : m ≤ 80000) (he : mountE p = 0) :
    Calls Tryz.prog 30 #[.pointer (some ⟨P, 0, none⟩)] w fun e w' => (∃ J, e = .returned (.tuple #[.pointer (some ⟨J, 0, none⟩), .int .i64 0]) ∧ JA w' J P base ⟨mountP p, mountS p, false⟩) ∧ KP base w w' :=
  (jMountT ok h hf hm he).mono fun _ _ ⟨h1, h2, h3⟩ => ⟨h1, KP.ofPD h2 h3⟩
theorem jMountNo {JA : World → Nat → Nat → Nat → Jl → Prop} {TA : World → Nat → Nat → Nat → Nat → Tl → Jl → Prop} (ok : JrnOK JA TA) {w : World} {P base m : Nat} {p : Pl} (h : IsD0 w P base p) (hf : FewM p m) (hm : m ≤ 80000) (he : ¬ mountE p = 0) :
    Calls Tryz.prog 30 #[.pointer (some ⟨P, 0, none⟩)] w fun e w' => (e = .returned (.tuple #[.pointer none, .int .i64 (mountE p)]) ∧ IsD0 w' P base (mountP p)) ∧ KP base w w' := by
  refine (ok.mount w P base m p h hf hm).mono ?_
  rintro e w' ⟨h1, h2, h3⟩
  rw [if_neg he] at h1
  exact ⟨h1, KP.ofPD h2 h3⟩
theorem sec12 (w : World) : Calls Tryz.prog 16 #[.int .u8 1, .int .u8 2] w fun e w' => ∃ v, e = .returned v ∧ OwnB w' w.heap.size v (secL 1 2) ∧ Below w.heap.size w w' := lawSector9 1 2 w
theorem sec34 (w : World) : Calls Tryz.prog 16 #[.int .u8 3, .int .u8 4] w fun e w' => ∃ v, e = .returned v ∧ OwnB w' w.heap.size v (secL 3 4) ∧ Below w.heap.size w w' := lawSector9 3 4 w

set_option maxRecDepth 20000 in
set_option maxHeartbeats 4000000 in
theorem lawAlive10 {JA : World → Nat → Nat → Nat → Jl → Prop} {TA : World → Nat → Nat → Nat → Nat → Tl → Jl → Prop} (ok : JrnOK JA TA) (w : World) :
    Calls Tryz.prog 8 #[] w fun e w' => e = .returned (.bool true) ∧ Below w.heap.size w w' := by
  obtain ⟨base, hbase⟩ : ∃ base, base = w.heap.size := ⟨_, rfl⟩
  have HN : Calls Tryz.prog 9 #[.int .i64 64] w fun e w' => (∃ P, e = .returned (.tuple #[.pointer (some ⟨P, 0, none⟩), .int .i64 0]) ∧ IsD0 w' P base (Pl.new 64)) ∧ Below base w w' := by
    refine (codNew (fun _ => False) 64 w base (Nat.le_of_eq hbase) (fun _ h => h.elim)).mono ?_
    rintro e w' ⟨h1, h2⟩
    rw [if_pos (by omega)] at h1
    exact ⟨h1, by rw [hbase]; exact h2⟩
  have HBase := mkHid hbase
  rw [← hbase]
  clear hbase
  go_enter Tryz.func8, Tryz.ntmps8
  go_wp2_with fail
  refine HN.mono ?_
  rintro e x1 ⟨⟨P, rfl, hI1⟩, hb1⟩
  have HB1 := mkHid hb1
  have HM := jMount ok hI1 (few_mnew 64 (by omega) (by omega)) (by omega) aj_mount.1
  rw [aj_mount.2.1, aj_mount.2.2] at HM
  clear HN hI1 hb1
  go_wp2_with fail
  refine HM.mono ?_
  rintro e x2 ⟨⟨J, rfl, hJ2⟩, hk2⟩
  have HB2 := mkHid (HB1.out.trans hk2.b)
  have HBg := ok.begin_ x2 J P base 0 aj0 hJ2 (few_mnew 64 (by omega) (by omega)) (by omega)
  clear HM hJ2 hk2
  go_wp2_with fail
  refine HBg.mono ?_
  rintro e x3 ⟨⟨T, rfl, hT3⟩, hk3⟩
  have HB3 := mkHid (HB2.out.trans hk3.b)
  have HT3 := mkHid hT3
  clear HBg hT3 hk3
  go_wp2_with fail
  refine (sec12 _).mono ?_
  rintro e x4 ⟨v4, rfl, hv4, hb4⟩
  have BB3 : base ≤ x3.heap.size := Nat.le_trans (Nat.le_of_eq HBase.out) HB3.out.size
  have HB4 := mkHid (HB3.out.trans (hb4.mono BB3))
  have HW := jWrite ok (ok.keepT HT3.out (KeepT.of_below hb4)) (by show 0 ≤ 48; omega) (few_mnew 64 (by omega) (by omega)) (by omega) (i := 50) (by omega) (by omega) (by rw [secL_len]; omega) hv4
  have HW1 : Hid (Tl.wrE ⟨[], false⟩ aj0 50 (secL 1 2) = 0) := at_1.1
  rw [HW1.out, at_1.2] at HW
  clear hv4 hb4 BB3
  go_wp2_with fail
  refine HW.mono ?_
  rintro e x5 ⟨rfl, hT5, hk5⟩
  have HB5 := mkHid (HB4.out.trans hk5.b)
  have HT5 := mkHid hT5
  clear HW hT5 hk5
  go_wp2_with fail
  refine (sec34 _).mono ?_
  rintro e x6 ⟨v6, rfl, hv6, hb6⟩
  have BB5 : base ≤ x5.heap.size := Nat.le_trans (Nat.le_of_eq HBase.out) HB5.out.size
  have HB6 := mkHid (HB5.out.trans (hb6.mono BB5))
  have HW := jWrite ok (ok.keepT HT5.out (KeepT.of_below hb6)) (by show 1 ≤ 48; omega) (few_mnew 64 (by omega) (by omega)) (by omega) (i := 60) (by omega) (by omega) (by rw [secL_len]; omega) hv6
  rw [at_2.1, at_2.2] at HW
  clear hv6 hb6 BB5
  go_wp2_with fail
  refine HW.mono ?_
  rintro e x7 ⟨rfl, hT7, hk7⟩
  have HB7 := mkHid (HB6.out.trans hk7.b)
  have HL := ok.len x7 T J P base at2 aj0 hT7 (by show 2 ≤ 48; omega)
  have hl2 : (at2.l.length : Int) = 2 := rfl
  rw [hl2] at HL
  clear HW hT7 hk7 hl2
  go_wp2_with fail
  refine HL.mono ?_
  rintro e x8 ⟨rfl, hT8, hk8⟩
  have HB8 := mkHid (HB7.out.trans hk8.b)
  obtain ⟨hce, q, hcj, hqe, hqb, hqf, hqo⟩ := at_3
  have HC := ok.commit x8 T J P base 0 at2 aj0 hT8 (by show 2 ≤ 48; omega) (few_mnew 64 (by omega) (by omega)) (by omega) (by show 0 < _; omega)
  rw [hce, hcj] at HC
  clear HL hT8 hk8 hce hcj
  go_wp2_with fail
  refine HC.mono ?_
  rintro e x9 ⟨rfl, hT9, hk9⟩
  have HB9 := mkHid (HB8.out.trans hk9.b)
  have HR := ok.jread x9 J P base 100 _ 60 (ok.toJ hT9) hqf (by omega) (by omega) (by omega) hqo
  rw [hqe, hqb] at HR
  have HJ9 := mkHid (ok.toJ hT9)
  have BB9 : base ≤ x9.heap.size := Nat.le_trans (Nat.le_of_eq HBase.out) HB9.out.size
  clear HC hT9 hk9 hqe hqb hqo
  go_wp2_with fail
  refine HR.mono ?_
  rintro e xa ⟨⟨va, rfl, hva⟩, hka⟩
  have HBa := mkHid (HB9.out.trans (hka.mono BB9))
  have HVa := mkHid hva
  have HJa := mkHid (ok.keepJ HJ9.out (KeepT.of_below hka))
  clear HR hva hka BB9
  obtain ⟨aa, ca, rfl, _⟩ := HVa.out
  go_wp2_with fail
  refine (sec34 _).mono ?_
  rintro e xb ⟨vb, rfl, hvb, hbb⟩
  have BBa : base ≤ xa.heap.size := Nat.le_trans (Nat.le_of_eq HBase.out) HBa.out.size
  have HBb := mkHid (HBa.out.trans (hbb.mono BBa))
  have HJb := mkHid (ok.keepJ HJa.out (KeepT.of_below hbb))
  have HS := sameV (HVa.out.below hbb rfl) hvb.isV
  rw [eqB_self] at HS
  clear hvb hbb BBa
  go_wp2_with fail
  refine HS.mono ?_
  rintro e xc ⟨rfl, hbc⟩
  have BBb : base ≤ xb.heap.size := Nat.le_trans (Nat.le_of_eq HBase.out) HBb.out.size
  have HBc := mkHid (HBb.out.trans (hbc.mono BBb))
  have HQ := ok.seq xc J P base _ (ok.keepJ HJb.out (KeepT.of_below hbc))
  clear HS hbc BBb
  go_wp2_with fail
  refine HQ.mono ?_
  rintro e xd ⟨rfl, hkd⟩
  have BBc : base ≤ xc.heap.size := Nat.le_trans (Nat.le_of_eq HBase.out) HBc.out.size
  go_wp2_with fail
  go_ret
  exact ⟨rfl, HBc.out.trans (hkd.mono BBc)⟩
end Go.Proofs.YtacnoagjcacniaaGreat
namespace Go.Proofs.YtacnoagjcacniaaGreat
open Go.RowKit

theorem IsRk.cells {X : Nat → Prop} {w : World} {D base m : Nat} {p : Pl} (h : IsRk X w D base m p) : ∃ va vcap, w.cell? ⟨D, 2, none⟩ = some (.slice va p.ca.length vcap) ∧ w.cell? ⟨D, 3, none⟩ = some (.bool p.off) := by
  obtain ⟨r, vS, vC, a, rfl, _⟩ := h
  obtain ⟨va, vcap, hv, _⟩ := a.ownC.form
  refine ⟨va, vcap, (a.blk.cell 2).trans ?_, a.blk.cell 3⟩
  have : (plOf r).ca.length = r.C.length := by simp [plOf]
  rw [this, ← hv]; rfl
theorem dkCached {w : World} {P base : Nat} {p : Pl} (h : IsD0 w P base p) (hf : FewP p) : Calls Tryz.prog 47 #[.pointer (some ⟨P, 0, none⟩)] w fun e w' => e = .returned (.int .i64 (p.ca.length : Int)) ∧ w' = w := by
  obtain ⟨S, vC, arm, h⟩ := h
  obtain ⟨a, cap, rfl, _⟩ := h.ca.form (fun g hg => (hf.at_ g hg).2)
  exact codCached P a p.ca.length cap w (h.blk.cell 1)
theorem dkDown {w : World} {P base : Nat} {p : Pl} (h : IsD0 w P base p) : Calls Tryz.prog 26 #[.pointer (some ⟨P, 0, none⟩)] w fun e w' => e = .returned (.bool p.off) ∧ w' = w := by
  obtain ⟨S, vC, arm, h⟩ := h
  exact codDown P p.off w (h.blk.cell 3)
theorem dkSize {w : World} {P base : Nat} {p : Pl} (h : IsD0 w P base p) : Calls Tryz.prog 50 #[.pointer (some ⟨P, 0, none⟩)] w fun e w' => e = .returned (.int .i64 (p.n : Int)) ∧ w' = w := by
  obtain ⟨S, vC, arm, h⟩ := h
  exact codSize P S p.n w (h.blk.cell 0)
theorem dkStable {w : World} {P base : Nat} {p : Pl} (h : IsD0 w P base p) (hf : FewP p) (i : Int) : Calls Tryz.prog 45 #[.pointer (some ⟨P, 0, none⟩), .int .i64 i] w fun e w' => (∃ v, e = .returned (.tuple #[v, .int .i64 (p.stE i)]) ∧ IsV w' v (p.stB i)) ∧ Below w.heap.size w w' :=
  (codStable _ P base p i w h hf).mono fun _ _ ⟨⟨a, c, he, hb, _⟩, hbel⟩ => ⟨⟨_, he, ⟨a, c, rfl, hb⟩⟩, hbel⟩

set_option maxRecDepth 20000 in
set_option maxHeartbeats 4000000 in
theorem lawArea10 {X : Nat → Prop} (P D base base' m : Nat) (p : Pl) (w : World) (hP : IsD0 w P base p) (hD : IsRk X w D base' m p) (hm : m ≤ 100000) :
    Calls Tryz.prog 25 #[.pointer (some ⟨P, 0, none⟩), .pointer (some ⟨D, 0, none⟩)] w fun e w' => e = .returned (.bool true) ∧ Below w.heap.size w w' := by
  have HP := mkHid hP
  have HD := mkHid hD
  have HF := mkHid (hD.few hm)
  have hn : (p.n : Int) ≤ 4096 := by have := HF.out.n; omega
  clear hP hD
  go_enter Tryz.func25, Tryz.ntmps25
  go_wp2_with fail
  go_loopw [5] (fun i wr => ∃ k : Nat, k ≤ p.n ∧ i = .int .i64 (k : Int) ∧ Hid (Below w.heap.size w wr)) (fun i _ => p.n - (intOf i).toNat)
  case atStart => exact ⟨0, Nat.zero_le _, rfl, Below.refl _ _⟩
  case round =>
    obtain ⟨k, hk, rfl, HB⟩ := hrel
    have c0 : wr.cell? ⟨D, 0, none⟩ = some (.int .i64 (p.n : Int)) := (HD.out.on HB.out).cellN
    by_cases hlt : k < p.n
    · have hlt' : (k : Int) < (p.n : Int) := by omega
      have HS1 := dkStable (HP.out.on HB.out) HF.out (k : Int)
      generalize hst : p.stE (k : Int) = se at *
      go_wp2_with fail
      refine HS1.mono ?_
      rintro e x1 ⟨⟨v1, rfl, hv1⟩, hb1⟩
      have HV1 := mkHid hv1
      have HB1 := mkHid (HB.out.trans (hb1.mono HB.out.size))
      have HS2 := rkStable D base' m p (k : Int) x1 (HD.out.on HB1.out) hm
      rw [hst] at HS2
      clear HS1 hv1 hb1
      go_wp2_with fail
      refine HS2.mono ?_
      rintro e x2 ⟨v2, rfl, hv2, hb2⟩
      have HB2 := mkHid (HB1.out.trans (hb2.mono HB1.out.size))
      have HS := sameV (HV1.out.below hb2 rfl) hv2.isV
      rw [eqB_self] at HS
      clear HS2 hv2 hb2
      go_wp2_with fail
      refine HS.mono ?_
      rintro e x3 ⟨rfl, hb3⟩
      have HB3 := mkHid (HB2.out.trans (hb3.mono HB2.out.size))
      clear HS hb3
      go_wp2_with fail
      go_roundw
      case rel => exact ⟨k + 1, by omega, by go_num, HB3⟩
      case measure => simp [intOf]; omega
    · have hlt' : ¬ (k : Int) < (p.n : Int) := by omega
      obtain ⟨va, vcap, c2, c3⟩ := (HD.out.on HB.out).cells
      have HC : ∀ W, Below wr.heap.size wr W → Calls Tryz.prog 47 #[.pointer (some ⟨P, 0, none⟩)] W fun e w' => e = .returned (.int .i64 (p.ca.length : Int)) ∧ Hid (Below wr.heap.size wr w') := fun W hW =>
        (dkCached ((HP.out.on HB.out).on hW) HF.out).mono fun e w' ⟨h1, h2⟩ => ⟨h1, by rw [h2]; exact hW⟩
      have HO : ∀ W, Below wr.heap.size wr W → Calls Tryz.prog 26 #[.pointer (some ⟨P, 0, none⟩)] W fun e w' => e = .returned (.bool p.off) ∧ Hid (Below wr.heap.size wr w') := fun W hW =>
        (dkDown ((HP.out.on HB.out).on hW)).mono fun e w' ⟨h1, h2⟩ => ⟨h1, by rw [h2]; exact hW⟩
      have HKP : ∀ w', Hid (Below wr.heap.size wr w') → Hid (Below wr.heap.size wr w') ∧ w'.cell? ⟨D, 2, none⟩ = some (.slice va p.ca.length vcap) ∧ w'.cell? ⟨D, 3, none⟩ = some (.bool p.off) := fun w' h => ⟨h, (h.out.cell (p := ⟨D, 2, none⟩) (cell_lt c2)).trans c2, (h.out.cell (p := ⟨D, 3, none⟩) (cell_lt c3)).trans c3⟩
      have HK0 := mkHid (HKP _ (mkHid ((Below.refl _ wr).drew)))
      generalize p.ca.length = cl at *
      generalize p.off = po at *
      go_wp2_with fail
      go_region_held3 (fun w' => Hid (Below wr.heap.size wr w') ∧ w'.cell? ⟨D, 2, none⟩ = some (.slice va cl vcap) ∧ w'.cell? ⟨D, 3, none⟩ = some (.bool po))
        (first | exact HK0.out | assumption | exact HKP _ hbx)
        (first
          | (go_at_call 47; have hq0 := ‹Hid (Below _ _ _) ∧ _›; refine (HC _ hq0.1.out).mono ?_; rintro e y ⟨rfl, hbx⟩; clear hq0)
          | (go_at_call 26; have hq0 := ‹Hid (Below _ _ _) ∧ _›; refine (HO _ hq0.1.out).mono ?_; rintro e y ⟨rfl, hbx⟩; clear hq0))
      all_goals
        have hq9 := ‹Hid (Below _ _ _) ∧ _›
        go_wp2_with fail
        go_ret
        exact ⟨rfl, HB.out.trans (hq9.1.out.mono HB.out.size)⟩
end Go.Proofs.YtacnoagjcacniaaGreat
namespace Go.Proofs.YtacnoagjcacniaaGreat
open Go.RowKit

def imgTo (p : Pl) (q : Nat) : List UInt8 := (List.range (q - 49)).flatMap fun i => p.st (49 + i)
theorem imgTo_succ (p : Pl) (q : Nat) (h : 49 ≤ q) : imgTo p (q + 1) = imgTo p q ++ p.st q := by
  unfold imgTo
  have e : q + 1 - 49 = (q - 49) + 1 := by omega
  have e2 : 49 + (q - 49) = q := by omega
  rw [e, List.range_succ, List.flatMap_append, List.flatMap_singleton, e2]
theorem imgTo_length (p : Pl) (hp : ∀ i, (p.st i).length = 512) : ∀ k, (imgTo p (49 + k)).length = 512 * k := by
  intro k
  induction k with
  | zero => rfl
  | succ k ih => rw [show 49 + (k + 1) = (49 + k) + 1 by omega, imgTo_succ _ _ (by omega), List.length_append, ih, hp]; omega
theorem imgTo_len (p : Pl) (hp : ∀ i, (p.st i).length = 512) (q : Nat) (h : 49 ≤ q) : (imgTo p q).length = 512 * (q - 49) := by
  have := imgTo_length p hp (q - 49)
  rw [show 49 + (q - 49) = q by omega] at this
  exact this

set_option maxRecDepth 20000 in
set_option maxHeartbeats 4000000 in
theorem lawImage10 (P base m : Nat) (p : Pl) (w : World) (hP : IsD0 w P base p) (hf : FewM p m) (hm : m ≤ 100000) :
    Calls Tryz.prog 29 #[.pointer (some ⟨P, 0, none⟩)] w fun e w' => (∃ v, e = .returned v ∧ OwnB w' w.heap.size v (imgTo p p.n)) ∧ Below w.heap.size w w' := by
  have HP := mkHid hP
  have HF := mkHid hf
  have HF2 := mkHid (hf.few (by omega))
  have hn0 : 64 ≤ p.n := hf.n0
  have hn4 : p.n ≤ 4096 := hf.n
  have HI0 : imgTo p 49 = [] := rfl
  clear hP hf
  go_enter Tryz.func29, Tryz.ntmps29
  go_wp2_with fail
  go_loopw [3, 4] (fun v i wr => ∃ q : Nat, 49 ≤ q ∧ q ≤ p.n ∧ i = .int .i64 (q : Int) ∧ Hid (OwnB wr w.heap.size v (imgTo p q)) ∧ Hid (Below w.heap.size w wr)) (fun _ i _ => p.n - (intOf i).toNat)
  case atStart => exact ⟨49, by omega, by omega, rfl, mkHid (by rw [HI0]; exact OwnB.nil _ _), mkHid (Below.refl _ _)⟩
  case round =>
    obtain ⟨q, hq0, hq1, rfl, HO, HB⟩ := hrel
    have HS := dkSize (HP.out.on HB.out)
    have HLe : Hid ((imgTo p q).length = 512 * (q - 49)) := imgTo_len p HF.out.st q hq0
    by_cases hlt : q < p.n
    · have hlt' : (q : Int) < (p.n : Int) := by omega
      have HSt := dkStable (HP.out.on HB.out) HF2.out (q : Int)
      have hsb : p.stB (q : Int) = p.st q := by unfold Pl.stB; rw [inR_nat hlt]; rfl
      have hsl : (p.st q).length = 512 := HF.out.st q
      rw [hsb] at HSt
      have HSu : Hid (imgTo p (q + 1) = imgTo p q ++ p.st q) := imgTo_succ p q hq0
      generalize p.st q = sb at *
      generalize p.stE (q : Int) = se at *
      generalize imgTo p q = s1 at *
      go_wp2_with fail
      refine HS.mono ?_
      rintro e x1 ⟨rfl, hx1⟩
      obtain rfl := hx1.symm
      go_wp2_with fail
      refine HSt.mono ?_
      rintro e x2 ⟨⟨v2, rfl, hv2⟩, hb2⟩
      obtain ⟨a2, c2, rfl, hi2⟩ := hv2
      have HI2 : Hid (IsB x2 a2 512 c2 sb) := by rw [hsl] at hi2; exact hi2
      have HB2 := mkHid (HB.out.trans (hb2.mono HB.out.size))
      have HO2 : Hid (OwnB x2 w.heap.size u3 s1) := own_keep (ts := []) (KeepT.of_below hb2) HO.out (by simp)
      have HOb := mkHid (HO2.out.blk)
      rw [hsl]
      clear HS HSt hi2 hb2 hsl hsb
      go_wp2_with (at_builtin; refine list_appS _ rfl (.tmp 19) (.tmp 20) rfl w.heap.size u3 s1 rfl HO2.out a2 512 c2 sb rfl HI2.out (by rw [HLe.out]; omega) HB2.out.size ?_; intro v4 w4 ho4 hg4; have HB4 : Hid (Below w.heap.size w w4) := HB2.out.grown hg4 HB2.out.size (fun j hj => (HOb.out j hj).1); have HI4 : Hid (OwnB w4 w.heap.size v4 (imgTo p (q + 1))) := (by unfold Hid; rw [HSu.out]; exact ho4); clear ho4 hg4)
      go_roundw
      case rel => exact ⟨q + 1, by omega, by omega, by go_num, HI4, HB4⟩
      case measure => simp [intOf]; omega
    · have hlt' : ¬ (q : Int) < (p.n : Int) := by omega
      have hqe : q = p.n := by omega
      go_wp2_with fail
      refine HS.mono ?_
      rintro e x1 ⟨rfl, hx1⟩
      obtain rfl := hx1.symm
      go_wp2_with fail
      go_ret
      exact ⟨⟨_, rfl, by rw [← hqe]; exact HO.out⟩, HB.out⟩
end Go.Proofs.YtacnoagjcacniaaGreat
namespace Go.Proofs.YtacnoagjcacniaaGreat
open Go.RowKit

/-- what nil ones say -/
structure JrnNil : Prop where
  jread : ∀ (w : World) (i : Int), Calls Tryz.prog 33 #[.pointer none, .int .i64 i] w fun e w' => (∃ v, e = .returned (.tuple #[v, .int .i64 2])) ∧ Below w.heap.size w w'
  tread : ∀ (w : World) (i : Int), Calls Tryz.prog 19 #[.pointer none, .int .i64 i] w fun e w' => (∃ v, e = .returned (.tuple #[v, .int .i64 2])) ∧ Below w.heap.size w w'
  mount : ∀ (w : World), Calls Tryz.prog 30 #[.pointer none] w fun e w' => (∃ v, e = .returned (.tuple #[v, .int .i64 2])) ∧ Below w.heap.size w w'
  seq : ∀ (w : World), Calls Tryz.prog 24 #[.pointer none] w fun e w' => e = .returned (.int .u64 0) ∧ Below w.heap.size w w'
  size : ∀ (w : World), Calls Tryz.prog 34 #[.pointer none] w fun e w' => e = .returned (.int .i64 0) ∧ Below w.heap.size w w'
  begin_ : ∀ (w : World), Calls Tryz.prog 14 #[.pointer none] w fun e w' => e = .returned (.pointer none) ∧ Below w.heap.size w w'
  write : ∀ (w : World) (i : Int) (ba : Option Addr) (bn bc : Nat), Calls Tryz.prog 15 #[.pointer none, .int .i64 i, .slice ba bn bc] w fun e w' => e = .returned (.int .i64 2) ∧ Below w.heap.size w w'
  len : ∀ (w : World), Calls Tryz.prog 18 #[.pointer none] w fun e w' => e = .returned (.int .i64 0) ∧ Below w.heap.size w w'
  commit : ∀ (w : World), Calls Tryz.prog 22 #[.pointer none] w fun e w' => e = .returned (.int .i64 2) ∧ Below w.heap.size w w'

theorem jr_in {i : Int} (h : 49 ≤ i ∧ i < 64) : jrE (Pl.new 64) i = 0 := by
  have h1 : areaI 64 i = true := decide_eq_true h
  have h2 : inR 64 i = true := decide_eq_true ⟨by omega, by show i < ((64 : Nat) : Int); omega⟩
  unfold jrE Pl.rdE Pl.stE
  simp [Pl.new, h1, h2]
theorem jr_out {i : Int} (h : ¬ (49 ≤ i ∧ i < 64)) : jrE (Pl.new 64) i = 50 := by
  have h1 : areaI 64 i = false := decide_eq_false h
  unfold jrE
  simp [Pl.new, h1]
theorem wr0_out {i : Int} (b : List UInt8) (h : ¬ (49 ≤ i ∧ i < 64)) : Tl.wrE ⟨[], false⟩ aj0 i b = 50 := by
  have h1 : areaI 64 i = false := decide_eq_false h
  unfold Tl.wrE
  simp [aj0, Pl.new, h1]
theorem wr0_arg {i : Int} (b : List UInt8) (h : 49 ≤ i ∧ i < 64) (hb : ¬ b.length = 512) : Tl.wrE ⟨[], false⟩ aj0 i b = 1 := by
  have h1 : areaI 64 i = true := decide_eq_true h
  unfold Tl.wrE
  simp [aj0, Pl.new, h1, hb]
theorem wr0_ok {i : Int} (b : List UInt8) (h : 49 ≤ i ∧ i < 64) (hb : b.length = 512) : Tl.wrE ⟨[], false⟩ aj0 i b = 0 := by
  have h1 : areaI 64 i = true := decide_eq_true h
  unfold Tl.wrE
  simp [aj0, Pl.new, h1, hb]

end Go.Proofs.YtacnoagjcacniaaGreat
namespace Go.Proofs.YtacnoagjcacniaaGreat
open Go.RowKit

theorem jrnOK : JrnOK JAt TAx where
  disk := fun h => h.d
  toJ := fun ⟨_, _, h⟩ => h.ja
  turn := fun h hk hd => h.turn hk hd
  keepJ := fun h hk => h.keep hk
  keepT := fun ⟨M, tr, h⟩ hk => ⟨M, tr, h.keep hk⟩
  mount := fun w P base m p h hf hm => codMount P base m p w h hf hm
  begin_ := fun w J P base m j h _ _ => (codBegin w J P base j h h.d.low).mono fun _ _ ⟨⟨T, M, h1, h2⟩, h3⟩ => ⟨⟨T, h1, M, false, h2⟩, KP.of_below h3 h.d.low⟩
  write := fun w T J P base m t j i ba bc b ⟨M, tr, h⟩ hl hf _ h0 h1 _ hB => codTWrite w T J P base t j M tr i ba bc b h hl hf.n h0 h1 (hB w (KeepO.refl _ _) (Below.refl _ _))
  read := fun w T J P base m t j i ⟨M, tr, h⟩ _ hf hm h0 h1 ho => (codTRead w T J P base t j M tr i h (hf.few (by omega)) ho h0 h1).mono fun _ _ ⟨h2, h3⟩ => ⟨h2, ⟨M, tr, h.on h3⟩, KP.of_below h3 h.ja.d.low⟩
  len := fun w T J P base t j ⟨M, tr, h⟩ _ => (codLen w T J P base t j M tr h).mono fun _ _ ⟨h1, h2⟩ => ⟨h1, by rw [h2]; exact ⟨M, tr, h⟩, by rw [h2]; exact KP.refl _ _⟩
  commit := fun w T J P base m t j h hl hf hm _ => codCommit w T J P base m t j h hf hm hl
  seq := fun w J P base j h => (codSeq w J P base j h).mono fun _ _ ⟨h1, h2⟩ => ⟨h1, by rw [h2]; exact Below.refl _ _⟩
  size := fun w J P base j h => (codJSize w J P base j h).mono fun _ _ ⟨h1, h2⟩ => ⟨h1, by rw [h2]; exact Below.refl _ _⟩
  jread := fun w J P base m j i h hf hm _ _ ho => codJRead w J P base j i h (hf.few (by omega)) ho

theorem nilJRead (w : World) (i : Int) : Calls Tryz.prog 33 #[.pointer none, .int .i64 i] w fun e w' => (∃ v, e = .returned (.tuple #[v, .int .i64 2])) ∧ Below w.heap.size w w' := by
  go_enter Tryz.func33, Tryz.ntmps33
  go_wp2_with fail
  go_ret2
  exact ⟨⟨_, rfl⟩, Below.refl _ _⟩
theorem nilTRead (w : World) (i : Int) : Calls Tryz.prog 19 #[.pointer none, .int .i64 i] w fun e w' => (∃ v, e = .returned (.tuple #[v, .int .i64 2])) ∧ Below w.heap.size w w' := by
  go_enter Tryz.func19, Tryz.ntmps19
  go_wp2_with fail
  go_ret2
  exact ⟨⟨_, rfl⟩, Below.refl _ _⟩
theorem nilMount (w : World) : Calls Tryz.prog 30 #[.pointer none] w fun e w' => (∃ v, e = .returned (.tuple #[v, .int .i64 2])) ∧ Below w.heap.size w w' := by
  go_enter Tryz.func30, Tryz.ntmps30
  go_wp2_with fail
  go_ret2
  exact ⟨⟨_, rfl⟩, Below.refl _ _⟩
theorem nilSeq (w : World) : Calls Tryz.prog 24 #[.pointer none] w fun e w' => e = .returned (.int .u64 0) ∧ Below w.heap.size w w' := by
  go_enter Tryz.func24, Tryz.ntmps24
  go_wp2_with fail
  go_ret
  exact ⟨rfl, Below.refl _ _⟩
theorem nilJSize (w : World) : Calls Tryz.prog 34 #[.pointer none] w fun e w' => e = .returned (.int .i64 0) ∧ Below w.heap.size w w' := by
  go_enter Tryz.func34, Tryz.ntmps34
  go_wp2_with fail
  go_ret
  exact ⟨rfl, Below.refl _ _⟩
theorem nilBegin (w : World) : Calls Tryz.prog 14 #[.pointer none] w fun e w' => e = .returned (.pointer none) ∧ Below w.heap.size w w' := by
  go_enter Tryz.func14, Tryz.ntmps14
  go_wp2_with fail
  go_ret
  exact ⟨rfl, Below.refl _ _⟩
theorem nilTWrite (w : World) (i : Int) (ba : Option Addr) (bn bc : Nat) : Calls Tryz.prog 15 #[.pointer none, .int .i64 i, .slice ba bn bc] w fun e w' => e = .returned (.int .i64 2) ∧ Below w.heap.size w w' := by
  go_enter Tryz.func15, Tryz.ntmps15
  go_wp2_with fail
  go_ret
  exact ⟨rfl, Below.refl _ _⟩
theorem nilLen (w : World) : Calls Tryz.prog 18 #[.pointer none] w fun e w' => e = .returned (.int .i64 0) ∧ Below w.heap.size w w' := by
  go_enter Tryz.func18, Tryz.ntmps18
  go_wp2_with fail
  go_ret
  exact ⟨rfl, Below.refl _ _⟩
theorem nilCommit (w : World) : Calls Tryz.prog 22 #[.pointer none] w fun e w' => e = .returned (.int .i64 2) ∧ Below w.heap.size w w' := by
  have hb : Hid (Below w.heap.size w (w.alloc (.cells #[.pointer none] 40))) := (Below.refl _ w).alloc (Nat.le_refl _) _
  go_enter Tryz.func22, Tryz.ntmps22
  go_wp2_with fail
  go_ret
  exact ⟨rfl, hb.out⟩
theorem jrnNil : JrnNil := ⟨nilJRead, nilTRead, nilMount, nilSeq, nilJSize, nilBegin, nilTWrite, nilLen, nilCommit⟩
end Go.Proofs.YtacnoagjcacniaaGreat
