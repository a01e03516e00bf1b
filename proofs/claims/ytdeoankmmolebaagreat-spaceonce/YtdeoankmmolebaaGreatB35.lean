/- The program's transaction: Commit. · The statements' step: one call of both disks. · The statements' step: Arm, Crash, Read, Stable, and no call. · The statements' step: Write; any call. · The statements' alive, over any disk that keeps the document. · What the statements ask of the program's journal; scripts of transactions. -/
import Derived.Test.YtdeoankmmolebaaGreatB33
import Derived.Test.YtdeoankmmolebaaGreatPj4
import Derived.Test.YtdeoankmmolebaaGreatB26
import Derived.Test.YtdeoankmmolebaaGreatB5
import Derived.Test.YtdeoankmmolebaaGreatB19
namespace Go.Proofs.YtdeoankmmolebaaGreat
open Go.RowKit

abbrev ErT : TypeId := 29
abbrev TxT : TypeId := 138
abbrev CD : List TypeId := [79, 112, 158, 91, 138, 29]
theorem JAt.keepD {w w' : World} {J P base : Nat} {j : Jl} (h : JAt w J P base j) {ts : List TypeId} (hk : KeepT ts w w') (h0 : 91 ∉ ts) (h1 : 79 ∉ ts) (h2 : 112 ∉ ts) (h3 : 158 ∉ ts) : JAt w' J P base j := ⟨hk.blk h.blk h0, h.low, h.d.keep hk h1 h2 h3, h.seq⟩
/-- how things stand behind the inner commit -/
structure InQ (w w' : World) (T J P base M A2 : Nat) (t : Tl) (j : Jl) : Prop where
  ja : JAt w' J P base (inJ t j)
  own : OwnM w' M t.l
  e : Blk w' A2 29 [.int .i64 (inE t j)]
  k : KeepT CD w w'
  b : Below base w w'

set_option maxRecDepth 20000 in
set_option maxHeartbeats 2000000 in
theorem codClosure (w : World) (T J P base m : Nat) (t : Tl) (j : Jl) (M A1 A2 : Nat) (tr : Bool) (hT : Blk w T 138 (txC J M 0 1 tr)) (hlT : base ≤ T) (hown : OwnM w M t.l) (hs : SortQ t.l) (hok : ∀ g ∈ t.l, g.2.length = 512 ∧ 49 ≤ g.1 ∧ g.1 < 4096) (hj : JAt w J P base j) (hf : FewM j.p m) (hm : m ≤ 80000) (h48 : t.l.length ≤ 48) (h1 : Blk w A1 99 [.pointer (some ⟨T, 0, none⟩)]) (h2 : Blk w A2 29 [.int .i64 51]) (hl2 : base ≤ A2) :
    Calls Tryz.prog 89 #[.pointer (some ⟨A1, 0, none⟩), .pointer (some ⟨A2, 0, none⟩)] w fun e w' => e = .returned (.tuple #[]) ∧ InQ w w' T J P base M A2 t j ∧ Blk w' T 138 (txC J M 0 1 true) := by
  have hA : w.cell? ⟨A1, 0, none⟩ = some (.pointer (some ⟨T, 0, none⟩)) := h1.cell 0
  have hTc : w.cell? ⟨T, 5, none⟩ = some (.bool tr) := hT.cell 5
  have hTf := hT.frozen 5
  have HT1 : Hid (Blk (w.setCell ⟨T, 5, none⟩ (.bool true)) T 138 (txC J M 0 1 true)) := hT.set 5 (.bool true)
  have hK1 : KeepT [138] w (w.setCell ⟨T, 5, none⟩ (.bool true)) := (KeepT.refl _ w).set hT (by simp) 5 _
  have HB1 : Hid (Below base w (w.setCell ⟨T, 5, none⟩ (.bool true))) := bel_one (gr_cell w T 5 _) hlT hT.lt
  have HK1 := mkHid hK1
  have HA1 := mkHid (hK1.blk h1 (by decide))
  have HA2 := mkHid (hK1.blk h2 (by decide))
  have HIn : Hid (TIn (w.setCell ⟨T, 5, none⟩ (.bool true)) T J M t.l [.int .u32 0, .int .i32 1, .int .u32 0, .bool true]) := ⟨HT1.out, ownM_keep hown hK1, hs, hok⟩
  have HJ := mkHid (hj.keepD hK1 (by decide) (by decide) (by decide) (by decide))
  have HLA := mkHid hl2
  clear hT hown hs hok hj h1 h2 hK1 hlT hl2
  go_enter Tryz.func89, Tryz.ntmps89
  go_upto_region 1 with fail
  generalize w.setCell ⟨T, 5, none⟩ (.bool true) = w1 at *
  have hA1 : w1.cell? ⟨A1, 0, none⟩ = some (.pointer (some ⟨T, 0, none⟩)) := HA1.out.cell 0
  have HC := codInner w1 T J P base m t j M _ HIn.out HJ.out hf hm h48
  clear hA hTc hTf
  obtain ⟨eI, heI⟩ : ∃ eI, eI = inE t j := ⟨_, rfl⟩
  obtain ⟨jI, hjI⟩ : ∃ jI, jI = inJ t j := ⟨_, rfl⟩
  rw [← heI, ← hjI] at HC
  have HeI := mkHid heI
  have HjI := mkHid hjI
  clear heI hjI
  go_wp2_with fail
  refine HC.mono ?_
  rintro e w2 ⟨rfl, hJ2, hK2, hB2⟩
  have HJ2 := mkHid hJ2
  have HK2 := mkHid hK2
  have HA22 := mkHid (hK2.blk HA2.out (by decide))
  have HT2 := mkHid (hK2.blk HT1.out (by decide))
  have HO2 := mkHid (ownM_keep HIn.out.own hK2)
  have c2 : w2.cell? ⟨A2, 0, none⟩ = some (.int .i64 51) := HA22.out.cell 0
  have f2 := HA22.out.frozen 0
  have hK3 : KeepT [29] w2 (w2.setCell ⟨A2, 0, none⟩ (.int .i64 eI)) := (KeepT.refl _ w2).set HA22.out (by simp) 0 _
  have HR : Hid (JAt (w2.setCell ⟨A2, 0, none⟩ (.int .i64 eI)) J P base jI ∧ OwnM (w2.setCell ⟨A2, 0, none⟩ (.int .i64 eI)) M t.l ∧ Blk (w2.setCell ⟨A2, 0, none⟩ (.int .i64 eI)) A2 29 [.int .i64 eI] ∧ KeepT CD w (w2.setCell ⟨A2, 0, none⟩ (.int .i64 eI)) ∧ Below base w (w2.setCell ⟨A2, 0, none⟩ (.int .i64 eI)) ∧ Blk (w2.setCell ⟨A2, 0, none⟩ (.int .i64 eI)) T 138 (txC J M 0 1 true)) :=
    ⟨HJ2.out.keepD hK3 (by decide) (by decide) (by decide) (by decide), ownM_keep HO2.out hK3, HA22.out.set 0 _, ((HK1.out.wide (by decide)).trans (HK2.out.wide (by decide))).trans (hK3.wide (by decide)), (HB1.out.trans hB2).trans (bel_one (gr_cell w2 A2 0 _) HLA.out HA22.out.lt), hK3.blk HT2.out (by decide)⟩
  clear hJ2 hK2 hB2 HC hK3 HJ2 HK2 HA22 HT2 HO2
  go_wp2_with fail
  go_end0
  exact ⟨rfl, ⟨by rw [← HjI.out]; exact HR.out.1, HR.out.2.1, by rw [← HeI.out]; exact HR.out.2.2.1, HR.out.2.2.2.1, HR.out.2.2.2.2.1⟩, HR.out.2.2.2.2.2⟩
theorem cm_dead {t : Tl} {j : Jl} (h : t.over = true ∨ j.dead = true) : cmE t j = 51 ∧ cmT t j = t ∧ cmJ t j = j := by
  unfold cmE cmT cmJ; rw [if_pos h, if_pos h, if_pos h]; exact ⟨rfl, rfl, rfl⟩
theorem cm_in {t : Tl} {j : Jl} (hd : j.dead = false) (ho : t.over = false) : cmE t j = inE t j ∧ cmT t j = { t with over := true } ∧ cmJ t j = inJ t j := by
  have hn : ¬ (t.over = true ∨ j.dead = true) := by simp [hd, ho]
  have hn2 : ¬ j.dead = true := by simp [hd]
  refine ⟨?_, ?_, ?_⟩
  · unfold cmE inE; rw [if_neg hn, if_neg hn2]
  · unfold cmT; rw [if_neg hn]
  · unfold cmJ inJ jCm; rw [if_neg hn, if_neg hn2]
theorem inJ_p {t : Tl} {j : Jl} (hd : j.dead = true) : inE t j = 51 ∧ inJ t j = j := by
  unfold inE inJ; rw [if_pos hd, if_pos hd]; exact ⟨rfl, rfl⟩
theorem TAt.txB {w : World} {T J P base : Nat} {t : Tl} {j : Jl} {M : Nat} {tr : Bool} (h : TAt w T J P base t j M tr) : Blk w T 138 (txC J M (flag tr) 0 tr) := h.blk

set_option maxRecDepth 20000 in
set_option maxHeartbeats 2000000 in
theorem codCommit (w : World) (T J P base m : Nat) (t : Tl) (j : Jl) (h : TAx w T J P base t j) (hf : FewM j.p m) (hm : m ≤ 80000) (h48 : t.l.length ≤ 48) :
    Calls Tryz.prog 64 #[.pointer (some ⟨T, 0, none⟩)] w fun e w' => e = .returned (.int .i64 (cmE t j)) ∧ TAx w' T J P base (cmT t j) (cmJ t j) ∧ KP base w w' := by
  obtain ⟨M, tr, h⟩ := h
  have HT := mkHid h
  have HLow : Hid (base ≤ w.heap.size) := h.ja.d.low
  have HF := mkHid hf
  clear h hf
  have KB1 : Hid (Blk ((w.alloc (.cells #[.pointer (some ⟨T, 0, none⟩)] 99)).alloc (.cells #[.int .i64 51] 29)) w.heap.size 99 [.pointer (some ⟨T, 0, none⟩)]) := (Blk.new w _ _).alloc _
  have KB2 : Hid (Blk ((w.alloc (.cells #[.pointer (some ⟨T, 0, none⟩)] 99)).alloc (.cells #[.int .i64 51] 29)) (w.heap.size + 1) 29 [.int .i64 51]) := Blk.newAt _ _ _ _ _ (by simp) rfl
  have HB : Hid (Below w.heap.size w ((w.alloc (.cells #[.pointer (some ⟨T, 0, none⟩)] 99)).alloc (.cells #[.int .i64 51] 29))) := ((Below.refl _ w).alloc (Nat.le_refl _) _).alloc (by simp) _
  go_enter Tryz.func64, Tryz.ntmps64
  go_upto_region 4 with fail
  generalize (w.alloc (.cells #[.pointer (some ⟨T, 0, none⟩)] 99)).alloc (.cells #[.int .i64 51] 29) = w1 at *
  have HT1 := mkHid (HT.out.on HB.out)
  have HLA : Hid (base ≤ w.heap.size + 1) := Nat.le_succ_of_le HLow.out
  obtain ⟨A2, hA2⟩ : ∃ A2, A2 = w.heap.size + 1 := ⟨_, rfl⟩
  rw [← hA2] at KB2 HLA ⊢
  clear hA2
  have HKw : Hid (KP base w w1) := KP.of_below HB.out HLow.out
  clear HT HB
  generalize w.heap.size = A1 at *
  have hA1 : w1.cell? ⟨A1, 0, none⟩ = some (.pointer (some ⟨T, 0, none⟩)) := KB1.out.cell 0
  cases tr with
  | true =>
    have HE : Hid (cmE t j = 51 ∧ cmT t j = t ∧ cmJ t j = j) := cm_dead (by
      cases hd : j.dead with
      | true => exact .inr rfl
      | false => exact .inl (HT1.out.over hd).symm)
    have hA2 : w1.cell? ⟨A2, 0, none⟩ = some (.int .i64 51) := KB2.out.cell 0
    have HD := fun fv => onceDone T J M 0 true fv w1 HT1.out.txB
    have hmf : ∀ (fn : Fn) (first cap : Array Value) (w : World), (Instr.makeFunc fn first cap).run Tryz.prog w = .ok (.func fn first cap) w := fun _ _ _ _ => rfl
    go_wp2_with fail
    refine (HD _).mono ?_
    rintro e w2 ⟨rfl, hw2⟩
    obtain rfl := hw2.symm
    go_wp2_with fail
    go_ret
    exact ⟨by rw [HE.out.1]; rfl, by rw [HE.out.2.1, HE.out.2.2]; exact ⟨M, true, HT1.out⟩, HKw.out⟩
  | false =>
    have hK3 : KeepT [138] w1 (w1.setCell ⟨T, 3, none⟩ (.int .i32 1)) := (KeepT.refl _ w1).set HT1.out.txB (by simp) 3 _
    have hB3 : Below base w1 (w1.setCell ⟨T, 3, none⟩ (.int .i32 1)) := bel_one (gr_cell w1 T 3 _) HT1.out.low HT1.out.blk.lt
    have HCl := codClosure (w1.setCell ⟨T, 3, none⟩ (.int .i32 1)) T J P base m t j M A1 A2 false (HT1.out.txB.set 3 _) HT1.out.low (ownM_keep HT1.out.own hK3) HT1.out.sort HT1.out.ok (HT1.out.ja.keepD hK3 (by decide) (by decide) (by decide) (by decide)) HF.out hm h48 (hK3.blk KB1.out (by decide)) (hK3.blk KB2.out (by decide)) HLA.out
    have HO := onceFirst T J M false ⟨A1, 0, none⟩ ⟨A2, 0, none⟩ (fun w2 => InQ (w1.setCell ⟨T, 3, none⟩ (.int .i32 1)) w2 T J P base M A2 t j) w1 HT1.out.txB HCl
    have HK3 := mkHid (And.intro hK3 hB3)
    have hmf : ∀ (fn : Fn) (first cap : Array Value) (w : World), (Instr.makeFunc fn first cap).run Tryz.prog w = .ok (.func fn first cap) w := fun _ _ _ _ => rfl
    clear hK3 hB3 HCl
    go_wp2_with fail
    refine HO.mono ?_
    rintro e w4 ⟨rfl, w2, hQ, hT2, hw4⟩
    have hK5 : KeepT [138] w2 w4 := by
      rw [hw4]
      have hd : KeepT [138] w2 w2.drew := KeepT.of_below ((Below.refl _ w2).drew)
      have h1 : Blk w2.drew T 138 (txC J M 0 1 true) := hT2
      have h2 := h1.set 2 (.int .u32 1)
      exact (hd.set h1 (by simp) 2 _).set h2 (by simp) 3 _
    have hT4 : Blk w4 T 138 (txC J M 1 0 true) := by
      rw [hw4]
      have h1 : Blk w2.drew T 138 (txC J M 0 1 true) := hT2
      exact (h1.set 2 (.int .u32 1)).set 3 (.int .i32 0)
    have hB4 : Below base w2 w4 := by
      rw [hw4]
      have h1 : Blk w2.drew T 138 (txC J M 0 1 true) := hT2
      have h2 := h1.set 2 (.int .u32 1)
      have hd : Below base w2 w2.drew := ((Below.refl _ w2).drew).mono (by have := HT1.out.low; have := hT2.lt; omega)
      exact (hd.trans (bel_one (gr_cell w2.drew T 2 _) HT1.out.low h1.lt)).trans (bel_one (gr_cell _ T 3 _) HT1.out.low h2.lt)
    have hE4 : Blk w4 A2 29 [.int .i64 (inE t j)] := hK5.blk hQ.e (by decide)
    have hJ4 : JAt w4 J P base (inJ t j) := hQ.ja.keepD hK5 (by decide) (by decide) (by decide) (by decide)
    have hO4 : OwnM w4 M t.l := ownM_keep hQ.own hK5
    have hKP : KP base w w4 := HKw.out.trans ⟨(KeepO.ofT HK3.out.1 (by decide)).trans ((KeepO.ofT hQ.k (by decide)).trans (KeepO.ofT hK5 (by decide))), HK3.out.2.trans (hQ.b.trans hB4)⟩
    have hA2 : w4.cell? ⟨A2, 0, none⟩ = some (.int .i64 (inE t j)) := hE4.cell 0
    have HR : Hid (inE t j = cmE t j ∧ TAx w4 T J P base (cmT t j) (cmJ t j) ∧ KP base w w4) := by
      cases hd : j.dead with
      | true =>
        obtain ⟨e1, e2, e3⟩ := cm_dead (t := t) (j := j) (.inr hd)
        obtain ⟨e4, e5⟩ := inJ_p (t := t) hd
        rw [e5] at hJ4
        exact ⟨by rw [e1, e4], by rw [e2, e3]; exact ⟨M, true, ⟨hJ4, hT4, HT1.out.low, HT1.out.lowM, hO4, HT1.out.sort, HT1.out.ok, fun h => by rw [hd] at h; cases h⟩⟩, hKP⟩
      | false =>
        obtain ⟨e1, e2, e3⟩ := cm_in (t := t) hd (HT1.out.over hd).symm
        exact ⟨e1.symm, by rw [e2, e3]; exact ⟨M, true, ⟨hJ4, hT4, HT1.out.low, HT1.out.lowM, hO4, HT1.out.sort, HT1.out.ok, fun _ => rfl⟩⟩, hKP⟩
    clear hK5 hT4 hB4 hE4 hJ4 hO4 hKP hw4 hQ hT2 HO
    generalize inE t j = eI at *
    go_wp2_with fail
    go_ret
    exact ⟨by rw [← HR.out.1]; rfl, HR.out.2.1, HR.out.2.2⟩
end Go.Proofs.YtdeoankmmolebaaGreat
namespace Go.Proofs.YtdeoankmmolebaaGreat
open Go.RowKit

/-- both disks, in one world, behind k calls -/
def Both9 (Is : World → Nat → Nat → Pl → Prop) (P D base k : Nat) (w : World) : Prop := ∃ r vS vC, Is w P base (plOf r) ∧ IsRD w D base r vS vC ∧ FewR r k
end Go.Proofs.YtdeoankmmolebaaGreat
namespace Go.Proofs.YtdeoankmmolebaaGreat
open Go.RowKit

end Go.Proofs.YtdeoankmmolebaaGreat
namespace Go.Proofs.YtdeoankmmolebaaGreat
open Go.RowKit

theorem oqb_len {w : World} {base : Nat} {o : Oq} (h : OkQ w base o) : (oqb o).length ≤ 140737488351232 := by
  unfold oqb
  split
  · exact h.rawLen
  · rw [secL_len]; omega

end Go.Proofs.YtdeoankmmolebaaGreat
namespace Go.Proofs.YtdeoankmmolebaaGreat
open Go.RowKit

theorem wr_good (p : Pl) (i : Int) (a b : UInt8) (ho : p.off = false) (hi : inR p.n i = true) (ha : p.arm ≠ some 0) :
    p.wrE i (secL a b) = 0 ∧ p.write i (secL a b) = { p with arm := p.arm.map (· - 1), wr := p.wr + 1, ca := p.ca ++ [(i.toNat, secL a b)] } := by
  unfold Pl.wrE Pl.write
  rw [ho, hi, secL_len]
  simp [ha]
def al1 : Pl := ⟨64, fun _ => zero512, [(3, secL 7 1)], false, none, 1, 0⟩
def al2 : Pl := ⟨64, fun _ => zero512, [], false, none, 1, 0⟩
def al3 : Pl := ⟨64, fun _ => zero512, [(3, secL 7 1)], false, none, 2, 0⟩
def al4 : Pl := ⟨64, Pl.put (fun _ => zero512) (3, secL 7 1), [], false, none, 2, 0⟩
theorem al_1 : (Pl.new 64).wrE 3 (secL 7 1) = 0 ∧ (Pl.new 64).write 3 (secL 7 1) = al1 := by
  obtain ⟨h1, h2⟩ := wr_good (Pl.new 64) 3 7 1 rfl (by decide) (by simp [Pl.new])
  exact ⟨h1, h2⟩
theorem al_2 : al1.crash [] = al2 := rfl
theorem al_3 : al2.wrE 3 (secL 7 1) = 0 ∧ al2.write 3 (secL 7 1) = al3 := by
  obtain ⟨h1, h2⟩ := wr_good al2 3 7 1 rfl (by decide) (by simp [al2])
  exact ⟨h1, h2⟩
theorem al_4 : al3.crash [true] = al4 := rfl
theorem few_new (n : Nat) (h : n ≤ 4096) : FewP (Pl.new n) := ⟨h, Nat.zero_le _, fun g hg => (by cases hg), Nat.zero_le _, Nat.zero_le _⟩
theorem few_al1 : FewP al1 := ⟨by decide, by decide, fun g hg => by obtain rfl := List.mem_singleton.1 hg; exact ⟨by decide, secL_len _ _⟩, by decide, by decide⟩
theorem few_al2 : FewP al2 := ⟨by decide, by decide, fun g hg => (by cases hg), by decide, by decide⟩
theorem few_al3 : FewP al3 := ⟨by decide, by decide, fun g hg => by obtain rfl := List.mem_singleton.1 hg; exact ⟨by decide, secL_len _ _⟩, by decide, by decide⟩
theorem few_al4 : FewP al4 := ⟨by decide, by decide, fun g hg => (by cases hg), by decide, by decide⟩
theorem al_rd2 : al2.rdE 3 = 0 ∧ al2.rdB 3 = zero512 := ⟨rfl, rfl⟩
theorem al_rd4 : al4.rdE 3 = 0 ∧ al4.rdB 3 = secL 7 1 := ⟨rfl, rfl⟩

/-- Same of two slices, whatever they are -/
theorem sameV {w : World} {v v' : Value} {l m : List UInt8} (h : IsV w v l) (h' : IsV w v' m) :
    Calls Tryz.prog 25 #[v, v'] w fun e w' => e = .returned (.bool (eqB l m)) ∧ Below w.heap.size w w' := by
  obtain ⟨a, c, rfl, h1⟩ := h
  obtain ⟨a', c', rfl, h2⟩ := h'
  refine (refSame _ _ _ l _ _ _ m w h1 h2).mono ?_
  rintro e w' ⟨rfl, n, rfl⟩
  exact ⟨rfl, bel_drewN (Below.refl _ w) n⟩
theorem isKs_nil (w : World) : IsKs w none 0 0 [] := ⟨rfl, fun h => absurd h (Nat.lt_irrefl 0)⟩
theorem IsB.block {w w' : World} {a : Option Addr} {len cap : Nat} {l : List UInt8} (h : IsB w a len cap l) (hk : ∀ A, a = some A → w'.heap[A.block]? = w.heap[A.block]?) : IsB w' a len cap l :=
  ⟨h.len_eq, h.le, h.max, h.nil, fun hp => by
    obtain ⟨b, off, e, hc⟩ := h.cells hp
    refine ⟨b, off, e, fun i hi => ?_⟩
    rw [← hc i hi]
    have hq := hk _ e
    exact World.cell?_of_block (w := w) hq⟩
theorem isKs_one {w : World} {B t : Nat} (h : Blk w B t [.bool true]) : IsKs w (some ⟨B, 0, none⟩) 1 1 [true] := ⟨rfl, fun _ => ⟨B, 0, rfl, fun i hi => by
  obtain rfl : i = 0 := by omega
  exact h.cell 0⟩⟩
/-- make([]byte, 512), run -/
theorem make_run512 (w : World) : ∃ w', (Instr.makeSlice 22 (.int .i64 512) (.int .i64 512)).run Tryz.prog w = .ok (.slice (some ⟨w.heap.size, 0, none⟩) 512 512) w' ∧ OwnB w' w.heap.size (.slice (some ⟨w.heap.size, 0, none⟩) 512 512) zero512 ∧ Below w.heap.size w w' := by
  obtain ⟨i0, hi, hz0, hz1, hz2⟩ := info_parts info8
  obtain ⟨w', hrun, r1, r2⟩ := run_make_full (P := Tryz.prog) w w.heap.size 22 5 i0 (.int .u8 0) 1 Tryz.underlying22 hi hz0 hz1 .i64 .i64 512 (by rw [hz2]; omega) (by unfold maxLen; omega) (Nat.le_refl _)
  refine ⟨w', hrun, ?_, (Below.refl _ _).grown r2 (Nat.le_refl _) (fun k h => by cases h)⟩
  rw [made_zeros] at r1
  unfold OwnB zero512
  rw [List.length_replicate]
  exact r1
theorem sec71 (w : World) : Calls Tryz.prog 50 #[.int .u8 7, .int .u8 1] w fun e w' => ∃ v, e = .returned v ∧ OwnB w' w.heap.size v (secL 7 1) ∧ Below w.heap.size w w' := lawSector9 7 1 w
end Go.Proofs.YtdeoankmmolebaaGreat
namespace Go.Proofs.YtdeoankmmolebaaGreat
open Go.RowKit

/-- what is asked of the program's journal: 'JA w J P base j': at block J, over the disk at P, it stands as j; 'TA w T J P base t j': a transaction of it stands as t -/
structure JrnOK (JA : World → Nat → Nat → Nat → Jl → Prop) (TA : World → Nat → Nat → Nat → Nat → Tl → Jl → Prop) : Prop where
  disk : ∀ {w : World} {J P base : Nat} {j : Jl}, JA w J P base j → IsD0 w P base j.p
  toJ : ∀ {w : World} {T J P base : Nat} {t : Tl} {j : Jl}, TA w T J P base t j → JA w J P base j
  turn : ∀ {w w' : World} {J P base : Nat} {j : Jl} {p' : Pl}, JA w J P base j → KeepT PD w w' → IsD0 w' P base p' → JA w' J P base ⟨p', j.seq, j.dead⟩
  keepJ : ∀ {w w' : World} {J P base : Nat} {j : Jl}, JA w J P base j → KeepT CT w w' → JA w' J P base j
  keepT : ∀ {w w' : World} {T J P base : Nat} {t : Tl} {j : Jl}, TA w T J P base t j → KeepT CT w w' → TA w' T J P base t j
  mount : ∀ (w : World) (P base m : Nat) (p : Pl), IsD0 w P base p → FewM p m → m ≤ 80000 →
    Calls Tryz.prog 14 #[.pointer (some ⟨P, 0, none⟩)] w fun e w' => (if mountE p = 0 then ∃ J, e = .returned (.tuple #[.pointer (some ⟨J, 0, none⟩), .int .i64 0]) ∧ JA w' J P base ⟨mountP p, mountS p, false⟩ else e = .returned (.tuple #[.pointer none, .int .i64 (mountE p)]) ∧ IsD0 w' P base (mountP p)) ∧ KeepT PD w w' ∧ Below base w w'
  begin_ : ∀ (w : World) (J P base m : Nat) (j : Jl), JA w J P base j → FewM j.p m → m ≤ 80000 →
    Calls Tryz.prog 45 #[.pointer (some ⟨J, 0, none⟩)] w fun e w' => (∃ T, e = .returned (.pointer (some ⟨T, 0, none⟩)) ∧ TA w' T J P base ⟨[], false⟩ j) ∧ KP base w w'
  write : ∀ (w : World) (T J P base m : Nat) (t : Tl) (j : Jl) (i : Int) (ba : Option Addr) (bc : Nat) (b : List UInt8), TA w T J P base t j → t.l.length ≤ 48 → FewM j.p m → m ≤ 80000 → -9223372036854775808 ≤ i → i ≤ 9223372036854775807 → b.length ≤ 140737488351232 → (∀ W, KeepO [5] w W → Below base w W → IsB W ba b.length bc b) →
    Calls Tryz.prog 61 #[.pointer (some ⟨T, 0, none⟩), .int .i64 i, .slice ba b.length bc] w fun e w' => e = .returned (.int .i64 (t.wrE j i b)) ∧ TA w' T J P base (t.write j i b) j ∧ KP base w w'
  read : ∀ (w : World) (T J P base m : Nat) (t : Tl) (j : Jl) (i : Int), TA w T J P base t j → t.l.length ≤ 48 → FewM j.p m → m ≤ 80000 → -9223372036854775808 ≤ i → i ≤ 9223372036854775807 → j.p.off = false →
    Calls Tryz.prog 63 #[.pointer (some ⟨T, 0, none⟩), .int .i64 i] w fun e w' => (∃ v, e = .returned (.tuple #[v, .int .i64 (t.rdE j i)]) ∧ IsV w' v (t.rdB j i)) ∧ TA w' T J P base t j ∧ KP base w w'
  len : ∀ (w : World) (T J P base : Nat) (t : Tl) (j : Jl), TA w T J P base t j → t.l.length ≤ 48 →
    Calls Tryz.prog 55 #[.pointer (some ⟨T, 0, none⟩)] w fun e w' => e = .returned (.int .i64 (t.l.length : Int)) ∧ TA w' T J P base t j ∧ KP base w w'
  commit : ∀ (w : World) (T J P base m : Nat) (t : Tl) (j : Jl), TA w T J P base t j → t.l.length ≤ 48 → FewM j.p m → m ≤ 80000 → j.seq < 18446744073709551616 →
    Calls Tryz.prog 64 #[.pointer (some ⟨T, 0, none⟩)] w fun e w' => e = .returned (.int .i64 (cmE t j)) ∧ TA w' T J P base (cmT t j) (cmJ t j) ∧ KP base w w'
  size : ∀ (w : World) (J P base : Nat) (j : Jl), JA w J P base j →
    Calls Tryz.prog 46 #[.pointer (some ⟨J, 0, none⟩)] w fun e w' => e = .returned (.int .i64 (j.p.n : Int)) ∧ Below w.heap.size w w'
  jread : ∀ (w : World) (J P base m : Nat) (j : Jl) (i : Int), JA w J P base j → FewM j.p m → m ≤ 80000 → -9223372036854775808 ≤ i → i ≤ 9223372036854775807 → j.p.off = false →
    Calls Tryz.prog 44 #[.pointer (some ⟨J, 0, none⟩), .int .i64 i] w fun e w' => (∃ v, e = .returned (.tuple #[v, .int .i64 (jrE j.p i)]) ∧ IsV w' v (jrB j.p i)) ∧ Below w.heap.size w w'

/-- a transaction's sector -/
structure Pq where
  at_ : Int
  by_ : UInt8
  odd : UInt8
def pq0 : Pq := ⟨0, 0, 0⟩
def pqc (q : Pq) : List Value := [.int .i64 q.at_, .int .u8 (q.by_.toNat : Int), .int .u8 (q.odd.toNat : Int)]
structure IsPqs (w : World) (a : Option Addr) (len cap : Nat) (ps : List Pq) : Prop where
  len_eq : ps.length = len
  cells : 0 < len → ∃ b off, a = some ⟨b, off, none⟩ ∧ b < w.heap.size ∧ ∀ i, i < len → ∀ j, j < 3 → w.cell? ⟨b, off + i * 3 + j, none⟩ = (pqc (ps.getD i pq0))[j]?
/-- a transaction of the script -/
structure Xq where
  l : List Pq
  la : Option Addr
  lc : Nat
  arm : Int
  keep : List Bool
  ka : Option Addr
  kc : Nat
  more : Int
  rest : List Bool
  ra : Option Addr
  rc : Nat
def xq0 : Xq := ⟨[], none, 0, 0, [], none, 0, 0, [], none, 0⟩
def xqc (o : Xq) : List Value := [.slice o.la o.l.length o.lc, .int .i64 o.arm, .slice o.ka o.keep.length o.kc, .int .i64 o.more, .slice o.ra o.rest.length o.rc]
structure OkX (w : World) (base : Nat) (o : Xq) : Prop where
  ps : ∀ W, Below base w W → IsPqs W o.la o.l.length o.lc o.l
  keep : ∀ W, Below base w W → IsKs W o.ka o.keep.length o.kc o.keep
  rest : ∀ W, Below base w W → IsKs W o.ra o.rest.length o.rc o.rest
  lLen : o.l.length ≤ 140737488351232
  keepLen : o.keep.length ≤ 140737488351232
  restLen : o.rest.length ≤ 140737488351232
  arm0 : -9223372036854775808 ≤ o.arm
  arm1 : o.arm ≤ 9223372036854775807
  more0 : -9223372036854775808 ≤ o.more
  more1 : o.more ≤ 9223372036854775807
  at0 : ∀ q ∈ o.l, -9223372036854775808 ≤ q.at_ ∧ q.at_ ≤ 9223372036854775807
theorem OkX.on {w w' : World} {base : Nat} {o : Xq} (h : OkX w base o) (hb : Below base w w') : OkX w' base o :=
  ⟨fun W hW => h.ps W (hb.trans hW), fun W hW => h.keep W (hb.trans hW), fun W hW => h.rest W (hb.trans hW), h.lLen, h.keepLen, h.restLen, h.arm0, h.arm1, h.more0, h.more1, h.at0⟩
structure IsXs (w : World) (a : Option Addr) (len cap : Nat) (os : List Xq) : Prop where
  len_eq : os.length = len
  max : len ≤ 140737488351232
  cells : 0 < len → ∃ b off, a = some ⟨b, off, none⟩ ∧ b < w.heap.size ∧ ∀ i, i < len → ∀ j, j < 5 → w.cell? ⟨b, off + i * 5 + j, none⟩ = (xqc (os.getD i xq0))[j]?
  ok : ∀ i, i < len → OkX w w.heap.size (os.getD i xq0)
/-- is the script small? -/
def lightX (os : List Xq) : Bool := decide ((∀ i, i < os.length → (os.getD i xq0).l.length ≤ 60) ∧ os.length ≤ 12)

end Go.Proofs.YtdeoankmmolebaaGreat
