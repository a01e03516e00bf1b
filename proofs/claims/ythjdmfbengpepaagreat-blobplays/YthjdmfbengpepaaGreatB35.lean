/- The program's journal: Mount. · The program's transaction: Write. -/
import Derived.Test.YthjdmfbengpepaaGreatPjN
import Derived.Test.YthjdmfbengpepaaGreatB28
import Derived.Test.YthjdmfbengpepaaGreatB2
namespace Go.Proofs.YthjdmfbengpepaaGreat
open Go.RowKit

/-- what Mount answers -/
def MnPost (w : World) (P base : Nat) (p : Pl) (e : Ending) (w' : World) : Prop :=
  (if mountE p = 0 then ∃ J, e = .returned (.tuple #[.pointer (some ⟨J, 0, none⟩), .int .i64 0]) ∧ JAt w' J P base ⟨mountP p, mountS p, false⟩ else e = .returned (.tuple #[.pointer none, .int .i64 (mountE p)]) ∧ IsD0 w' P base (mountP p)) ∧ KeepT PD w w' ∧ Below base w w'
theorem mn_down {p : Pl} (h : p.off = true) : mountE p = 51 ∧ mountP p = p := by
  have e : p.rdE 0 = 51 := by unfold Pl.rdE; rw [h]; rfl
  unfold mountE mountP
  rw [if_pos (by rw [e]; decide), if_pos (by rw [e]; decide)]
  exact ⟨e, rfl⟩
theorem held_up {p : Pl} (h : p.rdE 0 = 0) : heldJ p = heldB p (p.rdB ((0 : Nat) : Int)) := by unfold heldJ; rw [if_neg (by simp [h])]; rfl
theorem mn_none {p : Pl} (h : p.rdE 0 = 0) (hh : heldJ p = none) : mountE p = 0 ∧ mountP p = p ∧ mountS p = 0 := by
  unfold mountE mountP mountS
  rw [if_neg (by simp [h]), if_neg (by simp [h]), hh]
  exact ⟨rfl, rfl, rfl⟩
theorem mn_some {p : Pl} {s : Nat} {l : Qs} (h : p.rdE 0 = 0) (hh : heldJ p = some (s, l)) : mountE p = stepsE p l ∧ mountP p = stepsP p l ∧ mountS p = s := by
  unfold mountE mountP mountS
  rw [if_neg (by simp [h]), if_neg (by simp [h]), hh]
  exact ⟨rfl, rfl, rfl⟩

set_option maxRecDepth 20000 in
set_option maxHeartbeats 4000000 in
theorem codMount (P base m : Nat) (p : Pl) (w : World) (h : IsD0 w P base p) (hf : FewM p m) (hm : m ≤ 80000) :
    Calls Tryz.prog 34 #[.pointer (some ⟨P, 0, none⟩)] w (MnPost w P base p) := by
  have HLow : Hid (base ≤ w.heap.size) := h.low
  cases hoff : p.off with
  | true =>
    have HFr := codFrontNo P base m p w h hf (by omega) hoff
    have HE := mkHid (mn_down hoff)
    have HI := mkHid h
    clear h hf hoff
    go_enter Tryz.func34, Tryz.ntmps34
    go_wp2_with fail
    refine HFr.mono ?_
    rintro e w1 ⟨rfl, hb1⟩
    have HB1 := mkHid hb1
    clear hb1 HFr
    go_wp2_with fail
    go_ret2
    refine ⟨?_, KeepT.of_below HB1.out, HB1.out.mono HLow.out⟩
    rw [if_neg (by rw [HE.out.1]; decide), HE.out.1, HE.out.2]
    exact ⟨rfl, HI.out.on HB1.out⟩
  | false =>
    have HFr := codFront P base m p w h hf (by omega) hoff
    have HI := mkHid h
    have HF := mkHid hf
    have h0 := rdE_zero hf hoff
    have HHe := mkHid (held_up h0)
    have H0 := mkHid h0
    have HN0 := mkHid hf.n0
    have HN4 := mkHid hf.n
    clear h hf hoff h0
    go_enter Tryz.func34, Tryz.ntmps34
    go_wp2_with fail
    refine HFr.mono ?_
    rintro e w1 ⟨F, rfl, ⟨gs, hFr⟩, hb1⟩
    have HB1 := mkHid hb1
    have HSd := codSealed F p gs w1 hFr HN0.out HN4.out
    have HSz : Calls Tryz.prog 79 #[.pointer (some ⟨P, 0, none⟩)] w1 fun e w' => e = .returned (.int .i64 (p.n : Int)) ∧ w' = w1 := by
      obtain ⟨S, vC, arm, h⟩ := HI.out.on hb1
      exact codSize P S p.n w1 (h.blk.cell 0)
    clear hb1 HFr hFr
    go_wp2_with fail
    refine HSz.mono ?_
    rintro e w2 ⟨rfl, hw2⟩
    obtain rfl := hw2.symm
    go_wp2_with fail
    refine HSd.mono ?_
    rintro e w3 ⟨s, n, pc, nd, dc, pa, da, hold, rfl, hb3, hpost⟩
    have HB3 : Hid (Below w.heap.size w w3) := HB1.out.trans (hb3.mono HB1.out.size)
    rw [← HHe.out] at hpost
    clear HSz HSd hb3
    have hb4 : Below w3.heap.size w3 (w3.alloc (.cells #[.int .u64 (s : Int), .slice pa n pc, .slice da nd dc] 138)) := (Below.refl _ w3).alloc (Nat.le_refl _) _
    have HB4 := mkHid (HB3.out.trans (hb4.mono HB3.out.size))
    have HC4 : Hid (Blk (w3.alloc (.cells #[.int .u64 (s : Int), .slice pa n pc, .slice da nd dc] 138)) w3.heap.size 138 [.int .u64 (s : Int), .slice pa n pc, .slice da nd dc]) := Blk.new w3 _ _
    cases hh : heldJ p with
    | none =>
      rw [hh] at hpost
      obtain rfl : hold = false := hpost
      have HE := mkHid (mn_none H0.out hh)
      clear hh
      have hbl : Tryz.prog.built 142 [(0, .pointer (some ⟨P, 0, none⟩))] = some #[.pointer (some ⟨P, 0, none⟩), .int .u64 0, .int .u32 0] := by kernel_rfl
      go_wp2_with fail
      go_ret2
      have hb5 := HB4.out.alloc HB4.out.size (.cells #[.pointer (some ⟨P, 0, none⟩), .int .u64 0, .int .u32 0] 142)
      refine ⟨?_, KeepT.of_below hb5, hb5.mono HLow.out⟩
      rw [if_pos HE.out.1, HE.out.2.1, HE.out.2.2]
      refine ⟨_, rfl, ⟨Blk.newAt _ _ _ _ _ (by simp) rfl, ?_, HI.out.on hb5, by show 0 < _; omega⟩⟩
      have := HLow.out; have := HB3.out.size; omega
    | some q =>
      obtain ⟨s', l⟩ := q
      rw [hh] at hpost
      obtain ⟨rfl, rfl, hn, rfl, rfl, hIs, hDt⟩ := hpost
      rw [← hn] at HC4 HB4 ⊢
      have HE := mkHid (mn_some H0.out hh)
      have HS8 := mkHid (heldJ_len hh)
      have HSl : Hid (s < 18446744073709551616) := by
        have := mountS_lt (p := p)
        rw [HE.out.2.2] at this
        exact this
      have h48 : n ≤ 48 := by rw [hn]; exact HS8.out.1
      have HPu := codPut P base m p l pa da n pc 48 (w3.alloc (.cells #[.int .u64 (s : Int), .slice pa n pc, .slice da n 48] 138)) (HI.out.on HB4.out) HF.out (by omega) (hIs.on ((Below.refl _ w3).alloc (Nat.le_refl _) _)) (hDt.on ((Below.refl _ w3).alloc (Nat.le_refl _) _))
      rw [← HE.out.1, ← HE.out.2.1] at HPu
      clear hIs hDt hh hn hb4
      have k1 : (w3.alloc (.cells #[.int .u64 (s : Int), .slice pa n pc, .slice da n 48] 138)).cell? ⟨w3.heap.size, 1, none⟩ = some (.slice pa n pc) := HC4.out.cell 1
      have k2 : (w3.alloc (.cells #[.int .u64 (s : Int), .slice pa n pc, .slice da n 48] 138)).cell? ⟨w3.heap.size, 2, none⟩ = some (.slice da n 48) := HC4.out.cell 2
      have HSm := mkHid HE.out.2.2
      clear HE
      obtain ⟨eM, heM⟩ : ∃ eM, eM = mountE p := ⟨_, rfl⟩
      have HeM := mkHid heM
      rw [← heM] at HPu
      clear heM
      by_cases hz : eM = 0
      · subst hz
        go_wp2_with fail
        refine HPu.mono ?_
        rintro e w5 ⟨rfl, hI5, hT5, hb5⟩
        have HI5 := mkHid hI5
        have HT5 : Hid (KeepT PD w w5) := (KeepT.of_below HB4.out).trans hT5
        have HB5 : Hid (Below base w w5) := (HB4.out.mono HLow.out).trans hb5
        have HC5 := mkHid (hT5.blk HC4.out (by decide))
        have HLw5 : Hid (base ≤ w5.heap.size) := hI5.low
        clear hI5 hT5 hb5 HPu k1 k2
        generalize w3.heap.size = C at *
        have k0 : w5.cell? ⟨C, 0, none⟩ = some (.int .u64 (s : Int)) := HC5.out.cell 0
        have hbl : Tryz.prog.built 142 [(0, .pointer (some ⟨P, 0, none⟩)), (1, .int .u64 (s : Int))] = some #[.pointer (some ⟨P, 0, none⟩), .int .u64 (s : Int), .int .u32 0] := by kernel_rfl
        go_wp2_with fail
        go_ret2
        have hb6 : Below w5.heap.size w5 (w5.alloc (.cells #[.pointer (some ⟨P, 0, none⟩), .int .u64 (s : Int), .int .u32 0] 142)) := (Below.refl _ w5).alloc (Nat.le_refl _) _
        refine ⟨?_, HT5.out.trans (KeepT.of_below hb6), HB5.out.trans (hb6.mono HLw5.out)⟩
        rw [if_pos HeM.out.symm, HSm.out]
        exact ⟨_, rfl, ⟨Blk.newAt _ _ _ _ _ rfl rfl, HLw5.out, HI5.out.on hb6, HSl.out⟩⟩
      · have hzb : (eM == 0) = false := by rw [beq_eq_false_iff_ne]; exact hz
        go_wp2_with fail
        refine HPu.mono ?_
        rintro e w5 ⟨rfl, hI5, hT5, hb5⟩
        have HI5 := mkHid hI5
        have HT5 : Hid (KeepT PD w w5) := (KeepT.of_below HB4.out).trans hT5
        have HB5 : Hid (Below base w w5) := (HB4.out.mono HLow.out).trans hb5
        clear hI5 hT5 hb5 HPu k1 k2
        go_wp2_with fail
        go_ret2
        refine ⟨?_, HT5.out, HB5.out⟩
        rw [if_neg (by rw [← HeM.out]; exact hz), ← HeM.out]
        exact ⟨rfl, HI5.out⟩
end Go.Proofs.YthjdmfbengpepaaGreat
namespace Go.Proofs.YthjdmfbengpepaaGreat
open Go.RowKit Go.Maps
attribute [local go_sem ↓] zvJ arrJ

theorem stepMapUp {o : Oper} {a : Act} {w w' : World} {K : Act → World → Prop} {Q : Exit → Act → World → Prop} (m x v : Operand) (t : TypeId) (hop : o.op = Op.mapUpdate t m x v) {vm key val : Value} (hm : a.eval m = vm) (hx : a.eval x = key) (hv : a.eval v = val) (hrun : (Instr.mapUpdate t vm key val).run Tryz.prog w = .ok () w') (d : Option Tmp) (hd : o.dst = d) (h : K (a.put d undef) w') : Oper.wp Tryz.prog o a w K Q := by
  subst hd
  unfold Oper.wp
  simp [execOp, hop, hm, hx, hv, hrun, Result.andThen]
  exact h
theorem isB_range {w : World} {b off n c : Nat} {l : List UInt8} (h : IsB w (some ⟨b, off, none⟩) n c l) (hn : 0 < n) : w.rangeAt b off (bv l) := fun k v hv => by
  obtain ⟨b2, off2, e, hc⟩ := h.cells hn
  injection Option.some.inj e with e1 e2
  subst e1 e2
  have hk : k < l.length := by have := (List.getElem?_eq_some_iff.1 hv).1; rwa [bv_length] at this
  rw [bv_at l k hk] at hv
  rw [hc k (by rw [← h.len_eq]; exact hk), hv]
theorem range_lt {w : World} {b off : Nat} {cs : List Value} (h : w.rangeAt b off cs) (hc : 0 < cs.length) : ∃ c t fz, w.heap[b]? = some (.cells c t fz) := by
  have h0 := h 0 cs[0] (List.getElem?_eq_getElem hc)
  unfold World.cell? at h0
  split at h0
  · rename_i c t fz hb
    exact ⟨c, t, fz, hb⟩
  · cases h0
theorem putQ_memJ (l : Qs) (i : Nat) (b : List UInt8) : ∀ g ∈ putQ l i b, g ∈ l ∨ g = (i, b) := by
  induction l with
  | nil => intro g hg; exact .inr (List.mem_singleton.1 hg)
  | cons x l ih =>
    intro g hg
    rw [putQ] at hg
    split at hg
    · rcases List.mem_cons.1 hg with e | e
      · exact .inl (by rw [e]; simp)
      · rcases ih g e with h | h
        · exact .inl (List.mem_cons_of_mem _ h)
        · exact .inr h
    · split at hg
      · rcases List.mem_cons.1 hg with e | e
        · exact .inr e
        · exact .inl (List.mem_cons_of_mem _ e)
      · rcases List.mem_cons.1 hg with e | e
        · exact .inr e
        · exact .inl e
theorem wr51 {t : Tl} {j : Jl} {i : Int} {b : List UInt8} (h : t.over = true ∨ j.dead = true) : t.wrE j i b = 51 ∧ t.write j i b = t := by
  have : t.wrE j i b = 51 := by unfold Tl.wrE; rw [if_pos h]
  exact ⟨this, by unfold Tl.write; rw [if_neg (by rw [this]; decide)]⟩
theorem wr50 {t : Tl} {j : Jl} {i : Int} {b : List UInt8} (h : ¬ (t.over = true ∨ j.dead = true)) (ha : areaI j.p.n i = false) : t.wrE j i b = 50 ∧ t.write j i b = t := by
  have : t.wrE j i b = 50 := by unfold Tl.wrE; rw [if_neg h, if_pos ha]
  exact ⟨this, by unfold Tl.write; rw [if_neg (by rw [this]; decide)]⟩
theorem wr1 {t : Tl} {j : Jl} {i : Int} {b : List UInt8} (h : ¬ (t.over = true ∨ j.dead = true)) (ha : areaI j.p.n i = true) (hb : b.length ≠ 512) : t.wrE j i b = 1 ∧ t.write j i b = t := by
  have : t.wrE j i b = 1 := by unfold Tl.wrE; rw [if_neg h, if_neg (by rw [ha]; decide), if_pos hb]
  exact ⟨this, by unfold Tl.write; rw [if_neg (by rw [this]; decide)]⟩
theorem wr44 {t : Tl} {j : Jl} {i : Int} {b : List UInt8} (h : ¬ (t.over = true ∨ j.dead = true)) (ha : areaI j.p.n i = true) (hb : b.length = 512) (hh : hitQ t.l i.toNat = false ∧ 48 ≤ t.l.length) : t.wrE j i b = 44 ∧ t.write j i b = t := by
  have : t.wrE j i b = 44 := by unfold Tl.wrE; rw [if_neg h, if_neg (by rw [ha]; decide), if_neg (by simp [hb]), if_pos hh]
  exact ⟨this, by unfold Tl.write; rw [if_neg (by rw [this]; decide)]⟩
theorem wr00 {t : Tl} {j : Jl} {i : Int} {b : List UInt8} (h : ¬ (t.over = true ∨ j.dead = true)) (ha : areaI j.p.n i = true) (hb : b.length = 512) (hh : ¬ (hitQ t.l i.toNat = false ∧ 48 ≤ t.l.length)) : t.wrE j i b = 0 ∧ t.write j i b = { t with l := putQ t.l i.toNat b } := by
  have : t.wrE j i b = 0 := by unfold Tl.wrE; rw [if_neg h, if_neg (by rw [ha]; decide), if_neg (by simp [hb]), if_neg hh]
  exact ⟨this, by unfold Tl.write; rw [if_pos this]⟩
/-- what Write needs to know, behind its tests -/
def TwPost (w : World) (T J P base : Nat) (t : Tl) (j : Jl) (i : Int) (b : List UInt8) (e : Ending) (w' : World) : Prop := e = .returned (.int .i64 (t.wrE j i b)) ∧ TAx w' T J P base (t.write j i b) j ∧ KP base w w'
theorem twNo {w w' : World} {T J P base : Nat} {t : Tl} {j : Jl} {M : Nat} {tr : Bool} {i z : Int} {b : List UInt8} (h : TAt w T J P base t j M tr) (hz : t.wrE j i b = z ∧ t.write j i b = t) (hb : Below w.heap.size w w') : TwPost w T J P base t j i b (.returned (.int .i64 z)) w' :=
  ⟨by rw [hz.1], by rw [hz.2]; exact ⟨M, tr, h.on hb⟩, KP.of_below hb (by have := h.low; have := h.blk.lt; omega)⟩
theorem isD_keepO {X : Nat → Prop} {w w' : World} {P base : Nat} {p : Pl} (h : IsD X w P base p) {us : List TypeId} (hk : KeepO us w w') (h1 : 133 ∈ us) (h2 : 202 ∈ us) (h3 : 208 ∈ us) : IsD X w' P base p := by
  obtain ⟨S, vC, arm, h⟩ := h
  exact ⟨S, vC, arm, { h with blk := hk.blk h.blk h1, st := hk.blk h.st h2, ca := own_keepO hk h.ca h3, xlt := fun k hx => Nat.lt_of_lt_of_le (h.xlt k hx) hk.size }⟩
/-- what turns a map leaves all else -/
theorem map_keepO {w w' : World} {M : Nat} {l : Qs} (hM : OwnM w M l) (hg : w.grownBy w' (some M)) (us : List TypeId) : KeepO us w w' := by
  obtain ⟨es, cl, hob⟩ := ownM_obj hM
  exact ⟨hg.size, fun k c ty fz hk _ => (hg.block k (Array.getElem?_eq_some_iff.1 hk).1 (fun e => by
    have e := Option.some.inj e
    subst e
    have := hob.symm.trans hk
    cases this)).trans hk, fun k o hk ho => (hg.block k (Array.getElem?_eq_some_iff.1 hk).1 (fun e => by
    have e := Option.some.inj e
    subst e
    have := Option.some.inj (hob.symm.trans hk)
    subst this
    cases ho)).trans hk⟩
/-- the map turned -/
theorem twYes {w w1 w2 : World} {T J P base : Nat} {t : Tl} {j : Jl} {M : Nat} {tr : Bool} {i : Int} {b : List UInt8} (h : TAt w T J P base t j M tr) (hb : Below w.heap.size w w1) (hz : t.wrE j i b = 0 ∧ t.write j i b = { t with l := putQ t.l i.toNat b }) (hi : areaI j.p.n i = true) (hn : j.p.n ≤ 4096) (hl : b.length = 512) (hM : w2.ownsMap Tryz.prog 3 secR M (t.l.length + 1) ((mapD t.l).put (keyQ i.toNat) (.held (secV b)))) (hg : w1.grownBy w2 (some M)) : TwPost w T J P base t j i b (.returned (.int .i64 0)) w2 := by
  have h1 := h.on hb
  have hKO := map_keepO h1.own hg
  have hlt : base ≤ w1.heap.size := by have := h1.low; have := h1.blk.lt; omega
  have hBl : Below base w1 w2 := ⟨hg.1, hg.2, hg.3, hg.4, fun k hk => hg.block k (Nat.lt_of_lt_of_le hk hlt) (fun e => by have := Option.some.inj e; have := h1.lowM; omega)⟩
  have hIs : IsD0 w2 P base j.p := isD_keepO h1.ja.d (hKO [133, 202, 208]) (by simp) (by simp) (by simp)
  have ha : 49 ≤ i ∧ i < j.p.n := by unfold areaI at hi; exact of_decide_eq_true hi
  refine ⟨by rw [hz.1], ⟨M, tr, ⟨⟨(hKO [142]).blk h1.ja.blk (by simp), h1.ja.low, hIs, h1.ja.seq⟩, (hKO [179]).blk h1.blk (by simp), h1.low, h1.lowM, ?_, ?_, ?_, ?_⟩⟩, ⟨(KeepO.of_below hb).trans (hKO _), (hb.mono (by have := h.low; have := h.blk.lt; omega)).trans hBl⟩⟩
  · rw [hz.2]
    rw [mapD_put _ _ _ h.sort] at hM
    exact own_tight hM
  · rw [hz.2]; exact putQ_sort _ _ _ h.sort
  · rw [hz.2]
    intro g hg
    rcases putQ_memJ _ _ _ g hg with e | e
    · exact h.ok g e
    · rw [e]; exact ⟨hl, by show 49 ≤ i.toNat; omega, by show i.toNat < 4096; omega⟩
  · intro hd
    rw [hz.2]
    exact h.over hd
end Go.Proofs.YthjdmfbengpepaaGreat
