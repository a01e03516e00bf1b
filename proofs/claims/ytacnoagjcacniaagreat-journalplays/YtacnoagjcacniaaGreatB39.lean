/- The program's journal: a change committed. · The program's journal: commit. -/
import Derived.Test.YtacnoagjcacniaaGreatB36
import Derived.Test.YtacnoagjcacniaaGreatB38
import Derived.Test.YtacnoagjcacniaaGreatB32
namespace Go.Proofs.YtacnoagjcacniaaGreat
open Go.RowKit

theorem IsDt.slots {w : World} {a : Option Addr} {n c : Nat} {l : Qs} (h : IsDt w a n c l) : IsDt w a n c (slotQ l) :=
  ⟨by rw [slotQ_len]; exact h.len_eq, fun hp => by
    have hn := h.len_eq
    obtain ⟨B, off, e, hb, hc⟩ := h.cells hp
    refine ⟨B, off, e, hb, fun i hi => ?_⟩
    rw [slotQ_nth l i (by omega)]
    exact hc i hi⟩
theorem isIs_one {w : World} {B : Nat} (b : List UInt8) (h : Blk w B 3 [.int .i64 0]) : IsIs w (some ⟨B, 0, none⟩) 1 1 [(0, b)] :=
  ⟨rfl, fun _ => ⟨B, 0, rfl, ⟨_, _, h⟩, fun i hi => by
    have : i = 0 := by omega
    subst this
    rw [h.cell]; rfl⟩⟩
theorem isDt_one {w : World} {B g : Nat} {b : List UInt8} (h : Blk w B 49 [.slice (some ⟨g, 0, none⟩) 512 512]) (hg : Blk w g 5 (bv b)) (hb : b.length = 512) : IsDt w (some ⟨B, 0, none⟩) 1 1 [(0, b)] :=
  ⟨rfl, fun _ => ⟨B, 0, rfl, ⟨_, _, h⟩, fun i hi => by
    have : i = 0 := by omega
    subst this
    exact ⟨hb, g, 5, by rw [h.cell]; rfl, hg, by simp⟩⟩⟩

set_option maxRecDepth 20000 in
set_option maxHeartbeats 4000000 in
theorem codChange (P base m : Nat) (t : Tl) (j : Jl) (pa da : Option Addr) (n pc dc : Nat) (w : World) (h : IsD0 w P base j.p) (hf : FewM j.p m) (hm : m ≤ 80000) (h48 : n ≤ 48) (hp : IsIs w pa n pc t.l) (hd : IsDt w da n dc t.l) (ha : ∀ g ∈ t.l, g.1 ≤ 1000000) :
    Calls Tryz.prog 93 #[.agg #[.int .u64 (nxt j.seq : Int), .slice pa n pc, .slice da n dc], .pointer (some ⟨P, 0, none⟩)] w fun e w' => e = .returned (.int .i64 (cmC t j).2) ∧ IsD0 w' P base (cmC t j).1 ∧ KeepT PD w w' ∧ Below base w w' := by
  have HI := mkHid h
  have HP := mkHid hp
  have HD := mkHid hd
  have HN := mkHid hp.len_eq
  have HA := mkHid ha
  have HFA := mkHid (hf.cmA (t := t) rfl (by rw [hp.len_eq]; exact h48))
  have HFB := mkHid (hf.cmB (t := t) rfl (by rw [hp.len_eq]; exact h48))
  have HF := mkHid hf
  have h48' : (n : Int) ≤ 48 := by omega
  have HLow : Hid (base ≤ w.heap.size) := h.low
  generalize hsq : nxt j.seq = sq at *
  have HC : Hid (Blk (w.alloc (.cells #[.int .u64 (sq : Int), .slice pa n pc, .slice da n dc] 116)) w.heap.size 116 [.int .u64 (sq : Int), .slice pa n pc, .slice da n dc]) := Blk.new w _ _
  have HD0 : Hid (Below w.heap.size w (w.alloc (.cells #[.int .u64 (sq : Int), .slice pa n pc, .slice da n dc] 116))) := (Below.refl _ w).alloc (Nat.le_refl _) _
  have HSl := fun W => codSlots t.l n hp.len_eq h48 W
  have HEA : Hid (stepsE j.p (slotQ t.l) = (cmA t j).2 ∧ stepsP j.p (slotQ t.l) = (cmA t j).1) := ⟨rfl, rfl⟩
  have HEB : Hid ((cmA t j).2 = 0 → stepsE (cmA t j).1 [(0, sealJ sq t.l)] = (cmB t j).2 ∧ stepsP (cmA t j).1 [(0, sealJ sq t.l)] = (cmB t j).1) := fun h0 => by unfold cmB; rw [if_pos h0, hsq]; exact ⟨rfl, rfl⟩
  have HNB : Hid (¬ (cmA t j).2 = 0 → cmB t j = cmA t j) := fun h0 => by unfold cmB; rw [if_neg h0]
  have HEC : Hid ((cmB t j).2 = 0 → stepsE (cmB t j).1 t.l = (cmC t j).2 ∧ stepsP (cmB t j).1 t.l = (cmC t j).1) := fun h0 => by unfold cmC; rw [if_pos h0]; exact ⟨rfl, rfl⟩
  have HNC : Hid (¬ (cmB t j).2 = 0 → cmC t j = cmB t j) := fun h0 => by unfold cmC; rw [if_neg h0]
  clear h hp hd ha hf hsq
  generalize cmC t j = cC at *
  generalize cmB t j = cB at *
  generalize cmA t j = cA at *
  obtain ⟨pA, eA⟩ := cA
  obtain ⟨pB, eB⟩ := cB
  obtain ⟨pC, eC⟩ := cC
  dsimp only at HFA HFB HEA HEB HNB HEC HNC ⊢
  obtain ⟨C, hC⟩ : ∃ C, C = w.heap.size := ⟨_, rfl⟩
  have HCe := mkHid hC
  go_enter Tryz.func93, Tryz.ntmps93
  go_upto_region 1 with fail
  rw [← hC] at HC HD0 ⊢
  clear hC
  generalize w.alloc (.cells #[.int .u64 (sq : Int), .slice pa n pc, .slice da n dc] 116) = w0 at *
  have HI0 : Hid (IsD0 w0 P base j.p) := HI.out.on (by rw [← HCe.out]; exact HD0.out)
  have HDw : Hid (IsDt w0 da n dc t.l) := HD.out.on (by rw [← HCe.out]; exact HD0.out)
  have HKP : ∀ w', Hid (KeepT PD w0 w' ∧ Below base w0 w') → Hid (KeepT PD w0 w' ∧ Below base w0 w') ∧ w'.cell? ⟨C, 2, none⟩ = some (.slice da n dc) := fun w' h => ⟨h, (h.out.1.blk HC.out (by decide)).cell 2⟩
  have HLow0 : Hid (base ≤ w0.heap.size) := Nat.le_trans HLow.out (Nat.le_trans (Nat.le_of_eq HCe.out.symm) (by have := HC.out.lt; omega))
  have HK0 := mkHid (HKP _ (mkHid ⟨KeepT.of_below ((Below.refl _ w0).drew), ((Below.refl _ w0).drew).mono HLow0.out⟩))
  have HSl2 : ∀ W, Calls Tryz.prog 120 #[.int .i64 (n : Int)] W fun e w' => ∃ S, e = .returned (.slice (some ⟨S, 0, none⟩) n n) ∧ Hid (IsIs w' (some ⟨S, 0, none⟩) n n (slotQ t.l)) ∧ Hid (Below W.heap.size W w') := HSl
  have HPu : ∀ W S, Below w0.heap.size w0 W → IsIs W (some ⟨S, 0, none⟩) n n (slotQ t.l) → Calls Tryz.prog 53 #[.pointer (some ⟨P, 0, none⟩), .slice (some ⟨S, 0, none⟩) n n, .slice da n dc] W fun e w' => e = .returned (.int .i64 eA) ∧ Hid (IsD0 w' P base pA) ∧ Hid (KeepT PD W w') ∧ Hid (Below base W w') := fun W S hW hS => by
    have := codPut P base m j.p (slotQ t.l) (some ⟨S, 0, none⟩) da n n dc W (HI0.out.on hW) HF.out (by omega) hS ((HDw.out.on hW).slots)
    rw [HEA.out.1, HEA.out.2] at this
    exact this
  clear HSl
  go_region_held3 (fun w' => Hid (KeepT PD w0 w' ∧ Below base w0 w') ∧ w'.cell? ⟨C, 2, none⟩ = some (.slice da n dc))
    (first | exact HK0.out | assumption | (have hq0 := ‹Hid (KeepT _ _ _ ∧ _) ∧ _›; exact HKP _ (mkHid ⟨hq0.1.out.1.trans hkx.out.1, hq0.1.out.2.trans hkx.out.2⟩)))
    (first
      | (go_at_call 120; have hq0 := ‹Hid (KeepT _ _ _ ∧ _) ∧ _›; refine (HSl2 _).mono ?_; rintro e y1 ⟨S, rfl, hS, hb1⟩; have hkx := mkHid (And.intro (KeepT.of_below (ts := PD) hb1.out) (hb1.out.mono (Nat.le_trans HLow0.out hq0.1.out.1.size))); have hw1 : Hid (Below w0.heap.size w0 y1) := mkHid (((Below.refl _ w0).drew).trans hb1.out); clear hq0 hb1)
      | (go_at_call 53; refine (HPu _ S hw1.out hS.out).mono ?_; rintro e y2 ⟨rfl, hI2, hT2, hb2⟩; have hkx := mkHid (And.intro hT2.out hb2.out); clear hT2 hb2))
  have hq9 := ‹Hid (KeepT _ _ _ ∧ _) ∧ _›
  have HT2 : Hid (KeepT PD w y2) := (KeepT.of_below (by rw [← HCe.out]; exact HD0.out)).trans hq9.1.out.1
  have HB2 : Hid (Below base w y2) := (HD0.out.mono (by rw [HCe.out]; exact HLow.out)).trans hq9.1.out.2
  have HC2 := mkHid (hq9.1.out.1.blk HC.out (by decide))
  have HI2 := hI2
  clear hq9 hkx HK0 HKP HSl2 HPu hS hw1 hI2 HI0 HDw HC HD0 HCe HLow0
  by_cases hA : eA = 0
  · subst hA
    have hb3 : Below y2.heap.size y2 (y2.alloc (.cells #[.int .i64 0] 3)) := (Below.refl _ y2).alloc (Nat.le_refl _) _
    have HC3 := HC2.out.on hb3
    have k0 : (y2.alloc (.cells #[.int .i64 0] 3)).cell? ⟨C, 0, none⟩ = some (.int .u64 (sq : Int)) := HC3.cell 0
    have k1 : (y2.alloc (.cells #[.int .i64 0] 3)).cell? ⟨C, 1, none⟩ = some (.slice pa n pc) := HC3.cell 1
    have k2 : (y2.alloc (.cells #[.int .i64 0] 3)).cell? ⟨C, 2, none⟩ = some (.slice da n dc) := HC3.cell 2
    have HEb := mkHid (HEB.out rfl)
    have HSe := codSeal sq t.l pa da n pc dc _ h48 ((HP.out.keep HT2.out (by decide)).on hb3) ((HD.out.keep HT2.out (by decide)).on hb3) HA.out
    have HK3 : Hid (Blk (y2.alloc (.cells #[.int .i64 0] 3)) y2.heap.size 3 [.int .i64 0]) := Blk.new y2 _ _
    have HC3h := mkHid HC3
    have HB3 := mkHid hb3
    have HLo2 : Hid (base ≤ y2.heap.size) := HI2.out.low
    have HS5 : Hid ((sealJ sq t.l).length = 512) := sealJ_length _ _ (by rw [preJ_length, HN.out]; omega)
    clear hb3 HC3 HC2
    go_wp2_with fail
    refine HSe.mono ?_
    rintro e y4 ⟨g, rfl, hg4, _, hb4⟩
    have HT4 : Hid (Below y2.heap.size y2 y4) := HB3.out.trans (hb4.mono HB3.out.size)
    have HK4 := mkHid (HK3.out.on hb4)
    have HC4 := mkHid (HC3h.out.on hb4)
    have HG4 := mkHid hg4
    clear hg4 hb4 HSe HK3 HC3h HB3 k0 k1 k2
    have HI4 := mkHid (HI2.out.on HT4.out)
    have HTw4 : Hid (KeepT PD w y4) := HT2.out.trans (KeepT.of_below HT4.out)
    have HBw4 : Hid (Below base w y4) := HB2.out.trans (HT4.out.mono HLo2.out)
    generalize y2.heap.size = B1 at *
    have HLo4 : Hid (base ≤ y4.heap.size) := HI4.out.low
    have HB5 : Hid (Below y4.heap.size y4 (y4.alloc (.cells #[.slice (some ⟨g, 0, none⟩) 512 512] 49))) := (Below.refl _ y4).alloc (Nat.le_refl _) _
    have HK5 : Hid (Blk (y4.alloc (.cells #[.slice (some ⟨g, 0, none⟩) 512 512] 49)) y4.heap.size 49 [.slice (some ⟨g, 0, none⟩) 512 512]) := Blk.new y4 _ _
    have HPu := codPut P base (m + 49) pA [(0, sealJ sq t.l)] (some ⟨B1, 0, none⟩) (some ⟨y4.heap.size, 0, none⟩) 1 1 1 (y4.alloc (.cells #[.slice (some ⟨g, 0, none⟩) 512 512] 49)) (HI4.out.on HB5.out) HFA.out (by omega) (isIs_one _ (HK4.out.on HB5.out)) (isDt_one HK5.out (HG4.out.on HB5.out) HS5.out)
    rw [HEb.out.1, HEb.out.2] at HPu
    have HC5 := mkHid (HC4.out.on HB5.out)
    have HTw5 : Hid (KeepT PD w (y4.alloc (.cells #[.slice (some ⟨g, 0, none⟩) 512 512] 49))) := HTw4.out.trans (KeepT.of_below HB5.out)
    have HBw5 : Hid (Below base w (y4.alloc (.cells #[.slice (some ⟨g, 0, none⟩) 512 512] 49))) := HBw4.out.trans (HB5.out.mono HLo4.out)
    clear HK5 HK4 HG4 HC4 HB5
    go_wp2_with fail
    refine HPu.mono ?_
    rintro e y6 ⟨rfl, hI6, hT6, hb6⟩
    have HI6 := mkHid hI6
    have HT6 := mkHid (HTw5.out.trans hT6)
    have HB6 := mkHid (HBw5.out.trans hb6)
    have HC6 := mkHid (hT6.blk HC5.out (by decide))
    clear hI6 hT6 hb6 HPu HTw5 HBw5 HC5
    by_cases hB : eB = 0
    · subst hB
      have k1 : y6.cell? ⟨C, 1, none⟩ = some (.slice pa n pc) := HC6.out.cell 1
      have k2 : y6.cell? ⟨C, 2, none⟩ = some (.slice da n dc) := HC6.out.cell 2
      have HEc := HEC.out rfl
      have HPc := codPut P base (m + 51) pB t.l pa da n pc dc y6 HI6.out HFB.out (by omega) (HP.out.keep HT6.out (by decide)) (HD.out.keep HT6.out (by decide))
      rw [HEc.1, HEc.2] at HPc
      clear HEc
      go_wp2_with fail
      refine HPc.mono ?_
      rintro e y7 ⟨rfl, hI7, hT7, hb7⟩
      have HI7 := mkHid hI7
      have HT7 := mkHid (HT6.out.trans hT7)
      have HB7 := mkHid (HB6.out.trans hb7)
      clear hI7 hT7 hb7 HPc
      go_wp2_with fail
      go_ret
      exact ⟨rfl, HI7.out, HT7.out, HB7.out⟩
    · have hBb : (eB == 0) = false := by rw [beq_eq_false_iff_ne]; exact hB
      have hBn : ¬ eB = 0 := hB
      have e3 := HNC.out hB
      simp only [Prod.mk.injEq] at e3
      obtain ⟨e3, e4⟩ := e3
      subst e3 e4
      go_wp2_with fail
      go_ret
      exact ⟨rfl, HI6.out, HT6.out, HB6.out⟩
  · have hAb : (eA == 0) = false := by rw [beq_eq_false_iff_ne]; exact hA
    have hAn : ¬ eA = 0 := hA
    have e1 := HNB.out hA
    simp only [Prod.mk.injEq] at e1
    obtain ⟨e1, e2⟩ := e1
    subst e1 e2
    have e3 := HNC.out hA
    simp only [Prod.mk.injEq] at e3
    obtain ⟨e3, e4⟩ := e3
    subst e3 e4
    go_wp2_with fail
    go_ret
    exact ⟨rfl, HI2.out, HT2.out, HB2.out⟩
end Go.Proofs.YtacnoagjcacniaaGreat
namespace Go.Proofs.YtacnoagjcacniaaGreat
open Go.RowKit

abbrev JD : List TypeId := [79, 106, 108, 95]
def jCm (t : Tl) (j : Jl) : Jl := if (cmC t j).2 = 0 then ⟨(cmC t j).1, nxt j.seq, j.dead⟩ else ⟨(cmC t j).1, j.seq, true⟩
theorem JAt.setSeq {w : World} {J P base : Nat} {j : Jl} (h : JAt w J P base j) (s : Nat) (hs : s < 18446744073709551616) : JAt (w.setCell ⟨J, 1, none⟩ (.int .u64 (s : Int))) J P base ⟨j.p, s, j.dead⟩ ∧ KeepT JD w (w.setCell ⟨J, 1, none⟩ (.int .u64 (s : Int))) ∧ Below base w (w.setCell ⟨J, 1, none⟩ (.int .u64 (s : Int))) := by
  have hk : KeepT [95] w (w.setCell ⟨J, 1, none⟩ (.int .u64 (s : Int))) := (KeepT.refl _ w).set h.blk (by simp) 1 _
  exact ⟨⟨h.blk.set 1 _, h.low, h.d.keep hk (by decide) (by decide) (by decide), hs⟩, hk.wide (by simp), bel_one (gr_cell w J 1 _) h.low h.blk.lt⟩
theorem JAt.setDead {w : World} {J P base : Nat} {j : Jl} (h : JAt w J P base j) : JAt (w.drew.setCell ⟨J, 2, none⟩ (.int .u32 1)) J P base ⟨j.p, j.seq, true⟩ ∧ KeepT JD w (w.drew.setCell ⟨J, 2, none⟩ (.int .u32 1)) ∧ Below base w (w.drew.setCell ⟨J, 2, none⟩ (.int .u32 1)) := by
  have hd : Below w.heap.size w w.drew := (Below.refl _ w).drew
  have h2 := h.on hd
  have hk : KeepT [95] w.drew (w.drew.setCell ⟨J, 2, none⟩ (.int .u32 1)) := (KeepT.refl _ w.drew).set h2.blk (by simp) 2 _
  have hk2 : KeepT [95] w (w.drew.setCell ⟨J, 2, none⟩ (.int .u32 1)) := (KeepT.of_below hd).trans hk
  refine ⟨⟨h2.blk.set 2 _, h.low, h2.d.keep hk (by decide) (by decide) (by decide), h.seq⟩, hk2.wide (by simp), (hd.mono ?_).trans (bel_one (gr_cell w.drew J 2 _) h.low h2.blk.lt)⟩
  have := h.low; have := h.blk.lt; omega

set_option maxRecDepth 20000 in
set_option maxHeartbeats 4000000 in
theorem codJCommit (w : World) (J P base m : Nat) (t : Tl) (j : Jl) (pa da : Option Addr) (n pc dc : Nat) (h : JAt w J P base j) (hf : FewM j.p m) (hm : m ≤ 80000) (h48 : n ≤ 48) (hp : IsIs w pa n pc t.l) (hd : IsDt w da n dc t.l) (ha : ∀ g ∈ t.l, g.1 ≤ 1000000) :
    Calls Tryz.prog 64 #[.pointer (some ⟨J, 0, none⟩), .slice pa n pc, .slice da n dc] w fun e w' => e = .returned (.int .i64 (cmC t j).2) ∧ JAt w' J P base (jCm t j) ∧ KeepT JD w w' ∧ Below base w w' := by
  have HJ := mkHid h
  have c0 : w.cell? ⟨J, 0, none⟩ = some (.pointer (some ⟨P, 0, none⟩)) := h.blk.cell 0
  have c1 : w.cell? ⟨J, 1, none⟩ = some (.int .u64 (j.seq : Int)) := h.blk.cell 1
  have hnx : IntKind.u64.wrap ((j.seq : Int) + 1) = (nxt j.seq : Int) := by
    have hs := h.seq
    unfold nxt
    simp [IntKind.wrap, IntKind.signed, IntKind.bits]
  have hnl : nxt j.seq < 18446744073709551616 := by unfold nxt; omega
  have HNl := mkHid hnl
  have HCh := fun W (hW : Below w.heap.size w W) => codChange P base m t j pa da n pc dc W (h.d.on hW) hf hm h48 (hp.on hW) (hd.on hW) ha
  have HE0 : Hid ((cmC t j).2 = 0 → jCm t j = ⟨(cmC t j).1, nxt j.seq, j.dead⟩) := fun h0 => by unfold jCm; rw [if_pos h0]
  have HE1 : Hid (¬ (cmC t j).2 = 0 → jCm t j = ⟨(cmC t j).1, j.seq, true⟩) := fun h0 => by unfold jCm; rw [if_neg h0]
  have HLow : Hid (base ≤ w.heap.size) := h.d.low
  clear h hp hd ha hf hnl
  generalize cmC t j = cC at *
  obtain ⟨pC, eC⟩ := cC
  dsimp only at HE0 HE1 HCh ⊢
  generalize nxt j.seq = sq at *
  obtain ⟨s0, hs0⟩ : ∃ s0, s0 = j.seq := ⟨_, rfl⟩
  rw [← hs0] at c1 hnx
  clear hs0
  go_enter Tryz.func64, Tryz.ntmps64
  go_upto_region 2 with fail
  have HC : Hid (Blk (w.alloc (.cells #[.int .u64 (sq : Int), .slice pa n pc, .slice da n dc] 116)) w.heap.size 116 [.int .u64 (sq : Int), .slice pa n pc, .slice da n dc]) := Blk.new w _ _
  have HD0 : Hid (Below w.heap.size w (w.alloc (.cells #[.int .u64 (sq : Int), .slice pa n pc, .slice da n dc] 116))) := (Below.refl _ w).alloc (Nat.le_refl _) _
  generalize w.alloc (.cells #[.int .u64 (sq : Int), .slice pa n pc, .slice da n dc] 116) = w0 at *
  have HCh0 : ∀ W, Below w0.heap.size w0 W → Calls Tryz.prog 93 #[.agg #[.int .u64 (sq : Int), .slice pa n pc, .slice da n dc], .pointer (some ⟨P, 0, none⟩)] W fun e w' => e = .returned (.int .i64 eC) ∧ Hid (IsD0 w' P base pC) ∧ Hid (KeepT PD W w') ∧ Hid (Below base W w') := fun W hW => HCh W (HD0.out.trans (hW.mono HD0.out.size))
  have HJ0 := mkHid (HJ.out.on HD0.out)
  have HBw : Hid (KeepT PD w w0 ∧ Below base w w0) := ⟨KeepT.of_below HD0.out, HD0.out.mono HLow.out⟩
  generalize w.heap.size = C at *
  have HKP : ∀ w', Hid (KeepT PD w0 w' ∧ Below base w0 w') → Hid (KeepT PD w0 w' ∧ Below base w0 w') ∧ w'.cell? ⟨C, 0, none⟩ = some (.int .u64 (sq : Int)) ∧ w'.cell? ⟨C, 1, none⟩ = some (.slice pa n pc) ∧ w'.cell? ⟨C, 2, none⟩ = some (.slice da n dc) ∧ w'.cell? ⟨J, 0, none⟩ = some (.pointer (some ⟨P, 0, none⟩)) := fun w' h => ⟨h, (h.out.1.blk HC.out (by decide)).cell 0, (h.out.1.blk HC.out (by decide)).cell 1, (h.out.1.blk HC.out (by decide)).cell 2, (h.out.1.blk HJ0.out.blk (by decide)).cell 0⟩
  have HLow0 : Hid (base ≤ w0.heap.size) := by unfold Hid; have := HLow.out; have := HC.out.lt; omega
  have HK0 := mkHid (HKP _ (mkHid ⟨KeepT.of_below ((Below.refl _ w0).drew), ((Below.refl _ w0).drew).mono HLow0.out⟩))
  clear c0 c1 HCh hnx
  go_region_held3 (fun w' => Hid (KeepT PD w0 w' ∧ Below base w0 w') ∧ w'.cell? ⟨C, 0, none⟩ = some (.int .u64 (sq : Int)) ∧ w'.cell? ⟨C, 1, none⟩ = some (.slice pa n pc) ∧ w'.cell? ⟨C, 2, none⟩ = some (.slice da n dc) ∧ w'.cell? ⟨J, 0, none⟩ = some (.pointer (some ⟨P, 0, none⟩)))
    (first | exact HK0.out | assumption | (have hq0 := ‹Hid (KeepT _ _ _ ∧ _) ∧ _›; exact HKP _ (mkHid ⟨hq0.1.out.1.trans hkx.out.1, hq0.1.out.2.trans hkx.out.2⟩)))
    (first
      | (go_at_call 93; refine (HCh0 _ ((Below.refl _ w0).drew)).mono ?_; rintro e y2 ⟨rfl, hI2, hT2, hb2⟩; have hkx := mkHid (And.intro hT2.out hb2.out); clear hT2 hb2))
  have hq9 := ‹Hid (KeepT _ _ _ ∧ _) ∧ _›
  have HT2 : Hid (KeepT PD w y2) := (HBw.out.1).trans hq9.1.out.1
  have HB2 : Hid (Below base w y2) := (HBw.out.2).trans hq9.1.out.2
  have HJ2 := mkHid (HJ0.out.turn hq9.1.out.1 hI2.out)
  have HC2 := mkHid (hq9.1.out.1.blk HC.out (by decide))
  clear hq9 hkx HK0 HKP HCh0 hI2 HJ0 HC HD0 HLow0
  by_cases hz : eC = 0
  · subst hz
    have k0 : y2.cell? ⟨C, 0, none⟩ = some (.int .u64 (sq : Int)) := HC2.out.cell 0
    have k1 : y2.cell? ⟨J, 1, none⟩ = some (.int .u64 (j.seq : Int)) := HJ2.out.blk.cell 1
    have kf := HJ2.out.blk.frozen 1
    have HS := mkHid (HJ2.out.setSeq sq HNl.out)
    have HE := mkHid (HE0.out rfl)
    go_wp2_with fail
    go_ret
    refine ⟨rfl, by rw [HE.out]; exact HS.out.1, (HT2.out.wide (by decide)).trans HS.out.2.1, HB2.out.trans HS.out.2.2⟩
  · have hzb : (eC == 0) = false := by rw [beq_eq_false_iff_ne]; exact hz
    have HE := mkHid (HE1.out hz)
    have HH := codHeed y2 J P base _ eC hz HJ2.out
    have HS := mkHid HJ2.out.setDead
    go_wp2_with fail
    refine HH.mono ?_
    rintro e y3 ⟨⟨x, rfl⟩, hy3⟩
    rw [← hy3] at HS
    clear hy3
    go_wp2_with fail
    go_ret
    exact ⟨rfl, by rw [HE.out]; exact HS.out.1, (HT2.out.wide (by decide)).trans HS.out.2.1, HB2.out.trans HS.out.2.2⟩
end Go.Proofs.YtacnoagjcacniaaGreat
