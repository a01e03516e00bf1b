/- The program's journal: sealed, its walk. -/
import Derived.Test.YthjdmfbengpepaaGreatB33
import Derived.Test.YthjdmfbengpepaaGreatB28
import Derived.Test.YthjdmfbengpepaaGreatB30
import Derived.Test.YthjdmfbengpepaaGreatB2
namespace Go.Proofs.YthjdmfbengpepaaGreat
open Go.RowKit

/-- what sealed answers -/
def SdPost (w : World) (p : Pl) (b : List UInt8) (e : Ending) (w' : World) : Prop :=
  ∃ (s n pc nd dc : Nat) (pa da : Option Addr) (hold : Bool), e = .returned (.tuple #[.agg #[.int .u64 (s : Int), .slice pa n pc, .slice da nd dc], .bool hold]) ∧ Below w.heap.size w w' ∧
    match heldB p b with
    | none => hold = false
    | some (s', l) => hold = true ∧ s = s' ∧ n = l.length ∧ nd = l.length ∧ dc = 48 ∧ IsIs w' pa n pc l ∧ IsDt w' da n 48 l
theorem sd_none {w w' : World} {p : Pl} {b : List UInt8} (h : heldB p b = none) (hb : Below w.heap.size w w') : SdPost w p b (.returned (.tuple #[.agg #[.int .u64 ((0 : Nat) : Int), .slice none 0 0, .slice none 0 0], .bool false])) w' := by
  refine ⟨0, 0, 0, 0, 0, none, none, false, rfl, hb, ?_⟩
  rw [h]
/-- how the loop of sealed stands -/
structure SdAt (w wr : World) (R C RB s n : Nat) (p : Pl) (b : List UInt8) (k : Nat) (r : List UInt8) (bad : Bool) (l : Qs) (vP : Value) : Prop where
  rd : IsR wr R r bad
  c : Blk wr C 138 [.int .u64 (s : Int), vP, .slice none 0 0]
  rb : Blk wr RB 138 [.int .u64 0, .slice none 0 0, .slice none 0 0]
  own : OwnI wr (C + 1) vP l
  len : l.length = k
  go : heldGo p (hdN b).1 0 (hdN b).2.1 (hdN b).2.2 [] = heldGo p ((hdN b).1 - k) k r bad l
  dat : ∀ i, i < k → 49 ≤ (nthL l i).1 ∧ (nthL l i).1 < p.n ∧ (nthL l i).2 = p.rdB ((1 + i : Nat) : Int)
  bel : Below w.heap.size w wr
  lt1 : R < C
  lt2 : RB < R
  low : w.heap.size ≤ RB

theorem rb_set {x : World} {RB base : Nat} {c0 c1 c2 : Value} (h : Blk x RB 138 [c0, c1, c2]) (hl : base ≤ RB) (a b c : Value) : Blk (((x.setCell ⟨RB, 0, none⟩ a).setCell ⟨RB, 1, none⟩ b).setCell ⟨RB, 2, none⟩ c) RB 138 [a, b, c] ∧ Below base x (((x.setCell ⟨RB, 0, none⟩ a).setCell ⟨RB, 1, none⟩ b).setCell ⟨RB, 2, none⟩ c) := by
  have h1 := h.set 0 a
  have h2 := h1.set 1 b
  exact ⟨h2.set 2 c, ((bel_one (gr_cell x RB 0 a) hl h.lt).trans (bel_one (gr_cell _ RB 1 b) hl h1.lt)).trans (bel_one (gr_cell _ RB 2 c) hl h2.lt)⟩
theorem nthL_app {l : Qs} {x : Nat × List UInt8} {i : Nat} (h : i < l.length) : nthL (l ++ [x]) i = nthL l i := by
  unfold nthL; rw [List.getD_eq_getElem?_getD, List.getD_eq_getElem?_getD, List.getElem?_append_left h]
theorem nthL_last {l : Qs} {x : Nat × List UInt8} : nthL (l ++ [x]) l.length = x := by
  unfold nthL; rw [List.getD_eq_getElem?_getD, List.getElem?_append_right (Nat.le_refl _), Nat.sub_self]; rfl
/-- the reader has read one number -/
theorem SdAt.read {w wr x1 : World} {R C RB s n : Nat} {p : Pl} {b : List UInt8} {k : Nat} {r : List UInt8} {bad : Bool} {l : Qs} {vP : Value} (h : SdAt w wr R C RB s n p b k r bad l vP) (hg : wr.grownBy x1 (some R)) :
    Below w.heap.size w x1 ∧ Blk x1 C 138 [.int .u64 (s : Int), vP, .slice none 0 0] ∧ Blk x1 RB 138 [.int .u64 0, .slice none 0 0, .slice none 0 0] ∧ OwnI x1 (C + 1) vP l := by
  have l1 := h.lt1
  have l2 := h.lt2
  have l3 := h.low
  refine ⟨h.bel.trans (bel_one hg (by omega) h.rd.lt), (hg.block C h.c.lt (fun e => by have := Option.some.inj e; omega)).trans h.c, (hg.block RB h.rb.lt (fun e => by have := Option.some.inj e; omega)).trans h.rb, World.ownsRow.kept h.own hg ?_⟩
  obtain ⟨a, cap, hb, _⟩ := h.rd
  exact own_ne hb h.own (by decide)
/-- one more place -/
theorem SdAt.next {w wr x1 x3 : World} {R C RB s n : Nat} {p : Pl} {b : List UInt8} {k N v : Nat} {r r' : List UInt8} {bad bad' : Bool} {l : Qs} {vP v' : Value} (h : SdAt w wr R C RB s n p b k r bad l vP) (hN : N = (hdN b).1) (hk : k < N) (hr : IsR x1 R r' bad') (hg : wr.grownBy x1 (some R)) (hv : v = (rdUint r bad).1) (hr' : r' = (rdUint r bad).2.1) (hb' : bad' = (rdUint r bad).2.2) (hlo : 49 ≤ v) (hhi : v < p.n)
    (ho : OwnI x3 (C + 1) v' (l ++ [(v, p.rdB ((1 + k : Nat) : Int))])) (hg3 : (x1.alloc (.cells #[.int .i64 (v : Int)] 3)).grownBy x3 vP.ownBlock) :
    SdAt w (x3.setCell ⟨C, 1, none⟩ v') R C RB s n p b (k + 1) r' bad' (l ++ [(v, p.rdB ((1 + k : Nat) : Int))]) v' ∧ Blk x3 C 138 [.int .u64 (s : Int), vP, .slice none 0 0] := by
  obtain ⟨q1, q2, q3, q4⟩ := h.read hg
  have l1 := h.lt1
  have l2 := h.lt2
  have l3 := h.low
  have hb2 : Below x1.heap.size x1 (x1.alloc (.cells #[.int .i64 (v : Int)] 3)) := (Below.refl _ x1).alloc (Nat.le_refl _) _
  have hvP : ∀ k, vP.ownBlock = some k → C + 1 ≤ k := fun k hk => (World.ownsRow.lt q4 k hk).1
  have keep : ∀ X, X ≤ C → ∀ {cs : List Value}, Blk x1 X 138 cs → Blk x3 X 138 cs := fun X hX cs hB => by
    have hB2 := hB.on hb2
    refine (hg3.block X hB2.lt (fun e => ?_)).trans hB2
    have := hvP X e.symm
    omega
  have hC3 := keep C (Nat.le_refl _) q2
  have hRB3 := keep RB (by omega) q3
  have hbel3 : Below w.heap.size w x3 := by
    refine (q1.trans (hb2.mono q1.size)).trans ?_
    cases hq : vP.ownBlock with
    | none => rw [hq] at hg3; exact (gr_below hg3).mono (Nat.le_trans q1.size hb2.size)
    | some g =>
      rw [hq] at hg3
      have h5 := World.ownsRow.lt q4 g hq
      exact bel_one hg3 (by omega) (Nat.lt_of_lt_of_le h5.2 hb2.size)
  have hr3 : IsR x3 R r' bad' := (hr.on hb2).row hg3 hvP (by omega)
  have hv'k : ∀ k, v'.ownBlock = some k → C + 1 ≤ k := fun k hk => (World.ownsRow.lt ho k hk).1
  refine ⟨⟨hr3.newer (gr_cell x3 C 1 v') l1, hC3.set 1 v', hRB3.other _ _ (by show RB ≠ C; omega), World.ownsRow.kept ho (gr_cell x3 C 1 v') ?_, by rw [List.length_append, h.len]; rfl, ?_, fun i hi => ?_, hbel3.trans (bel_one (gr_cell x3 C 1 v') (by omega) hC3.lt), l1, l2, l3⟩, hC3⟩
  · cases hq : v'.ownBlock with
    | none => exact .inl rfl
    | some g => exact .inr (fun e => by have := hv'k g hq; have := Option.some.inj e; omega)
  · rw [h.go, ← hN, show N - k = N - (k + 1) + 1 by omega, go_yes (by rw [← hv]; omega), ← hr', ← hb', ← hv]
  · by_cases e : i < k
    · rw [nthL_app (by rw [h.len]; exact e)]; exact h.dat i e
    · have e2 : i = l.length := by rw [h.len]; omega
      subst e2
      rw [nthL_last]
      have hle := h.len
      rw [← hle]
      exact ⟨hlo, hhi, rfl⟩
theorem infoC : (Tryz.prog.info? 138).map (·.size) = some 3 := by kernel_rfl
set_option maxRecDepth 20000 in
set_option maxHeartbeats 4000000 in
theorem codSealed (F : Nat) (p : Pl) (gs : Nat → Nat) (w : World) (h : IsFr w F p gs) (hn0 : 64 ≤ p.n) (hn : p.n ≤ 4096) :
    Calls Tryz.prog 78 #[.slice (some ⟨F, 0, none⟩) 49 49, .int .i64 (p.n : Int)] w (SdPost w p (p.rdB ((0 : Nat) : Int))) := by
  have HFr := mkHid h
  have HN := mkHid hn
  have c00 : (w.alloc (.cells #[.int .u64 0, .slice none 0 0, .slice none 0 0] 138)).cell? ⟨F, 0, none⟩ = some (.slice (some ⟨gs 0, 0, none⟩) 512 512) := (h.on ((Below.refl _ w).alloc (Nat.le_refl _) _)).cell 0 (by omega)
  have HB0 : Hid (Below w.heap.size w (w.alloc (.cells #[.int .u64 0, .slice none 0 0, .slice none 0 0] 138))) := (Below.refl _ w).alloc (Nat.le_refl _) _
  have HRB : Hid (Blk (w.alloc (.cells #[.int .u64 0, .slice none 0 0, .slice none 0 0] 138)) w.heap.size 138 [.int .u64 0, .slice none 0 0, .slice none 0 0]) := Blk.new w _ _
  have hL5 := (h.at_ 0 (by omega)).2.1
  have HIb : Hid (IsB (w.alloc (.cells #[.int .u64 0, .slice none 0 0, .slice none 0 0] 138)) (some ⟨gs 0, 0, none⟩) 512 512 (p.rdB ((0 : Nat) : Int))) := blk_isB ((h.at_ 0 (by omega)).2.2.on HB0.out) hL5
  clear h
  generalize hb : p.rdB ((0 : Nat) : Int) = b at *
  have HRd := cRead _ _ _ b _ HIb.out (by omega)
  go_enter Tryz.func78, Tryz.ntmps78
  go_wp2_with fail
  generalize w.alloc (.cells #[.int .u64 0, .slice none 0 0, .slice none 0 0] 138) = w0 at *
  obtain ⟨RB, hRB⟩ : ∃ RB, RB = w.heap.size := ⟨_, rfl⟩
  have HRBe := mkHid hRB
  rw [← hRB] at HRB ⊢
  clear hRB
  refine HRd.mono ?_
  rintro e w1 ⟨R, rfl, hR1, hr1, hb1⟩
  have HLtR : Hid (RB < R) := Nat.lt_of_lt_of_le HRB.out.lt hR1
  have HB1 := mkHid (HB0.out.trans (hb1.mono HB0.out.size))
  have HRB1 := mkHid (HRB.out.on hb1)
  have HRl : Hid (w.heap.size ≤ R) := Nat.le_trans HB0.out.size hR1
  have HTx := cText R b false w1 hr1
  have e1 : rdSome 115 b false = hdName b := rfl
  rw [e1] at HTx
  have HR1 := mkHid hr1
  clear hR1 hr1 hb1 HRd c00 HIb HRB e1
  go_wp2_with fail
  refine HTx.mono ?_
  rintro e w2 ⟨rfl, hr2, hg2⟩
  have HB2 : Hid (Below w.heap.size w w2) := HB1.out.trans (bel_one hg2 HRl.out HR1.out.lt)
  have HRB2 : Hid (Blk w2 RB 138 [.int .u64 0, .slice none 0 0, .slice none 0 0]) := (hg2.block RB HRB1.out.lt (fun e => by have := Option.some.inj e; have := HLtR.out; omega)).trans HRB1.out
  have HUi := cUint R _ _ w2 hr2
  have e1 : rdUint (hdName b).2.1 (hdName b).2.2 = hdSeq b := rfl
  rw [e1] at HUi
  have HR2 := mkHid hr2
  clear hr2 hg2 HTx HB1 HRB1 HR1 e1
  go_wp2_with fail
  refine HUi.mono ?_
  rintro e w3 ⟨rfl, hr3, hg3⟩
  have HB3 : Hid (Below w.heap.size w w3) := HB2.out.trans (bel_one hg3 HRl.out HR2.out.lt)
  have HRB3 : Hid (Blk w3 RB 138 [.int .u64 0, .slice none 0 0, .slice none 0 0]) := (hg3.block RB HRB2.out.lt (fun e => by have := Option.some.inj e; have := HLtR.out; omega)).trans HRB2.out
  have HLtC : Hid (R < w3.heap.size) := hr3.lt
  have hb4 : Below w3.heap.size w3 (w3.alloc (.cells #[.int .u64 ((hdSeq b).1 : Int), .slice none 0 0, .slice none 0 0] 138)) := (Below.refl _ w3).alloc (Nat.le_refl _) _
  have HB4 := mkHid (HB3.out.trans (hb4.mono HB3.out.size))
  have HRB4 := mkHid (HRB3.out.on hb4)
  have HC4 : Hid (Blk (w3.alloc (.cells #[.int .u64 ((hdSeq b).1 : Int), .slice none 0 0, .slice none 0 0] 138)) w3.heap.size 138 [.int .u64 ((hdSeq b).1 : Int), .slice none 0 0, .slice none 0 0]) := Blk.new w3 _ _
  have HR4 := mkHid (hr3.on hb4)
  have HLi := cList R _ _ 48 _ HR4.out (by omega)
  have e1 : rdList (hdSeq b).2.1 (hdSeq b).2.2 48 = hdN b := rfl
  rw [e1] at HLi
  have HSl := mkHid (hdSeq_lt b)
  have HN8 := mkHid (hdN_le b)
  clear hr3 hg3 hb4 HUi HB2 HRB2 HR2 HB3 HRB3 e1
  generalize hs : (hdSeq b).1 = s at *
  have HSe := mkHid hs
  clear hs
  go_wp2_with fail
  obtain ⟨C, hC⟩ : ∃ C, C = w3.heap.size := ⟨_, rfl⟩
  rw [← hC] at HC4 HLtC ⊢
  clear hC
  generalize w3.alloc (.cells #[.int .u64 (s : Int), .slice none 0 0, .slice none 0 0] 138) = w4 at *
  obtain ⟨N, hN⟩ : ∃ N, N = (hdN b).1 := ⟨_, rfl⟩
  have HNe := mkHid hN
  rw [← hN] at HLi HN8
  clear hN
  refine HLi.mono ?_
  rintro e w5 ⟨rfl, hr5, hg5⟩
  have HB5 : Hid (Below w.heap.size w w5) := HB4.out.trans (bel_one hg5 HRl.out HR4.out.lt)
  have HC5 : Hid (Blk w5 C 138 [.int .u64 (s : Int), .slice none 0 0, .slice none 0 0]) := (hg5.block C HC4.out.lt (fun e => by have := Option.some.inj e; have := HLtC.out; omega)).trans HC4.out
  have HRB5 : Hid (Blk w5 RB 138 [.int .u64 0, .slice none 0 0, .slice none 0 0]) := (hg5.block RB HRB4.out.lt (fun e => by have := Option.some.inj e; have := HLtR.out; omega)).trans HRB4.out
  have HS0 : Hid (SdAt w w5 R C RB s p.n p b 0 (hdN b).2.1 (hdN b).2.2 [] (.slice none 0 0)) := ⟨hr5, HC5.out, HRB5.out, OwnI.nil _ _, rfl, by rw [Nat.sub_zero], fun i hi => absurd hi (Nat.not_lt_zero i), HB5.out, HLtC.out, HLtR.out, by rw [HRBe.out]; exact Nat.le_refl _⟩
  clear hr5 hg5 HLi HB4 HC4 HRB4 HR4 HB5 HC5 HRB5 HLtC HLtR
  have hN8 : (N : Int) ≤ 48 := by have := HN8.out; omega
  go_wp2_with fail
  go_loopw [20] (fun i wr => ∃ (k : Nat) (r : List UInt8) (bad : Bool) (l : Qs) (vP : Value), k ≤ N ∧ i = .int .i64 (k : Int) ∧ Hid (SdAt w wr R C RB s p.n p b k r bad l vP)) (fun i _ => N - (Go.RowKit.intOf i).toNat)
  case atStart => exact ⟨0, _, _, _, _, Nat.zero_le _, rfl, HS0⟩
  case round =>
    obtain ⟨k, r, bad, l, vP, hk, rfl, HA⟩ := hrel
    clear HS0
    by_cases hlt : k < N
    · have hlt' : (k : Int) < (N : Int) := by omega
      have HUi := cUint R r bad wr HA.out.rd
      have HSt : Hid (N - k = N - (k + 1) + 1) := by unfold Hid; omega
      have HRBl : Hid (w.heap.size ≤ RB) := HA.out.low
      obtain ⟨v, hv⟩ : ∃ v, v = (rdUint r bad).1 := ⟨_, rfl⟩
      have HV := mkHid hv
      have hvl : v < 18446744073709551616 := by rw [hv]; exact rdUint_lt _ _
      rw [← hv] at HUi
      clear hv
      have hwn : IntKind.u64.wrap (p.n : Int) = (p.n : Int) := wrap64_nat _ (by omega)
      by_cases h1 : p.n ≤ v
      · have HNo : Hid (heldB p b = none) := held_none (by rw [HA.out.go, ← HNe.out, HSt.out]; exact go_no (.inr (by rw [← HV.out]; exact h1)))
        have hd1 : decide ((p.n : Int) ≤ (v : Int)) = true := decide_eq_true (by omega)
        have hge : (p.n : Int) ≤ (v : Int) := by omega
        generalize p.n = n at *
        go_wp2_with fail
        refine HUi.mono ?_
        rintro e x1 ⟨rfl, hr1, hg1⟩
        have HBx : Hid (Below w.heap.size w x1) := HA.out.bel.trans (bel_one hg1 HRl.out HA.out.rd.lt)
        have HRBx : Hid (Blk x1 RB 138 [.int .u64 0, .slice none 0 0, .slice none 0 0]) := (hg1.block RB HA.out.rb.lt (fun e => by have := Option.some.inj e; have := HA.out.lt2; omega)).trans HA.out.rb
        clear hr1 hg1 HUi HA
        have r0 : x1.cell? ⟨RB, 0, none⟩ = some (.int .u64 0) := HRBx.out.cell 0
        have r1 : x1.cell? ⟨RB, 1, none⟩ = some (.slice none 0 0) := HRBx.out.cell 1
        have r2 : x1.cell? ⟨RB, 2, none⟩ = some (.slice none 0 0) := HRBx.out.cell 2
        have z0 := HRBx.out.frozen 0
        have z1 := HRBx.out.frozen 1
        have z2 := HRBx.out.frozen 2
        go_wp2_with fail
        have HZ := rb_set HRBx.out HRBl.out (.int .u64 0) (.slice none 0 0) (.slice none 0 0)
        (try simp only [Exit.inBlock, Exit.then])
        refine bodyPost_ret (v := .tuple #[.agg #[.int .u64 ((0 : Nat) : Int), .slice none 0 0, .slice none 0 0], .bool false]) ?_ rfl (sd_none HNo.out (HBx.out.trans HZ.2))
        exact results_cellrow_tmp Tryz.results78 _ _ _ _ _ _ _ rfl HZ.1 Tryz.underlying138 rfl infoC
      · have hvn : v < 4096 := by omega
        have hd1 : decide ((p.n : Int) ≤ (v : Int)) = false := decide_eq_false (by omega)
        have hge : ¬ (p.n : Int) ≤ (v : Int) := by omega
        have hwv : IntKind.i64.wrap (v : Int) = (v : Int) := by
          simp [IntKind.wrap, IntKind.signed, IntKind.bits]
          omega
        have HAr := fun W => codInArea (v : Int) p.n W
        by_cases h2 : v < 49
        · have hz : areaI p.n (v : Int) = false := decide_eq_false (by omega)
          have HNo : Hid (heldB p b = none) := held_none (by rw [HA.out.go, ← HNe.out, HSt.out]; exact go_no (.inl (by rw [← HV.out]; exact h2)))
          rw [hz] at HAr
          clear hz
          generalize p.n = n at *
          go_wp2_with fail
          refine HUi.mono ?_
          rintro e x1 ⟨rfl, hr1, hg1⟩
          obtain ⟨hBx, _, hRBx, _⟩ := HA.out.read hg1
          have HBx := mkHid hBx
          have HRBx := mkHid hRBx
          clear hr1 hg1 HUi HA hBx hRBx
          go_wp2_with fail
          refine (HAr x1).mono ?_
          rintro e x2 ⟨rfl, hx2⟩
          obtain rfl := hx2.symm
          have r0 : x1.cell? ⟨RB, 0, none⟩ = some (.int .u64 0) := HRBx.out.cell 0
          have r1 : x1.cell? ⟨RB, 1, none⟩ = some (.slice none 0 0) := HRBx.out.cell 1
          have r2 : x1.cell? ⟨RB, 2, none⟩ = some (.slice none 0 0) := HRBx.out.cell 2
          have z0 := HRBx.out.frozen 0
          have z1 := HRBx.out.frozen 1
          have z2 := HRBx.out.frozen 2
          go_wp2_with fail
          have HZ := rb_set HRBx.out HRBl.out (.int .u64 0) (.slice none 0 0) (.slice none 0 0)
          (try simp only [Exit.inBlock, Exit.then])
          refine bodyPost_ret (v := .tuple #[.agg #[.int .u64 ((0 : Nat) : Int), .slice none 0 0, .slice none 0 0], .bool false]) ?_ rfl (sd_none HNo.out (HBx.out.trans HZ.2))
          exact results_cellrow_tmp Tryz.results78 _ _ _ _ _ _ _ rfl HZ.1 Tryz.underlying138 rfl infoC
        · have hz : areaI p.n (v : Int) = true := decide_eq_true (by omega)
          rw [hz] at HAr
          have HLo : Hid (49 ≤ v) := by unfold Hid; omega
          have HHi : Hid (v < p.n) := by unfold Hid; omega
          clear hz h1 h2
          go_wp2_with fail
          refine HUi.mono ?_
          rintro e x1 ⟨rfl, hr1, hg1⟩
          obtain ⟨_, hCx, _, hOx⟩ := HA.out.read hg1
          have HCx := mkHid hCx
          have HOx := mkHid hOx
          have HRx := mkHid (And.intro hr1 hg1)
          clear hr1 hg1 HUi hCx hOx
          go_wp2_with fail
          refine (HAr x1).mono ?_
          rintro e x2 ⟨rfl, hx2⟩
          obtain rfl := hx2.symm
          have k1 : x1.cell? ⟨C, 1, none⟩ = some vP := HCx.out.cell 1
          have kz := HCx.out.frozen 1
          have HLl : Hid (l.length ≤ 4096) := by unfold Hid; rw [HA.out.len]; have := HN8.out; omega
          have HCl : Hid (C + 1 ≤ x1.heap.size) := HCx.out.lt
          have HOa : Hid (OwnI (x1.alloc (.cells #[.int .i64 (v : Int)] 3)) (C + 1) vP l) := World.ownsRow.alloc HOx.out _
          have hcA : (x1.alloc (.cells #[.int .i64 (v : Int)] 3)).cell? ⟨C, 1, none⟩ = some vP := (HCx.out.alloc _).cell 1
          clear HOx HCx HAr
          go_wp2_with (at_builtin; refine list_appI _ rfl (.tmp 37) (.tmp 40) rfl (C + 1) vP l rfl HOa.out x1.heap.size v (p.rdB ((1 + k : Nat) : Int)) rfl (heap_alloc_new x1 _) HLl.out (by rw [World.size_alloc]; have := HCl.out; omega) ?_; intro v' x3 ho3 hg3; have HN3 := mkHid (HA.out.next HNe.out hlt HRx.out.1 HRx.out.2 HV.out rfl rfl HLo.out HHi.out ho3 hg3); obtain ⟨pa', pc', hv', _⟩ := row_isIs ho3; clear ho3 hg3; obtain ⟨ln, hln⟩ : ∃ ln, ln = (l ++ [(v, p.rdB ((1 + k : Nat) : Int))]).length := ⟨_, rfl⟩; rw [← hln] at hv'; clear hln; subst hv'; have kC3 : x3.cell? ⟨C, 1, none⟩ = some vP := HN3.out.2.cell 1; have kz3 := HN3.out.2.frozen 1)
          go_roundw
          case rel => exact ⟨k + 1, _, _, _, _, by omega, by go_num, mkHid HN3.out.1⟩
          case measure => simp [Go.RowKit.intOf]; omega
    · have hge : ¬ (k : Int) < (N : Int) := by omega
      have hkN : k = N := by omega
      have HGo : Hid (heldGo p (hdN b).1 0 (hdN b).2.1 (hdN b).2.2 [] = some (l, bad)) := by
        unfold Hid
        rw [HA.out.go, ← HNe.out, hkN, Nat.sub_self]
        rfl
      have hk48 : k ≤ 48 := by have := HN8.out; omega
      obtain ⟨pa, pc, hvP, hIs⟩ := row_isIs HA.out.own
      have hlk := HA.out.len
      rw [hlk] at hvP hIs
      subst hvP
      have HIs := mkHid hIs
      have HLk := mkHid hlk
      have kC1 : wr.drew.cell? ⟨C, 1, none⟩ = some (.slice pa k pc) := HA.out.c.cell 1
      have kC2 : wr.drew.cell? ⟨C, 2, none⟩ = some (.slice none 0 0) := HA.out.c.cell 2
      have kf2 : wr.drew.frozen? ⟨C, 2, none⟩ = false := HA.out.c.frozen 2
      have h1s : ∀ w, (Instr.slice 134 (.slice (some ⟨F, 0, none⟩) 49 49) (some (.int .i64 1)) none none).run Tryz.prog w = .ok (.slice (some ⟨F, 1, none⟩) 48 48) w := slQ1 F 49 (by omega)
      have h2s : ∀ w, (Instr.slice 134 (.slice (some ⟨F, 1, none⟩) 48 48) none (some (.int .i64 (k : Int))) none).run Tryz.prog w = .ok (.slice (some ⟨F, 1, none⟩) k 48) w := slQh F 1 48 48 k hk48
      have HCy : Hid (Blk (wr.drew.setCell ⟨C, 2, none⟩ (.slice (some ⟨F, 1, none⟩) k 48)) C 138 [.int .u64 (s : Int), .slice pa k pc, .slice (some ⟨F, 1, none⟩) k 48]) := Blk.set (w := wr.drew) HA.out.c 2 _
      have HRl2 : Hid (w.heap.size ≤ RB ∧ RB < C) := ⟨HA.out.low, by have := HA.out.lt1; have := HA.out.lt2; omega⟩
      have HBd : Hid (Below w.heap.size w wr.drew) := HA.out.bel.trans (((Below.refl _ wr).drew).mono HA.out.bel.size)
      have HBy : Hid (Below w.heap.size w (wr.drew.setCell ⟨C, 2, none⟩ (.slice (some ⟨F, 1, none⟩) k 48))) := HBd.out.trans (bel_one (gr_cell wr.drew C 2 _) (by have := HRl2.out; omega) HA.out.c.lt)
      have HKy : Hid (KeepT [138] wr (wr.drew.setCell ⟨C, 2, none⟩ (.slice (some ⟨F, 1, none⟩) k 48))) := (KeepT.of_below ((Below.refl _ wr).drew)).trans ((KeepT.refl _ wr.drew).set (w := wr.drew) HA.out.c (by simp) 2 _)
      have HRBy : Hid (Blk (wr.drew.setCell ⟨C, 2, none⟩ (.slice (some ⟨F, 1, none⟩) k 48)) RB 138 [.int .u64 0, .slice none 0 0, .slice none 0 0]) := Blk.other (w := wr.drew) HA.out.rb _ _ (by show RB ≠ C; have := HRl2.out; omega)
      have HDat := mkHid HA.out.dat
      have HS1 : Hid ((wr.drew.setCell ⟨C, 2, none⟩ (.slice (some ⟨F, 1, none⟩) k 48)).cell? ⟨C, 1, none⟩ = some (.slice pa k pc)) := HCy.out.cell 1
      clear hIs hlk HA hkN
      go_wp2_with fail
      go_region_held3 (fun w' => w'.cell? ⟨C, 1, none⟩ = some (.slice pa k pc))
        (first | exact kC1 | assumption | exact HS1.out)
        (fail)
      have hYe : (wr.setCell ⟨C, 2, none⟩ (.slice (some ⟨F, 1, none⟩) k 48)).drew = wr.drew.setCell ⟨C, 2, none⟩ (.slice (some ⟨F, 1, none⟩) k 48) := rfl
      rw [← hYe] at HCy HBy HKy HRBy
      clear hYe HS1 kC1 kC2 kf2 h1s h2s HBd
      generalize (wr.setCell ⟨C, 2, none⟩ (.slice (some ⟨F, 1, none⟩) k 48)).drew = Y at *
      have HIsY := mkHid (HIs.out.keep HKy.out (by decide))
      have HFrY := mkHid (HFr.out.on HBy.out)
      have HDtY : Hid (IsDt Y (some ⟨F, 1, none⟩) k 48 l) := ⟨HLk.out, fun _ => ⟨F, 1, rfl, ⟨_, _, HFrY.out.blk⟩, fun i hi => by
        have h7 := HDat.out i hi
        have h8 := HFrY.out.at_ (1 + i) (by omega)
        rw [h7.2.2]
        exact ⟨h8.2.1, gs (1 + i), 5, HFrY.out.cell (1 + i) (by omega), h8.2.2, by simp⟩⟩⟩
      have HSe2 : ∀ W, Below Y.heap.size Y W → Calls Tryz.prog 126 #[.agg #[.int .u64 (s : Int), .slice pa k pc, .slice (some ⟨F, 1, none⟩) k 48]] W fun e w' => ∃ g, e = .returned (.slice (some ⟨g, 0, none⟩) 512 512) ∧ Hid (Blk w' g 5 (bv (sealJ s l))) ∧ Hid (Below W.heap.size W w') := fun W hW => (codSeal s l pa (some ⟨F, 1, none⟩) k pc 48 W hk48 (HIsY.out.on hW) (HDtY.out.on hW) (fun g hg => by
        obtain ⟨i, hi, rfl⟩ := List.getElem_of_mem hg
        have := HDat.out i (by rw [← HLk.out]; exact hi)
        have e9 : nthL l i = l[i] := by unfold nthL; rw [List.getD_eq_getElem?_getD, List.getElem?_eq_getElem hi]; rfl
        rw [e9] at this
        have := HN.out
        omega)).mono fun e w' ⟨g, h1, h2, _, h4⟩ => ⟨g, h1, h2, h4⟩
      have HS5 : Hid ((sealJ s l).length = 512) := sealJ_length _ _ (by rw [preJ_length, HLk.out]; omega)
      have HEq : ∀ W g, Below Y.heap.size Y W → Blk W g 5 (bv (sealJ s l)) → Calls Tryz.prog 125 #[.slice (some ⟨g, 0, none⟩) 512 512, .slice (some ⟨gs 0, 0, none⟩) 512 512] W fun e w' => e = .returned (.bool (decide (sealJ s l = b))) ∧ w' = W := fun W g hW hg => codEqual _ _ _ _ _ _ (sealJ s l) b W (blk_isB hg HS5.out) (by
        have h8 := (HFrY.out.on hW).at_ 0 (by omega)
        have := blk_isB h8.2.2 h8.2.1
        rw [hb] at this
        exact this)
      have HKP : ∀ w', Hid (Below w.heap.size w w') → Blk w' C 138 [.int .u64 (s : Int), .slice pa k pc, .slice (some ⟨F, 1, none⟩) k 48] → Hid (Below w.heap.size w w' ∧ Blk w' C 138 [.int .u64 (s : Int), .slice pa k pc, .slice (some ⟨F, 1, none⟩) k 48]) ∧ w'.cell? ⟨C, 0, none⟩ = some (.int .u64 (s : Int)) ∧ w'.cell? ⟨C, 1, none⟩ = some (.slice pa k pc) ∧ w'.cell? ⟨C, 2, none⟩ = some (.slice (some ⟨F, 1, none⟩) k 48) ∧ w'.cell? ⟨F, 0, none⟩ = some (.slice (some ⟨gs 0, 0, none⟩) 512 512) := fun w' h1 h2 => ⟨⟨h1.out, h2⟩, h2.cell 0, h2.cell 1, h2.cell 2, (HFr.out.on h1.out).cell 0 (by omega)⟩
      have HK0 := mkHid (HKP Y.drew (mkHid (HBy.out.trans (((Below.refl _ Y).drew).mono HBy.out.size))) HCy.out)
      have HRow : Hid (∀ W, Below Y.heap.size Y W → Below w.heap.size w W ∧ Blk W C 138 [.int .u64 (s : Int), .slice pa k pc, .slice (some ⟨F, 1, none⟩) k 48] ∧ Blk W RB 138 [.int .u64 0, .slice none 0 0, .slice none 0 0] ∧ IsIs W pa k pc l ∧ IsDt W (some ⟨F, 1, none⟩) k 48 l) := fun W hW => ⟨HBy.out.trans (hW.mono HBy.out.size), HCy.out.on hW, HRBy.out.on hW, HIsY.out.on hW, HDtY.out.on hW⟩
      have HZz : Hid (∀ W, Below w.heap.size w W → Blk W C 138 [.int .u64 (s : Int), .slice pa k pc, .slice (some ⟨F, 1, none⟩) k 48] → Blk W RB 138 [.int .u64 0, .slice none 0 0, .slice none 0 0] → Below w.heap.size w (((W.setCell ⟨RB, 0, none⟩ (.int .u64 (s : Int))).setCell ⟨RB, 1, none⟩ (.slice pa k pc)).setCell ⟨RB, 2, none⟩ (.slice (some ⟨F, 1, none⟩) k 48)) ∧ Blk (((W.setCell ⟨RB, 0, none⟩ (.int .u64 (s : Int))).setCell ⟨RB, 1, none⟩ (.slice pa k pc)).setCell ⟨RB, 2, none⟩ (.slice (some ⟨F, 1, none⟩) k 48)) C 138 [.int .u64 (s : Int), .slice pa k pc, .slice (some ⟨F, 1, none⟩) k 48]) := fun W h1 h2 h3 => by
        have hne : C ≠ RB := by have := HRl2.out; omega
        exact ⟨h1.trans (rb_set h3 HRl2.out.1 _ _ _).2, ((h2.other _ _ hne).other _ _ hne).other _ _ hne⟩
      generalize hdc : decide (sealJ s l = b) = dc at *
      have HDc := mkHid hdc
      clear hdc
      go_wp2_with fail
      go_region_held3 (fun w' => Hid (Below w.heap.size w w' ∧ Blk w' C 138 [.int .u64 (s : Int), .slice pa k pc, .slice (some ⟨F, 1, none⟩) k 48]) ∧ w'.cell? ⟨C, 0, none⟩ = some (.int .u64 (s : Int)) ∧ w'.cell? ⟨C, 1, none⟩ = some (.slice pa k pc) ∧ w'.cell? ⟨C, 2, none⟩ = some (.slice (some ⟨F, 1, none⟩) k 48) ∧ w'.cell? ⟨F, 0, none⟩ = some (.slice (some ⟨gs 0, 0, none⟩) 512 512))
        (first | exact HK0.out | assumption | exact HKP _ (mkHid hrw.out.1) hrw.out.2.1 | exact HKP _ (mkHid hrz.out.1) hrz.out.2)
        (first
          | (go_at_call 126; refine (HSe2 _ ((Below.refl _ Y).drew)).mono ?_; rintro e y1 ⟨g, rfl, hgS, hb1⟩; have hY1 : Hid (Below Y.heap.size Y y1) := mkHid (((Below.refl _ Y).drew).trans hb1.out); have hrw := mkHid (HRow.out y1 hY1.out); clear hb1)
          | (go_at_call 125; refine (HEq _ g hY1.out hgS.out).mono ?_; rintro e y2 ⟨rfl, hy2⟩; obtain rfl := hy2.symm; have r0 : y1.cell? ⟨RB, 0, none⟩ = some (.int .u64 0) := hrw.out.2.2.1.cell 0; have r1 : y1.cell? ⟨RB, 1, none⟩ = some (.slice none 0 0) := hrw.out.2.2.1.cell 1; have r2 : y1.cell? ⟨RB, 2, none⟩ = some (.slice none 0 0) := hrw.out.2.2.1.cell 2; have z0 := hrw.out.2.2.1.frozen 0; have z1 := hrw.out.2.2.1.frozen 1; have z2 := hrw.out.2.2.1.frozen 2; have hrz := mkHid (HZz.out y1 hrw.out.1 hrw.out.2.1 hrw.out.2.2.1)))
      have HZ9 := mkHid (rb_set hrw.out.2.2.1 HRl2.out.1 (.int .u64 (s : Int)) (.slice pa k pc) (.slice (some ⟨F, 1, none⟩) k 48))
      go_wp2_with fail
      (try simp only [Exit.inBlock, Exit.then])
      refine bodyPost_ret (v := .tuple #[.agg #[.int .u64 (s : Int), .slice pa k pc, .slice (some ⟨F, 1, none⟩) k 48], .bool dc]) ?_ rfl ?_
      · exact results_cellrow_tmp Tryz.results78 _ _ _ _ _ _ _ rfl HZ9.out.1 Tryz.underlying138 rfl infoC
      · refine ⟨s, k, pc, k, 48, pa, some ⟨F, 1, none⟩, dc, rfl, hrz.out.1, ?_⟩
        have hKz : KeepT [138] y1 (((y1.setCell ⟨RB, 0, none⟩ (.int .u64 (s : Int))).setCell ⟨RB, 1, none⟩ (.slice pa k pc)).setCell ⟨RB, 2, none⟩ (.slice (some ⟨F, 1, none⟩) k 48)) := by
          have q0 := hrw.out.2.2.1
          have q1 := q0.set 0 (.int .u64 (s : Int))
          have q2 := q1.set 1 (.slice pa k pc)
          exact (((KeepT.refl _ y1).set q0 (by simp) 0 _).set q1 (by simp) 1 _).set q2 (by simp) 2 _
        by_cases hsb : sealJ s l = b
        · have e8 : heldB p b = some (s, l) := by
            have := held_yes (q := (l, bad)) HGo.out (by show l.length ≤ 48; rw [HLk.out]; exact hk48) (by rw [HSe.out]; exact hsb)
            rw [HSe.out] at this
            exact this
          rw [e8]
          have e9 : dc = true := by rw [← HDc.out]; exact decide_eq_true hsb
          have hl9 := HLk.out
          exact ⟨e9, rfl, hl9.symm, hl9.symm, rfl, hrw.out.2.2.2.1.keep hKz (by decide), hrw.out.2.2.2.2.keep hKz (by decide)⟩
        · have e8 : heldB p b = none := held_no (q := (l, bad)) HGo.out (by rw [HSe.out]; exact hsb)
          rw [e8]
          rw [← HDc.out]; exact decide_eq_false hsb
end Go.Proofs.YthjdmfbengpepaaGreat
