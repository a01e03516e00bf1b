/- The program's blob: fits, place. · The program's journal: the front sectors. -/
import Derived.Test.YthjdmfbengpepaaGreatB30
import Derived.Test.YthjdmfbengpepaaGreatB26
import Derived.Test.YthjdmfbengpepaaGreatB29
namespace Go.Proofs.YthjdmfbengpepaaGreat
open Go.RowKit

theorem KS.refl (base : Nat) (w : World) : KS base w w := ⟨KeepO.refl _ _, Below.refl _ _⟩
set_option maxRecDepth 20000 in
set_option maxHeartbeats 1000000 in
theorem codFits {JA : World → Nat → Nat → Nat → Jl → Prop} {SA : World → Nat → Nat → Nat → Nat → Tl → Jl → Prop} (so : SpcOK JA SA) (w : World) (S J P base m : Nat) (t : Tl) (j : Jl) (n : Nat) (h : SA w S J P base t j) (hf : Fit t j m) (hn : n ≤ 100000) :
    Calls Tryz.prog 47 #[.pointer (some ⟨S, 0, none⟩), .int .i64 (n : Int)] w fun e w' => e = .returned (.bool (decide (roomOk t j n))) ∧ SA w' S J P base t j ∧ KS base w w' := by
  have HF := so.free w S J P base m t j h hf
  have HLf : Hid (∀ W, SA W S J P base t j → Calls Tryz.prog 97 #[.pointer (some ⟨S, 0, none⟩)] W fun e w' => e = .returned (.int .i64 (48 - (t.l.length : Int))) ∧ SA w' S J P base t j ∧ KS base W w') := fun W hW => so.left W S J P base m t j hW hf
  have hl : t.l.length ≤ 48 := hf.len
  have HS := mkHid h
  obtain ⟨d, hd⟩ : ∃ d, d = decide (roomOk t j n) := ⟨_, rfl⟩
  rw [← hd]
  have hd : d = true ↔ (n = 0 ∨ (n ≤ freeL (mapL t j) (j.p.n - 51) ∧ (n : Int) ≤ 48 - (t.l.length : Int) - 1)) := by rw [hd]; exact decide_eq_true_iff
  generalize freeL (mapL t j) (j.p.n - 51) = fr at *
  generalize hlg : t.l.length = lg at *
  clear h hf hlg
  by_cases h0 : n = 0
  · subst h0
    have HV : Hid (true = d) := (hd.2 (.inl rfl)).symm
    clear hd HF HLf
    go_enter Tryz.func47, Tryz.ntmps47
    go_wp2_with fail
    go_ret
    exact ⟨ret_b HV.out, HS.out, KS.refl _ _⟩
  · have bn : ((n : Int) == 0) = false := beq_eq_false_iff_ne.2 (by omega)
    have h0' : ¬ (n : Int) = 0 := by omega
    by_cases h1 : n ≤ fr
    · have d1 : decide ((n : Int) ≤ (fr : Int)) = true := decide_eq_true (by omega)
      have h1' : (n : Int) ≤ (fr : Int) := by omega
      have HD : Hid (d = decide ((n : Int) ≤ 48 - (lg : Int) - 1)) := Bool.eq_iff_iff.2 ⟨fun h => decide_eq_true ((hd.1 h).resolve_left h0).2, fun h => hd.2 (.inr ⟨h1, of_decide_eq_true h⟩)⟩
      clear hd
      go_enter Tryz.func47, Tryz.ntmps47
      go_wp2_with fail
      refine HF.mono ?_
      rintro e x1 ⟨rfl, hs1, hk1⟩
      have HK1 := mkHid hk1
      have HL := HLf.out x1 hs1
      clear HF hk1 hs1 HS HLf
      go_wp2_with fail
      refine HL.mono ?_
      rintro e x2 ⟨rfl, hs2, hk2⟩
      have HS2 := mkHid hs2
      have HK2 := mkHid (HK1.out.trans hk2)
      clear HL hs2 hk2 HK1
      go_wp2_with fail
      go_ret
      exact ⟨ret_b HD.out.symm, HS2.out, HK2.out⟩
    · have d1 : decide ((n : Int) ≤ (fr : Int)) = false := decide_eq_false (by omega)
      have h1' : ¬ (n : Int) ≤ (fr : Int) := by omega
      have HV : Hid (false = d) := by
        cases d with
        | false => exact rfl
        | true => exact absurd ((hd.1 rfl).resolve_left h0).1 h1
      clear hd HLf
      go_enter Tryz.func47, Tryz.ntmps47
      go_wp2_with fail
      refine HF.mono ?_
      rintro e x1 ⟨rfl, hs1, hk1⟩
      have HS1 := mkHid hs1
      have HK1 := mkHid hk1
      clear HF hk1 hs1 HS
      go_wp2_with fail
      go_ret
      exact ⟨ret_b HV.out, HS1.out, HK1.out⟩
/-- place: what it tells, what it leaves -/
def plE (t : Tl) (j : Jl) (c : List UInt8) : Int := if tkE t j ≠ 0 then tkE t j else spWrE (tkT t j) j (tkV t j : Int) c
def plV (t : Tl) (j : Jl) : Int := if tkE t j ≠ 0 then 0 else (tkV t j : Int)
def plT (t : Tl) (j : Jl) (c : List UInt8) : Tl := if tkE t j ≠ 0 then tkT t j else spWr (tkT t j) j (tkV t j : Int) c
theorem pl_no {t : Tl} {j : Jl} (c : List UInt8) (h : tkE t j ≠ 0) : plE t j c = tkE t j ∧ plV t j = 0 ∧ plT t j c = tkT t j := by unfold plE plV plT; rw [if_pos h, if_pos h, if_pos h]; exact ⟨rfl, rfl, rfl⟩
theorem pl_yes {t : Tl} {j : Jl} (c : List UInt8) (h : tkE t j = 0) : plE t j c = spWrE (tkT t j) j (tkV t j : Int) c ∧ plV t j = (tkV t j : Int) ∧ plT t j c = spWr (tkT t j) j (tkV t j : Int) c := by unfold plE plV plT; rw [if_neg (fun x => x h), if_neg (fun x => x h), if_neg (fun x => x h)]; exact ⟨rfl, rfl, rfl⟩
set_option maxRecDepth 20000 in
set_option maxHeartbeats 1000000 in
theorem codPlace {JA : World → Nat → Nat → Nat → Jl → Prop} {SA : World → Nat → Nat → Nat → Nat → Tl → Jl → Prop} (so : SpcOK JA SA) (w : World) (S J P base m : Nat) (t : Tl) (j : Jl) (ca : Option Addr) (cn cc : Nat) (c : List UInt8) (h : SA w S J P base t j) (hf : Fit t j m) (hc : ∀ W, KS base w W → IsB W ca cn cc c) (hcn : 0 < cn) (hv : tkV t j ≤ 100000) :
    Calls Tryz.prog 50 #[.pointer (some ⟨S, 0, none⟩), .slice ca cn cc] w fun e w' => e = .returned (.tuple #[.int .i64 (plV t j), .int .i64 (plE t j (pad512 c))]) ∧ SA w' S J P base (plT t j (pad512 c)) j ∧ KS base w w' := by
  have HT := so.take w S J P base m t j h hf
  have HFt := mkHid hf.take
  by_cases hz : tkE t j ≠ 0
  · obtain ⟨e1, e2, e3⟩ := pl_no (pad512 c) hz
    rw [e1, e2, e3]
    clear e1 e2 e3 h hf hc
    generalize tkE t j = E at *
    go_enter Tryz.func50, Tryz.ntmps50
    go_wp2_with fail
    refine HT.mono ?_
    rintro e x1 ⟨rfl, hs1, hk1⟩
    have HS1 := mkHid hs1
    have HK1 := mkHid hk1
    clear HT hs1 hk1
    go_wp2_with fail
    go_ret2
    exact ⟨rfl, HS1.out, HK1.out⟩
  · have hz := Classical.not_not.1 hz
    obtain ⟨e1, e2, e3⟩ := pl_yes (pad512 c) hz
    rw [e1, e2, e3]
    rw [hz] at HT
    have HC : Hid (∀ W, KS base w W → IsB W ca cn cc c) := hc
    have HLo : Hid (∀ W, KS base w W → base ≤ W.heap.size) := fun W hW => Nat.le_trans (so.lo h) hW.b.size
    have HWr : Hid (∀ (W : World) (B : Nat), SA W S J P base (tkT t j) j → OwnB W base (.slice (some ⟨B, 0, none⟩) 512 512) (pad512 c) → Calls Tryz.prog 102 #[.pointer (some ⟨S, 0, none⟩), .int .i64 (tkV t j : Int), .slice (some ⟨B, 0, none⟩) 512 512] W fun e w' => e = .returned (.int .i64 (spWrE (tkT t j) j (tkV t j : Int) (pad512 c))) ∧ SA w' S J P base (spWr (tkT t j) j (tkV t j : Int) (pad512 c)) j ∧ KS base W w') := fun W B hS hO => by
      have := so.write W S J P base m (tkT t j) j (tkV t j : Int) (some ⟨B, 0, none⟩) 512 (pad512 c) hS HFt.out (by omega) (by omega) (by rw [pad512_len]; omega) (fun V hV _ => own_isB (own_keepO hV hO (by decide)))
      rw [pad512_len] at this
      exact this
    clear e1 e2 e3 h hf hc hz HFt hv
    generalize spWrE (tkT t j) j (tkV t j : Int) (pad512 c) = E2 at *
    generalize spWr (tkT t j) j (tkV t j : Int) (pad512 c) = t2 at *
    generalize tkT t j = t1 at *
    generalize tkV t j = v at *
    go_enter Tryz.func50, Tryz.ntmps50
    go_wp2_with fail
    refine HT.mono ?_
    rintro e x1 ⟨rfl, hs1, hk1⟩
    have HS1 := mkHid hs1
    have HK1 := mkHid hk1
    clear HT hs1 hk1
    go_wp2_with (at_make; refine make_full8 x1 rfl _ _ rfl x1.heap.size .i64 .i64 _ _ 512 rfl rfl rfl rfl (by omega) (Nat.le_refl _) ?_; intro w6 ho6 hg6; have hb6 : Below x1.heap.size x1 w6 := (Below.refl _ x1).grown hg6 (Nat.le_refl _) (fun k e => by cases e); obtain ⟨w7, hr7, hB7, hg7⟩ := copyP w6 x1.heap.size ca cn cc c (own_full ho6 (List.length_replicate ..)) (HC.out w6 (HK1.out.trans (KS.of_below hb6 (HLo.out _ HK1.out)))) hcn; have HO7 : Hid (OwnB w7 base (.slice (some ⟨x1.heap.size, 0, none⟩) 512 512) (pad512 c)) := full_own hB7 (pad512_len _) (HLo.out _ HK1.out); have hb7 : Below x1.heap.size x1 w7 := hb6.trans ((Below.refl _ w6).grown hg7 hb6.size (fun x e => Nat.le_of_eq (Option.some.inj e))); have HS7 := mkHid (so.keep HS1.out (KeepT.of_below hb7)); have HK7 := mkHid (HK1.out.trans (KS.of_below hb7 (HLo.out _ HK1.out))); clear ho6 hg6 hb6 hB7 hg7 hb7; generalize ((min 512 cn : Nat) : Int) = cm at *)
    refine (HWr.out w7 _ HS7.out HO7.out).mono ?_
    rintro e x8 ⟨rfl, hs8, hk8⟩
    have HS8 := mkHid hs8
    have HK8 := mkHid (HK7.out.trans hk8)
    clear hs8 hk8 HK7 HS7 HO7 HK1 HS1 HWr
    go_wp2_with fail
    go_ret2
    exact ⟨rfl, HS8.out, HK8.out⟩
end Go.Proofs.YthjdmfbengpepaaGreat
namespace Go.Proofs.YthjdmfbengpepaaGreat
open Go.RowKit

set_option maxRecDepth 20000 in
set_option maxHeartbeats 2000000 in
/-- a Read of a disk that is up -/
theorem codReadOk (X : Nat → Prop) (P base : Nat) (p : Pl) (k : Nat) (w : World) (h : IsD X w P base p) (hf : FewP p) (hoff : p.off = false) (hk : k < p.n) :
    Calls Tryz.prog 122 #[.pointer (some ⟨P, 0, none⟩), .int .i64 (k : Int)] w fun e w' => ∃ g, e = .returned (.tuple #[.slice (some ⟨g, 0, none⟩) 512 512, .int .i64 0]) ∧ w.heap.size ≤ g ∧ (p.rdB (k : Int)).length = 512 ∧ Blk w' g 5 (bv (p.rdB (k : Int))) ∧ Below w.heap.size w w' := by
  obtain ⟨S, vC, arm, h⟩ := h
  have HR := codReach P S p.n p.off (k : Int) w (h.blk.cell 0) (h.blk.cell 3)
  have HH := mkHid h
  have HF := mkHid hf
  clear h hf
  have hin : inR p.n (k : Int) = true := inR_nat hk
  rw [hoff, if_neg (by simp), hin, if_pos rfl] at HR
  have HE : Hid (p.rdB (k : Int) = p.ca.foldl Pl.put p.st k) := by unfold Hid Pl.rdB; simp [hoff, hin]
  have HL : Hid ((p.ca.foldl Pl.put p.st k).length = 512) := fold_len512 _ _ p.n k hk (fun g hg => (HF.out.at_ g hg).2) HH.out.len
  have HLa := codLatest X P base S vC arm p k w HH.out HF.out hk
  rw [HE.out]
  generalize p.ca.foldl Pl.put p.st k = bb at *
  clear hoff hin hk
  go_enter Tryz.func122, Tryz.ntmps122
  go_wp2_with fail
  refine HR.mono ?_
  rintro e w1 ⟨rfl, hw1⟩
  obtain rfl := hw1.symm
  go_wp2_with fail
  refine HLa.mono ?_
  rintro e w2 ⟨rfl, hb2⟩
  have HB2 := mkHid hb2
  clear hb2
  go_wp2_with fail
  refine (codBytes bb w2 HL.out).mono ?_
  rintro e w3 ⟨g, rfl, hg3, hB3, hb3⟩
  have HB3 := mkHid (And.intro hg3 (And.intro hB3 hb3))
  clear hg3 hB3 hb3
  go_wp2_with fail
  go_ret2
  exact ⟨g, rfl, Nat.le_trans HB2.out.size HB3.out.1, HL.out, HB3.out.2.1, HB2.out.trans (HB3.out.2.2.mono HB2.out.size)⟩

/-- the front sectors of a disk, in a world -/
structure IsFr (w : World) (F : Nat) (p : Pl) (gs : Nat → Nat) : Prop where
  blk : Blk w F 41 (laidTo (dtv gs) (.slice none 0 0) 49 49)
  at_ : ∀ i, i < 49 → F ≠ gs i ∧ (p.rdB (i : Int)).length = 512 ∧ Blk w (gs i) 5 (bv (p.rdB (i : Int)))
theorem IsFr.on {w w' : World} {F : Nat} {p : Pl} {gs : Nat → Nat} (h : IsFr w F p gs) (hb : Below w.heap.size w w') : IsFr w' F p gs := ⟨h.blk.on hb, fun i hi => ⟨(h.at_ i hi).1, (h.at_ i hi).2.1, (h.at_ i hi).2.2.on hb⟩⟩
theorem IsFr.cell {w : World} {F : Nat} {p : Pl} {gs : Nat → Nat} (h : IsFr w F p gs) (i : Nat) (hi : i < 49) : w.cell? ⟨F, i, none⟩ = some (.slice (some ⟨gs i, 0, none⟩) 512 512) := by
  rw [h.blk.cell, laidTo_at _ _ _ _ _ hi, if_pos hi]; rfl

set_option maxRecDepth 20000 in
set_option maxHeartbeats 2000000 in
theorem codFront (P base m : Nat) (p : Pl) (w : World) (h : IsD0 w P base p) (hf : FewM p m) (hm : m ≤ 1000000) (hoff : p.off = false) :
    Calls Tryz.prog 77 #[.pointer (some ⟨P, 0, none⟩)] w fun e w' => ∃ F, e = .returned (.tuple #[.slice (some ⟨F, 0, none⟩) 49 49, .int .i64 0]) ∧ (∃ gs, IsFr w' F p gs) ∧ Below w.heap.size w w' := by
  have HI := mkHid h
  have HF := mkHid hf
  have HO := mkHid hoff
  clear h hf hoff
  go_enter Tryz.func77, Tryz.ntmps77
  go_wp2_with (at_make; refine make_slices w rfl _ _ rfl 49 rfl rfl (by omega) ?_; intro w1 hB1 hg1; have HB1 := mkHid hB1; have HG1 := mkHid (gr_below hg1); clear hB1 hg1)
  obtain ⟨S, hS⟩ : ∃ S, S = w.heap.size := ⟨_, rfl⟩
  have HS := mkHid hS
  rw [← hS] at HB1 ⊢
  clear hS
  go_loopw [11] (fun i wr => ∃ (k : Nat) (gs : Nat → Nat), k ≤ 49 ∧ i = .int .i64 (k : Int) ∧ Hid (Blk wr S 41 (laidTo (dtv gs) (.slice none 0 0) 49 k)) ∧ Hid (∀ i, i < k → S ≠ gs i ∧ (p.rdB (i : Int)).length = 512 ∧ Blk wr (gs i) 5 (bv (p.rdB (i : Int)))) ∧ Hid (Below w.heap.size w wr)) (fun i _ => 49 - (Go.RowKit.intOf i).toNat)
  case atStart => exact ⟨0, fun _ => 0, Nat.zero_le _, rfl, by rw [laidTo_zero]; exact HB1, fun i hi => absurd hi (Nat.not_lt_zero i), HG1⟩
  case round =>
    obtain ⟨k, gs, hk, rfl, HB, HBs, HW⟩ := hrel
    clear HB1 HG1
    by_cases hlt : k < 49
    · have hlt' : (k : Int) < 49 := by omega
      have hk0 : (0 : Int) ≤ (k : Int) := by omega
      have HRd := codReadOk (fun _ => False) P base p k wr (HI.out.on HW.out) (HF.out.few hm) HO.out (by have := HF.out.n0; omega)
      have HX : Hid (∀ W g, Below wr.heap.size wr W → wr.heap.size ≤ g → (p.rdB (k : Int)).length = 512 → Blk W g 5 (bv (p.rdB (k : Int))) → ∀ i, i < k + 1 → S ≠ (fun i => if i = k then g else gs i) i ∧ (p.rdB (i : Int)).length = 512 ∧ Blk W ((fun i => if i = k then g else gs i) i) 5 (bv (p.rdB (i : Int)))) := fun W g hW hg hl hB i hi => by
        have hSl := HB.out.lt
        by_cases e : i = k
        · subst e; simp only [if_true]; exact ⟨by omega, hl, hB⟩
        · simp only [if_neg e]
          have := HBs.out i (by omega)
          exact ⟨this.1, this.2.1, this.2.2.on hW⟩
      generalize p.rdB (k : Int) = bb at *
      go_wp2_with fail
      refine HRd.mono ?_
      rintro e W1 ⟨g, rfl, hg, hl5, hBg, hb1⟩
      have hX1 := mkHid (HX.out W1 g hb1 hg hl5 hBg)
      have HB1 := mkHid (HB.out.on hb1)
      have HW1 := mkHid (HW.out.trans (hb1.mono HW.out.size))
      have hc : W1.cell? ⟨S, k, none⟩ = some (.slice none 0 0) := by rw [HB1.out.cell, laidTo_at _ _ _ _ _ hlt, if_neg (by omega)]
      have hfz := HB1.out.frozen k
      have HB2 : Hid (Blk (W1.setCell ⟨S, k, none⟩ (.slice (some ⟨g, 0, none⟩) 512 512)) S 41 (laidTo (dtv (fun i => if i = k then g else gs i)) (.slice none 0 0) 49 (k + 1))) := by
        have h1 := HB1.out
        rw [laidTo_congr (f' := dtv (fun i => if i = k then g else gs i)) (fun i hi => by unfold dtv; simp only [if_neg (show ¬ i = k by omega)])] at h1
        have h2 := h1.set k (dtv (fun i => if i = k then g else gs i) k)
        rw [laidTo_set _ _ _ _ hlt] at h2
        have e : dtv (fun i => if i = k then g else gs i) k = .slice (some ⟨g, 0, none⟩) 512 512 := by unfold dtv; simp only [if_true]
        rw [e] at h2
        exact h2
      have HX2 : Hid (∀ i, i < k + 1 → S ≠ (fun i => if i = k then g else gs i) i ∧ (p.rdB (i : Int)).length = 512 ∧ Blk (W1.setCell ⟨S, k, none⟩ (.slice (some ⟨g, 0, none⟩) 512 512)) ((fun i => if i = k then g else gs i) i) 5 (bv (p.rdB (i : Int)))) := fun i hi => by
        have := hX1.out i hi
        exact ⟨this.1, this.2.1, this.2.2.other _ _ (fun e => this.1 e.symm)⟩
      have HW2 : Hid (Below w.heap.size w (W1.setCell ⟨S, k, none⟩ (.slice (some ⟨g, 0, none⟩) 512 512))) := HW1.out.trans (bel_one (gr_cell W1 S k _) (Nat.le_of_eq HS.out.symm) HB1.out.lt)
      clear HB1 HW1 HW hX1 HX HB HBs hg hl5 hBg hb1 HRd
      go_wp2_with fail
      go_roundw
      case rel => exact ⟨k + 1, (fun i => if i = k then g else gs i), by omega, by go_num, HB2, HX2, HW2⟩
      case measure => simp [Go.RowKit.intOf]; omega
    · have hge : ¬ (k : Int) < 49 := by omega
      have hkn : k = 49 := by omega
      subst hkn
      go_wp2_with fail
      go_ret2
      exact ⟨S, rfl, ⟨gs, HB.out, HBs.out⟩, HW.out⟩

set_option maxRecDepth 20000 in
set_option maxHeartbeats 2000000 in
theorem codFrontNo (P base m : Nat) (p : Pl) (w : World) (h : IsD0 w P base p) (hf : FewM p m) (hm : m ≤ 1000000) (hoff : p.off = true) :
    Calls Tryz.prog 77 #[.pointer (some ⟨P, 0, none⟩)] w fun e w' => e = .returned (.tuple #[.slice none 0 0, .int .i64 51]) ∧ Below w.heap.size w w' := by
  have HI := mkHid h
  have HF := mkHid hf
  have HO : Hid (p.rdE ((0 : Nat) : Int) = 51 ∧ p.rdB ((0 : Nat) : Int) = []) := by unfold Hid Pl.rdE Pl.rdB; simp [hoff]
  clear h hf hoff
  go_enter Tryz.func77, Tryz.ntmps77
  go_wp2_with (at_make; refine make_slices w rfl _ _ rfl 49 rfl rfl (by omega) ?_; intro w1 hB1 hg1; have HG1 := mkHid (gr_below hg1); clear hB1 hg1)
  go_loopw [11] (fun i wr => i = .int .i64 ((0 : Nat) : Int) ∧ Hid (Below w.heap.size w wr)) (fun i _ => 49 - (Go.RowKit.intOf i).toNat)
  case atStart => exact ⟨rfl, HG1⟩
  case round =>
    obtain ⟨rfl, HW⟩ := hrel
    have HRd := codRead (fun _ => False) P base p ((0 : Nat) : Int) wr (HI.out.on HW.out) (HF.out.few hm)
    rw [HO.out.1, HO.out.2] at HRd
    have hz : ((0 : Nat) : Int) = 0 := rfl
    rw [hz] at HRd
    go_wp2_with fail
    refine HRd.mono ?_
    rintro e W1 ⟨⟨a, c, rfl, _, _⟩, hb1⟩
    have HW1 := mkHid (HW.out.trans (hb1.mono HW.out.size))
    clear hb1 HRd
    go_wp2_with fail
    go_ret2
    exact ⟨rfl, HW1.out⟩
end Go.Proofs.YthjdmfbengpepaaGreat
