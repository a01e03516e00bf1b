/- The program's space: a transaction in a world; the map as it is read. · The program's space: least, turn. -/
import Derived.Test.YthjdmfbengpepaaGreatB38
import Derived.Test.YthjdmfbengpepaaGreatB26
import Derived.Test.YthjdmfbengpepaaGreatB27
import Derived.Test.YthjdmfbengpepaaGreatB2
namespace Go.Proofs.YthjdmfbengpepaaGreat
open Go.RowKit

/-- the program's transaction -/
structure SpAt (w : World) (S J P base : Nat) (t : Tl) (j : Jl) (T g c : Nat) : Prop where
  ta : TAx w T J P base t j
  blk : Blk w S 99 [.pointer (some ⟨T, 0, none⟩), .slice (some ⟨g, 0, none⟩) 512 c, .int .i64 (j.p.n : Int)]
  low : base ≤ S
  own : OwnB w base (.slice (some ⟨g, 0, none⟩) 512 c) (mapL t j)
def SpAx (w : World) (S J P base : Nat) (t : Tl) (j : Jl) : Prop := ∃ T g c, SpAt w S J P base t j T g c
theorem TAx.on {w w' : World} {T J P base : Nat} {t : Tl} {j : Jl} (h : TAx w T J P base t j) (hb : Below w.heap.size w w') : TAx w' T J P base t j := by
  obtain ⟨M, tr, h⟩ := h
  exact ⟨M, tr, h.on hb⟩
theorem TAx.lo {w : World} {T J P base : Nat} {t : Tl} {j : Jl} (h : TAx w T J P base t j) : base ≤ w.heap.size := by
  obtain ⟨M, tr, h⟩ := h
  exact h.ja.d.low
theorem SpAt.on {w w' : World} {S J P base : Nat} {t : Tl} {j : Jl} {T g c : Nat} (h : SpAt w S J P base t j T g c) (hb : Below w.heap.size w w') : SpAt w' S J P base t j T g c :=
  ⟨h.ta.on hb, h.blk.on hb, h.low, own_keepO (us := [5]) (KeepO.of_below hb) h.own (by decide)⟩
theorem SpAt.drewN {w : World} {S J P base : Nat} {t : Tl} {j : Jl} {T g c : Nat} (h : SpAt w S J P base t j T g c) (m : Nat) : SpAt (w.drewN m) S J P base t j T g c := h.on (bel_drewN (Below.refl _ _) m)
theorem SpAx.keep {w w' : World} {S J P base : Nat} {t : Tl} {j : Jl} (h : SpAx w S J P base t j) (hk : KeepT CT w w') : SpAx w' S J P base t j := by
  obtain ⟨T, g, c, h⟩ := h
  obtain ⟨M, tr, ht⟩ := h.ta
  exact ⟨T, g, c, ⟨M, tr, ht.keep hk⟩, hk.blk h.blk (by decide), h.low, own_keepO (KeepO.ofT (us := [5]) hk (by decide)) h.own (by decide)⟩
/-- a write to the journal's transaction, of a sector that isn't the map -/
theorem SpAt.wrote {w w' : World} {S J P base : Nat} {t t' : Tl} {j : Jl} {T g c : Nat} (h : SpAt w S J P base t j T g c) (ht : TAx w' T J P base t' j) (hk : KP base w w') (hm : mapL t' j = mapL t j) : SpAt w' S J P base t' j T g c :=
  ⟨ht, hk.o.blk h.blk (by decide), h.low, by rw [hm]; exact own_keepO hk.o h.own (by decide)⟩
theorem SpAt.isB {w : World} {S J P base : Nat} {t : Tl} {j : Jl} {T g c : Nat} (h : SpAt w S J P base t j T g c) (hl : (mapL t j).length = 512) : IsB w (some ⟨g, 0, none⟩) 512 c (mapL t j) := by
  obtain ⟨a, cap, e, hI⟩ := h.own.isB
  injection e with e1 e2 e3
  subst e1 e3
  rw [hl] at hI
  exact hI
theorem own_blk {w : World} {g base : Nat} {b : List UInt8} (h : Blk w g 5 (bv b)) (hb : b.length = 512) (hg : base ≤ g) : OwnB w base (.slice (some ⟨g, 0, none⟩) 512 512) b := by
  unfold OwnB
  rw [hb]
  exact ⟨by rw [bv_length, hb], .inr ⟨g, 512, (bv b).toArray, rfl, hg, h, Nat.le_refl _, by decide, by rw [List.size_toArray, bv_length, hb], by rw [List.toList_toArray, List.take_of_length_le (by rw [bv_length, hb]; omega)]⟩⟩

set_option maxRecDepth 20000 in
set_option maxHeartbeats 2000000 in
theorem codReadU (P base : Nat) (p : Pl) (k : Nat) (w : World) (h : IsD0 w P base p) (hf : FewP p) (hoff : p.off = false) (hk : k < p.n) :
    Calls Tryz.prog 122 #[.pointer (some ⟨P, 0, none⟩), .int .i64 (k : Int)] w fun e w' => (∃ g, e = .returned (.tuple #[.slice (some ⟨g, 0, none⟩) 512 512, .int .i64 0]) ∧ w.heap.size ≤ g ∧ Blk w' g 5 (bv (p.rdB (k : Int)))) ∧ (p.rdB (k : Int)).length = 512 ∧ Below w.heap.size w w' := by
  obtain ⟨S, vC, arm, h⟩ := h
  have HR := codReach P S p.n p.off (k : Int) w (h.blk.cell 0) (h.blk.cell 3)
  have HH := mkHid h
  have HF := mkHid hf
  clear h hf
  have hin : inR p.n (k : Int) = true := decide_eq_true ⟨by omega, by omega⟩
  rw [hoff, if_neg (by simp), hin, if_pos rfl] at HR
  have HE : Hid (p.rdB (k : Int) = p.ca.foldl Pl.put p.st k) := by unfold Hid Pl.rdB; simp [hoff, hin]
  have HL : Hid ((p.ca.foldl Pl.put p.st k).length = 512) := fold_len512 _ _ p.n k hk (fun g hg => (HF.out.at_ g hg).2) HH.out.len
  have HLa := codLatest (fun _ => False) P base S vC arm p k w HH.out HF.out hk
  generalize p.ca.foldl Pl.put p.st k = bb at *
  clear hoff hin hk
  go_enter Tryz.func122, Tryz.ntmps122
  go_wp2_with fail
  refine HR.mono ?_
  rintro e w1 ⟨rfl, hw1⟩
  obtain rfl := hw1.symm
  go_wp2_with fail
  refine HLa.mono ?_
  rintro e w2 ⟨rfl, hb2⟩
  have HB2 := mkHid hb2
  clear hb2
  go_wp2_with fail
  refine (codBytes bb w2 HL.out).mono ?_
  rintro e w3 ⟨g, rfl, hg3, hB3, hb3⟩
  have HB3 := mkHid (And.intro hg3 (And.intro hB3 hb3))
  clear hg3 hB3 hb3
  go_wp2_with fail
  go_ret2
  refine ⟨⟨g, rfl, Nat.le_trans HB2.out.size HB3.out.1, ?_⟩, ?_, HB2.out.trans (HB3.out.2.2.mono HB2.out.size)⟩
  · rw [HE.out]; exact HB3.out.2.1
  · rw [HE.out]; exact HL.out
set_option maxRecDepth 20000 in
theorem codJReadU (w : World) (J P base : Nat) (j : Jl) (h : JAt w J P base j) (hf : FewP j.p) (ho : j.p.off = false) (hn : 49 < j.p.n) :
    Calls Tryz.prog 81 #[.pointer (some ⟨J, 0, none⟩), .int .i64 49] w fun e w' => (∃ g, e = .returned (.tuple #[.slice (some ⟨g, 0, none⟩) 512 512, .int .i64 0]) ∧ w.heap.size ≤ g ∧ Blk w' g 5 (bv (mapL ⟨[], false⟩ j))) ∧ (mapL ⟨[], false⟩ j).length = 512 ∧ Below w.heap.size w w' := by
  have HZ := codJSize w J P base j h
  have HA := codInArea 49 j.p.n w
  have c0 : w.cell? ⟨J, 0, none⟩ = some (.pointer (some ⟨P, 0, none⟩)) := h.blk.cell 0
  have HR := codReadU P base j.p 49 w h.d hf ho hn
  have HJ := mkHid h
  clear h
  have ha : areaI j.p.n 49 = true := by unfold areaI; exact decide_eq_true (by omega)
  have HE : Hid (mapL ⟨[], false⟩ j = j.p.rdB ((49 : Nat) : Int)) := by
    unfold Hid mapL Tl.rdB
    show (if areaI j.p.n 49 = false then [] else j.p.rdB 49) = _
    rw [ha]
    rfl
  rw [ha] at HA
  have HH := codHeed0 J
  clear ha
  generalize j.p.n = n at *
  generalize j.p.rdB ((49 : Nat) : Int) = bb at *
  go_enter Tryz.func81, Tryz.ntmps81
  go_wp2_with fail
  refine HZ.mono ?_
  rintro e w1 ⟨rfl, rfl⟩
  go_wp2_with fail
  refine HA.mono ?_
  rintro e w2 ⟨rfl, hw2⟩
  obtain rfl := hw2.symm
  go_wp2_with fail
  refine HR.mono ?_
  rintro e w3 ⟨⟨g, rfl, hg, hB⟩, hl, hb3⟩
  have HB := mkHid hB
  clear hB
  go_wp2_with fail
  refine (HH w3).mono ?_
  rintro e w4 ⟨⟨y, rfl⟩, rfl⟩
  go_wp2_with fail
  go_ret2
  exact ⟨⟨g, rfl, hg, by rw [HE.out]; exact HB.out⟩, by rw [HE.out]; exact hl, hb3⟩
set_option maxRecDepth 20000 in
set_option maxHeartbeats 2000000 in
theorem codOpen (w : World) (J P base m : Nat) (j : Jl) (h : JAt w J P base j) (hf : Fit ⟨[], false⟩ j m) :
    Calls Tryz.prog 35 #[.pointer (some ⟨J, 0, none⟩)] w fun e w' => (∃ S, e = .returned (.tuple #[.pointer (some ⟨S, 0, none⟩), .int .i64 0]) ∧ SpAx w' S J P base ⟨[], false⟩ j) ∧ KS base w w' := by
  have HLo := mkHid h.d.low
  have HRd := codJReadU w J P base j h (hf.few.few (by have := hf.m; omega)) hf.good.off (by have := hf.few.n0; omega)
  have HBg := fun W (hW : Below w.heap.size w W) => codBegin W J P base j (h.on hW) (Nat.le_trans HLo.out hW.size)
  have HSz := fun W (hW : Below w.heap.size w W) => codJSize W J P base j (h.on hW)
  clear h
  go_enter Tryz.func35, Tryz.ntmps35
  go_wp2_with fail
  refine HRd.mono ?_
  rintro e w1 ⟨⟨g, rfl, hg, hB⟩, hl, hb1⟩
  have HB1 := mkHid hb1
  have HG := mkHid hB
  have HL := mkHid hl
  have HGe := mkHid hg
  clear hB hl hb1 hg HRd
  go_wp2_with fail
  refine (HBg w1 HB1.out).mono ?_
  rintro e w2 ⟨⟨T, M, rfl, hT⟩, hb2⟩
  have HB2 := mkHid (HB1.out.trans (hb2.mono HB1.out.size))
  have HT := mkHid hT
  have HG2 := mkHid (Blk.on HG.out hb2)
  have HZ := HSz w2 HB2.out
  clear hT hb2 HBg HSz HG
  go_wp2_with fail
  refine HZ.mono ?_
  rintro e w3 ⟨rfl, hw3⟩
  obtain rfl := hw3.symm
  clear HZ
  go_wp2_with fail
  go_ret2
  have hA : Below w2.heap.size w2 (w2.alloc (.cells #[.pointer (some ⟨T, 0, none⟩), .slice (some ⟨g, 0, none⟩) 512 512, .int .i64 (j.p.n : Int)] 99)) := (Below.refl _ w2).alloc (Nat.le_refl _) _
  exact ⟨⟨w2.heap.size, rfl, T, g, 512, ⟨M, false, HT.out.on hA⟩, Blk.new w2 _ [_, _, _], Nat.le_trans HLo.out HB2.out.size, own_blk (Blk.on HG2.out hA) HL.out (Nat.le_trans HLo.out HGe.out)⟩, KS.of_below (HB2.out.trans (hA.mono HB2.out.size)) HLo.out⟩
set_option maxRecDepth 20000 in
set_option maxHeartbeats 1000000 in
theorem codSRead (w : World) (S J P base m : Nat) (t : Tl) (j : Jl) (i : Int) (h : SpAx w S J P base t j) (hf : Fit t j m) (h0 : -9223372036854775808 ≤ i) (h1 : i ≤ 9223372036854775807) :
    Calls Tryz.prog 23 #[.pointer (some ⟨S, 0, none⟩), .int .i64 i] w fun e w' => (∃ v, e = .returned (.tuple #[v, .int .i64 (spRdE t j i)]) ∧ IsV w' v (spRdB t j i)) ∧ SpAx w' S J P base t j ∧ KS base w w' := by
  obtain ⟨T, g, c, h⟩ := h
  have HH := mkHid h
  have c0 : w.cell? ⟨S, 0, none⟩ = some (.pointer (some ⟨T, 0, none⟩)) := h.blk.cell 0
  have HR := jrnOK.read w T J P base m t j i h.ta hf.len hf.few hf.m h0 h1 hf.good.off
  clear h
  by_cases hi : i < 50
  · have HE : Hid ((50 : Int) = spRdE t j i ∧ [] = spRdB t j i) := by unfold Hid spRdE spRdB; rw [if_pos hi, if_pos hi]; exact ⟨rfl, rfl⟩
    clear HR
    go_enter Tryz.func23, Tryz.ntmps23
    go_wp2_with fail
    go_ret2
    exact ⟨⟨.slice none 0 0, by rw [← HE.out.1]; rfl, by rw [← HE.out.2]; exact ⟨none, 0, rfl, isB_none _⟩⟩, ⟨T, g, c, HH.out⟩, KS.of_below (Below.refl _ _) HH.out.ta.lo⟩
  · have HE : Hid (t.rdE j i = spRdE t j i ∧ t.rdB j i = spRdB t j i) := by unfold Hid spRdE spRdB; rw [if_neg hi, if_neg hi]; exact ⟨rfl, rfl⟩
    go_enter Tryz.func23, Tryz.ntmps23
    go_wp2_with fail
    refine HR.mono ?_
    rintro e w1 ⟨⟨v, rfl, hv⟩, ht, hk⟩
    go_wp2_with fail
    go_ret2
    exact ⟨⟨v, by rw [← HE.out.1]; rfl, by rw [← HE.out.2]; exact hv⟩, ⟨T, g, c, HH.out.wrote ht hk rfl⟩, KS.ofP hk⟩
set_option maxRecDepth 20000 in
set_option maxHeartbeats 1000000 in
theorem codSWrite (w : World) (S J P base m : Nat) (t : Tl) (j : Jl) (i : Int) (ba : Option Addr) (bc : Nat) (b : List UInt8) (h : SpAx w S J P base t j) (hf : Fit t j m) (h0 : -9223372036854775808 ≤ i) (h1 : i ≤ 9223372036854775807) (hl : b.length ≤ 140737488351232) (hB : ∀ W, KeepO [5] w W → Below base w W → IsB W ba b.length bc b) :
    Calls Tryz.prog 102 #[.pointer (some ⟨S, 0, none⟩), .int .i64 i, .slice ba b.length bc] w fun e w' => e = .returned (.int .i64 (spWrE t j i b)) ∧ SpAx w' S J P base (spWr t j i b) j ∧ KS base w w' := by
  obtain ⟨T, g, c, h⟩ := h
  have HH := mkHid h
  have c0 : w.cell? ⟨S, 0, none⟩ = some (.pointer (some ⟨T, 0, none⟩)) := h.blk.cell 0
  have HR := jrnOK.write w T J P base m t j i ba bc b h.ta hf.len hf.few hf.m h0 h1 hl hB
  clear h hB
  by_cases hi : i < 50
  · have HE : Hid ((50 : Int) = spWrE t j i b ∧ t = spWr t j i b) := by unfold Hid spWrE spWr; rw [if_pos hi, if_pos hi]; exact ⟨rfl, rfl⟩
    clear HR
    generalize b.length = bl at *
    go_enter Tryz.func102, Tryz.ntmps102
    go_wp2_with fail
    go_ret
    exact ⟨ret_i HE.out.1, by rw [← HE.out.2]; exact ⟨T, g, c, HH.out⟩, KS.of_below (Below.refl _ _) HH.out.ta.lo⟩
  · have HE : Hid (t.wrE j i b = spWrE t j i b ∧ t.write j i b = spWr t j i b) := by unfold Hid spWrE spWr; rw [if_neg hi, if_neg hi]; exact ⟨rfl, rfl⟩
    have HM : Hid (mapL (t.write j i b) j = mapL t j) := map_other (by omega)
    generalize b.length = bl at *
    go_enter Tryz.func102, Tryz.ntmps102
    go_wp2_with fail
    refine HR.mono ?_
    rintro e w1 ⟨rfl, ht, hk⟩
    go_wp2_with fail
    go_ret
    exact ⟨ret_i HE.out.1, by rw [← HE.out.2]; exact ⟨T, g, c, HH.out.wrote ht hk HM.out⟩, KS.ofP hk⟩
set_option maxHeartbeats 1000000 in
theorem codSLeft (w : World) (S J P base m : Nat) (t : Tl) (j : Jl) (h : SpAx w S J P base t j) (hf : Fit t j m) :
    Calls Tryz.prog 97 #[.pointer (some ⟨S, 0, none⟩)] w fun e w' => e = .returned (.int .i64 (48 - (t.l.length : Int))) ∧ SpAx w' S J P base t j ∧ KS base w w' := by
  obtain ⟨T, g, c, h⟩ := h
  have HH := mkHid h
  have c0 : w.cell? ⟨S, 0, none⟩ = some (.pointer (some ⟨T, 0, none⟩)) := h.blk.cell 0
  have HR := jrnOK.len w T J P base t j h.ta hf.len
  have hlen := hf.len
  clear h hf
  go_enter Tryz.func97, Tryz.ntmps97
  go_wp2_with fail
  refine HR.mono ?_
  rintro e w1 ⟨rfl, ht, hk⟩
  go_wp2_with fail
  go_ret
  exact ⟨rfl, ⟨T, g, c, HH.out.wrote ht hk rfl⟩, KS.ofP hk⟩
set_option maxHeartbeats 1000000 in
theorem codSCommit (w : World) (S J P base m : Nat) (t : Tl) (j : Jl) (h : SpAx w S J P base t j) (hf : Fit t j m) :
    Calls Tryz.prog 121 #[.pointer (some ⟨S, 0, none⟩)] w fun e w' => e = .returned (.int .i64 (cmE t j)) ∧ JAt w' J P base (cmJ t j) ∧ KS base w w' := by
  obtain ⟨T, g, c, h⟩ := h
  have c0 : w.cell? ⟨S, 0, none⟩ = some (.pointer (some ⟨T, 0, none⟩)) := h.blk.cell 0
  have HR := jrnOK.commit w T J P base m t j h.ta hf.len hf.few hf.m hf.seq
  clear h hf
  go_enter Tryz.func121, Tryz.ntmps121
  go_wp2_with fail
  refine HR.mono ?_
  rintro e w1 ⟨rfl, ht, hk⟩
  go_wp2_with fail
  go_ret
  exact ⟨rfl, jrnOK.toJ ht, KS.ofP hk⟩
end Go.Proofs.YthjdmfbengpepaaGreat
namespace Go.Proofs.YthjdmfbengpepaaGreat
open Go.RowKit

/-- what least answers -/
def lsAns (t : Tl) (j : Jl) : Value := if tkK t j = j.p.n then .tuple #[.int .i64 0, .bool false] else .tuple #[.int .i64 (tkK t j : Int), .bool true]
theorem lsNo {t : Tl} {j : Jl} (h : tkK t j = j.p.n) : lsAns t j = .tuple #[.int .i64 0, .bool false] := if_pos h
theorem lsYes {t : Tl} {j : Jl} {x : Nat} (h : tkK t j = x) (hx : x < j.p.n) : lsAns t j = .tuple #[.int .i64 (x : Int), .bool true] := by
  unfold lsAns; rw [if_neg (by omega), h]
theorem TAx.keepS {w w' : World} {T J P base : Nat} {t : Tl} {j : Jl} (h : TAx w T J P base t j) (hk : KeepT [99] w w') : TAx w' T J P base t j := by
  obtain ⟨M, tr, h⟩ := h
  exact ⟨M, tr, ⟨hk.blk h.ja.blk (by decide), h.ja.low, h.ja.d.keep hk (by decide) (by decide) (by decide), h.ja.seq⟩, hk.blk h.blk (by decide), h.low, h.lowM, ownM_keep h.own hk, h.sort, h.ok, h.over⟩
theorem write_no {t : Tl} {j : Jl} {i : Int} {b : List UInt8} (h : ¬ t.wrE j i b = 0) : t.write j i b = t := if_neg h
set_option maxRecDepth 20000 in
set_option maxHeartbeats 1000000 in
theorem codLeast (w : World) (S J P base m : Nat) (t : Tl) (j : Jl) (T g c : Nat) (h : SpAt w S J P base t j T g c) (hf : Fit t j m) :
    Calls Tryz.prog 139 #[.pointer (some ⟨S, 0, none⟩)] w fun e w' => e = .returned (lsAns t j) ∧ ∃ m, w' = w.drewN m := by
  have hn0 := hf.few.n0
  have hn1 := hf.few.n
  have hl := (map_ok hf.few hf.good.off hf.lens).2
  have HI : Hid (∀ q, IsB (w.drewN q) (some ⟨g, 0, none⟩) 512 c (mapL t j)) := fun q => (h.isB hl).drewN q
  have HC : ∀ q, (w.drewN q).cell? ⟨S, 1, none⟩ = some (.slice (some ⟨g, 0, none⟩) 512 c) ∧ (w.drewN q).cell? ⟨S, 2, none⟩ = some (.int .i64 (j.p.n : Int)) := fun q => ⟨(h.drewN q).blk.cell 1, (h.drewN q).blk.cell 2⟩
  clear h hf hl
  go_enter Tryz.func139, Tryz.ntmps139
  go_wp2_with fail
  go_loopw [4] (fun i wr => ∃ d q : Nat, wr = w.drewN q ∧ 51 + d ≤ j.p.n ∧ i = .int .i64 ((51 + d : Nat) : Int) ∧ Hid (∀ x, 51 ≤ x → x < 51 + d → bitN (mapL t j) x = true)) (fun i _ => j.p.n - (intOf i).toNat)
  case atStart => exact ⟨0, 0, rfl, by omega, rfl, fun x h1 h2 => absurd h2 (by omega)⟩
  case round =>
    obtain ⟨d, q, rfl, hd, rfl, HA⟩ := hrel
    obtain ⟨c1, c2⟩ := HC q
    obtain ⟨x, hx⟩ : ∃ x, x = 51 + d := ⟨_, rfl⟩
    rw [← hx]
    by_cases hlt : x < j.p.n
    · have hlt' : (x : Int) < (j.p.n : Int) := by omega
      have HT := codTaken (some ⟨g, 0, none⟩) 512 c (mapL t j) (x : Int) (w.drewN q) (HI.out q) (by omega) (by omega)
      rw [takenL_nat] at HT
      have HX := mkHid hx
      have hx51 : 51 ≤ x := by omega
      cases hb : bitN (mapL t j) x with
      | true =>
        rw [hb] at HT
        have HA1 : Hid (∀ z, 51 ≤ z → z < 51 + (d + 1) → bitN (mapL t j) z = true) := fun z h1 h2 => by
          by_cases e : z = x
          · rw [e]; exact hb
          · exact HA.out z h1 (by omega)
        clear hb hx
        go_wp2_with (go_at_call 74; refine HT.mono ?_; rintro e y2 ⟨rfl, q2, rfl⟩)
        go_roundw
        case rel => exact ⟨d + 1, q + q2, rfl, by have := HX.out; omega, by rw [HX.out]; go_num, HA1⟩
        case measure => simp [intOf]; omega
      | false =>
        rw [hb] at HT
        have HK : Hid (tkK t j = x) := tkI_hit _ _ x hx51 hlt (fun z h1 h2 => HA.out z h1 (by omega)) hb
        clear hb hx HA HX
        go_wp2_with (go_at_call 74; refine HT.mono ?_; rintro e y2 ⟨rfl, q2, rfl⟩)
        go_ret2
        refine ⟨?_, q + q2, by first | rfl | exact World.drewN_drewN ..⟩
        rw [lsYes HK.out hlt]
        rfl
    · have hlt' : ¬ (x : Int) < (j.p.n : Int) := by omega
      have HK : Hid (tkK t j = j.p.n) := tkI_none _ _ (by omega) (fun z h1 h2 => HA.out z h1 (by omega))
      go_wp2_with fail
      go_ret2
      refine ⟨?_, q, rfl⟩
      rw [lsNo HK.out]
      rfl
set_option maxRecDepth 20000 in
set_option maxHeartbeats 1000000 in
theorem codTurn (w : World) (S J P base m : Nat) (t : Tl) (j : Jl) (k : Nat) (h : SpAx w S J P base t j) (hf : Fit t j m) (hk : k < j.p.n) :
    Calls Tryz.prog 92 #[.pointer (some ⟨S, 0, none⟩), .int .i64 (k : Int)] w fun e w' => e = .returned (.int .i64 (t.wrE j 49 (flipL (mapL t j) k))) ∧ SpAx w' S J P base (t.write j 49 (flipL (mapL t j) k)) j ∧ KS base w w' := by
  obtain ⟨T, g, c, h⟩ := h
  have hn1 := hf.few.n
  have hl := (map_ok hf.few hf.good.off hf.lens).2
  have HH := mkHid h
  have c1 : w.cell? ⟨S, 1, none⟩ = some (.slice (some ⟨g, 0, none⟩) 512 c) := h.blk.cell 1
  have HCl := cClone (some ⟨g, 0, none⟩) 512 c (mapL t j) w (h.isB hl) (by omega)
  have HBt := fun W => codBit k W (by omega)
  have HL := mkHid hl
  clear h hl
  obtain ⟨q, hq⟩ : ∃ q, q = k / 8 := ⟨_, rfl⟩
  obtain ⟨r, hr⟩ : ∃ r, r = k % 8 := ⟨_, rfl⟩
  rw [← hr] at HBt
  have hr8 : r < 8 := by omega
  have hq5 : q < 512 := by omega
  have hq1 : (k : Int).tdiv 8 = (q : Int) := by rw [Int.tdiv_eq_ediv_of_nonneg (by omega)]; omega
  have HF : Hid (flipL (mapL t j) k = (mapL t j).set q (nth (mapL t j) q ^^^ UInt8.ofNat (2 ^ r))) := by unfold Hid flipL; rw [hq, hr]
  have HX : bits BinOp.xor IntKind.u8 ((nth (mapL t j) q).toNat : Int) ((2 ^ r : Nat) : Int) = ((nth (mapL t j) q ^^^ UInt8.ofNat (2 ^ r)).toNat : Int) := by
    rw [← bits_xor8, UInt8.toNat_ofNat', Nat.mod_eq_of_lt (pow8 r hr8)]
  have hwq : IntKind.i64.wrap (q : Int) = (q : Int) := by rw [IntKind.wrap_i64]; omega
  have hq5' : (q : Int) < 512 := by omega
  clear hq hr
  have HWr : ∀ (W : World) (g1 cap1 : Nat), Hid (TAx W T J P base t j) → Hid (OwnB W w.heap.size (.slice (some ⟨g1, 0, none⟩) 512 cap1) (flipL (mapL t j) k)) →
      Calls Tryz.prog 133 #[.pointer (some ⟨T, 0, none⟩), .int .i64 49, .slice (some ⟨g1, 0, none⟩) 512 cap1] W fun e w' => e = .returned (.int .i64 (t.wrE j 49 (flipL (mapL t j) k))) ∧ Hid (TAx w' T J P base (t.write j 49 (flipL (mapL t j) k)) j) ∧ Hid (KP base W w') := fun W g1 cap1 hT hO => by
    have HW := jrnOK.write W T J P base m t j 49 (some ⟨g1, 0, none⟩) cap1 (flipL (mapL t j) k) hT.out hf.len hf.few hf.m (by omega) (by omega) (by rw [flipL_length, HL.out]; omega) (fun W hK _ => own_isB (own_keepO hK hO.out (by decide)))
    rw [flipL_length, HL.out] at HW
    exact HW
  have HFm : Hid (t.wrE j 49 (flipL (mapL t j) k) = 0 → mapL (t.write j 49 (flipL (mapL t j) k)) j = flipL (mapL t j) k) := map_write
  have HFn : Hid (¬ t.wrE j 49 (flipL (mapL t j) k) = 0 → t.write j 49 (flipL (mapL t j) k) = t) := write_no
  generalize flipL (mapL t j) k = F at *
  generalize hT' : t.write j 49 F = t' at *
  generalize t.wrE j 49 F = E at *
  clear hT'
  go_enter Tryz.func92, Tryz.ntmps92
  go_wp2_with fail
  refine HCl.mono ?_
  rintro e w1 ⟨v, rfl, hv, hb1⟩
  have HV := mkHid hv
  have HB1 := mkHid hb1
  clear hv hb1 HCl
  obtain ⟨g1, cap1, rfl, hg1, hg2⟩ := World.ownsRow.form HV.out (by rw [HL.out]; omega)
  rw [HL.out] at HV ⊢
  have c5 := HV.out.cellAt HL.out q hq5
  have f5 := HV.out.frozenAt HL.out q
  have HY := mkHid (HV.out.set HL.out q (nth (mapL t j) q ^^^ UInt8.ofNat (2 ^ r)))
  rw [← HF.out] at HY
  have HBY : Hid (Below w.heap.size w (w1.setCell ⟨g1, q, none⟩ (.int .u8 ((nth (mapL t j) q ^^^ UInt8.ofNat (2 ^ r)).toNat : Int)))) := HB1.out.trans ((Below.refl _ w1).setCell (p := ⟨g1, q, none⟩) hg1 _)
  clear HF HV HB1
  generalize nth (mapL t j) q ^^^ UInt8.ofNat (2 ^ r) = z at *
  generalize ((2 ^ r : Nat) : Int) = br at *
  go_wp2_with fail
  refine wp_region_noPanic ?_
  refine wp_region_held_drew (S := fun _ => True) (by kernel_rfl) trivial (fun hHeld => ?_)
  refine takeH (some 12) (i := 0) (v := ?_) rfl (by kernel_rfl) (by kernel_rfl) (by kernel_rfl) (fun _ _ _ h => h) (Or.inl ⟨by rfl, ?_⟩) hHeld rfl ?_
  rotate_left
  · intro w hSw; go_simp; with_reducible rfl
  (try simp only [Act.put, List.setIfInBounds_toArray, List.set_cons_zero, List.set_cons_succ])
  refine takeH (some 13) (i := 1) (v := ?_) rfl (by kernel_rfl) (by kernel_rfl) (by kernel_rfl) (fun _ _ _ h => h) (Or.inl ⟨by rfl, ?_⟩) hHeld rfl ?_
  rotate_left
  · intro w hSw; go_simp; with_reducible rfl
  (try simp only [Act.put, List.setIfInBounds_toArray, List.set_cons_zero, List.set_cons_succ])
  refine takeH (some 14) (i := 2) (v := .int .i64 (q : Int)) rfl (by kernel_rfl) (by kernel_rfl) (by kernel_rfl) (fun _ _ _ h => h) (Or.inl ⟨by rfl, ?_⟩) hHeld rfl ?_
  · intro w hSw; go_simp
  (try simp only [Act.put, List.setIfInBounds_toArray, List.set_cons_zero, List.set_cons_succ])
  refine takeH (some 15) (i := 3) (v := ?_) rfl (by kernel_rfl) (by kernel_rfl) (by kernel_rfl) (fun _ _ _ h => h) (Or.inl ⟨by rfl, ?_⟩) hHeld rfl ?_
  rotate_left
  · intro w hSw; go_simp; with_reducible rfl
  (try simp only [Act.put, List.setIfInBounds_toArray, List.set_cons_zero, List.set_cons_succ])
  refine takeH (some 17) (i := 5) (v := ?_) rfl (by kernel_rfl) (by kernel_rfl) (by kernel_rfl) (fun _ _ _ h => h) (Or.inl ⟨by rfl, ?_⟩) hHeld rfl ?_
  rotate_left
  · intro w hSw; go_simp; with_reducible rfl
  (try simp only [Act.put, List.setIfInBounds_toArray, List.set_cons_zero, List.set_cons_succ])
  refine wpAnyH_ready (rs := [4, 6]) (by kernel_rfl) (by simp) ?_
  refine AllReadyH.cons rfl (fun K hK => ?_) (AllReadyH.cons rfl (fun K hK => ?_) AllReadyH.nil)
  · skip
    go_simp
    refine hK.out _ _ trivial (fun hHeld => ?_)
    (try simp only [Act.put, List.setIfInBounds_toArray, List.set_cons_zero, List.set_cons_succ])
    clear hK K
    refine wpAnyH_ready (rs := [6]) (by kernel_rfl) (by simp) (AllReadyH.cons rfl (fun K hK => ?_) AllReadyH.nil)
    go_simp
    go_wp2_with (go_at_call 120; refine (HBt _).mono ?_; rintro e x ⟨rfl, hx⟩; obtain rfl := hx.symm)
    refine hK.out _ _ trivial (fun hHeld => ?_)
    (try simp only [Act.put, List.setIfInBounds_toArray, List.set_cons_zero, List.set_cons_succ])
    clear hK K
    refine takeH (some 19) (i := 7) (v := ?_) rfl (by kernel_rfl) (by kernel_rfl) (by kernel_rfl) (fun _ _ _ h => h) (Or.inl ⟨by rfl, ?_⟩) hHeld rfl ?_
    rotate_left
    · intro w hSw; go_simp; with_reducible rfl
    (try simp only [Act.put, List.setIfInBounds_toArray, List.set_cons_zero, List.set_cons_succ])
    refine takeH (some 20) (i := 8) (v := ?_) rfl (by kernel_rfl) (by kernel_rfl) (by kernel_rfl) (fun _ _ _ h => h) (Or.inl ⟨by rfl, ?_⟩) hHeld rfl ?_
    rotate_left
    · intro w hSw; go_simp; with_reducible rfl
    (try simp only [Act.put, List.setIfInBounds_toArray, List.set_cons_zero, List.set_cons_succ])
    refine wpAnyH_ready (rs := [9]) (by kernel_rfl) (by simp) (AllReadyH.cons rfl (fun K hK => ?_) AllReadyH.nil)
    go_simp
    refine hK.out _ _ trivial (fun hHeld => ?_)
    (try simp only [Act.put, List.setIfInBounds_toArray, List.set_cons_zero, List.set_cons_succ])
    clear hK K
    refine wpAnyH_done (by kernel_rfl) ?_ _
    refine NoPanic.normal ?_
    have HO : Hid (OwnB (w1.setCell ⟨g1, q, none⟩ (.int .u8 (z.toNat : Int))).drew w.heap.size (.slice (some ⟨g1, 0, none⟩) 512 cap1) (F)) := HY.out.heap rfl
    have HB : Hid (Below w.heap.size w (w1.setCell ⟨g1, q, none⟩ (.int .u8 (z.toNat : Int))).drew) := HBY.out.drew
    clear HY HBY HX c5 f5
    generalize (w1.setCell ⟨g1, q, none⟩ (.int .u8 (z.toNat : Int))).drew = Y at *
    have HS := mkHid (HH.out.on HB.out)
    have c0 : Y.cell? ⟨S, 0, none⟩ = some (.pointer (some ⟨T, 0, none⟩)) := HS.out.blk.cell 0
    have HW := HWr Y g1 cap1 (mkHid HS.out.ta) HO
    have HLo := mkHid HS.out.ta.lo
    have HLw := mkHid HH.out.ta.lo
    go_wp2_with fail
    refine HW.mono ?_
    rintro e y2 ⟨rfl, HT2, HK2⟩
    have HB2 := mkHid (HK2.out.o.blk HS.out.blk (by decide))
    have d1 : y2.cell? ⟨S, 1, none⟩ = some (.slice (some ⟨g, 0, none⟩) 512 c) := HB2.out.cell 1
    have f1 : y2.frozen? ⟨S, 1, none⟩ = false := HB2.out.frozen 1
    clear HW c0
    by_cases hz : E = 0
    · subst hz
      go_wp2_with fail
      go_ret
      have hKT : KeepT [99] y2 (y2.setCell ⟨S, 1, none⟩ (.slice (some ⟨g1, 0, none⟩) 512 cap1)) := (KeepT.refl _ _).set HB2.out (by decide) 1 _
      refine ⟨rfl, ⟨T, g1, cap1, HT2.out.keepS hKT, HB2.out.set 1 _, HS.out.low, ?_⟩, ?_⟩
      · rw [HFm.out (by first | rfl | trivial)]
        exact own_keepO (KeepO.ofT (us := [5]) hKT (by decide)) (own_base (own_keepO HK2.out.o HO.out (by decide)) HLw.out) (by decide)
      · exact (KS.of_below HB.out HLw.out).trans ((KS.ofP HK2.out).trans ⟨KeepO.ofT hKT (by decide), (Below.refl _ _).setCell (p := ⟨S, 1, none⟩) HS.out.low _⟩)
    · go_wp2_with fail
      go_ret
      have e1 := HFn.out hz
      subst e1
      exact ⟨rfl, ⟨T, g, c, HS.out.wrote HT2.out HK2.out rfl⟩, (KS.of_below HB.out HLw.out).trans (KS.ofP HK2.out)⟩
  · skip
    go_simp
    go_wp2_with (go_at_call 120; refine (HBt _).mono ?_; rintro e x ⟨rfl, hx⟩; obtain rfl := hx.symm)
    refine hK.out _ _ trivial (fun hHeld => ?_)
    (try simp only [Act.put, List.setIfInBounds_toArray, List.set_cons_zero, List.set_cons_succ])
    clear hK K
    refine wpAnyH_ready (rs := [4]) (by kernel_rfl) (by simp) (AllReadyH.cons rfl (fun K hK => ?_) AllReadyH.nil)
    go_simp
    refine hK.out _ _ trivial (fun hHeld => ?_)
    (try simp only [Act.put, List.setIfInBounds_toArray, List.set_cons_zero, List.set_cons_succ])
    clear hK K
    refine takeH (some 19) (i := 7) (v := ?_) rfl (by kernel_rfl) (by kernel_rfl) (by kernel_rfl) (fun _ _ _ h => h) (Or.inl ⟨by rfl, ?_⟩) hHeld rfl ?_
    rotate_left
    · intro w hSw; go_simp; with_reducible rfl
    (try simp only [Act.put, List.setIfInBounds_toArray, List.set_cons_zero, List.set_cons_succ])
    refine takeH (some 20) (i := 8) (v := ?_) rfl (by kernel_rfl) (by kernel_rfl) (by kernel_rfl) (fun _ _ _ h => h) (Or.inl ⟨by rfl, ?_⟩) hHeld rfl ?_
    rotate_left
    · intro w hSw; go_simp; with_reducible rfl
    (try simp only [Act.put, List.setIfInBounds_toArray, List.set_cons_zero, List.set_cons_succ])
    refine wpAnyH_ready (rs := [9]) (by kernel_rfl) (by simp) (AllReadyH.cons rfl (fun K hK => ?_) AllReadyH.nil)
    go_simp
    refine hK.out _ _ trivial (fun hHeld => ?_)
    (try simp only [Act.put, List.setIfInBounds_toArray, List.set_cons_zero, List.set_cons_succ])
    clear hK K
    refine wpAnyH_done (by kernel_rfl) ?_ _
    refine NoPanic.normal ?_
    have HO : Hid (OwnB (w1.setCell ⟨g1, q, none⟩ (.int .u8 (z.toNat : Int))).drew w.heap.size (.slice (some ⟨g1, 0, none⟩) 512 cap1) (F)) := HY.out.heap rfl
    have HB : Hid (Below w.heap.size w (w1.setCell ⟨g1, q, none⟩ (.int .u8 (z.toNat : Int))).drew) := HBY.out.drew
    clear HY HBY HX c5 f5
    generalize (w1.setCell ⟨g1, q, none⟩ (.int .u8 (z.toNat : Int))).drew = Y at *
    have HS := mkHid (HH.out.on HB.out)
    have c0 : Y.cell? ⟨S, 0, none⟩ = some (.pointer (some ⟨T, 0, none⟩)) := HS.out.blk.cell 0
    have HW := HWr Y g1 cap1 (mkHid HS.out.ta) HO
    have HLo := mkHid HS.out.ta.lo
    have HLw := mkHid HH.out.ta.lo
    go_wp2_with fail
    refine HW.mono ?_
    rintro e y2 ⟨rfl, HT2, HK2⟩
    have HB2 := mkHid (HK2.out.o.blk HS.out.blk (by decide))
    have d1 : y2.cell? ⟨S, 1, none⟩ = some (.slice (some ⟨g, 0, none⟩) 512 c) := HB2.out.cell 1
    have f1 : y2.frozen? ⟨S, 1, none⟩ = false := HB2.out.frozen 1
    clear HW c0
    by_cases hz : E = 0
    · subst hz
      go_wp2_with fail
      go_ret
      have hKT : KeepT [99] y2 (y2.setCell ⟨S, 1, none⟩ (.slice (some ⟨g1, 0, none⟩) 512 cap1)) := (KeepT.refl _ _).set HB2.out (by decide) 1 _
      refine ⟨rfl, ⟨T, g1, cap1, HT2.out.keepS hKT, HB2.out.set 1 _, HS.out.low, ?_⟩, ?_⟩
      · rw [HFm.out (by first | rfl | trivial)]
        exact own_keepO (KeepO.ofT (us := [5]) hKT (by decide)) (own_base (own_keepO HK2.out.o HO.out (by decide)) HLw.out) (by decide)
      · exact (KS.of_below HB.out HLw.out).trans ((KS.ofP HK2.out).trans ⟨KeepO.ofT hKT (by decide), (Below.refl _ _).setCell (p := ⟨S, 1, none⟩) HS.out.low _⟩)
    · go_wp2_with fail
      go_ret
      have e1 := HFn.out hz
      subst e1
      exact ⟨rfl, ⟨T, g, c, HS.out.wrote HT2.out HK2.out rfl⟩, (KS.of_below HB.out HLw.out).trans (KS.ofP HK2.out)⟩
end Go.Proofs.YthjdmfbengpepaaGreat
