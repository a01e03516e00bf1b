/- The program's Read. -/
import Derived.Test.YtooffagdbppmaaaC0
import Derived.Test.YtooffagdbppmaaaAu6
namespace Go.Proofs.Ytooffagdbppmaaa
open Go.RowKit

theorem gr_keepT14 {w w' : World} {B t : Nat} {cs : List Value} (hb : Blk w B t cs) (hg : w.grownBy w' (some B)) : KeepT [t] w w' :=
  ⟨hg.size, fun k o hk hno => (hg.block k (Array.getElem?_eq_some_iff.1 hk).1 (fun e => by
    have hkb : k = B := Option.some.inj e
    subst hkb
    have : o = .cells cs.toArray t (0, 0) := Option.some.inj (hk.symm.trans hb)
    exact hno _ _ _ this (List.mem_singleton.2 rfl))).trans hk⟩
def rdR14 (b : List UInt8) : Rc := (readRc b).getD rc0
def rdE14 (b : List UInt8) : Int := if (readRc b).isSome then 0 else 4
/-- what Read answers -/
def RdP14 (b : List UInt8) (e : Ending) (w' : World) : Prop := ∃ q, e = .returned (.tuple #[.agg (rcc (rdR14 b) q).toArray, .int .i64 (rdE14 b)]) ∧ IsRec w' (rdR14 b) q
theorem rd_no14 {b : List UInt8} {w' : World} (h : readRc b = none) : RdP14 b (.returned (.tuple #[.agg #[.int .u64 0, .int .u64 0, .string { data := #[] }, .int .i64 0, .string { data := #[] }, .string { data := #[] }, .int .u64 0, .int .i64 0, .slice none 0 0, .slice none 0 0], .int .i64 4])) w' := by
  unfold RdP14 rdR14 rdE14
  rw [h]
  exact ⟨⟨none, 0, none, 0⟩, rfl, isB_none w', isB_none w', ⟨by decide, by decide, by decide, by decide, by decide, by decide, by decide⟩⟩
theorem rd_yes14 {b : List UInt8} {w' : World} {r : Rc} {q : RcA} (h : readRc b = some r) (hr : IsRec w' r q) : RdP14 b (.returned (.tuple #[.agg (rcc r q).toArray, .int .i64 0])) w' := by
  unfold RdP14 rdR14 rdE14
  rw [h]
  exact ⟨q, rfl, hr⟩
theorem codTold14 (n : Nat) (w : World) :
    Calls Try.prog 40 #[.int .u64 (n : Int)] w fun e w' => e = .returned (.int .i64 (toldN n)) ∧ w' = w := by
  unfold toldN
  obtain ⟨m, hm⟩ : ∃ m : Nat, m = min n 2147483647 := ⟨_, rfl⟩
  have hm1 : min (n : Int) 2147483647 = (m : Int) := by omega
  have hw : IntKind.i64.wrap (m : Int) = (m : Int) := by rw [IntKind.wrap_i64]; omega
  rw [← hm]
  clear hm
  go_enter Try.func40, Try.ntmps40
  go_wp2_with fail
  go_ret
  exact ⟨rfl, rfl⟩
/-- how Read stands on its way -/
structure ReAt (w W : World) (B : Nat) (l : List UInt8) (br : Bool) : Prop where
  x : IsR W B l br
  res : Blk W w.heap.size 26 [.int .u64 0, .int .u64 0, .string { data := #[] }, .int .i64 0, .string { data := #[] }, .string { data := #[] }, .int .u64 0, .int .i64 0, .slice none 0 0, .slice none 0 0]
  lo : w.heap.size < B
  bel : Below w.heap.size w W
theorem ReAt.call {w W W' : World} {B : Nat} {l l' : List UInt8} {br br' : Bool} (h : ReAt w W B l br) (hx : IsR W' B l' br') (hg : W.grownBy W' (some B)) : ReAt w W' B l' br' ∧ KeepT [87] W W' := by
  obtain ⟨a, cap, hb, _⟩ := h.x
  have hk : KeepT [87] W W' := gr_keepT14 hb hg
  have := h.lo
  exact ⟨⟨hx, hk.blk h.res (by decide), h.lo, h.bel.grown hg h.bel.size (fun k e => by have := Option.some.inj e; omega)⟩, hk⟩
theorem rd_rcN14 (b : List UInt8) : RcN (recR b) := by
  have h1 : ∀ l br, (rdUint l br).1 < 18446744073709551616 := fun l br => by
    unfold rdUint; split
    · exact numTo_lt64 l 8 (by omega)
    · show 0 < _; decide
  refine ⟨h1 _ _, h1 _ _, h1 _ _, ?_, ?_, ?_, ?_⟩
  · show _ ≤ toldN _; unfold toldN; omega
  · show toldN _ ≤ _; unfold toldN; omega
  · show _ ≤ toldN _; unfold toldN; omega
  · show toldN _ ≤ _; unfold toldN; omega
attribute [local go_sem] undef
set_option maxRecDepth 20000 in
set_option maxHeartbeats 4000000 in
theorem codRead14 (a : Option Addr) (len cap : Nat) (b : List UInt8) (w : World) (h : IsB w a len cap b) (hl : len ≤ 100000) :
    Calls Try.prog 18 #[.slice a len cap] w fun e w' => RdP14 b e w' ∧ Below w.heap.size w w' := by
  have HQ : Hid (readRc b = if doneN (ra10 b).2.1 (ra10 b).2.2 = 0 ∧ rightRc (recR b) = true then some (recR b) else none) := rfl
  have HRN := mkHid (rd_rcN14 b)
  have HRt := fun q W => codRight14 (recR b) q W
  have HRc : Hid (∀ q, rcc (recR b) q = [.int .u64 ((ra1 b).1 : Int), .int .u64 ((ra2 b).1 : Int), .string ⟨(ra3 b).1.toArray⟩, .int .i64 (toldN (ra4 b).1), .string ⟨(ra5 b).1.toArray⟩, .string ⟨(ra6 b).1.toArray⟩, .int .u64 ((ra7 b).1 : Int), .int .i64 (toldN (ra8 b).1), .slice q.a (ra9 b).1.length q.c, .slice q.b (ra10 b).1.length q.d]) := fun q => rfl
  have HSp : Hid ((recR b).sum = (ra9 b).1 ∧ (recR b).prev = (ra10 b).1) := ⟨rfl, rfl⟩
  have HNo := mkHid (fun W (h : readRc b = none) => rd_no14 (w' := W) h)
  have HYe := mkHid (fun W q (h : readRc b = some (recR b)) (hr : IsRec W (recR b) q) => rd_yes14 h hr)
  generalize hRR : recR b = RR at *
  have k0 := Blk.new w 26 [.int .u64 0, .int .u64 0, .string { data := #[] }, .int .i64 0, .string { data := #[] }, .string { data := #[] }, .int .u64 0, .int .i64 0, .slice none 0 0, .slice none 0 0]
  have b0 : Below w.heap.size w (w.alloc (.cells #[.int .u64 0, .int .u64 0, .string { data := #[] }, .int .i64 0, .string { data := #[] }, .string { data := #[] }, .int .u64 0, .int .i64 0, .slice none 0 0, .slice none 0 0] 26)) := (Below.refl _ w).alloc (Nat.le_refl _) _
  have HI := mkHid (h.below b0 rfl)
  have HK0 := mkHid k0
  have HB0 := mkHid b0
  have HSz : Hid ((w.alloc (.cells #[.int .u64 0, .int .u64 0, .string { data := #[] }, .int .i64 0, .string { data := #[] }, .string { data := #[] }, .int .u64 0, .int .i64 0, .slice none 0 0, .slice none 0 0] 26)).heap.size = w.heap.size + 1) := Array.size_push _
  clear h k0 b0 hRR
  go_enter Try.func18, Try.ntmps18
  go_wp2_with fail
  generalize w.alloc (.cells #[.int .u64 0, .int .u64 0, .string { data := #[] }, .int .i64 0, .string { data := #[] }, .string { data := #[] }, .int .u64 0, .int .i64 0, .slice none 0 0, .slice none 0 0] 26) = Y at *
  refine (cRead a len cap b Y HI.out (by omega)).mono ?_
  rintro e y0 ⟨B, rfl, hB, hR0, hb0⟩
  have H0 : Hid (ReAt w y0 B b false) := ⟨hR0, HK0.out.on hb0, by have := HSz.out; omega, HB0.out.trans (hb0.mono HB0.out.size)⟩
  clear hR0 hb0 hB HI HK0 HB0 HSz
  have hC1 := cUint B b false y0 H0.out.x
  rw [show rdUint b false = ra1 b from rfl] at hC1
  go_wp2_with fail
  refine hC1.mono ?_
  rintro e y1 ⟨rfl, hx1, hg1⟩
  obtain ⟨h1, hk1⟩ := H0.out.call hx1 hg1
  have H1 := mkHid h1
  clear h1 hk1 hx1 hg1 hC1 H0
  have hC2 := cUint B (ra1 b).2.1 (ra1 b).2.2 y1 H1.out.x
  rw [show rdUint (ra1 b).2.1 (ra1 b).2.2 = ra2 b from rfl] at hC2
  go_wp2_with fail
  refine hC2.mono ?_
  rintro e y2 ⟨rfl, hx2, hg2⟩
  obtain ⟨h2, hk2⟩ := H1.out.call hx2 hg2
  have H2 := mkHid h2
  clear h2 hk2 hx2 hg2 hC2 H1
  have hC3 := cText B (ra2 b).2.1 (ra2 b).2.2 y2 H2.out.x
  rw [show rdSome 115 (ra2 b).2.1 (ra2 b).2.2 = ra3 b from rfl] at hC3
  go_wp2_with fail
  refine hC3.mono ?_
  rintro e y3 ⟨rfl, hx3, hg3⟩
  obtain ⟨h3, hk3⟩ := H2.out.call hx3 hg3
  have H3 := mkHid h3
  clear h3 hk3 hx3 hg3 hC3 H2
  have hC4 := cUint B (ra3 b).2.1 (ra3 b).2.2 y3 H3.out.x
  rw [show rdUint (ra3 b).2.1 (ra3 b).2.2 = ra4 b from rfl] at hC4
  go_wp2_with fail
  refine hC4.mono ?_
  rintro e y4 ⟨rfl, hx4, hg4⟩
  obtain ⟨h4, hk4⟩ := H3.out.call hx4 hg4
  have H4 := mkHid h4
  clear h4 hk4 hx4 hg4 hC4 H3
  go_wp2_with fail
  refine (codTold14 (ra4 b).1 y4).mono ?_
  rintro e z4 ⟨rfl, hz4⟩
  have hz4 := hz4.symm
  subst hz4
  have hC5 := cText B (ra4 b).2.1 (ra4 b).2.2 y4 H4.out.x
  rw [show rdSome 115 (ra4 b).2.1 (ra4 b).2.2 = ra5 b from rfl] at hC5
  go_wp2_with fail
  refine hC5.mono ?_
  rintro e y5 ⟨rfl, hx5, hg5⟩
  obtain ⟨h5, hk5⟩ := H4.out.call hx5 hg5
  have H5 := mkHid h5
  clear h5 hk5 hx5 hg5 hC5 H4
  have hC6 := cText B (ra5 b).2.1 (ra5 b).2.2 y5 H5.out.x
  rw [show rdSome 115 (ra5 b).2.1 (ra5 b).2.2 = ra6 b from rfl] at hC6
  go_wp2_with fail
  refine hC6.mono ?_
  rintro e y6 ⟨rfl, hx6, hg6⟩
  obtain ⟨h6, hk6⟩ := H5.out.call hx6 hg6
  have H6 := mkHid h6
  clear h6 hk6 hx6 hg6 hC6 H5
  have hC7 := cUint B (ra6 b).2.1 (ra6 b).2.2 y6 H6.out.x
  rw [show rdUint (ra6 b).2.1 (ra6 b).2.2 = ra7 b from rfl] at hC7
  go_wp2_with fail
  refine hC7.mono ?_
  rintro e y7 ⟨rfl, hx7, hg7⟩
  obtain ⟨h7, hk7⟩ := H6.out.call hx7 hg7
  have H7 := mkHid h7
  clear h7 hk7 hx7 hg7 hC7 H6
  have hC8 := cUint B (ra7 b).2.1 (ra7 b).2.2 y7 H7.out.x
  rw [show rdUint (ra7 b).2.1 (ra7 b).2.2 = ra8 b from rfl] at hC8
  go_wp2_with fail
  refine hC8.mono ?_
  rintro e y8 ⟨rfl, hx8, hg8⟩
  obtain ⟨h8, hk8⟩ := H7.out.call hx8 hg8
  have H8 := mkHid h8
  clear h8 hk8 hx8 hg8 hC8 H7
  go_wp2_with fail
  refine (codTold14 (ra8 b).1 y8).mono ?_
  rintro e z8 ⟨rfl, hz8⟩
  have hz8 := hz8.symm
  subst hz8
  have hC9 := cBytes B (ra8 b).2.1 (ra8 b).2.2 y8 H8.out.x
  rw [show rdSome 98 (ra8 b).2.1 (ra8 b).2.2 = ra9 b from rfl] at hC9
  go_wp2_with fail
  refine hC9.mono ?_
  rintro e y9 ⟨v9, rfl, ho9, hx9, hg9⟩
  obtain ⟨h9, hk9⟩ := H8.out.call hx9 hg9
  have H9 := mkHid h9
  have HO9 := mkHid (ho9.base H8.out.bel.size)
  clear ho9
  clear h9 hk9 hx9 hg9 hC9 H8
  have hC10 := cBytes B (ra9 b).2.1 (ra9 b).2.2 y9 H9.out.x
  rw [show rdSome 98 (ra9 b).2.1 (ra9 b).2.2 = ra10 b from rfl] at hC10
  go_wp2_with fail
  refine hC10.mono ?_
  rintro e y10 ⟨v10, rfl, ho10, hx10, hg10⟩
  obtain ⟨h10, hk10⟩ := H9.out.call hx10 hg10
  have H10 := mkHid h10
  have HO10 := mkHid (ho10.base H9.out.bel.size)
  have HP9 : Hid (OwnB y10 w.heap.size v9 (ra9 b).1) := own_keep hk10 HO9.out (by decide)
  clear ho10
  clear h10 hk10 hx10 hg10 hC10 H9
  obtain ⟨sa, sc, hse, _⟩ := HP9.out.isB
  obtain ⟨pa, pc, hpe, _⟩ := HO10.out.isB
  subst hse hpe
  have HRc2 := mkHid (HRc.out ⟨sa, sc, pa, pc⟩)
  have HRt2 := fun W => HRt ⟨sa, sc, pa, pc⟩ W
  rw [HRc2.out] at HRt2
  have HIs : Hid (∀ W, KeepT [26] y10 W → IsRec W RR ⟨sa, sc, pa, pc⟩) := fun W hW => by
    refine ⟨?_, ?_, HRN.out⟩
    · rw [HSp.out.1]; exact IsV.toB (own_keepR14 HP9.out hW).isV
    · rw [HSp.out.2]; exact IsV.toB (own_keepR14 HO10.out hW).isV
  have HYe2 := mkHid (fun W => HYe.out W ⟨sa, sc, pa, pc⟩)
  rw [HRc2.out] at HYe2
  clear HRc HRc2 HRt HYe HSp HO9 HP9 HO10 HRN
  generalize (ra9 b).1.length = sl at *
  generalize (ra10 b).1.length = pl at *
  generalize (ra1 b).1 = s1 at *
  generalize (ra2 b).1 = s2 at *
  generalize (⟨(ra3 b).1.toArray⟩ : ByteArray) = s3 at *
  generalize toldN (ra4 b).1 = s4 at *
  generalize (⟨(ra5 b).1.toArray⟩ : ByteArray) = s5 at *
  generalize (⟨(ra6 b).1.toArray⟩ : ByteArray) = s6 at *
  generalize (ra7 b).1 = s7 at *
  generalize toldN (ra8 b).1 = s8 at *
  have hDn := fun W (hW : Below y10.heap.size y10 W) => cDone B (ra10 b).2.1 (ra10 b).2.2 W (H10.out.x.on hW)
  generalize doneN (ra10 b).2.1 (ra10 b).2.2 = DN at *
  have hbA : Below y10.heap.size y10 (y10.alloc (.cells #[.int .u64 (s1 : Int), .int .u64 (s2 : Int), .string s3, .int .i64 s4, .string s5, .string s6, .int .u64 (s7 : Int), .int .i64 s8, .slice sa sl sc, .slice pa pl pc] 26)) := (Below.refl _ y10).alloc (Nat.le_refl _) _
  have HKA := mkHid (Blk.new y10 26 [.int .u64 (s1 : Int), .int .u64 (s2 : Int), .string s3, .int .i64 s4, .string s5, .string s6, .int .u64 (s7 : Int), .int .i64 s8, .slice sa sl sc, .slice pa pl pc])
  have HRA := mkHid (H10.out.res.on hbA)
  have HBA := mkHid (H10.out.bel.trans (hbA.mono H10.out.bel.size))
  have HTA : Hid (KeepT [26] y10 (y10.alloc (.cells #[.int .u64 (s1 : Int), .int .u64 (s2 : Int), .string s3, .int .i64 s4, .string s5, .string s6, .int .u64 (s7 : Int), .int .i64 s8, .slice sa sl sc, .slice pa pl pc] 26))) := KeepT.of_below hbA
  have HDA := hDn _ hbA
  have hlo := H10.out.lo
  have hlt : w.heap.size < y10.heap.size := by have := H10.out.x.lt; omega
  clear hDn hbA H10
  go_wp2_with fail
  generalize y10.alloc (.cells #[.int .u64 (s1 : Int), .int .u64 (s2 : Int), .string s3, .int .i64 s4, .string s5, .string s6, .int .u64 (s7 : Int), .int .i64 s8, .slice sa sl sc, .slice pa pl pc] 26) = Z at *
  generalize y10.heap.size = R at *
  refine HDA.mono ?_
  rintro e z1 ⟨rfl, hz1⟩
  subst hz1
  clear HDA
  by_cases hdn : DN = 0
  · subst hdn
    cases hrt : rightRc RR with
    | true =>
      have HOk := mkHid (HQ.out.trans (if_pos ⟨rfl, hrt⟩))
      rw [hrt] at HRt2
      clear hrt HQ HNo
      have c0 : z1.cell? ⟨R, 0, none⟩ = some (.int .u64 (s1 : Int)) := HKA.out.cell 0
      have c1 : z1.cell? ⟨R, 1, none⟩ = some (.int .u64 (s2 : Int)) := HKA.out.cell 1
      have c2 : z1.cell? ⟨R, 2, none⟩ = some (.string s3) := HKA.out.cell 2
      have c3 : z1.cell? ⟨R, 3, none⟩ = some (.int .i64 s4) := HKA.out.cell 3
      have c4 : z1.cell? ⟨R, 4, none⟩ = some (.string s5) := HKA.out.cell 4
      have c5 : z1.cell? ⟨R, 5, none⟩ = some (.string s6) := HKA.out.cell 5
      have c6 : z1.cell? ⟨R, 6, none⟩ = some (.int .u64 (s7 : Int)) := HKA.out.cell 6
      have c7 : z1.cell? ⟨R, 7, none⟩ = some (.int .i64 s8) := HKA.out.cell 7
      have c8 : z1.cell? ⟨R, 8, none⟩ = some (.slice sa sl sc) := HKA.out.cell 8
      have c9 : z1.cell? ⟨R, 9, none⟩ = some (.slice pa pl pc) := HKA.out.cell 9
      go_wp2_with fail
      refine (HRt2 z1).mono ?_
      rintro e z2 ⟨rfl, hb2⟩
      have HK2 := mkHid (HKA.out.on hb2)
      have HR2 := mkHid (HRA.out.on hb2)
      have HB2 := mkHid (HBA.out.trans (hb2.mono HBA.out.size))
      have HT2 := mkHid (HTA.out.trans (KeepT.of_below hb2))
      clear hb2 HKA HRA HBA HTA HRt2 c0 c1 c2 c3 c4 c5 c6 c7 c8 c9
      go_wp2_with (first | (refine wpList_load_row rfl 26 _ rfl _ rfl _ _ _ _ HK2.out Try.underlying26 rfl (by kernel_rfl) ?_) | (refine wpList_store_row rfl 26 _ _ rfl w.heap.size #[.int .u64 (s1 : Int), .int .u64 (s2 : Int), .string s3, .int .i64 s4, .string s5, .string s6, .int .u64 (s7 : Int), .int .i64 s8, .slice sa sl sc, .slice pa pl pc] rfl rfl _ _ HR2.out (by kernel_rfl) rfl (one14 _ _ _ _ _ _ _ _ _ _ _ _ _ _) ?_))
      have hbr := bel_row HB2.out (Nat.le_refl _) #[.int .u64 (s1 : Int), .int .u64 (s2 : Int), .string s3, .int .i64 s4, .string s5, .string s6, .int .u64 (s7 : Int), .int .i64 s8, .slice sa sl sc, .slice pa pl pc]
      refine bodyPost_ret (results_cellrow_tmp (P := Try.prog) rfl _ _ w.heap.size 26 #[.int .u64 (s1 : Int), .int .u64 (s2 : Int), .string s3, .int .i64 s4, .string s5, .string s6, .int .u64 (s7 : Int), .int .i64 s8, .slice sa sl sc, .slice pa pl pc] (0, 0) _ rfl (HR2.out.row [_, _, _, _, _, _, _, _, _, _]) Try.underlying26 rfl (by kernel_rfl)) rfl ⟨?_, hbr⟩
      exact HYe2.out _ HOk.out (HIs.out _ (HT2.out.row14 HR2.out (by decide) _))
    | false =>
      have HNn := mkHid (HQ.out.trans (if_neg (fun h => by rw [hrt] at h; cases h.2)))
      rw [hrt] at HRt2
      clear hrt HQ HYe2
      have c0 : z1.cell? ⟨R, 0, none⟩ = some (.int .u64 (s1 : Int)) := HKA.out.cell 0
      have c1 : z1.cell? ⟨R, 1, none⟩ = some (.int .u64 (s2 : Int)) := HKA.out.cell 1
      have c2 : z1.cell? ⟨R, 2, none⟩ = some (.string s3) := HKA.out.cell 2
      have c3 : z1.cell? ⟨R, 3, none⟩ = some (.int .i64 s4) := HKA.out.cell 3
      have c4 : z1.cell? ⟨R, 4, none⟩ = some (.string s5) := HKA.out.cell 4
      have c5 : z1.cell? ⟨R, 5, none⟩ = some (.string s6) := HKA.out.cell 5
      have c6 : z1.cell? ⟨R, 6, none⟩ = some (.int .u64 (s7 : Int)) := HKA.out.cell 6
      have c7 : z1.cell? ⟨R, 7, none⟩ = some (.int .i64 s8) := HKA.out.cell 7
      have c8 : z1.cell? ⟨R, 8, none⟩ = some (.slice sa sl sc) := HKA.out.cell 8
      have c9 : z1.cell? ⟨R, 9, none⟩ = some (.slice pa pl pc) := HKA.out.cell 9
      go_wp2_with fail
      refine (HRt2 z1).mono ?_
      rintro e z2 ⟨rfl, hb2⟩
      have HR2 := mkHid (HRA.out.on hb2)
      have HB2 := mkHid (HBA.out.trans (hb2.mono HBA.out.size))
      clear hb2 HKA HRA HBA HTA HRt2 c0 c1 c2 c3 c4 c5 c6 c7 c8 c9
      go_wp2_with (first | (refine wpList_store_row rfl 26 _ _ rfl w.heap.size #[.int .u64 0, .int .u64 0, .string { data := #[] }, .int .i64 0, .string { data := #[] }, .string { data := #[] }, .int .u64 0, .int .i64 0, .slice none 0 0, .slice none 0 0] rfl rfl _ _ HR2.out (by kernel_rfl) rfl (one14 _ _ _ _ _ _ _ _ _ _ _ _ _ _) ?_))
      have hbr := bel_row HB2.out (Nat.le_refl _) #[.int .u64 0, .int .u64 0, .string { data := #[] }, .int .i64 0, .string { data := #[] }, .string { data := #[] }, .int .u64 0, .int .i64 0, .slice none 0 0, .slice none 0 0]
      refine bodyPost_ret (results_cellrow_tmp (P := Try.prog) rfl _ _ w.heap.size 26 #[.int .u64 0, .int .u64 0, .string { data := #[] }, .int .i64 0, .string { data := #[] }, .string { data := #[] }, .int .u64 0, .int .i64 0, .slice none 0 0, .slice none 0 0] (0, 0) _ rfl (HR2.out.row [_, _, _, _, _, _, _, _, _, _]) Try.underlying26 rfl (by kernel_rfl)) rfl ⟨?_, hbr⟩
      exact HNo.out _ HNn.out
  · have HNn := mkHid (HQ.out.trans (if_neg (fun h => hdn h.1)))
    clear HQ HYe2 HKA HTA HRt2
    go_wp2_with (first | (refine wpList_store_row rfl 26 _ _ rfl w.heap.size #[.int .u64 0, .int .u64 0, .string { data := #[] }, .int .i64 0, .string { data := #[] }, .string { data := #[] }, .int .u64 0, .int .i64 0, .slice none 0 0, .slice none 0 0] rfl rfl _ _ HRA.out (by kernel_rfl) rfl (one14 _ _ _ _ _ _ _ _ _ _ _ _ _ _) ?_))
    have hbr := bel_row HBA.out (Nat.le_refl _) #[.int .u64 0, .int .u64 0, .string { data := #[] }, .int .i64 0, .string { data := #[] }, .string { data := #[] }, .int .u64 0, .int .i64 0, .slice none 0 0, .slice none 0 0]
    refine bodyPost_ret (results_cellrow_tmp (P := Try.prog) rfl _ _ w.heap.size 26 #[.int .u64 0, .int .u64 0, .string { data := #[] }, .int .i64 0, .string { data := #[] }, .string { data := #[] }, .int .u64 0, .int .i64 0, .slice none 0 0, .slice none 0 0] (0, 0) _ rfl (HRA.out.row [_, _, _, _, _, _, _, _, _, _]) Try.underlying26 rfl (by kernel_rfl)) rfl ⟨?_, hbr⟩
    exact HNo.out _ HNn.out
end Go.Proofs.Ytooffagdbppmaaa
