/- The chapter's example. -/
import Derived.Test.YtgcmojldegplaaaUp5
import Derived.Test.YtgcmojldegplaaaMarkB
import Derived.Lib.ConvBytes
namespace Go.Proofs.Ytgcmojldegplaaa
open Go.RowKit

attribute [local go_sem] undef
def u3 : UpH := ⟨⟨#[]⟩, ⟨#[]⟩, 3, 0⟩
theorem put_a : putPs [] 2 [98] = [⟨2, [98]⟩] := rfl
theorem put_b : putPs [⟨2, [98]⟩] 1 [97] = [⟨1, [97]⟩, ⟨2, [98]⟩] := rfl
theorem join_c : joinPs [⟨1, [97]⟩, ⟨2, [98]⟩] [1, 2] = some [97, 98] := rfl
set_option maxRecDepth 20000 in
set_option maxHeartbeats 4000000 in
theorem lawAlive16 (S : UpOK) (w : World) : Calls Try.prog 7 #[] w fun e w' => e = .returned (.bool true) ∧ Below w.heap.size w w' := by
  have hc0 := fun W : World => Lib.run_convert_bytes_const (P := Try.prog) W 26 5 #[.int .u8 98] 1 1 Try.underlying26 Try.underlying5
  have hc1 := fun W : World => Lib.run_convert_bytes_const (P := Try.prog) W 26 5 #[.int .u8 97] 1 1 Try.underlying26 Try.underlying5
  have hi0 := fun W : World => mkHid (isB_marked W [98] (1, 2) (by decide))
  have hi1 := fun W : World => mkHid (isB_marked W [97] (1, 2) (by decide))
  have HB0 := mkHid ((Below.refl w.heap.size w).alloc (Nat.le_refl _) (.cells #[.int .u8 98] 5 (1, 2)))
  have C1 := S.put u3 none 0 0 [] 2 (some ⟨w.heap.size, 0, none⟩) 1 1 [98] (w.alloc (.cells #[.int .u8 98] 5 (1, 2))) (isPs16_none _) rfl (hi0 w).out (by omega) (by omega)
  go_enter Try.func7, Try.ntmps7
  go_wp2_with fail
  refine C1.mono ?_
  rintro e y1 ⟨hp, hb⟩
  obtain ⟨a1, m1, p1, l1, rfl, hl1, he1⟩ := hp.yes rfl
  have HL1 := mkHid hl1
  have HE1 := mkHid he1
  have HB1 := mkHid (HB0.out.trans (hb.mono HB0.out.size))
  clear hp hb hl1 he1 C1 hc0 hi0 HB0
  simp only [u3, upc]
  go_upto_region 2 with fail
  have HO1 := mkHid (OneB.new y1 25 (upc u3 (.slice a1 m1 p1)))
  simp only [u3, upc] at HO1
  generalize World.alloc y1 _ = z1 at *
  have HB2 := mkHid (HB1.out.trans (HO1.out.bel.mono HB1.out.size))
  have x0 := HO1.out.k.cell 0
  have x1 := HO1.out.k.cell 1
  have x2 := HO1.out.k.cell 2
  have x3 := HO1.out.k.cell 3
  have x4 := HO1.out.k.cell 4
  simp only [List.getElem?_cons_zero, List.getElem?_cons_succ] at x0 x1 x2 x3 x4
  have hcz := hc1 z1
  have hiz := hi1 z1
  have hbz := mkHid ((Below.refl z1.heap.size z1).alloc (Nat.le_refl _) (.cells #[.int .u8 97] 5 (1, 2)))
  have C2 := S.put u3 a1 m1 p1 l1 1 (some ⟨z1.heap.size, 0, none⟩) 1 1 [97] (z1.alloc (.cells #[.int .u8 97] 5 (1, 2))) ((HL1.out.below HO1.out.bel).below hbz.out) (by rw [HE1.out]; rfl) hiz.out (by omega) (by omega)
  simp only [u3, upc] at C2
  clear hc1 hi1 HL1 hiz
  go_wp2_with fail
  refine C2.mono ?_
  rintro e y2 ⟨hp, hb⟩
  obtain ⟨a2, m2, p2, l2, rfl, hl2, he2⟩ := hp.yes rfl
  have HL2 := mkHid hl2
  have HE2 : Hid (l2.map Prod.fst = [⟨1, [97]⟩, ⟨2, [98]⟩]) := by unfold Hid; rw [he2, HE1.out]; exact put_b
  have HB3 := mkHid (HB2.out.trans ((hbz.out.trans (hb.mono hbz.out.size)).mono HB2.out.size))
  clear hp hb hl2 he2 C2 hcz hbz HE1 HB2 HO1 HB1 x0 x1 x2 x3 x4
  simp only [upc]
  go_upto_region 3 with fail
  have HO2 := mkHid (OneB.new y2 25 (upc u3 (.slice a2 m2 p2)))
  simp only [u3, upc] at HO2
  generalize World.alloc y2 _ = z2 at *
  have HB4 := mkHid (HB3.out.trans (HO2.out.bel.mono HB3.out.size))
  have x0 := HO2.out.k.cell 0
  have x1 := HO2.out.k.cell 1
  have x2 := HO2.out.k.cell 2
  have x3 := HO2.out.k.cell 3
  have x4 := HO2.out.k.cell 4
  simp only [List.getElem?_cons_zero, List.getElem?_cons_succ] at x0 x1 x2 x3 x4
  have hbz := mkHid ((Below.refl z2.heap.size z2).alloc (Nat.le_refl _) (.cells #[.int .i64 1, .int .i64 2] 3))
  have hn : IsN16 (z2.alloc (.cells #[.int .i64 1, .int .i64 2] 3)) (some ⟨z2.heap.size, 0, none⟩) 2 2 [1, 2] := by
    have hk := Blk.new z2 3 [.int .i64 1, .int .i64 2]
    refine ⟨⟨rfl, fun _ => ⟨z2.heap.size, 0, rfl, by simp, fun i x hx j v hv => ?_⟩⟩, by decide, by omega, fun h => by cases h⟩
    have hj : j = 0 := by
      match j, hv with
      | 0, _ => rfl
      | j + 1, hv => simp at hv
    subst hj
    have hv' : v = .int .i64 x := by simpa using hv.symm
    subst hv'
    match i, hx with
    | 0, hx => obtain rfl := Option.some.inj hx; exact hk.cell 0
    | 1, hx => obtain rfl := Option.some.inj hx; exact hk.cell 1
    | i + 2, hx => simp at hx
  have C3 := S.join u3 a2 m2 p2 l2 (some ⟨z2.heap.size, 0, none⟩) 2 2 [1, 2] (z2.alloc (.cells #[.int .i64 1, .int .i64 2] 3)) ((HL2.out.below HO2.out.bel).below hbz.out) (by rw [HE2.out]; rfl) hn (by omega)
  simp only [u3, upc] at C3
  clear hn
  go_wp2_with fail
  refine C3.mono ?_
  rintro e y3 ⟨hp, hb⟩
  obtain ⟨v3, rfl, ho3⟩ := hp.yes [97, 98] (by rw [HE2.out]; exact join_c)
  obtain ⟨oa, oc, rfl, hi3⟩ := ho3.isB
  have hbz3 := mkHid (hbz.out.trans (hb.mono hbz.out.size))
  have HO3 := mkHid (HO2.out.on hbz3.out)
  have HB5 := mkHid (HB4.out.trans (hbz3.out.mono HB4.out.size))
  have hcv := conv_isB y3 _ _ _ _ hi3
  have C4 := S.total u3 a2 m2 p2 l2 y3 ((HL2.out.below HO2.out.bel).below hbz3.out) (by rw [HE2.out]; rfl)
  rw [HE2.out] at C4
  simp only [u3, upc] at C4
  clear hp hb C3 ho3 hi3 hbz hbz3 HO2 HB4 x0 x1 x2 x3 x4
  have x0 := HO3.out.k.cell 0
  have x1 := HO3.out.k.cell 1
  have x2 := HO3.out.k.cell 2
  have x3 := HO3.out.k.cell 3
  have x4 := HO3.out.k.cell 4
  simp only [List.getElem?_cons_zero, List.getElem?_cons_succ] at x0 x1 x2 x3 x4
  have hst : str [97, 98] = ⟨#[97, 98]⟩ := rfl
  rw [hst, show ([97, 98] : List UInt8).length = 2 from rfl] at hcv
  clear hst
  go_wp2_with fail
  refine C4.mono ?_
  rintro e y4 ⟨rfl, hb⟩
  have HB6 := mkHid (HB5.out.trans (hb.mono HB5.out.size))
  clear hb C4 hcv x0 x1 x2 x3 x4
  go_wp2_with fail
  go_ret
  exact ⟨rfl, HB6.out⟩
end Go.Proofs.Ytgcmojldegplaaa
