/- The statements' alive: the walk. -/
import Derived.Test.YtjmgodlefaadoaaDk13
namespace Go.Proofs.Ytjmgodlefaadoaa
open Go.RowKit

set_option maxRecDepth 20000 in
set_option maxHeartbeats 4000000 in
theorem lawAlive9 {Is : (Nat → Prop) → World → Nat → Nat → Pl → Prop} (all : DiskAll Is) (w : World) :
    Calls Try.prog 7 #[] w fun e w' => e = .returned (.bool true) ∧ Below w.heap.size w w' := by
  obtain ⟨base, hbase⟩ : ∃ base, base = w.heap.size := ⟨_, rfl⟩
  have HBase := mkHid hbase
  have HN : Calls Try.prog 8 #[.int .i64 64] w fun e w' => (∃ P, e = .returned (.tuple #[.pointer (some ⟨P, 0, none⟩), .int .i64 0]) ∧ Is (fun _ => False) w' P base (Pl.new 64)) ∧ Below base w w' := by
    refine ((all.ok (fun _ => False)).new 64 w base (Nat.le_of_eq hbase) (fun _ h => h.elim) (by omega) (by omega)).mono ?_
    rintro e w' ⟨h1, h2⟩
    rw [if_pos (by omega)] at h1
    exact ⟨h1, by rw [hbase]; exact h2⟩
  rw [← hbase]
  clear hbase
  go_enter Try.func7, Try.ntmps7
  go_wp2_with fail
  refine HN.mono ?_
  rintro e x1 ⟨⟨P, rfl, hI1⟩, hb1⟩
  have bb1 : base ≤ x1.heap.size := Nat.le_trans (Nat.le_of_eq HBase.out) hb1.size
  have HI1 := mkHid hI1
  have HB1 := mkHid hb1
  have BB1 := mkHid bb1
  clear HN hI1 hb1 bb1
  go_wp2_with fail
  refine (sec71 _).mono ?_
  rintro e x2 ⟨v2, rfl, hv2, hb2⟩
  have HI2 := mkHid ((all.ok _).keep HI1.out (KeepT.of_below hb2))
  have HB2 := mkHid (HB1.out.trans (hb2.mono BB1.out))
  have HW := okWrite (all.ok _) HI2.out (few_new 64 (by omega)) (i := 3) (by omega) (by omega) (by rw [secL_len]; omega) hv2
  rw [al_1.1, al_1.2] at HW
  clear hv2 hb2
  go_wp2_with fail
  refine HW.mono ?_
  rintro e x3 ⟨rfl, hI3, hK3, hb3⟩
  have HB3 := mkHid (HB2.out.trans hb3)
  have HC := (all.ok _).crash x3 P base al1 none 0 [] hI3 few_al1 (by simp) (fun W _ _ => isKs_nil W)
  rw [al_2] at HC
  clear HW hI3 hK3 hb3
  go_wp2_with fail
  refine HC.mono ?_
  rintro e x4 ⟨⟨y4, rfl⟩, hI4, hK4, hb4⟩
  have HB4 := mkHid (HB3.out.trans hb4)
  have HR := all.readX _ x4 P base al2 3 hI4 few_al2 (by omega) (by omega)
  rw [al_rd2.1, al_rd2.2] at HR
  clear HC hI4 hK4 hb4
  go_wp2_with fail
  refine HR.mono ?_
  rintro e x5 ⟨⟨a5, c5, rfl, hB5, hI5⟩, hK5, hb5⟩
  have HB5 := mkHid (HB4.out.trans hb5)
  have BB5 : Hid (base ≤ x5.heap.size) := Nat.le_trans (Nat.le_of_eq HBase.out) HB5.out.size
  obtain ⟨X5, hX5⟩ : ∃ X5 : Nat → Prop, X5 = fun k => (fun (_ : Nat) => False) k ∨ ∃ A, a5 = some A ∧ k = A.block := ⟨_, rfl⟩
  have HX : Hid (∀ A, a5 = some A → X5 A.block) := by rw [hX5]; exact fun A h => .inr ⟨A, h, rfl⟩
  rw [← hX5] at hI5
  have HI5 := mkHid hI5
  have HV5 := mkHid hB5
  have hl5 : zero512.length = 512 := by unfold zero512; rw [List.length_replicate]
  rw [hl5] at HV5 ⊢
  clear HR hX5 hI5 hK5 hb5 hB5 hl5
  go_wp2_with fail
  refine (sec71 _).mono ?_
  rintro e x6 ⟨v6, rfl, hv6, hb6⟩
  have HI6 := mkHid ((all.ok _).keep HI5.out (KeepT.of_below hb6))
  have HB6 := mkHid (HB5.out.trans (hb6.mono BB5.out))
  have HV6 := mkHid (HV5.out.below hb6 rfl)
  have HW := okWrite (all.ok _) HI6.out few_al2 (i := 3) (by omega) (by omega) (by rw [secL_len]; omega) hv6
  rw [al_3.1, al_3.2] at HW
  clear hv6 hb6
  go_wp2_with fail
  refine HW.mono ?_
  rintro e x7 ⟨rfl, hI7, hK7, hb7⟩
  have HB7 := mkHid (HB6.out.trans hb7)
  have HV7 := mkHid (HV6.out.keptX (by omega) HX.out hK7)
  have HI7 := mkHid hI7
  have BB7 : Hid (base ≤ x7.heap.size) := Nat.le_trans (Nat.le_of_eq HBase.out) HB7.out.size
  clear HW hI7 hK7 hb7
  go_wp2_with fail
  have KB := Blk.new x7 4 [.bool true]
  have hb8 : Below x7.heap.size x7 (x7.alloc (.cells #[.bool true] 4)) := (Below.refl _ x7).alloc (Nat.le_refl _) _
  have HC := (all.ok _).crash _ P base al3 (some ⟨x7.heap.size, 0, none⟩) 1 [true] ((all.ok _).keep HI7.out (KeepT.of_below hb8)) few_al3 (by simp) (fun W h _ => isKs_one (h.blk KB (by decide)))
  rw [al_4] at HC
  have HB8 := mkHid (HB7.out.trans (hb8.mono BB7.out))
  have HV8 := mkHid (HV7.out.below hb8 rfl)
  clear KB hb8
  refine HC.mono ?_
  rintro e x9 ⟨⟨y9, rfl⟩, hI9, hK9, hb9⟩
  have HB9 := mkHid (HB8.out.trans hb9)
  have HV9 := mkHid (HV8.out.keptX (by omega) HX.out hK9)
  have HR := all.readX _ x9 P base al4 3 hI9 few_al4 (by omega) (by omega)
  rw [al_rd4.1, al_rd4.2] at HR
  clear HC hI9 hK9 hb9
  go_wp2_with fail
  refine HR.mono ?_
  rintro e xa ⟨⟨aa, ca, rfl, hBa, _⟩, hKa, hba⟩
  have HBa := mkHid (HB9.out.trans hba)
  have HVa := mkHid (HV9.out.keptX (by omega) HX.out hKa)
  have HVb := mkHid hBa
  have BBa : Hid (base ≤ xa.heap.size) := Nat.le_trans (Nat.le_of_eq HBase.out) HBa.out.size
  rw [secL_len] at HVb ⊢
  clear HR hKa hba hBa
  obtain ⟨xb, hrun, hob, hbb⟩ := make_run512 xa
  have HBb := mkHid (HBa.out.trans (hbb.mono BBa.out))
  have BBb : Hid (base ≤ xb.heap.size) := Nat.le_trans BBa.out hbb.size
  have HS1 := sameV (HVa.out.below hbb rfl).isV hob.isV
  rw [eqB_self] at HS1
  have HVc := mkHid (HVb.out.below hbb rfl)
  have Hrun := mkHid hrun
  clear hob hbb hrun
  go_wp2_with fail
  rw [Hrun.out]
  clear Hrun
  go_wp2_with fail
  refine HS1.mono ?_
  rintro e xc ⟨rfl, hbc⟩
  have HBc := mkHid (HBb.out.trans (hbc.mono BBb.out))
  have BBc : Hid (base ≤ xc.heap.size) := Nat.le_trans BBb.out hbc.size
  have HVd := mkHid (HVc.out.below hbc rfl)
  clear HS1 hbc
  go_wp2_with fail
  refine (sec71 _).mono ?_
  rintro e xd ⟨vd, rfl, hvd, hbd⟩
  have HBd := mkHid (HBc.out.trans (hbd.mono BBc.out))
  have BBd : Hid (base ≤ xd.heap.size) := Nat.le_trans BBc.out hbd.size
  have HS2 := sameV (HVd.out.below hbd rfl).isV hvd.isV
  rw [eqB_self] at HS2
  clear hvd hbd
  go_wp2_with fail
  refine HS2.mono ?_
  rintro e xe ⟨rfl, hbe⟩
  go_wp2_with fail
  go_ret
  exact ⟨rfl, HBd.out.trans (hbe.mono BBd.out)⟩
end Go.Proofs.Ytjmgodlefaadoaa
