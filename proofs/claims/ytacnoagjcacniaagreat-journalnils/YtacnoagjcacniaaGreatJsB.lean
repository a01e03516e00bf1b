/- JournalNils: the walk, over any journal that keeps the document. -/
import Derived.Test.YtacnoagjcacniaaGreatB43
namespace Go.Proofs.YtacnoagjcacniaaGreat
open Go.RowKit

set_option maxRecDepth 20000 in
set_option maxHeartbeats 8000000 in
theorem nilsOut10 {JA : World → Nat → Nat → Nat → Jl → Prop} {TA : World → Nat → Nat → Nat → Nat → Tl → Jl → Prop} (ok : JrnOK JA TA) (nl : JrnNil) (i : Int) (hi0 : -9223372036854775808 ≤ i) (hi1 : i ≤ 9223372036854775807) (ba : Option Addr) (bc : Nat) (b : List UInt8) (hbl : b.length ≤ 140737488351232) (w : World) (hB : ∀ W, Below w.heap.size w W → IsB W ba b.length bc b) (hin : ¬ (49 ≤ i ∧ i < 64)) :
    Calls Tryz.prog 6 #[.int .i64 i, .slice ba b.length bc] w fun e w' => e = .returned (.bool true) ∧ Below w.heap.size w w' := by
  have HA := fun W => lawAlive10 ok W
  have HJr := fun W => nl.jread W i
  have HTr := fun W => nl.tread W i
  have HMn := nl.mount
  obtain ⟨base, hbase⟩ : ∃ base, base = w.heap.size := ⟨_, rfl⟩
  have HBase := mkHid hbase
  rw [← hbase] at hB ⊢
  have HBy := mkHid hB
  have HBl := mkHid hbl
  have HI0 := mkHid hi0
  have HI1 := mkHid hi1
  obtain ⟨bn, hbn⟩ : ∃ bn, bn = b.length := ⟨_, rfl⟩
  have HBn := mkHid hbn
  rw [← hbn]
  clear hB hbase hbl hbn
  go_enter Tryz.func6, Tryz.ntmps6
  go_wp2_with fail
  refine (HJr _).mono ?_
  rintro e x1 ⟨⟨v1, rfl⟩, hb1⟩
  have HB1 : Hid (Below base w x1) := by unfold Hid; rw [HBase.out]; exact hb1
  clear hb1 HJr
  go_wp2_with fail
  refine (HTr _).mono ?_
  rintro e x2 ⟨⟨v2, rfl⟩, hb2⟩
  have HB2 := mkHid (HB1.out.trans (hb2.mono (Nat.le_trans (Nat.le_of_eq HBase.out) HB1.out.size)))
  clear hb2 HTr
  go_wp2_with fail
  refine (HMn _).mono ?_
  rintro e x3 ⟨⟨v3, rfl⟩, hb3⟩
  have HB3 := mkHid (HB2.out.trans (hb3.mono (Nat.le_trans (Nat.le_of_eq HBase.out) HB2.out.size)))
  have BB3 : base ≤ x3.heap.size := Nat.le_trans (Nat.le_of_eq HBase.out) HB3.out.size
  have HN : Calls Tryz.prog 9 #[.int .i64 64] x3 fun e w' => (∃ P, e = .returned (.tuple #[.pointer (some ⟨P, 0, none⟩), .int .i64 0]) ∧ IsD0 w' P base (Pl.new 64)) ∧ Hid (Below base x3 w') := by
    refine (codNew (fun _ => False) 64 x3 base BB3 (fun _ h => h.elim)).mono ?_
    rintro e w' ⟨h1, h2⟩
    rw [if_pos (by omega)] at h1
    exact ⟨h1, h2.mono BB3⟩
  clear hb3 HMn BB3
  go_wp2_with fail
  refine HN.mono ?_
  rintro e x4 ⟨⟨P, rfl, hI4⟩, hb4⟩
  have HB4 := mkHid (HB3.out.trans hb4.out)
  have HM := jMount ok hI4 (few_mnew 64 (by omega) (by omega)) (by omega) aj_mount.1
  rw [aj_mount.2.1, aj_mount.2.2] at HM
  clear HN hI4 hb4
  go_wp2_with fail
  refine HM.mono ?_
  rintro e x5 ⟨⟨K, rfl, hJ5⟩, hk5⟩
  have HB5 := mkHid (HB4.out.trans hk5.b)
  have HBg := ok.begin_ x5 K P base 0 aj0 hJ5 (few_mnew 64 (by omega) (by omega)) (by omega)
  clear HM hJ5 hk5
  go_wp2_with fail
  refine HBg.mono ?_
  rintro e x6 ⟨⟨T, rfl, hT6⟩, hk6⟩
  have HB6 := mkHid (HB5.out.trans hk6.b)
  have HT6 := mkHid hT6
  clear HBg hT6 hk6
  have HE1 := mkHid (jr_out hin)
  have HE2 := mkHid (wr0_out b hin)
  have BB6 := mkHid (Nat.le_trans (Nat.le_of_eq HBase.out) HB6.out.size)
  have HR := ok.jread x6 K P base 0 aj0 i (ok.toJ HT6.out) (few_mnew 64 (by omega) (by omega)) (by omega) hi0 hi1 rfl
  have hje : jrE aj0.p i = 50 := HE1.out
  rw [hje] at HR
  clear hje
  go_wp2_with fail
  refine HR.mono ?_
  rintro e x7 ⟨⟨v7, rfl, hv7⟩, hb7⟩
  have HB7 := mkHid (HB6.out.trans (hb7.mono BB6.out))
  have HW : Calls Tryz.prog 15 #[.pointer (some ⟨T, 0, none⟩), .int .i64 i, .slice ba bn bc] x7 fun e w' => e = .returned (.int .i64 50) ∧ Hid (Below base x7 w') ∧ Hid (JA w' K P base aj0) := by
    have h := ok.write x7 T K P base 0 _ aj0 i ba bc b (ok.keepT HT6.out (KeepT.of_below hb7)) (by show 0 ≤ 48; omega) (few_mnew 64 (by omega) (by omega)) (by omega) hi0 hi1 HBl.out (fun W _ hW => HBy.out W (HB7.out.trans hW))
    rw [HE2.out, ← HBn.out] at h
    exact h.mono fun _ _ ⟨h1, h2, h3⟩ => ⟨h1, h3.b, ok.toJ h2⟩
  clear HR hv7 hb7
  go_upto_region 14 with fail
  go_cut [20] from 68 to 73 (fun v wx => v = .bool false ∧ wx = x7)
  case first =>
    by_cases h49 : 49 ≤ i
    · have h64 : ¬ i < 64 := fun h => hin ⟨h49, h⟩
      go_wp2
      go_meet
      case rel => exact ⟨by first | rfl | (rw [decide_eq_false h64]), rfl⟩
    · go_wp2
      go_meet
      case rel => exact ⟨rfl, rfl⟩
  case rest =>
    obtain ⟨rfl, rfl⟩ := hcut

    go_wp2_with fail
    refine HW.mono ?_
    rintro e x8 ⟨rfl, hb8, HJ8⟩
    have HB8 := mkHid (HB7.out.trans hb8.out)
    have BB8 : Hid (base ≤ x8.heap.size) := Nat.le_trans (Nat.le_of_eq HBase.out) HB8.out.size
    clear HW hb8
    have hz2 : ∀ W, Calls Tryz.prog 24 #[.pointer none] W fun e w' => e = .returned (.int .u64 0) ∧ Below W.heap.size W w' := nl.seq
    have HZ := ok.size
    go_wp2_with fail
    refine (nl.seq _).mono ?_
    rintro e y1 ⟨rfl, hy1⟩
    have C1 := mkHid hy1
    clear hy1 hz2
    go_wp2_with fail
    refine (nl.size _).mono ?_
    rintro e y2 ⟨rfl, hy2⟩
    have C2 := mkHid (C1.out.trans (hy2.mono C1.out.size))
    clear hy2 C1
    go_wp2_with fail
    refine (nl.begin_ _).mono ?_
    rintro e y3 ⟨rfl, hy3⟩
    have C3 := mkHid (C2.out.trans (hy3.mono C2.out.size))
    clear hy3 C2
    go_wp2_with fail
    refine (nl.write _ i ba bn bc).mono ?_
    rintro e y4 ⟨rfl, hy4⟩
    have C4 := mkHid (C3.out.trans (hy4.mono C3.out.size))
    clear hy4 C3
    go_wp2_with fail
    refine (nl.len _).mono ?_
    rintro e y5 ⟨rfl, hy5⟩
    have C5 := mkHid (C4.out.trans (hy5.mono C4.out.size))
    clear hy5 C4
    go_wp2_with fail
    refine (nl.commit _).mono ?_
    rintro e y6 ⟨rfl, hy6⟩
    have C6 := mkHid (C5.out.trans (hy6.mono C5.out.size))
    clear hy6 C5
    go_wp2_with fail
    refine (ok.size _ K P base aj0 (ok.keepJ HJ8.out (KeepT.of_below C6.out))).mono ?_
    rintro e y7 ⟨rfl, hy7⟩
    have C7 := mkHid (C6.out.trans (hy7.mono C6.out.size))
    clear hy7 C6
    go_wp2_with fail
    refine (HA _).mono ?_
    rintro e y8 ⟨rfl, hy8⟩
    have C8 := mkHid (C7.out.trans (hy8.mono C7.out.size))
    clear hy8 C7
    go_wp2_with fail
    go_ret
    exact ⟨rfl, HB8.out.trans (C8.out.mono BB8.out)⟩
set_option maxRecDepth 20000 in
set_option maxHeartbeats 8000000 in
theorem nilsIn10 {JA : World → Nat → Nat → Nat → Jl → Prop} {TA : World → Nat → Nat → Nat → Nat → Tl → Jl → Prop} (ok : JrnOK JA TA) (nl : JrnNil) (i : Int) (hi0 : -9223372036854775808 ≤ i) (hi1 : i ≤ 9223372036854775807) (ba : Option Addr) (bc : Nat) (b : List UInt8) (hbl : b.length ≤ 140737488351232) (w : World) (hB : ∀ W, Below w.heap.size w W → IsB W ba b.length bc b) (hin : 49 ≤ i ∧ i < 64) :
    Calls Tryz.prog 6 #[.int .i64 i, .slice ba b.length bc] w fun e w' => e = .returned (.bool true) ∧ Below w.heap.size w w' := by
  have HA := fun W => lawAlive10 ok W
  have HJr := fun W => nl.jread W i
  have HTr := fun W => nl.tread W i
  have HMn := nl.mount
  obtain ⟨base, hbase⟩ : ∃ base, base = w.heap.size := ⟨_, rfl⟩
  have HBase := mkHid hbase
  rw [← hbase] at hB ⊢
  have HBy := mkHid hB
  have HBl := mkHid hbl
  have HI0 := mkHid hi0
  have HI1 := mkHid hi1
  obtain ⟨bn, hbn⟩ : ∃ bn, bn = b.length := ⟨_, rfl⟩
  have HBn := mkHid hbn
  rw [← hbn]
  clear hB hbase hbl hbn
  go_enter Tryz.func6, Tryz.ntmps6
  go_wp2_with fail
  refine (HJr _).mono ?_
  rintro e x1 ⟨⟨v1, rfl⟩, hb1⟩
  have HB1 : Hid (Below base w x1) := by unfold Hid; rw [HBase.out]; exact hb1
  clear hb1 HJr
  go_wp2_with fail
  refine (HTr _).mono ?_
  rintro e x2 ⟨⟨v2, rfl⟩, hb2⟩
  have HB2 := mkHid (HB1.out.trans (hb2.mono (Nat.le_trans (Nat.le_of_eq HBase.out) HB1.out.size)))
  clear hb2 HTr
  go_wp2_with fail
  refine (HMn _).mono ?_
  rintro e x3 ⟨⟨v3, rfl⟩, hb3⟩
  have HB3 := mkHid (HB2.out.trans (hb3.mono (Nat.le_trans (Nat.le_of_eq HBase.out) HB2.out.size)))
  have BB3 : base ≤ x3.heap.size := Nat.le_trans (Nat.le_of_eq HBase.out) HB3.out.size
  have HN : Calls Tryz.prog 9 #[.int .i64 64] x3 fun e w' => (∃ P, e = .returned (.tuple #[.pointer (some ⟨P, 0, none⟩), .int .i64 0]) ∧ IsD0 w' P base (Pl.new 64)) ∧ Hid (Below base x3 w') := by
    refine (codNew (fun _ => False) 64 x3 base BB3 (fun _ h => h.elim)).mono ?_
    rintro e w' ⟨h1, h2⟩
    rw [if_pos (by omega)] at h1
    exact ⟨h1, h2.mono BB3⟩
  clear hb3 HMn BB3
  go_wp2_with fail
  refine HN.mono ?_
  rintro e x4 ⟨⟨P, rfl, hI4⟩, hb4⟩
  have HB4 := mkHid (HB3.out.trans hb4.out)
  have HM := jMount ok hI4 (few_mnew 64 (by omega) (by omega)) (by omega) aj_mount.1
  rw [aj_mount.2.1, aj_mount.2.2] at HM
  clear HN hI4 hb4
  go_wp2_with fail
  refine HM.mono ?_
  rintro e x5 ⟨⟨K, rfl, hJ5⟩, hk5⟩
  have HB5 := mkHid (HB4.out.trans hk5.b)
  have HBg := ok.begin_ x5 K P base 0 aj0 hJ5 (few_mnew 64 (by omega) (by omega)) (by omega)
  clear HM hJ5 hk5
  go_wp2_with fail
  refine HBg.mono ?_
  rintro e x6 ⟨⟨T, rfl, hT6⟩, hk6⟩
  have HB6 := mkHid (HB5.out.trans hk6.b)
  have HT6 := mkHid hT6
  clear HBg hT6 hk6
  have HE1 := mkHid (jr_in hin)
  obtain ⟨we, hwe⟩ : ∃ we, we = Tl.wrE ⟨[], false⟩ aj0 i b := ⟨_, rfl⟩
  have HE2 := mkHid hwe.symm
  have HWe : Hid ((bn = 512 → we = 0) ∧ (¬ bn = 512 → we = 1)) := ⟨fun h => hwe.trans (wr0_ok b hin (HBn.out.symm.trans h)), fun h => hwe.trans (wr0_arg b hin (fun e => h (HBn.out.trans e)))⟩
  clear hwe
  have BB6 := mkHid (Nat.le_trans (Nat.le_of_eq HBase.out) HB6.out.size)
  have HR := ok.jread x6 K P base 0 aj0 i (ok.toJ HT6.out) (few_mnew 64 (by omega) (by omega)) (by omega) hi0 hi1 rfl
  have hje : jrE aj0.p i = 0 := HE1.out
  rw [hje] at HR
  clear hje
  go_wp2_with fail
  refine HR.mono ?_
  rintro e x7 ⟨⟨v7, rfl, hv7⟩, hb7⟩
  have HB7 := mkHid (HB6.out.trans (hb7.mono BB6.out))
  have HW : Calls Tryz.prog 15 #[.pointer (some ⟨T, 0, none⟩), .int .i64 i, .slice ba bn bc] x7 fun e w' => e = .returned (.int .i64 we) ∧ Hid (Below base x7 w') ∧ Hid (JA w' K P base aj0) := by
    have h := ok.write x7 T K P base 0 _ aj0 i ba bc b (ok.keepT HT6.out (KeepT.of_below hb7)) (by show 0 ≤ 48; omega) (few_mnew 64 (by omega) (by omega)) (by omega) hi0 hi1 HBl.out (fun W _ hW => HBy.out W (HB7.out.trans hW))
    rw [HE2.out, ← HBn.out] at h
    exact h.mono fun _ _ ⟨h1, h2, h3⟩ => ⟨h1, h3.b, ok.toJ h2⟩
  clear HR hv7 hb7
  go_upto_region 14 with fail
  go_cut [20] from 68 to 73 (fun v wx => v = .bool true ∧ wx = x7)
  case first =>
    have h49 : 49 ≤ i := hin.1
    have h64 : i < 64 := hin.2
    go_wp2
    go_meet
    case rel => exact ⟨by first | rfl | (rw [decide_eq_true h64]), rfl⟩
  case rest =>
    obtain ⟨rfl, rfl⟩ := hcut

    go_wp2_with fail
    refine HW.mono ?_
    rintro e x8 ⟨rfl, hb8, HJ8⟩
    have HB8 := mkHid (HB7.out.trans hb8.out)
    have BB8 : Hid (base ≤ x8.heap.size) := Nat.le_trans (Nat.le_of_eq HBase.out) HB8.out.size
    clear HW hb8
    go_upto_if 78 with fail
    go_cut [22] from 78 to 81 (fun v wx => v = .int .i64 we ∧ wx = x8)
    case first =>
      by_cases h512 : bn = 512
      · have hz : (bn : Int) = 512 := by omega
        have hwe := HWe.out.1 h512
        subst hwe
        clear h512
        go_wp2
        go_meet
        case rel => exact ⟨rfl, rfl⟩
      · have hz : ¬ (bn : Int) = 512 := by omega
        have hwe := HWe.out.2 h512
        subst hwe
        clear h512
        go_wp2
        go_meet
        case rel => exact ⟨rfl, rfl⟩
    case rest =>
    obtain ⟨rfl, rfl⟩ := hcut
    have hz2 : ∀ W, Calls Tryz.prog 24 #[.pointer none] W fun e w' => e = .returned (.int .u64 0) ∧ Below W.heap.size W w' := nl.seq
    have HZ := ok.size
    go_wp2_with fail
    refine (nl.seq _).mono ?_
    rintro e y1 ⟨rfl, hy1⟩
    have C1 := mkHid hy1
    clear hy1 hz2
    go_wp2_with fail
    refine (nl.size _).mono ?_
    rintro e y2 ⟨rfl, hy2⟩
    have C2 := mkHid (C1.out.trans (hy2.mono C1.out.size))
    clear hy2 C1
    go_wp2_with fail
    refine (nl.begin_ _).mono ?_
    rintro e y3 ⟨rfl, hy3⟩
    have C3 := mkHid (C2.out.trans (hy3.mono C2.out.size))
    clear hy3 C2
    go_wp2_with fail
    refine (nl.write _ i ba bn bc).mono ?_
    rintro e y4 ⟨rfl, hy4⟩
    have C4 := mkHid (C3.out.trans (hy4.mono C3.out.size))
    clear hy4 C3
    go_wp2_with fail
    refine (nl.len _).mono ?_
    rintro e y5 ⟨rfl, hy5⟩
    have C5 := mkHid (C4.out.trans (hy5.mono C4.out.size))
    clear hy5 C4
    go_wp2_with fail
    refine (nl.commit _).mono ?_
    rintro e y6 ⟨rfl, hy6⟩
    have C6 := mkHid (C5.out.trans (hy6.mono C5.out.size))
    clear hy6 C5
    go_wp2_with fail
    refine (ok.size _ K P base aj0 (ok.keepJ HJ8.out (KeepT.of_below C6.out))).mono ?_
    rintro e y7 ⟨rfl, hy7⟩
    have C7 := mkHid (C6.out.trans (hy7.mono C6.out.size))
    clear hy7 C6
    go_wp2_with fail
    refine (HA _).mono ?_
    rintro e y8 ⟨rfl, hy8⟩
    have C8 := mkHid (C7.out.trans (hy8.mono C7.out.size))
    clear hy8 C7
    go_wp2_with fail
    go_ret
    exact ⟨rfl, HB8.out.trans (C8.out.mono BB8.out)⟩
theorem nils10 {JA : World → Nat → Nat → Nat → Jl → Prop} {TA : World → Nat → Nat → Nat → Nat → Tl → Jl → Prop} (ok : JrnOK JA TA) (nl : JrnNil) (i : Int) (hi0 : -9223372036854775808 ≤ i) (hi1 : i ≤ 9223372036854775807) (ba : Option Addr) (bc : Nat) (b : List UInt8) (hbl : b.length ≤ 140737488351232) (w : World) (hB : ∀ W, Below w.heap.size w W → IsB W ba b.length bc b) :
    Calls Tryz.prog 6 #[.int .i64 i, .slice ba b.length bc] w fun e w' => e = .returned (.bool true) ∧ Below w.heap.size w w' := by
  by_cases hin : 49 ≤ i ∧ i < 64
  · exact nilsIn10 ok nl i hi0 hi1 ba bc b hbl w hB hin
  · exact nilsOut10 ok nl i hi0 hi1 ba bc b hbl w hB hin
end Go.Proofs.YtacnoagjcacniaaGreat
