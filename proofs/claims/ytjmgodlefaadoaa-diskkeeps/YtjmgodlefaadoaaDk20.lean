/- DiskKeeps: the walk, over any disk that keeps the document. -/
import Derived.Test.YtjmgodlefaadoaaDk19
namespace Go.Proofs.Ytjmgodlefaadoaa
open Go.RowKit

set_option maxRecDepth 20000 in
set_option maxHeartbeats 4000000 in
theorem keeps9 {Is : (Nat → Prop) → World → Nat → Nat → Pl → Prop} (all : DiskAll Is) (bb : UInt8) (a : Option Addr) (len cap : Nat) (os : List Oq) (ka : Option Addr) (kc : Nat) (ks : List Bool) (w : World) (hos : IsOs w a len cap os) (hkl : ks.length ≤ 140737488351232) (hks : ∀ W, Below w.heap.size w W → IsKs W ka ks.length kc ks) :
    Calls Try.prog 4 #[.int .u8 (bb.toNat : Int), .slice a len cap, .slice ka ks.length kc] w fun e w' => e = .returned (.bool true) ∧ Below w.heap.size w w' := by
  have HA := fun W => lawAlive9 all W
  have ok := all.ok (fun _ => False)
  have HN := At9.new ok w (fun _ h => h.elim)
  by_cases h100 : 100 < len
  · have d100 : (100 : Int) < (len : Int) := by omega
    clear hos hks
    go_enter Try.func4, Try.ntmps4
    go_wp2_with fail
    refine HN.mono ?_
    rintro e x1 ⟨P, rfl, a1⟩
    go_wp2_with fail
    refine (HA _).mono ?_
    rintro e x2 ⟨rfl, hb2⟩
    go_wp2_with fail
    go_ret
    exact ⟨rfl, a1.bel.trans (hb2.mono a1.le)⟩
  have d100 : ¬ (100 : Int) < (len : Int) := by omega
  have HOS := mkHid hos
  have HKs := mkHid hks
  have HKl := mkHid hkl
  obtain ⟨base, hbase⟩ : ∃ base, base = w.heap.size := ⟨_, rfl⟩
  have HBase := mkHid hbase
  rw [← hbase] at HN HKs ⊢
  clear hos hbase hks hkl
  have HKn : Hid (ks.length = ks.length) := rfl
  go_enter Try.func4, Try.ntmps4
  go_wp2_with fail
  refine HN.mono ?_
  rintro e x1 ⟨P, rfl, a1⟩
  have A1 := mkHid a1
  clear HN a1
  go_wp2_with fail
  refine (sec_9 bb _).mono ?_
  rintro e x2 ⟨v2, rfl, hv2, hb2⟩
  have HW := (A1.out.on ok hb2).write ok (few_new 64 (by omega)) (i := 5) (by omega) (by omega) (by rw [secL_len]; omega) hv2
  rw [(kp_1 bb).1, (kp_1 bb).2] at HW
  clear hv2 hb2 A1
  go_wp2_with fail
  refine HW.mono ?_
  rintro e x3 ⟨rfl, a3⟩
  have HF := a3.flush ok (few_kp1 bb)
  rw [(kp_2 bb).1, (kp_2 bb).2] at HF
  clear HW a3
  go_wp2_with fail
  refine HF.mono ?_
  rintro e x4 ⟨rfl, a4⟩
  have A4 := mkHid a4
  clear HF a4
  go_wp2_with fail
  go_loopw [9, 10] (fun c i wr => ∃ (k m : Nat), k ≤ len ∧ m ≤ k ∧ i = .int .i64 (k : Int) ∧ c = .int .i64 (m : Int) ∧ Hid (∃ q, Kp bb q k m ∧ At9 (Is fun _ => False) P base q w wr)) (fun _ i _ => len - (intOf i).toNat)
  case atStart => exact ⟨0, 0, Nat.zero_le _, Nat.le_refl _, rfl, rfl, ⟨kp2 bb, kp_0 bb, A4.out⟩⟩
  case round =>
    obtain ⟨k, m, hk, hmk, rfl, rfl, HQ⟩ := hrel
    clear A4
    by_cases hlt : k < len
    · have hlt' : (k : Int) < (len : Int) := by omega
      obtain ⟨q, hKp, hAt⟩ := HQ.out
      obtain ⟨b, off, rfl, hbl, hc⟩ := HOS.out.cells (by omega)
      have hck := hc k hlt
      have hoq := HOS.out.ok k hlt
      rw [← HBase.out] at hbl
      generalize os.getD k oq0 = o at *
      obtain ⟨kind, at', n, by', odd, raw, ra, rc, keep, ka', kc'⟩ := o
      have hat0 := mkHid hoq.at0
      have hat1 := mkHid hoq.at1
      have HC3 : ∀ W, Below base wr W → W.cell? ⟨b, off + k * 7 + 1, none⟩ = some (.int .i64 at') ∧ W.cell? ⟨b, off + k * 7 + 3, none⟩ = some (.int .u8 (by'.toNat : Int)) ∧ W.cell? ⟨b, off + k * 7 + 4, none⟩ = some (.int .u8 (odd.toNat : Int)) := fun W hW =>
        have hh := hAt.bel.trans hW
        ⟨(hh.cell (p := ⟨b, off + k * 7 + 1, none⟩) hbl).trans (hck 1 (by omega)), (hh.cell (p := ⟨b, off + k * 7 + 3, none⟩) hbl).trans (hck 3 (by omega)), (hh.cell (p := ⟨b, off + k * 7 + 4, none⟩) hbl).trans (hck 4 (by omega))⟩
      obtain ⟨c1, c3, c4⟩ := HC3 wr (Below.refl _ _)
      have AQ := mkHid hAt
      have KQ := mkHid hKp
      clear hck hc hoq hAt hKp HQ
      by_cases h5 : at' = 5
      · subst h5
        go_wp2_with fail
        go_quiet (fail)
        go_wp2_with fail
        go_roundw
        case rel => exact ⟨k + 1, m, by omega, by omega, by go_num, rfl, ⟨q, KQ.out.skip, AQ.out.on ok (bel_drewN (Below.refl _ wr) nq)⟩⟩
        case measure => simp [intOf]; omega
      · have d5 : decide (at' = 5) = false := decide_eq_false h5
        have d5' : (at' != 5) = true := by simp [h5]
        have d5'' : (at' == 5) = false := by simp [h5]
        cases hin : inR 64 at' with
        | false =>
          have HW : ∀ W v, Below wr.heap.size wr W → OwnB W wr.heap.size v (secL by' odd) → Calls Try.prog 15 #[.pointer (some ⟨P, 0, none⟩), .int .i64 at', v] W fun e w' => e = .returned (.int .i64 50) ∧ Hid (At9 (Is fun _ => False) P base q w w') ∧ Hid (Below base W w') := fun W v hb hv => by
            refine (okWrite ok (AQ.out.on ok hb).is (KQ.out.few (by omega)) hat0.out hat1.out (by rw [secL_len]; omega) hv).mono ?_
            rintro e w' ⟨h1, h2, _, h4⟩
            rw [(KQ.out.bad at' by' odd hin).1] at h1
            rw [(KQ.out.bad at' by' odd hin).2] at h2
            exact ⟨h1, (AQ.out.on ok hb).next h2 h4, h4⟩
          have LB := mkHid AQ.out.le
          clear hin
          go_wp2_with fail
          go_region_held3 (fun w' => Hid (Below base wr w') ∧ w'.cell? ⟨b, off + k * 7 + 1, none⟩ = some (.int .i64 at') ∧ w'.cell? ⟨b, off + k * 7 + 3, none⟩ = some (.int .u8 (by'.toNat : Int)) ∧ w'.cell? ⟨b, off + k * 7 + 4, none⟩ = some (.int .u8 (odd.toNat : Int)))
            (first | exact ⟨mkHid ((Below.refl _ wr).drew), HC3 _ ((Below.refl _ wr).drew)⟩ | assumption | (have hq0 := ‹Hid (Below _ _ _) ∧ _›; exact ⟨mkHid (hq0.1.out.trans hbx.out), HC3 _ (hq0.1.out.trans hbx.out)⟩))
            (first
              | (go_at_call 16; refine (lawSector9 by' odd _).mono ?_; rintro e x5 ⟨v5, rfl, hv5, hb5⟩; have hbx := mkHid (hb5.mono LB.out))
              | (go_at_call 15; refine (HW _ _ (((Below.refl _ wr).drew).trans hb5) hv5).mono ?_; rintro e x6 ⟨rfl, A6, hbx⟩))
          all_goals
            clear hv5 hb5 HW
            go_wp2_with fail
            go_roundw
            case rel => exact ⟨k + 1, m, by omega, by omega, by go_num, rfl, ⟨q, KQ.out.skip, A6.out⟩⟩
            case measure => simp [intOf]; omega
        | true =>
          have HW : ∀ W v, Below wr.heap.size wr W → OwnB W wr.heap.size v (secL by' odd) → Calls Try.prog 15 #[.pointer (some ⟨P, 0, none⟩), .int .i64 at', v] W fun e w' => e = .returned (.int .i64 0) ∧ Hid (∃ q', Kp bb q' (k + 1) (m + 1) ∧ At9 (Is fun _ => False) P base q' w w') ∧ Hid (Below base W w') := fun W v hb hv => by
            refine (okWrite ok (AQ.out.on ok hb).is (KQ.out.few (by omega)) hat0.out hat1.out (by rw [secL_len]; omega) hv).mono ?_
            rintro e w' ⟨h1, h2, _, h4⟩
            rw [(KQ.out.good at' by' odd hin h5).1] at h1
            exact ⟨h1, ⟨_, (KQ.out.good at' by' odd hin h5).2, (AQ.out.on ok hb).next h2 h4⟩, h4⟩
          have LB := mkHid AQ.out.le
          clear hin
          go_wp2_with fail
          go_region_held3 (fun w' => Hid (Below base wr w') ∧ w'.cell? ⟨b, off + k * 7 + 1, none⟩ = some (.int .i64 at') ∧ w'.cell? ⟨b, off + k * 7 + 3, none⟩ = some (.int .u8 (by'.toNat : Int)) ∧ w'.cell? ⟨b, off + k * 7 + 4, none⟩ = some (.int .u8 (odd.toNat : Int)))
            (first | exact ⟨mkHid ((Below.refl _ wr).drew), HC3 _ ((Below.refl _ wr).drew)⟩ | assumption | (have hq0 := ‹Hid (Below _ _ _) ∧ _›; exact ⟨mkHid (hq0.1.out.trans hbx.out), HC3 _ (hq0.1.out.trans hbx.out)⟩))
            (first
              | (go_at_call 16; refine (lawSector9 by' odd _).mono ?_; rintro e x5 ⟨v5, rfl, hv5, hb5⟩; have hbx := mkHid (hb5.mono LB.out))
              | (go_at_call 15; refine (HW _ _ (((Below.refl _ wr).drew).trans hb5) hv5).mono ?_; rintro e x6 ⟨rfl, A6, hbx⟩))
          all_goals
            clear hv5 hb5 HW
            go_wp2_with fail
            go_roundw
            case rel => exact ⟨k + 1, m + 1, by omega, by omega, by go_num, by go_num, A6.out⟩
            case measure => simp [intOf]; omega
    · obtain ⟨q, hKp, hAt⟩ := HQ.out
      have hlt' : ¬ (k : Int) < (len : Int) := by omega
      have HCa := hAt.cached ok (hKp.few (by omega))
      rw [hKp.len] at HCa
      have KQ := mkHid hKp
      obtain ⟨f1, f2, f3, f4⟩ := hKp.end ks (by omega)
      have F1 := mkHid f1
      have F2 := mkHid f2
      have F3 := mkHid f3
      have F4 := mkHid f4
      clear HQ hAt hKp f1 f2 f3 f4
      go_wp2_with fail
      refine HCa.mono ?_
      rintro e x5 ⟨rfl, a5⟩
      have HC := a5.crash ok (KQ.out.few (by omega)) ka kc ks HKl.out (fun W hW => HKs.out W (a5.bel.trans hW))
      clear HCa a5
      go_wp2_with fail
      refine HC.mono ?_
      rintro e x6 ⟨⟨y6, rfl⟩, a6⟩
      have HR := a6.read ok F1.out 5 (by omega) (by omega)
      rw [F2.out, F3.out] at HR
      clear HC a6
      go_wp2_with fail
      refine HR.mono ?_
      rintro e x7 ⟨⟨v7, rfl, hv7⟩, a7⟩
      have V7 := mkHid hv7
      have A7 := mkHid a7
      clear HR hv7 a7
      go_wp2_with fail
      refine (sec_9 bb _).mono ?_
      rintro e x8 ⟨v8, rfl, hv8, hb8⟩
      obtain ⟨a9, c9, rfl, hI9⟩ := V7.out
      have HS := sameV (hI9.below hb8 rfl).isV hv8.isV
      rw [eqB_self] at HS
      have A8 := mkHid (A7.out.on ok hb8)
      clear hv8 hb8 hI9 A7 V7
      go_wp2_with fail
      refine HS.mono ?_
      rintro e xa ⟨rfl, hba⟩
      have HCb := (A8.out.on ok hba).cached ok F1.out
      rw [F4.out] at HCb
      clear HS hba A8
      go_wp2_with fail
      refine HCb.mono ?_
      rintro e xb ⟨rfl, ab⟩
      have AB := mkHid ab
      clear HCb ab
      go_wp2_with fail
      refine (HA _).mono ?_
      rintro e xc ⟨rfl, hbc⟩
      go_wp2_with fail
      go_ret
      exact ⟨rfl, AB.out.bel.trans (hbc.mono AB.out.le)⟩
end Go.Proofs.Ytjmgodlefaadoaa
