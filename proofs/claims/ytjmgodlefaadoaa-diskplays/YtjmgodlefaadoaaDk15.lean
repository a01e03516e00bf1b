/- DiskPlays: the walk, over any disk that keeps the document. -/
import Derived.Test.YtjmgodlefaadoaaDk14
namespace Go.Proofs.Ytjmgodlefaadoaa
open Go.RowKit

def oq0 : Oq := ⟨0, 0, 0, 0, 0, [], none, 0, [], none, 0⟩
/-- a script in a world -/
structure IsOs (w : World) (a : Option Addr) (len cap : Nat) (os : List Oq) : Prop where
  len_eq : os.length = len
  cells : 0 < len → ∃ b off, a = some ⟨b, off, none⟩ ∧ b < w.heap.size ∧ ∀ i, i < len → ∀ j, j < 7 → w.cell? ⟨b, off + i * 7 + j, none⟩ = (oqc (os.getD i oq0))[j]?
  ok : ∀ i, i < len → OkQ w w.heap.size (os.getD i oq0)

set_option maxRecDepth 20000 in
set_option maxHeartbeats 4000000 in
theorem plays9 {Is : (Nat → Prop) → World → Nat → Nat → Pl → Prop} (all : DiskAll Is) (z : Int) (hz0 : -9223372036854775808 ≤ z) (hz1 : z ≤ 9223372036854775807) (a : Option Addr) (len cap : Nat) (os : List Oq) (w : World) (hos : IsOs w a len cap os) :
    Calls Try.prog 3 #[.int .i64 z, .slice a len cap] w fun e w' => e = .returned (.bool true) ∧ Below w.heap.size w w' := by
  have HA := fun W => lawAlive9 all W
  by_cases h150 : 150 < len
  · have d150 : (150 : Int) < (len : Int) := by omega
    clear hos
    go_enter Try.func3, Try.ntmps3
    go_wp2_with fail
    refine (HA _).mono ?_
    rintro e x1 ⟨rfl, hb1⟩
    go_wp2_with fail
    go_ret
    exact ⟨rfl, hb1⟩
  have d150 : ¬ (150 : Int) < (len : Int) := by omega
  have HN := (all.ok (fun _ => False)).new z w w.heap.size (Nat.le_refl _) (fun _ h => h.elim) hz0 hz1
  have HM := fun W => refNew9 z W
  by_cases hin : 64 ≤ z ∧ z ≤ 4096
  · simp only [if_pos hin] at HN HM
    have hb0 := mkHid (Nat.le_refl w.heap.size)
    have HOS := mkHid hos
    obtain ⟨base, hbase⟩ : ∃ base, base = w.heap.size := ⟨_, rfl⟩
    have HBase := mkHid hbase
    rw [← hbase] at HN ⊢
    clear hos hbase
    go_enter Try.func3, Try.ntmps3
    go_wp2_with fail
    refine HN.mono ?_
    rintro e x1 ⟨⟨P, rfl, hI1⟩, hb1⟩
    go_wp2_with fail
    refine (HM _).mono ?_
    rintro e x2 ⟨⟨rfl, hD2⟩, hb2⟩
    have HBo : Hid (Both9 (Is fun _ => False) P x1.heap.size base 0 x2) :=
      ⟨_, _, _, (all.ok _).keep hI1 (KeepT.of_below hb2), hD2.base (Nat.le_trans (Nat.le_of_eq HBase.out) hb1.size), ⟨by show z.toNat ≤ 4096; omega, Nat.zero_le _, fun g hg => (by cases hg), Nat.zero_le _, Nat.zero_le _, Nat.zero_le _⟩⟩
    have hb12 := hb1.trans (hb2.mono (Nat.le_trans (Nat.le_of_eq HBase.out) hb1.size))
    generalize x1.heap.size = D at *
    clear hI1 hD2 HN HM hb2 hb1
    go_wp2_with fail
    refine (HA _).mono ?_
    rintro e x3 ⟨rfl, hb3⟩
    have HBo3 := mkHid (HBo.out.on (all.ok _) hb3)
    have HB3 := mkHid (hb12.trans (hb3.mono (Nat.le_trans (Nat.le_of_eq HBase.out) hb12.size)))
    clear HA hb3 hb12 HBo
    go_wp2_with fail
    go_loopw [8] (fun i wr => ∃ k : Nat, k ≤ len ∧ i = .int .i64 (k : Int) ∧ Hid (Both9 (Is fun _ => False) P D base k wr) ∧ Hid (Below base w wr)) (fun i _ => len - (intOf i).toNat)
    case atStart => exact ⟨0, Nat.zero_le _, rfl, HBo3.out, HB3.out⟩
    case round =>
      obtain ⟨k, hk, rfl, HBo, HBw⟩ := hrel
      clear HBo3 HB3
      by_cases hlt : k < len
      · have hlt' : (k : Int) < (len : Int) := by omega
        obtain ⟨b, off, rfl, hbl, hc⟩ := HOS.out.cells (by omega)
        have hck := hc k hlt
        have hoq := HOS.out.ok k hlt
        rw [← HBase.out] at hbl hoq
        generalize os.getD k oq0 = o at *
        obtain ⟨kind, at', n, by', odd, raw, ra, rc, keep, ka, kc⟩ := o
        have c0 : wr.cell? ⟨b, off + k * 7, none⟩ = some (.int .i64 kind) := (HBw.out.cell (p := ⟨b, off + k * 7, none⟩) hbl).trans (hck 0 (by omega))
        have c1 : wr.cell? ⟨b, off + k * 7 + 1, none⟩ = some (.int .i64 at') := (HBw.out.cell (p := ⟨b, off + k * 7 + 1, none⟩) hbl).trans (hck 1 (by omega))
        have c2 : wr.cell? ⟨b, off + k * 7 + 2, none⟩ = some (.int .i64 n) := (HBw.out.cell (p := ⟨b, off + k * 7 + 2, none⟩) hbl).trans (hck 2 (by omega))
        have c3 : wr.cell? ⟨b, off + k * 7 + 3, none⟩ = some (.int .u8 (by'.toNat : Int)) := (HBw.out.cell (p := ⟨b, off + k * 7 + 3, none⟩) hbl).trans (hck 3 (by omega))
        have c4 : wr.cell? ⟨b, off + k * 7 + 4, none⟩ = some (.int .u8 (odd.toNat : Int)) := (HBw.out.cell (p := ⟨b, off + k * 7 + 4, none⟩) hbl).trans (hck 4 (by omega))
        have c5 : wr.cell? ⟨b, off + k * 7 + 5, none⟩ = some (.slice ra raw.length rc) := (HBw.out.cell (p := ⟨b, off + k * 7 + 5, none⟩) hbl).trans (hck 5 (by omega))
        have c6 : wr.cell? ⟨b, off + k * 7 + 6, none⟩ = some (.slice ka keep.length kc) := (HBw.out.cell (p := ⟨b, off + k * 7 + 6, none⟩) hbl).trans (hck 6 (by omega))
        have HS := step9 (all.ok _) _ P D base k wr HBo.out (by omega) (Nat.le_trans (Nat.le_of_eq HBase.out) HBw.out.size) (hoq.on HBw.out)
        clear hck hoq hc
        go_wp2_with fail
        refine HS.mono ?_
        rintro e y1 ⟨rfl, ⟨r, vS, vC, hI1, hD1, hF1⟩, hb1⟩
        have HB1 := mkHid (HBw.out.trans hb1)
        have HFp := mkHid (hF1.few (by omega))
        have HF1 := mkHid hF1
        have HI1 := mkHid hI1
        have HD1 := mkHid hD1
        have HCo := (all.ok _).count y1 P base _ hI1 HFp.out
        clear HS c0 c1 c2 c3 c4 c5 c6 hb1 hF1 hD1 hI1
        go_wp2_with fail
        refine HCo.mono ?_
        rintro e Y ⟨rfl, hIY, hKY, hbY⟩
        have HDY := mkHid (HD1.out.keepO hKY.o inU9a inU9b inU9c)
        have HBY := mkHid (HB1.out.trans hbY)
        have HIY := mkHid hIY
        obtain ⟨va, vcap, hvC, _⟩ := HDY.out.ownC.form
        have HT : ∀ W, Is (fun _ => False) W P base (plOf r) → Calls Try.prog 12 #[.pointer (some ⟨P, 0, none⟩)] W fun e w' => e = .returned (.int .i64 (r.n : Int)) ∧ Hid (Is (fun _ => False) w' P base (plOf r)) ∧ Hid (KeepO U9 W w') ∧ Hid (Below base W w') := fun W h => by
          refine ((all.ok _).size W P base _ h HFp.out).mono ?_
          rintro e w' ⟨h1, h2, h3, h4⟩
          exact ⟨h1, h2, h3.o, h4⟩
        have HDn : ∀ W, Is (fun _ => False) W P base (plOf r) → Calls Try.prog 13 #[.pointer (some ⟨P, 0, none⟩)] W fun e w' => e = .returned (.bool r.off) ∧ Hid (Is (fun _ => False) w' P base (plOf r)) ∧ Hid (KeepO U9 W w') ∧ Hid (Below base W w') := fun W h => by
          refine ((all.ok _).down W P base _ h HFp.out).mono ?_
          rintro e w' ⟨h1, h2, h3, h4⟩
          exact ⟨h1, h2, h3.o, h4⟩
        have HCa : ∀ W, Is (fun _ => False) W P base (plOf r) → Calls Try.prog 14 #[.pointer (some ⟨P, 0, none⟩)] W fun e w' => e = .returned (.int .i64 (r.C.length : Int)) ∧ Hid (Is (fun _ => False) w' P base (plOf r)) ∧ Hid (KeepO U9 W w') ∧ Hid (Below base W w') := fun W h => by
          refine ((all.ok _).cached W P base _ h HFp.out).mono ?_
          rintro e w' ⟨h1, h2, h3, h4⟩
          have e1 : (plOf r).ca.length = r.C.length := by simp [plOf]
          rw [e1] at h1
          exact ⟨h1, h2, h3.o, h4⟩
        have HKP : ∀ w', Hid (Is (fun _ => False) w' P base (plOf r)) → Hid (KeepO U9 Y w') → Hid (Below base Y w') → Hid (Is (fun _ => False) w' P base (plOf r)) ∧ Hid (KeepO U9 Y w') ∧ Hid (Below base Y w') ∧ w'.cell? ⟨D, 0, none⟩ = some (.int .i64 (r.n : Int)) ∧ w'.cell? ⟨D, 2, none⟩ = some (.slice va r.C.length vcap) ∧ w'.cell? ⟨D, 3, none⟩ = some (.bool r.off) ∧ w'.cell? ⟨D, 6, none⟩ = some (.int .u64 (r.wr : Int)) ∧ w'.cell? ⟨D, 7, none⟩ = some (.int .u64 (r.fl : Int)) := fun w' h1 h2 h3 => by
          have b := h2.out.blk HDY.out.blk (by decide)
          exact ⟨h1, h2, h3, b.cell 0, (b.cell 2).trans (by rw [← hvC]; rfl), b.cell 3, b.cell 6, b.cell 7⟩
        have HEnd : Hid (∀ w', Is (fun _ => False) w' P base (plOf r) → KeepO U9 Y w' → Both9 (Is fun _ => False) P D base (k + 1) w') := fun w' h1 h2 => ⟨r, vS, vC, h1, HDY.out.keepO h2 inU9a inU9b inU9c, HF1.out⟩
        clear hIY hKY hbY HCo
        have hwr : (plOf r).wr = r.wr := rfl
        have hfl : (plOf r).fl = r.fl := rfl
        rw [hwr, hfl]
        clear hwr hfl HFp HF1 HDY hvC
        have HK0 := HKP _ (mkHid ((all.ok _).keep HIY.out (KeepT.of_below ((Below.refl _ Y).drew)))) (mkHid ((KeepO.refl _ Y).drew)) (mkHid ((Below.refl _ Y).drew))
        have HK0' := mkHid HK0
        clear HK0
        go_wp2_with fail
        go_region_held3 (fun w' => Hid (Is (fun _ => False) w' P base (plOf r)) ∧ Hid (KeepO U9 Y w') ∧ Hid (Below base Y w') ∧ w'.cell? ⟨D, 0, none⟩ = some (.int .i64 (r.n : Int)) ∧ w'.cell? ⟨D, 2, none⟩ = some (.slice va r.C.length vcap) ∧ w'.cell? ⟨D, 3, none⟩ = some (.bool r.off) ∧ w'.cell? ⟨D, 6, none⟩ = some (.int .u64 (r.wr : Int)) ∧ w'.cell? ⟨D, 7, none⟩ = some (.int .u64 (r.fl : Int)))
          (first | exact HK0'.out | assumption | (have hq0 := ‹Hid _ ∧ Hid _ ∧ Hid _ ∧ _›; exact HKP _ hix (mkHid (hq0.2.1.out.trans hkx.out)) (mkHid (hq0.2.2.1.out.trans hbx.out))))
          (first
            | (go_at_call 12; have hq0 := ‹Hid _ ∧ Hid _ ∧ Hid _ ∧ _›; refine (HT _ hq0.1.out).mono ?_; rintro e y ⟨rfl, hix, hkx, hbx⟩; clear hq0)
            | (go_at_call 13; have hq0 := ‹Hid _ ∧ Hid _ ∧ Hid _ ∧ _›; refine (HDn _ hq0.1.out).mono ?_; rintro e y ⟨rfl, hix, hkx, hbx⟩; clear hq0)
            | (go_at_call 14; have hq0 := ‹Hid _ ∧ Hid _ ∧ Hid _ ∧ _›; refine (HCa _ hq0.1.out).mono ?_; rintro e y ⟨rfl, hix, hkx, hbx⟩; clear hq0))
        all_goals
          have hq9 := ‹Hid _ ∧ Hid _ ∧ Hid _ ∧ _›
          have HEn := mkHid (HEnd.out _ hq9.1.out hq9.2.1.out)
          have HBn := mkHid (HBY.out.trans hq9.2.2.1.out)
          clear hq9
          go_wp2_with fail
          go_roundw
          case rel => exact ⟨k + 1, by omega, by go_num, HEn.out, HBn.out⟩
          case measure => simp [intOf]; omega
      · have hlt' : ¬ (k : Int) < (len : Int) := by omega
        go_wp2_with fail
        go_ret
        exact ⟨rfl, HBw.out⟩
  · simp only [if_neg hin] at HN HM
    clear hos
    go_enter Try.func3, Try.ntmps3
    go_wp2_with fail
    refine HN.mono ?_
    rintro e x1 ⟨rfl, hb1⟩
    go_wp2_with fail
    refine (HM _).mono ?_
    rintro e x2 ⟨rfl, hb2⟩
    go_wp2_with fail
    refine (HA _).mono ?_
    rintro e x3 ⟨rfl, hb3⟩
    go_wp2_with fail
    go_ret
    exact ⟨rfl, (hb1.trans (hb2.mono hb1.size)).trans (hb3.mono (Nat.le_trans hb1.size hb2.size))⟩
end Go.Proofs.Ytjmgodlefaadoaa
