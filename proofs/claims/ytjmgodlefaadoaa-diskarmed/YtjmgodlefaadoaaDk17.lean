/- DiskArmed: the walk. -/
import Derived.Test.YtjmgodlefaadoaaDk16
namespace Go.Proofs.Ytjmgodlefaadoaa
open Go.RowKit

set_option maxRecDepth 20000 in
set_option maxHeartbeats 4000000 in
theorem armed9 {Is : (Nat → Prop) → World → Nat → Nat → Pl → Prop} (all : DiskAll Is) (z : Int) (w : World) :
    Calls Try.prog 5 #[.int .i64 z] w fun e w' => e = .returned (.bool true) ∧ Below w.heap.size w w' := by
  have HA := fun W => lawAlive9 all W
  by_cases h0 : z < 0
  · go_enter Try.func5, Try.ntmps5
    go_wp2_with fail
    refine (HA _).mono ?_
    rintro e x1 ⟨rfl, hb1⟩
    go_wp2_with fail
    go_ret
    exact ⟨rfl, hb1⟩
  by_cases h2 : 200 < z
  · go_enter Try.func5, Try.ntmps5
    go_wp2_with fail
    refine (HA _).mono ?_
    rintro e x1 ⟨rfl, hb1⟩
    go_wp2_with fail
    go_ret
    exact ⟨rfl, hb1⟩
  have ok := all.ok (fun _ => False)
  have HN := At9.new ok w (fun _ h => h.elim)
  obtain ⟨n, rfl⟩ : ∃ n : Nat, z = (n : Int) := ⟨z.toNat, by omega⟩
  have hn : n ≤ 200 := by omega
  have Hn := mkHid hn
  generalize hbase : w.heap.size = base at *
  clear hbase
  go_enter Try.func5, Try.ntmps5
  go_wp2_with fail
  refine HN.mono ?_
  rintro e x1 ⟨P, rfl, a1⟩
  have HM := a1.arm ok (few_new 64 (by omega)) (n : Int) (by omega) (by omega)
  rw [ar_0 _ (by omega), Int.toNat_natCast] at HM
  clear HN a1
  go_wp2_with fail
  refine HM.mono ?_
  rintro e x2 ⟨⟨y2, rfl⟩, a2⟩
  have A2 := mkHid a2
  clear HM a2
  go_wp2_with fail
  go_loopw [5] (fun i wr => ∃ k : Nat, k ≤ n ∧ i = .int .i64 (k : Int) ∧ Hid (At9 (Is fun _ => False) P base (ar n k) w wr)) (fun i _ => n - (intOf i).toNat)
  case atStart => exact ⟨0, Nat.zero_le _, rfl, A2.out⟩
  case round =>
    obtain ⟨k, hk, rfl, A3⟩ := hrel
    clear A2
    by_cases hlt : k < n
    · have hlt' : (k : Int) < (n : Int) := by omega
      go_wp2_with fail
      refine (sec12 _).mono ?_
      rintro e x4 ⟨v4, rfl, hv4, hb4⟩
      have HW := (A3.out.on ok hb4).write ok (few_ar n k (by omega)) (i := ((k % 64 : Nat) : Int)) (by omega) (by omega) (by rw [secL_len]; omega) hv4
      rw [(ar_k n k hlt).1, (ar_k n k hlt).2] at HW
      have e64 : ((k % 64 : Nat) : Int) = (k : Int) % 64 := by omega
      rw [e64] at HW
      clear hv4 hb4 e64
      go_wp2_with fail
      refine HW.mono ?_
      rintro e x5 ⟨rfl, a5⟩
      have A5 := mkHid a5
      clear HW a5
      go_wp2_with fail
      go_roundw
      case rel => exact ⟨k + 1, by omega, by go_num, A5.out⟩
      case measure => simp [intOf]; omega
    · obtain rfl : k = n := by omega
      have hlt' : ¬ (k : Int) < (k : Int) := by omega
      have HD := A3.out.down ok (few_ar k k (by omega))
      have o0 : (ar k k).off = false := rfl
      rw [o0] at HD
      clear A3 o0
      go_wp2_with fail
      refine HD.mono ?_
      rintro e x4 ⟨rfl, a4⟩
      have A4 := mkHid a4
      clear HD a4
      go_wp2_with fail
      refine (sec12 _).mono ?_
      rintro e x5 ⟨v5, rfl, hv5, hb5⟩
      have HW := (A4.out.on ok hb5).write ok (few_ar k k (by omega)) (i := 0) (by omega) (by omega) (by rw [secL_len]; omega) hv5
      rw [(ar_n k).1, (ar_n k).2] at HW
      clear hv5 hb5 A4
      go_wp2_with fail
      refine HW.mono ?_
      rintro e x6 ⟨rfl, a6⟩
      have HD := a6.down ok (few_arO k (by omega))
      have o1 : (arO k).off = true := rfl
      rw [o1] at HD
      clear a6 HW o1
      go_wp2_with fail
      refine HD.mono ?_
      rintro e x7 ⟨rfl, a7⟩
      have HF := a7.flush ok (few_arO k (by omega))
      rw [(arO_fl k).1, (arO_fl k).2] at HF
      clear HD a7
      go_wp2_with fail
      refine HF.mono ?_
      rintro e x8 ⟨rfl, a8⟩
      have HR := a8.read ok (few_arO k (by omega)) 0 (by omega) (by omega)
      rw [arO_rd k] at HR
      clear HF a8
      go_wp2_with fail
      refine HR.mono ?_
      rintro e x9 ⟨⟨v9, rfl, _⟩, a9⟩
      have HC := a9.crash ok (few_arO k (by omega)) none 0 [] (by simp) (fun W _ => isKs_nil W)
      rw [arO_cr k] at HC
      clear HR a9
      go_wp2_with fail
      refine HC.mono ?_
      rintro e xa ⟨⟨ya, rfl⟩, aa⟩
      have HD := aa.down ok (few_arC k (by omega))
      have o2 : (arC k).off = false := rfl
      rw [o2] at HD
      clear HC aa o2
      go_wp2_with fail
      refine HD.mono ?_
      rintro e xb ⟨rfl, ab⟩
      have AB := mkHid ab
      clear HD ab
      go_wp2_with fail
      refine (sec12 _).mono ?_
      rintro e xc ⟨vc, rfl, hvc, hbc⟩
      have HW := (AB.out.on ok hbc).write ok (few_arC k (by omega)) (i := 0) (by omega) (by omega) (by rw [secL_len]; omega) hvc
      rw [arC_wr k] at HW
      clear hvc hbc AB
      go_wp2_with fail
      refine HW.mono ?_
      rintro e xd ⟨rfl, ad⟩
      have AD := mkHid ad
      clear HW ad
      go_wp2_with fail
      refine (HA _).mono ?_
      rintro e xe ⟨rfl, hbe⟩
      go_wp2_with fail
      go_ret
      exact ⟨rfl, AD.out.bel.trans (hbe.mono AD.out.le)⟩
end Go.Proofs.Ytjmgodlefaadoaa
