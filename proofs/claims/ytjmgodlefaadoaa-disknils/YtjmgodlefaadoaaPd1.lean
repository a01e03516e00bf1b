/- The program's disk: what it tells of itself. -/
import Derived.Test.YtjmgodlefaadoaaPd0
namespace Go.Proofs.Ytjmgodlefaadoaa
open Go.RowKit

theorem codReady (P : Nat) (off : Bool) (w : World) (c3 : w.cell? ⟨P, 3, none⟩ = some (.int .u32 (flag off))) :
    Calls Try.prog 35 #[.pointer (some ⟨P, 0, none⟩)] w fun e w' => e = .returned (.int .i64 (if off = true then 51 else 0)) ∧ w' = w := by
  have H := atLoadAt P 3 off w c3
  cases off with
  | true =>
    go_enter Try.func35, Try.ntmps35
    go_wp2_with fail
    refine H.mono ?_
    rintro e w1 ⟨rfl, rfl⟩
    go_wp2_with fail
    go_ret
    exact ⟨rfl, rfl⟩
  | false =>
    go_enter Try.func35, Try.ntmps35
    go_wp2_with fail
    refine H.mono ?_
    rintro e w1 ⟨rfl, rfl⟩
    go_wp2_with fail
    go_ret
    exact ⟨rfl, rfl⟩
theorem codReadyNil (w : World) : Calls Try.prog 35 #[.pointer none] w fun e w' => e = .returned (.int .i64 2) ∧ w' = w := by
  go_enter Try.func35, Try.ntmps35
  go_wp2_with fail
  go_ret
  exact ⟨rfl, rfl⟩
set_option maxRecDepth 20000 in
theorem codHas (P S n : Nat) (i : Int) (w : World) (c0 : w.cell? ⟨P, 0, none⟩ = some (.slice (some ⟨S, 0, none⟩) n n)) :
    Calls Try.prog 38 #[.pointer (some ⟨P, 0, none⟩), .int .i64 i] w fun e w' => e = .returned (.bool (inR n i)) ∧ w' = w := by
  by_cases h0 : 0 ≤ i
  · have d0 : decide (0 ≤ i) = true := decide_eq_true h0
    have HV : Hid (decide (i < (n : Int)) = inR n i) := by
      unfold Hid inR; congr 1; exact propext ⟨fun h => ⟨h0, h⟩, fun h => h.2⟩
    go_enter Try.func38, Try.ntmps38
    go_wp2
    go_ret
    exact ⟨ret_b (by first | rfl | exact HV.out), rfl⟩
  · have d0 : decide (0 ≤ i) = false := decide_eq_false h0
    have h0' : i < 0 := by omega
    have HV : Hid (false = inR n i) := by unfold Hid inR; exact (decide_eq_false (fun h => h0 h.1)).symm
    go_enter Try.func38, Try.ntmps38
    go_wp2
    go_ret
    exact ⟨ret_b (by first | rfl | exact HV.out), rfl⟩
set_option maxRecDepth 20000 in
theorem codReach (P S n : Nat) (off : Bool) (i : Int) (w : World) (c0 : w.cell? ⟨P, 0, none⟩ = some (.slice (some ⟨S, 0, none⟩) n n)) (c3 : w.cell? ⟨P, 3, none⟩ = some (.int .u32 (flag off))) :
    Calls Try.prog 32 #[.pointer (some ⟨P, 0, none⟩), .int .i64 i] w fun e w' => e = .returned (.int .i64 (if off = true then 51 else if inR n i = true then 0 else 50)) ∧ w' = w := by
  have HR := codReady P off w c3
  have HH := codHas P S n i w c0
  clear c0 c3
  cases off with
  | true =>
    rw [if_pos rfl] at HR ⊢
    go_enter Try.func32, Try.ntmps32
    go_wp2_with fail
    refine HR.mono ?_
    rintro e w1 ⟨rfl, rfl⟩
    go_wp2_with fail
    go_ret
    exact ⟨rfl, rfl⟩
  | false =>
    rw [if_neg (by simp)] at HR ⊢
    cases hi : inR n i with
    | true =>
      rw [hi] at HH
      go_enter Try.func32, Try.ntmps32
      go_wp2_with fail
      refine HR.mono ?_
      rintro e w1 ⟨rfl, rfl⟩
      go_wp2_with fail
      refine HH.mono ?_
      rintro e w1 ⟨rfl, rfl⟩
      go_wp2_with fail
      go_ret
      exact ⟨rfl, rfl⟩
    | false =>
      rw [hi] at HH
      go_enter Try.func32, Try.ntmps32
      go_wp2_with fail
      refine HR.mono ?_
      rintro e w1 ⟨rfl, rfl⟩
      go_wp2_with fail
      refine HH.mono ?_
      rintro e w1 ⟨rfl, rfl⟩
      go_wp2_with fail
      go_ret
      exact ⟨rfl, rfl⟩
theorem codReachNil (i : Int) (w : World) : Calls Try.prog 32 #[.pointer none, .int .i64 i] w fun e w' => e = .returned (.int .i64 2) ∧ w' = w := by
  go_enter Try.func32, Try.ntmps32
  go_wp2_with fail
  refine (codReadyNil w).mono ?_
  rintro e w1 ⟨rfl, rfl⟩
  go_wp2_with fail
  go_ret
  exact ⟨rfl, rfl⟩
theorem codSize (P S n : Nat) (w : World) (c0 : w.cell? ⟨P, 0, none⟩ = some (.slice (some ⟨S, 0, none⟩) n n)) :
    Calls Try.prog 12 #[.pointer (some ⟨P, 0, none⟩)] w fun e w' => e = .returned (.int .i64 (n : Int)) ∧ w' = w := by
  go_enter Try.func12, Try.ntmps12
  go_wp2_with fail
  go_ret
  exact ⟨rfl, rfl⟩
theorem codCached (P : Nat) (a : Option Addr) (n c : Nat) (w : World) (c1 : w.cell? ⟨P, 1, none⟩ = some (.slice a n c)) :
    Calls Try.prog 14 #[.pointer (some ⟨P, 0, none⟩)] w fun e w' => e = .returned (.int .i64 (n : Int)) ∧ w' = w := by
  go_enter Try.func14, Try.ntmps14
  go_wp2_with fail
  go_ret
  exact ⟨rfl, rfl⟩
theorem codDown (P : Nat) (off : Bool) (w : World) (c3 : w.cell? ⟨P, 3, none⟩ = some (.int .u32 (flag off))) :
    Calls Try.prog 13 #[.pointer (some ⟨P, 0, none⟩)] w fun e w' => e = .returned (.bool off) ∧ w' = w := by
  have H := atLoadAt P 3 off w c3
  go_enter Try.func13, Try.ntmps13
  go_wp2_with fail
  refine H.mono ?_
  rintro e w1 ⟨rfl, rfl⟩
  go_wp2_with fail
  go_ret
  exact ⟨rfl, rfl⟩
theorem codCount (P : Nat) (x y : Int) (w : World) (c4 : w.cell? ⟨P, 4, none⟩ = some (.int .u64 x)) (c5 : w.cell? ⟨P, 5, none⟩ = some (.int .u64 y)) :
    Calls Try.prog 11 #[.pointer (some ⟨P, 0, none⟩)] w fun e w' => e = .returned (.tuple #[.int .u64 x, .int .u64 y]) ∧ Below w.heap.size w w' := by
  have HB : Hid (Below w.heap.size w w) := Below.refl _ w
  have H4 := fun n => at64Load P 4 x (w.drewN n) (by simpa using c4)
  have H5 := fun n => at64Load P 5 y (w.drewN n) (by simpa using c5)
  go_enter Try.func11, Try.ntmps11
  go_wp2_with fail
  go_quiet (first | (go_at_call 30; first | exact Calls.quiet_of_same (H4 _) | exact Calls.quiet_of_same (H5 _)))
  go_wp2_with fail
  go_ret2
  exact ⟨rfl, bel_drewN HB.out _⟩
end Go.Proofs.Ytjmgodlefaadoaa
