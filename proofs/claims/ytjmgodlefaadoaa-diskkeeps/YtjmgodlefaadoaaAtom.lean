/- sync/atomic's truths and numbers, at whatever cell. -/
import Derived.Test.YtjmgodlefaadoaaBlk
import Derived.Laws.LoneSync
import Derived.RegionCalls
namespace Go.Proofs.Ytjmgodlefaadoaa
open Go.RowKit
attribute [local go_sem ↓] Go.wp_at_zero Go.wp_at_succ

/-- a truth as the atomic's number -/
def flag (b : Bool) : Int := if b then 1 else 0

theorem b32 (b : Bool) (w : World) : Calls Try.prog 45 #[.bool b] w fun e w' => e = .returned (.int .u32 (flag b)) ∧ w' = w := by
  cases b
  all_goals
    go_enter Try.func45, Try.ntmps45
    go_wp2
    go_ret
    exact ⟨rfl, rfl⟩

theorem atLoadAt (B o : Nat) (f : Bool) (w : World) (h : w.cell? ⟨B, o, none⟩ = some (.int .u32 (flag f))) :
    Calls Try.prog 31 #[.pointer (some ⟨B, o, none⟩)] w fun e w' => e = .returned (.bool f) ∧ w' = w := by
  have hl := run_call_load (P := Try.prog) Try.func43 (by kernel_rfl) (by kernel_rfl) (by kernel_rfl) .u32 (by kernel_rfl) h
  cases f
  all_goals
    go_enter Try.func31, Try.ntmps31
    go_wp2
    go_ret
    exact ⟨rfl, rfl⟩

theorem atStoreAt (B o : Nat) (b : Bool) (v : Value) (w : World) (h : w.cell? ⟨B, o, none⟩ = some v) (hf : w.frozen? ⟨B, o, none⟩ = false) :
    Calls Try.prog 33 #[.pointer (some ⟨B, o, none⟩), .bool b] w fun e w' => e = .returned (.tuple #[]) ∧ w' = w.drew.setCell ⟨B, o, none⟩ (.int .u32 (flag b)) := by
  cases b
  · have hs := run_call_store (P := Try.prog) Try.func44 (by kernel_rfl) (by kernel_rfl) (by kernel_rfl) (by kernel_rfl) (k := .u32) (y := 0) (w := w.drew) (a := ⟨B, o, none⟩) (u := v) (by simpa using h) (by simpa using hf)
    go_enter Try.func33, Try.ntmps33
    go_wp2
    go_region_calls
    all_goals
      go_wp2
      go_end0
      exact ⟨rfl, rfl⟩
  · have hs := run_call_store (P := Try.prog) Try.func44 (by kernel_rfl) (by kernel_rfl) (by kernel_rfl) (by kernel_rfl) (k := .u32) (y := 1) (w := w.drew) (a := ⟨B, o, none⟩) (u := v) (by simpa using h) (by simpa using hf)
    go_enter Try.func33, Try.ntmps33
    go_wp2
    go_region_calls
    all_goals
      go_wp2
      go_end0
      exact ⟨rfl, rfl⟩

theorem at64Load (B o : Nat) (x : Int) (w : World) (h : w.cell? ⟨B, o, none⟩ = some (.int .u64 x)) :
    Calls Try.prog 30 #[.pointer (some ⟨B, o, none⟩)] w fun e w' => e = .returned (.int .u64 x) ∧ w' = w := by
  have hl := run_call_load (P := Try.prog) Try.func42 (by kernel_rfl) (by kernel_rfl) (by kernel_rfl) .u64 (by kernel_rfl) h
  go_enter Try.func30, Try.ntmps30
  go_wp2
  go_ret
  exact ⟨rfl, rfl⟩

theorem at64Add (B o n : Nat) (w : World) (h : w.cell? ⟨B, o, none⟩ = some (.int .u64 (n : Int))) (hf : w.frozen? ⟨B, o, none⟩ = false) (hn : n ≤ 1000000000) :
    Calls Try.prog 34 #[.pointer (some ⟨B, o, none⟩), .int .u64 1] w fun e w' => e = .returned (.int .u64 ((n + 1 : Nat) : Int)) ∧ w' = w.setCell ⟨B, o, none⟩ (.int .u64 ((n + 1 : Nat) : Int)) := by
  have hs : (Op.intArith .add .u64 (n : Int) 1).run Try.prog w = .ok (.int .u64 ((n + 1 : Nat) : Int)) w := by
    have e : IntKind.u64.wrap ((n : Int) + 1) = ((n + 1 : Nat) : Int) := by
      have := wrap64_nat (n + 1) (by omega)
      rw [Int.natCast_add] at this ⊢
      exact this
    simp [Op.intArith, e]
  have hl := run_call_add (P := Try.prog) Try.func46 (by kernel_rfl) (by kernel_rfl) (by kernel_rfl) .u64 (by kernel_rfl) h hf hs
  generalize (n + 1 : Nat) = m at *
  clear hs hn
  go_enter Try.func34, Try.ntmps34
  go_wp2
  go_ret
  exact ⟨rfl, rfl⟩
end Go.Proofs.Ytjmgodlefaadoaa
