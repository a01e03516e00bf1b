/- Retention, plain, and what the program and the document say of one: keeps, Right, Active, Covers, stands. -/
import Derived.Test.YtjmkfkkkjcjplaaBlk
import Derived.Test.YtjmkfkkkjcjplaaRet
namespace Go.Proofs.Ytjmkfkkkjcjplaa
open Go.RowKit

/-- a mode that keeps -/
def kpM (m : Int) : Bool := m == 1 || m == 2
/-- the cells of a retention -/
def rtc (m : Int) (u : Nat) : List Value := [.int .i64 m, .int .u64 (u : Int)]
def rightK (m : Int) (u t : Nat) : Bool := if kpM m then decide (t < u) && decide (u ≤ 253402300799) else decide (m = 0) && ((u : Int) == 0)
def activeK (m : Int) (u t : Nat) : Bool := kpM m && decide (t < u)
def coversK (m : Int) (u : Nat) (n : Int) (v : Nat) : Bool := decide (n = 0) || (decide (n ≤ m) && decide (v ≤ u))
def standsK (m : Int) (u t : Nat) (b : Bool) : Bool := activeK m u t && !(b && m != 2)
attribute [local go_sem] undef

theorem two_below (w : World) (o p : Obj) : Below w.heap.size w ((w.alloc o).alloc p) := by
  have h1 : Below w.heap.size w (w.alloc o) := (Below.refl _ w).alloc (Nat.le_refl _) _
  exact h1.alloc h1.size _
theorem codKeeps (m : Int) (w : World) :
    Calls Try.prog 26 #[.int .i64 m] w fun e w' => e = .returned (.bool (kpM m)) ∧ w' = w := by
  unfold kpM
  go_enter Try.func26, Try.ntmps26
  go_wp2_with fail
  all_goals go_ret
  all_goals exact ⟨ret_b (by simp_all), rfl⟩
theorem refKeeps (m : Int) (w : World) :
    Calls Try.prog 18 #[.int .i64 m] w fun e w' => e = .returned (.bool (kpM m)) ∧ w' = w := by
  unfold kpM
  go_enter Try.func18, Try.ntmps18
  go_wp2_with fail
  all_goals go_ret
  all_goals exact ⟨ret_b (by simp_all), rfl⟩
theorem codYields (m : Int) (b : Bool) (w : World) :
    Calls Try.prog 25 #[.int .i64 m, .bool b] w fun e w' => e = .returned (.bool (b && m != 2)) ∧ w' = w := by
  go_enter Try.func25, Try.ntmps25
  go_wp2_with fail
  all_goals go_ret
  all_goals exact ⟨ret_b (by simp_all), rfl⟩
theorem codActive (m : Int) (u t : Nat) (w : World) :
    Calls Try.prog 24 #[.agg #[.int .i64 m, .int .u64 (u : Int)], .int .u64 (t : Int)] w fun e w' => e = .returned (.bool (activeK m u t)) ∧ Below w.heap.size w w' := by
  have hY : ∀ cs, Below w.heap.size w (w.alloc (.cells cs 35)) := fun _ => (Below.refl _ w).alloc (Nat.le_refl _) _
  have HK := codKeeps m
  unfold activeK
  generalize kpM m = K at *
  go_enter Try.func24, Try.ntmps24
  go_wp2_with (refine (HK _).mono ?_; rintro e y1 ⟨rfl, rfl⟩)
  all_goals go_ret
  all_goals exact ⟨ret_b (by (try clear HK); first | rfl | (rw [Bool.eq_iff_iff]; simp; omega) | (simp_all; done)), hY _⟩
theorem refActive (m : Int) (u t : Nat) (w : World) :
    Calls Try.prog 13 #[.agg #[.int .i64 m, .int .u64 (u : Int)], .int .u64 (t : Int)] w fun e w' => e = .returned (.bool (activeK m u t)) ∧ Below w.heap.size w w' := by
  have hY : ∀ cs, Below w.heap.size w (w.alloc (.cells cs 35)) := fun _ => (Below.refl _ w).alloc (Nat.le_refl _) _
  have HK := refKeeps m
  unfold activeK
  generalize kpM m = K at *
  go_enter Try.func13, Try.ntmps13
  go_wp2_with (refine (HK _).mono ?_; rintro e y1 ⟨rfl, rfl⟩)
  all_goals go_ret
  all_goals exact ⟨ret_b (by (try clear HK); first | rfl | (rw [Bool.eq_iff_iff]; simp; omega) | (simp_all; done)), hY _⟩
end Go.Proofs.Ytjmkfkkkjcjplaa
