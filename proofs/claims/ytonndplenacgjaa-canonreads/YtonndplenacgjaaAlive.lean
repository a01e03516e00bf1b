/- What the statements' alive answers, and a nil reader. -/
import Derived.Test.YtonndplenacgjaaRdr5
import Derived.Test.YtonndplenacgjaaCan
namespace Go.Proofs.Ytonndplenacgjaa
open Go.RowKit
attribute [local go_sem ↓] Go.wp_at_zero Go.wp_at_succ

theorem alive_text : (rdSome 115 [115, 0, 0, 0, 2, 97, 98] false) = ([97, 98], [], false) := by decide +kernel
theorem alive_len : (textL [] (sL ⟨#[97, 98]⟩)).length = 7 := by decide +kernel

set_option maxRecDepth 20000 in
set_option maxHeartbeats 1000000 in
theorem alive (w : World) : Calls Try.prog 16 #[] w fun e w' => e = .returned (.bool true) ∧ Below w.heap.size w w' := by
  go_enter Try.func16, Try.ntmps16
  go_wp2_with fail
  refine (cRead (some ⟨w.heap.size, 0, none⟩) 7 7 [115, 0, 0, 0, 2, 97, 98] _ (IsB.ofBlock [115, 0, 0, 0, 2, 97, 98] (by decide) (heap_alloc_new _ _)) (by omega)).mono ?_
  rintro e w1 ⟨B, rfl, hB, hr, hb⟩
  have b0 : Below w.heap.size w (w.alloc (.cells #[.int .u8 115, .int .u8 0, .int .u8 0, .int .u8 0, .int .u8 2, .int .u8 97, .int .u8 98] 5)) := (Below.refl _ _).alloc (Nat.le_refl _) _
  have b1 : Below w.heap.size w w1 := b0.trans (hb.mono b0.size)
  have hB0 : w.heap.size ≤ B := Nat.le_trans b0.size hB
  clear hB hb b0
  go_wp2_with fail
  refine (cText B _ _ _ hr).mono ?_
  rintro e w2 ⟨rfl, hr2, hg2⟩
  rw [alive_text] at hr2 ⊢
  have b2 : Below w.heap.size w w2 := b1.grown hg2 b1.size (fun k hk => by injection hk with hk; omega)
  go_wp2_with fail
  refine (cDone B _ _ _ hr2).mono ?_
  rintro e w3 ⟨rfl, hw⟩
  rw [hw, show doneN [] false = 0 by decide]; clear hw w3
  go_wp2_with fail
  refine (canText none 0 0 [] ⟨#[97, 98]⟩ w2 (isB_none w2) (by omega) (by decide)).mono ?_
  rintro e w4 ⟨v4, rfl, o4, b4⟩
  obtain ⟨x, c, hv, hi⟩ := o4.isB
  rw [alive_len] at hv
  subst hv
  go_wp2_with fail
  go_ret
  exact ⟨rfl, b2.trans (b4.mono b2.size)⟩

/-! the nil reader -/
set_option maxHeartbeats 1000000 in
theorem nmark (w : World) : Calls Try.prog 45 #[.pointer none] w fun e w' => e = .returned (.int .u8 0) ∧ w' = w := by
  go_enter Try.func45, Try.ntmps45
  go_wp2
  go_ret
  exact ⟨rfl, rfl⟩
set_option maxHeartbeats 1000000 in
theorem nfail (w : World) : Calls Try.prog 46 #[.pointer none] w fun e w' => e = .returned (.tuple #[]) ∧ w' = w := by
  go_enter Try.func46, Try.ntmps46
  go_wp2
  go_end0
  exact ⟨rfl, rfl⟩
set_option maxHeartbeats 1000000 in
theorem nhead (mark : Int) (size : Int) (w : World) (h : ¬ mark = 0) : Calls Try.prog 41 #[.pointer none, .int .u8 mark, .int .i64 size] w fun e w' => e = .returned (.tuple #[.int .u64 0, .bool false]) ∧ w' = w := by
  have hq : ((0 : Int) != mark) = true := by rw [bne_iff_ne]; omega
  go_enter Try.func41, Try.ntmps41
  go_wp2_with fail
  refine (nmark w).mono ?_
  rintro e w1 ⟨rfl, hw⟩
  rw [hw]; clear hw w1
  go_wp2_with fail
  refine (nfail w).mono ?_
  rintro e w1 ⟨rfl, hw⟩
  rw [hw]; clear hw w1
  go_wp2_with fail
  go_ret2
  exact ⟨rfl, rfl⟩
set_option maxHeartbeats 1000000 in
theorem nbody (mark : Int) (w : World) (h : ¬ mark = 0) : Calls Try.prog 43 #[.pointer none, .int .u8 mark] w fun e w' => e = .returned (.slice none 0 0) ∧ w' = w := by
  go_enter Try.func43, Try.ntmps43
  go_wp2_with fail
  refine (nhead mark 4 w h).mono ?_
  rintro e w1 ⟨rfl, hw⟩
  rw [hw]; clear hw w1
  go_wp2_with fail
  go_ret
  exact ⟨rfl, rfl⟩
set_option maxHeartbeats 1000000 in
theorem nUint (w : World) : Calls Try.prog 22 #[.pointer none] w fun e w' => e = .returned (.int .u64 0) ∧ w' = w := by
  go_enter Try.func22, Try.ntmps22
  go_wp2_with fail
  refine (nhead 117 8 w (by decide)).mono ?_
  rintro e w1 ⟨rfl, hw⟩
  rw [hw]; clear hw w1
  go_wp2_with fail
  go_ret
  exact ⟨rfl, rfl⟩
set_option maxHeartbeats 1000000 in
theorem nList (most : Int) (w : World) : Calls Try.prog 30 #[.pointer none, .int .i64 most] w fun e w' => e = .returned (.int .i64 0) ∧ w' = w := by
  go_enter Try.func30, Try.ntmps30
  go_wp2_with fail
  refine (nhead 108 4 w (by decide)).mono ?_
  rintro e w1 ⟨rfl, hw⟩
  rw [hw]; clear hw w1
  go_wp2_with fail
  go_ret
  exact ⟨rfl, rfl⟩
set_option maxHeartbeats 1000000 in
theorem nBytes (w : World) : Calls Try.prog 24 #[.pointer none] w fun e w' => ∃ a c, e = .returned (.slice a 0 c) ∧ Below w.heap.size w w' := by
  go_enter Try.func24, Try.ntmps24
  go_wp2_with fail
  refine (nbody 98 w (by decide)).mono ?_
  rintro e w1 ⟨rfl, hw⟩
  rw [hw]; clear hw w1
  go_wp2_with fail
  refine (cClone none 0 0 [] w (isB_none w) (by omega)).mono ?_
  rintro e w2 ⟨v, rfl, ho, hb⟩
  obtain ⟨a, c, rfl, _⟩ := ho.isB
  go_wp2_with fail
  go_ret
  exact ⟨a, c, rfl, hb⟩
set_option maxHeartbeats 1000000 in
theorem nText (w : World) : Calls Try.prog 26 #[.pointer none] w fun e w' => e = .returned (.string ⟨#[]⟩) ∧ w' = w := by
  have hcv := conv_isB w none 0 0 [] (isB_none w)
  go_enter Try.func26, Try.ntmps26
  go_wp2_with fail
  refine (nbody 115 w (by decide)).mono ?_
  rintro e w1 ⟨rfl, hw⟩
  rw [hw]; clear hw w1
  go_wp2_with fail
  go_ret
  exact ⟨rfl, rfl⟩
set_option maxHeartbeats 1000000 in
theorem nBool (w : World) : Calls Try.prog 28 #[.pointer none] w fun e w' => e = .returned (.bool false) ∧ w' = w := by
  go_enter Try.func28, Try.ntmps28
  go_wp2_with fail
  refine (nmark w).mono ?_
  rintro e w1 ⟨rfl, hw⟩
  rw [hw]; clear hw w1
  go_wp2_with fail
  refine (nfail w).mono ?_
  rintro e w1 ⟨rfl, hw⟩
  rw [hw]; clear hw w1
  go_wp2_with fail
  go_ret
  exact ⟨rfl, rfl⟩
set_option maxHeartbeats 1000000 in
theorem nLeft (w : World) : Calls Try.prog 32 #[.pointer none] w fun e w' => e = .returned (.int .i64 0) ∧ w' = w := by
  go_enter Try.func32, Try.ntmps32
  go_wp2
  go_ret
  exact ⟨rfl, rfl⟩
set_option maxHeartbeats 1000000 in
theorem nDone (w : World) : Calls Try.prog 33 #[.pointer none] w fun e w' => e = .returned (.int .i64 2) ∧ w' = w := by
  go_enter Try.func33, Try.ntmps33
  go_wp2
  go_ret
  exact ⟨rfl, rfl⟩
end Go.Proofs.Ytonndplenacgjaa
