/- What the statements' Own answers. -/
import Derived.Test.YtihfpoclflppnaaDoorOwnR
import Derived.Deep.RegionHeld3
namespace Go.Proofs.YtihfpoclflppnaaDoor
open Go.RowKit
attribute [local go_sem ↓] Go.wp_at_zero Go.wp_at_succ

set_option maxRecDepth 20000 in
set_option maxHeartbeats 4000000 in
theorem lawOwn8 (a : Option Addr) (n cap : Nat) (l : List Ru) (w : World) (h : IsRs w a n cap l) (hn : n ≤ 100000) :
    Calls Tryd.prog 14 #[.slice a n cap] w fun e w' => ∃ v, e = .returned v ∧ OwnR 37 w' w.heap.size v l ∧ Below w.heap.size w w' := by
  have H : Hid (IsRs w a n cap l) := h
  have HL : Hid (l.length = n) := h.len_eq
  clear h
  go_enter Tryd.func14, Tryd.ntmps14
  go_wp2
  go_loopw [3, 4] (fun v i wr => ∃ k : Nat, k ≤ n ∧ i = .int .i64 (k : Int) ∧ OwnR 37 wr w.heap.size v (l.take k) ∧ Below w.heap.size w wr) (fun _ i _ => n - (intOf i).toNat)
  case atStart => exact ⟨0, Nat.zero_le _, rfl, OwnR.nil _ _ _, Below.refl _ _⟩
  case round =>
    obtain ⟨k, hk, rfl, hown, hbel⟩ := hrel
    by_cases hlt : k < n
    · have hlt' : (k : Int) < (n : Int) := by omega
      have HKL : Hid (k < l.length) := by unfold Hid; rw [HL.out]; exact hlt
      obtain ⟨b, off, rfl, hc⟩ := H.out.cells (by omega)
      have gb : b < w.heap.size := cell_lt (hc k hlt).1
      have hR := (hc k hlt).below hbel gb
      obtain ⟨R, hRR⟩ : ∃ R, R = nthR l k := ⟨_, rfl⟩
      rw [← hRR] at hR
      have HS : Hid (l.take (k + 1) = l.take k ++ [R]) := by unfold Hid; rw [takeR l k HKL.out, hRR]
      have HLk : Hid ((l.take k).length = k) := by unfold Hid; rw [List.length_take, HL.out]; omega
      have gz : b < wr.heap.size := Nat.lt_of_lt_of_le gb hbel.size
      clear hRR hc
      obtain ⟨c0, c1, c2, c3⟩ := hR
      obtain ⟨dn, hdn⟩ : ∃ dn, dn = R.deny := ⟨_, rfl⟩
      obtain ⟨S1, hS1⟩ : ∃ S1, S1 = str R.who := ⟨_, rfl⟩
      obtain ⟨S2, hS2⟩ : ∃ S2, S2 = str R.act := ⟨_, rfl⟩
      obtain ⟨S3, hS3⟩ : ∃ S3, S3 = str R.res := ⟨_, rfl⟩
      rw [← hdn] at c0
      rw [← hS1] at c1
      rw [← hS2] at c2
      rw [← hS3] at c3
      have hbb : ∀ o : Obj, o = .cells #[.bool dn, .string S1, .string S2, .string S3] 37 → (wr.alloc o).heap[wr.heap.size]? = some (.cells (ruc R).toArray 37 (0, 0)) := fun o ho => by
        rw [ho, hdn, hS1, hS2, hS3]; exact heap_alloc_new wr _
      have HB := hown.blk
      have hbs := hbel.size
      clear hdn hS1 hS2 hS3
      generalize l.take k = q at *
      go_wp2
      go_region_held3 (fun w' => w'.cell? ⟨b, off + k * 4, none⟩ = some (.bool dn) ∧ w'.cell? ⟨b, off + k * 4 + 1, none⟩ = some (.string S1) ∧ w'.cell? ⟨b, off + k * 4 + 2, none⟩ = some (.string S2) ∧ w'.cell? ⟨b, off + k * 4 + 3, none⟩ = some (.string S3))
        ((go_split_ands; refine ⟨?_, ?_, ?_, ?_⟩ <;> (first | go_keep | (rw [hgrow.cell_far _ (by simp; omega) (fun e => by have := (HB _ e.symm).1; simp at this; omega)]; assumption))))
        ((refine step_appR 25 37 Tryd.underlying25 infoPol8 _ (by rfl) _ _ (by rfl) w.heap.size _ q (by rfl) ((hown.alloc _).heap rfl) wr.heap.size R (by rfl) (hbb _ (by first | rfl | (simp; done))) (by rw [HLk.out]; omega) (by simp; omega) (wr.heap.size + 1) (by simp) ?_; intro gg cap w1 hown1 hgrow hat hlt1))
      all_goals
        go_wp2
        go_roundw
        case rel => exact ⟨k + 1, by omega, by go_num, by rw [HS.out]; exact hown1, ((hbel.alloc hbel.size _).drew).grown hgrow (by simp; omega) (fun j hj => (HB j hj).1)⟩
        case measure => simp [intOf]; omega
    · have hge : ¬ (k : Int) < (n : Int) := by omega
      have e : l.take k = l := List.take_of_length_le (by rw [HL.out]; omega)
      rw [e] at hown
      clear e
      go_wp2
      go_ret
      exact ⟨_, rfl, hown, hbel⟩
end Go.Proofs.YtihfpoclflppnaaDoor
