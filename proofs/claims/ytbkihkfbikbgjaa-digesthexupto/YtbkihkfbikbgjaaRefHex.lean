/- What the document's Hex answers, of any slice of bytes. -/
import Derived.Test.YtbkihkfbikbgjaaHex
namespace Go.Proofs.Ytbkihkfbikbgjaa
open Go.RowKit
attribute [local go_sem ↓] Go.wp_at_zero Go.wp_at_succ ix

set_option maxHeartbeats 800000 in
theorem refHex (a0 : Option Addr) (len0 cap0 : Nat) (l : List UInt8) (w : World) (w0 : IsB w a0 len0 cap0 l) (hs : len0 ≤ 70368744177664) :
    Calls Try.prog 22 #[.slice a0 len0 cap0] w fun e w' => e = .returned (.string ⟨(hexL l).toArray⟩) ∧ Below w.heap.size w w' := by
  have hl0 := w0.le
  have hm0 := w0.max
  have e0 : Hid (l.length = len0) := w0.len_eq
  have c0 : Hid (IsB w a0 len0 cap0 l) := w0
  clear w0
  unfold maxLen at hm0
  go_enter Try.func22, Try.ntmps22
  go_wp2
  go_loopw [4, 5] (fun v i wr => ∃ k : Nat, k ≤ len0 ∧ i = .int .i64 k ∧ OwnB wr w.heap.size v (hexL (l.take k)) ∧ Below w.heap.size w wr) (fun _ i _ => len0 - (intOf i).toNat)
  case atStart => exact ⟨0, Nat.zero_le _, rfl, OwnB.nil _ _, Below.refl _ _⟩
  case round =>
    obtain ⟨k, hk, rfl, hown, hbel⟩ := hrel
    by_cases hlt : k < len0
    · obtain ⟨b0, o0, rfl, hc0⟩ := c0.out.cells (by omega)
      have g0 := hc0 k hlt
      have gb : b0 < w.heap.size := cell_lt g0
      have g1 := (hbel.cell (p := ⟨b0, o0 + k, none⟩) gb).trans g0
      have gz : b0 < wr.heap.size := Nat.lt_of_lt_of_le gb hbel.size
      clear hc0
      have hlt' : (k : Int) < (len0 : Int) := by omega
      have hlt0 : (0 : Int) ≤ (k : Int) := by omega
      have hx0 : (0 : Int) ≤ ((nth l k).toNat : Int) := by omega
      have hx1 : ((nth l k).toNat : Int) ≤ 255 := by have := (nth l k).toNat_lt; omega
      have hq := div_hiN (nth l k)
      have hw := wrap8_nat (hiN (nth l k)) (by have := hiN_lt (nth l k); omega)
      have hb : (((nth l k).toNat : Int)).tmod 16 = (loN (nth l k) : Int) := by rw [Int.tmod_eq_emod_of_nonneg (by omega)]; exact mod_loN _
      have hq1 := hiN_lt (nth l k)
      have hb1 := loN_lt (nth l k)
      have HT : Hid (hexL (l.take (k + 1)) = hexL (l.take k) ++ [dg (hiN (nth l k)), dg (loN (nth l k))]) := hexL_take l k (by rw [e0.out]; exact hlt)
      have HL : Hid ((hexL (l.take k)).length = 2 * k) := hexL_take_length l k (by rw [e0.out]; exact hk)
      have HB := hown.blk
      go_wp2
      go_region_held3 (fun w' => w'.cell? ⟨b0, o0 + k, none⟩ = some (.int .u8 ((nth l k).toNat : Int)))
        (first | go_keep | (rw [hgrow.cell_far _ (by simp; omega) (fun e => by have := (HB _ e.symm).1; simp at this; omega)]; assumption))
        ((refine step_app8 _ (by rfl) _ _ (by rfl) w.heap.size _ (hexL (l.take k)) (by rfl) ((hown.alloc _).heap rfl) wr.heap.size 2 2 [dg (hiN (nth l k)), dg (loN (nth l k))] (by rfl) (by rfl) (heap_alloc_new wr _) (by omega) (by rw [HL.out]; omega) (by have := hbel.size; simp; omega) (wr.heap.size + 1) (by simp) ?_; intro gg cap w1 hown1 hgrow hat hlt1))
      all_goals
        go_wp2
        go_roundw
        case rel => exact ⟨k + 1, by omega, by go_num, by rw [HT.out]; exact hown1, ((hbel.alloc hbel.size _).drew).grown hgrow (by have := hbel.size; simp; omega) (fun j hj => (HB j hj).1)⟩
        case measure => simp [intOf]; omega
    · have hcv := conv_own wr w.heap.size _ _ hown
      go_wp2
      go_ret
      have : k = len0 := by omega
      subst this
      exact ⟨ret_str (by rw [List.take_of_length_le (by rw [e0.out]; exact Nat.le_refl _)]), hbel⟩
end Go.Proofs.Ytbkihkfbikbgjaa
