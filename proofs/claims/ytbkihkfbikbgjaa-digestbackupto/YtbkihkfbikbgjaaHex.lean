/- What digest.Hex and the document's Hex answer, of any slice of bytes. -/
import Derived.Test.YtbkihkfbikbgjaaOwn
namespace Go.Proofs.Ytbkihkfbikbgjaa
open Go.RowKit
attribute [local go_sem ↓] Go.wp_at_zero Go.wp_at_succ

/-- the two halves of a byte, and the digit of a half -/
def hiN (x : UInt8) : Nat := x.toNat / 16
def loN (x : UInt8) : Nat := x.toNat % 16
def dg (n : Nat) : UInt8 := nth [48, 49, 50, 51, 52, 53, 54, 55, 56, 57, 97, 98, 99, 100, 101, 102] n

theorem hiN_lt (x : UInt8) : hiN x < 16 := by have := x.toNat_lt; unfold hiN; omega
theorem loN_lt (x : UInt8) : loN x < 16 := by unfold loN; omega
theorem div_hiN (x : UInt8) : (x.toNat : Int) / 16 = (hiN x : Int) := by unfold hiN; omega
theorem mod_loN (x : UInt8) : (x.toNat : Int) % 16 = (loN x : Int) := by unfold loN; omega
theorem and_loN (x : UInt8) : bits .and .u8 (x.toNat : Int) 15 = (loN x : Int) := by
  have h := bits_and8 x 15
  have e : (x &&& 15).toNat = loN x := by
    rw [UInt8.toNat_and]; unfold loN
    exact Nat.and_two_pow_sub_one_eq_mod x.toNat 4
  rw [e] at h; exact h

theorem dg_at (n : Nat) (h : n < 16) (hp : n < (ByteArray.mk #[48, 49, 50, 51, 52, 53, 54, 55, 56, 57, 97, 98, 99, 100, 101, 102]).size) : (ByteArray.mk #[48, 49, 50, 51, 52, 53, 54, 55, 56, 57, 97, 98, 99, 100, 101, 102])[n]'hp = dg n := by
  have : n = 0 ∨ n = 1 ∨ n = 2 ∨ n = 3 ∨ n = 4 ∨ n = 5 ∨ n = 6 ∨ n = 7 ∨ n = 8 ∨ n = 9 ∨ n = 10 ∨ n = 11 ∨ n = 12 ∨ n = 13 ∨ n = 14 ∨ n = 15 := by omega
  rcases this with rfl | rfl | rfl | rfl | rfl | rfl | rfl | rfl | rfl | rfl | rfl | rfl | rfl | rfl | rfl | rfl <;> rfl

theorem ix (n : Nat) (h : n < 16) (u : World) : (Instr.index 9 (.string (ByteArray.mk #[48, 49, 50, 51, 52, 53, 54, 55, 56, 57, 97, 98, 99, 100, 101, 102])) (.int .u8 (n : Int))).run Try.prog u = .ok (.int .u8 ((dg n).toNat : Int)) u := by
  have hs : (ByteArray.mk #[48, 49, 50, 51, 52, 53, 54, 55, 56, 57, 97, 98, 99, 100, 101, 102]).size = 16 := rfl
  rw [run_index_string u 9 _ .u8 (n : Int) Try.underlying9]
  rw [dif_pos ⟨by omega, by rw [hs]; omega⟩]
  have := dg_at n h (by rw [hs]; exact h)
  simp only [Int.toNat_natCast, this]

def hexL : List UInt8 → List UInt8
  | [] => []
  | x :: l => dg (hiN x) :: dg (loN x) :: hexL l
theorem hexL_append (l m : List UInt8) : hexL (l ++ m) = hexL l ++ hexL m := by
  induction l with
  | nil => rfl
  | cons x l ih => simp only [List.cons_append, hexL, ih]
theorem hexL_length (l : List UInt8) : (hexL l).length = 2 * l.length := by
  induction l with
  | nil => rfl
  | cons x l ih => simp only [hexL, List.length_cons, ih]; omega
theorem take_nth (l : List UInt8) (k : Nat) (h : k < l.length) : l.take (k + 1) = l.take k ++ [nth l k] := by
  rw [nth_eq l k h, List.take_append_getElem]
theorem hexL_take (l : List UInt8) (k : Nat) (h : k < l.length) : hexL (l.take (k + 1)) = hexL (l.take k) ++ [dg (hiN (nth l k)), dg (loN (nth l k))] := by
  rw [take_nth l k h, hexL_append]; rfl
theorem hexL_take_length (l : List UInt8) (k : Nat) (h : k ≤ l.length) : (hexL (l.take k)).length = 2 * k := by
  rw [hexL_length, List.length_take]; omega
attribute [local go_sem ↓] ix

/-- string(b), of bytes that the call owns -/
theorem conv_own (w : World) (base : Nat) (v : Value) (l : List UInt8) (h : OwnB w base v l) : (convert 22 9 v).run Try.prog w = .ok (.string ⟨l.toArray⟩) w := by
  obtain ⟨a, cap, rfl, hb⟩ := h.isB
  by_cases hl : 0 < l.length
  · obtain ⟨b, off, rfl, hc⟩ := hb.cells hl
    refine run_convert_bytes_back w 22 9 5 ⟨b, off, none⟩ cap l Try.underlying22 Try.underlying5 Try.underlying9 fun j hj => ?_
    rw [Addr.add_lit, hc j hj, nth_eq l j hj]
  · have : l = [] := List.eq_nil_of_length_eq_zero (by omega)
    subst this
    cases a with
    | none => exact run_convert_bytes_nil w 22 5 Try.underlying22 Try.underlying5 _ _ _ Try.underlying9
    | some x => exact run_convert_bytes_back w 22 9 5 x cap [] Try.underlying22 Try.underlying5 Try.underlying9 fun j hj => absurd hj (Nat.not_lt_zero _)

theorem ret_str {a b : List UInt8} (h : a = b) : Ending.returned (.string ⟨a.toArray⟩) = .returned (.string ⟨b.toArray⟩) := by rw [h]

set_option maxHeartbeats 400000 in
theorem digHex (a0 : Option Addr) (len0 cap0 : Nat) (l : List UInt8) (w : World) (w0 : IsB w a0 len0 cap0 l) (hs : len0 ≤ 70368744177664) :
    Calls Try.prog 21 #[.slice a0 len0 cap0] w fun e w' => e = .returned (.string ⟨(hexL l).toArray⟩) ∧ Below w.heap.size w w' := by
  have hl0 := w0.le
  have hm0 := w0.max
  have e0 : Hid (l.length = len0) := w0.len_eq
  have c0 : Hid (IsB w a0 len0 cap0 l) := w0
  clear w0
  unfold maxLen at hm0
  go_enter Try.func21, Try.ntmps21
  go_wp2_with (at_make; refine make_own8 _ rfl _ _ rfl w.heap.size .i64 .i64 _ (2 * len0) rfl rfl (by omega) (by omega) (Nat.le_refl _) ?_; intro w1 hown1 hgrow1)
  go_loopw [3, 12] (fun v i wr => ∃ k : Nat, k ≤ len0 ∧ i = .int .i64 k ∧ OwnB wr w.heap.size v (hexL (l.take k)) ∧ Below w.heap.size w wr) (fun _ i _ => len0 - (intOf i).toNat)
  case atStart => exact ⟨0, Nat.zero_le _, rfl, hown1, (Below.refl _ _).grown hgrow1 (Nat.le_refl _) (fun k h => by cases h)⟩
  case round =>
    obtain ⟨k, hk, rfl, hown, hbel⟩ := hrel
    by_cases hlt : k < len0
    · obtain ⟨b0, o0, rfl, hc0⟩ := c0.out.cells (by omega)
      have g0 := hc0 k hlt
      have gb : b0 < w.heap.size := cell_lt g0
      have g1 := (hbel.cell (p := ⟨b0, o0 + k, none⟩) gb).trans g0
      clear hc0 hown1 hgrow1
      have hlt' : (k : Int) < (len0 : Int) := by omega
      have hq := div_hiN (nth l k)
      have hb := and_loN (nth l k)
      have hq1 := hiN_lt (nth l k)
      have hb1 := loN_lt (nth l k)
      have HT : Hid (hexL (l.take (k + 1)) = hexL (l.take k) ++ [dg (hiN (nth l k)), dg (loN (nth l k))]) := hexL_take l k (by rw [e0.out]; exact hlt)
      have HL : Hid ((hexL (l.take k)).length = 2 * k) := hexL_take_length l k (by rw [e0.out]; exact hk)
      have HB := hown.blk
      go_wp2
      go_region_held3 (fun w' => True) (trivial)
        ((refine step_app8 _ (by rfl) _ _ (by rfl) w.heap.size _ (hexL (l.take k)) (by rfl) ((hown.alloc _).heap rfl) wr.heap.size 2 2 [dg (hiN (nth l k)), dg (loN (nth l k))] (by rfl) (by rfl) (heap_alloc_new wr _) (by omega) (by rw [HL.out]; omega) (by have := hbel.size; simp; omega) (wr.heap.size + 1) (by simp) ?_; intro gg cap w1 hown1 hgrow hat hlt1))
      all_goals
        go_wp2
        go_roundw
        case rel => exact ⟨k + 1, by omega, by go_num, by rw [HT.out]; exact hown1, ((hbel.alloc hbel.size _).drew).grown hgrow (by have := hbel.size; simp; omega) (fun j hj => (HB j hj).1)⟩
        case measure => simp [intOf]; omega
    · have hcv := conv_own wr w.heap.size _ _ hown
      go_wp2
      go_ret
      have : k = len0 := by omega
      subst this
      exact ⟨ret_str (by rw [List.take_of_length_le (by rw [e0.out]; exact Nat.le_refl _)]), hbel⟩
end Go.Proofs.Ytbkihkfbikbgjaa
