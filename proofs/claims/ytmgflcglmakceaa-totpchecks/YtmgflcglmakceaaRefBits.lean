/- What the document's k256, bytes and words answer. -/
import Derived.Test.YtmgflcglmakceaaOwnW
import Derived.Test.YtmgflcglmakceaaSched
import Derived.Test.YtmgflcglmakceaaJ23
import Derived.Test.YtmgflcglmakceaaPad
namespace Go.Proofs.Ytmgflcglmakceaa
open Go.RowKit
attribute [local go_sem ↓] Go.wp_at_zero Go.wp_at_succ

theorem outB_four (ws : List UInt32) (k : Nat) : outB ws (4 * (k + 1)) = outB ws (4 * k) ++ [dgW ws (4 * k), dgW ws (4 * k + 1), dgW ws (4 * k + 2), dgW ws (4 * k + 3)] := by
  have e : 4 * (k + 1) = 4 * k + 1 + 1 + 1 + 1 := by omega
  rw [e, outB_succ, outB_succ, outB_succ, outB_succ]; simp
theorem wrap8_mod (x : Int) : IntKind.u8.wrap x = x % 256 := by simp [IntKind.wrap, IntKind.signed, IntKind.bits]
theorem dgB_four (ws : List UInt32) (k : Nat) :
    IntKind.u8.wrap (((nthW ws k).toNat : Int) / 16777216) = ((dgW ws (4 * k)).toNat : Int) ∧ IntKind.u8.wrap (((nthW ws k).toNat : Int) / 65536) = ((dgW ws (4 * k + 1)).toNat : Int) ∧ IntKind.u8.wrap (((nthW ws k).toNat : Int) / 256) = ((dgW ws (4 * k + 2)).toNat : Int) ∧ IntKind.u8.wrap ((nthW ws k).toNat : Int) = ((dgW ws (4 * k + 3)).toNat : Int) := by
  have h : ∀ r, r < 4 → ((nthW ws k).toNat : Int) / 2 ^ (24 - 8 * r) % 256 = ((dgW ws (4 * k + r)).toNat : Int) := by
    intro r hr
    have := dgW_val ws (4 * k + r)
    rw [show (4 * k + r) / 4 = k by omega, show (4 * k + r) % 4 = r by omega] at this
    exact this
  rw [wrap8_mod, wrap8_mod, wrap8_mod, wrap8_mod]
  refine ⟨h 0 (by omega), h 1 (by omega), h 2 (by omega), ?_⟩
  have := h 3 (by omega)
  simpa using this

set_option maxRecDepth 20000 in
set_option maxHeartbeats 1000000 in
theorem refBytes (a : Option Addr) (len cap : Nat) (ws : List UInt32) (w : World) (h : IsW w a len cap ws) (hl : len ≤ 8) :
    Calls Try.prog 39 #[.slice a len cap] w fun e w' => ∃ v, e = .returned v ∧ OwnB w' w.heap.size v (outB ws (4 * len)) ∧ Below w.heap.size w w' := by
  have H : Hid (IsW w a len cap ws) := h
  have hle := h.le
  clear h
  go_enter Try.func39, Try.ntmps39
  go_wp2
  go_loopw [3, 4] (fun v i wr => ∃ k : Nat, k ≤ len ∧ i = .int .i64 k ∧ OwnB wr w.heap.size v (outB ws (4 * k)) ∧ Below w.heap.size w wr) (fun _ i _ => len - (intOf i).toNat)
  case atStart => exact ⟨0, Nat.zero_le _, rfl, OwnB.nil _ _, Below.refl _ _⟩
  case round =>
    obtain ⟨k, hk, rfl, hown, hbel⟩ := hrel
    by_cases hlt : k < len
    · obtain ⟨b0, o0, rfl, hc0⟩ := H.out.cells (by omega)
      have g0 := hc0 k hlt
      have gb : b0 < w.heap.size := cell_lt g0
      have g1 := (hbel.cell (p := ⟨b0, o0 + k, none⟩) gb).trans g0
      have gz : b0 < wr.heap.size := Nat.lt_of_lt_of_le gb hbel.size
      clear hc0 g0
      have hlt' : (k : Int) < (len : Int) := by omega
      have HO : Hid (outB ws (4 * (k + 1)) = outB ws (4 * k) ++ [dgW ws (4 * k), dgW ws (4 * k + 1), dgW ws (4 * k + 2), dgW ws (4 * k + 3)]) := outB_four ws k
      have HL : Hid ((outB ws (4 * k)).length = 4 * k) := outB_length ws (4 * k)
      obtain ⟨d0, d1, d2, d3⟩ := dgB_four ws k
      have u0 := (dgW ws (4 * k)).toNat_lt
      have HB := hown.blk
      go_wp2
      go_region_held3 (fun w' => w'.cell? ⟨b0, o0 + k, none⟩ = some (.int .u32 ((nthW ws k).toNat : Int)))
        (first | go_keep | (rw [hgrow.cell_far _ (by simp; omega) (fun e => by have := (HB _ e.symm).1; simp at this; omega)]; assumption))
        ((refine step_app8 _ (by rfl) _ _ (by rfl) w.heap.size _ (outB ws (4 * k)) (by rfl) ((hown.alloc _).heap rfl) wr.heap.size 4 4 [dgW ws (4 * k), dgW ws (4 * k + 1), dgW ws (4 * k + 2), dgW ws (4 * k + 3)] (by rfl) (by rfl) (heap_alloc_new wr _) (by omega) (by rw [HL.out]; omega) (by have := hbel.size; simp; omega) (wr.heap.size + 1) (by simp) ?_; intro gg cap w1 hown1 hgrow hat hlt1))
      all_goals
        go_wp2
        go_roundw
        case rel => exact ⟨k + 1, by omega, by go_num, by rw [HO.out]; exact hown1, ((hbel.alloc hbel.size _).drew).grown hgrow (by have := hbel.size; simp; omega) (fun j hj => (HB j hj).1)⟩
        case measure => simp [intOf]; omega
    · have e : k = len := by omega
      rw [e] at hown
      go_wp2
      go_ret
      exact ⟨_, rfl, hown, hbel⟩
end Go.Proofs.Ytmgflcglmakceaa
