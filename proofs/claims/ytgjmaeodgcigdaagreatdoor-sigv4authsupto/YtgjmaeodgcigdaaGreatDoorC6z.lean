/- stelelaw06.texts, of two slices of the same texts. -/
import Derived.Test.YtgjmaeodgcigdaaGreatDoorS6a
namespace Go.Proofs.YtgjmaeodgcigdaaGreatDoor
open Go.RowKit

set_option maxRecDepth 20000 in
set_option maxHeartbeats 2000000 in
theorem lawTexts (a1 : Option Addr) (c1 : Nat) (a2 : Option Addr) (c2 n : Nat) (l : List (List UInt8)) (w : World) (h1 : IsT w a1 n c1 l) (h2 : IsT w a2 n c2 l) :
    Calls Tryz.prog 21 #[.slice a1 n c1, .slice a2 n c2] w fun e w' => e = .returned (.bool true) ∧ Below w.heap.size w w' := by
  have hn : n ≤ 9223372036854775807 := by have := h1.le; have := h1.max; unfold maxLen at this; omega
  have H1 : Hid (IsT w a1 n c1 l) := h1
  have H2 : Hid (IsT w a2 n c2 l) := h2
  have hnn : ((n : Int) != (n : Int)) = false := by simp
  clear h1 h2
  go_enter Tryz.func21, Tryz.ntmps21
  go_wp2
  go_loopw [5] (fun i wr => ∃ (k : Nat), k ≤ n ∧ i = .int .i64 k ∧ Hid (Below w.heap.size w wr)) (fun i _ => n - (intOf i).toNat)
  case atStart => exact ⟨0, Nat.zero_le _, rfl, Below.refl _ _⟩
  case round =>
    obtain ⟨k, hk, rfl, HWR⟩ := hrel
    by_cases hlt : k < n
    · obtain ⟨b1, o1, rfl, hc1⟩ := H1.out.cells (by omega)
      obtain ⟨b2, o2, rfl, hc2⟩ := H2.out.cells (by omega)
      have g1 : wr.cell? ⟨b1, o1 + k, none⟩ = some (.string (str (nthT l k))) := (HWR.out.cell (p := ⟨b1, o1 + k, none⟩) (cell_lt (hc1 k hlt))).trans (hc1 k hlt)
      have g2 : wr.cell? ⟨b2, o2 + k, none⟩ = some (.string (str (nthT l k))) := (HWR.out.cell (p := ⟨b2, o2 + k, none⟩) (cell_lt (hc2 k hlt))).trans (hc2 k hlt)
      have hp0 : (0 : Int) ≤ (k : Int) := by omega
      have hp1 : (k : Int) < (n : Int) := by omega
      clear hc1 hc2
      generalize str (nthT l k) = s at *
      go_wp2
      go_quiet (fail)
      go_wp2
      go_roundw
      case rel => exact ⟨k + 1, by omega, by go_num, bel_drewN HWR.out _⟩
      case measure => simp [intOf]; omega
    · have hge : ¬ (k : Int) < (n : Int) := by omega
      go_wp2
      go_ret
      exact ⟨rfl, HWR.out⟩
end Go.Proofs.YtgjmaeodgcigdaaGreatDoor
