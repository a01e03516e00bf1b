/- The statements' own: a sector's bytes, the bytes of a call. -/
import Derived.Test.YtjmgodlefaadoaaDk2
namespace Go.Proofs.Ytjmgodlefaadoaa
open Go.RowKit

/-- a sector filled by a byte, and another one at a place -/
def secL (by' odd : UInt8) : List UInt8 := (List.replicate 512 by').set odd.toNat odd
theorem secL_len (a b : UInt8) : (secL a b).length = 512 := by rw [secL, List.length_set, List.length_replicate]
/-- how far it is filled -/
def secTo (a : UInt8) (k : Nat) : List UInt8 := List.replicate k a ++ List.replicate (512 - k) 0
theorem secTo_len (a : UInt8) (k : Nat) (h : k ≤ 512) : (secTo a k).length = 512 := by simp [secTo]; omega
theorem secTo_set (a : UInt8) (k : Nat) (h : k < 512) : (secTo a k).set k a = secTo a (k + 1) := by
  unfold secTo
  rw [List.set_append_right _ _ (by simp), List.length_replicate, Nat.sub_self]
  have e : 512 - k = (512 - (k + 1)) + 1 := by omega
  rw [e, List.replicate_succ, List.set_cons_zero, List.replicate_succ', List.append_assoc]
  rfl
theorem secTo_all (a b : UInt8) : (secTo a 512).set b.toNat b = secL a b := by unfold secTo secL; rw [Nat.sub_self, List.replicate_zero, List.append_nil]

set_option maxRecDepth 20000 in
set_option maxHeartbeats 1000000 in
theorem lawSector9 (a b : UInt8) (w : World) :
    Calls Try.prog 16 #[.int .u8 (a.toNat : Int), .int .u8 (b.toNat : Int)] w fun e w' => ∃ v, e = .returned v ∧ OwnB w' w.heap.size v (secL a b) ∧ Below w.heap.size w w' := by
  have hb256 : b.toNat < 256 := b.toNat_lt
  have hb512 : (b.toNat : Int) < 512 := by omega
  have hb0 : (0 : Int) ≤ (b.toNat : Int) := by omega
  go_enter Try.func16, Try.ntmps16
  go_wp2_with (at_make; refine make_full8 _ rfl _ _ rfl w.heap.size .i64 .i64 _ _ 512 rfl rfl (by omega) (by omega) (by omega) (Nat.le_refl _) ?_; intro w1 hown1 hgrow1)
  go_loopw [6] (fun i wr => ∃ k : Nat, k ≤ 512 ∧ i = .int .i64 k ∧ OwnB wr w.heap.size (.slice (some ⟨w.heap.size, 0, none⟩) 512 512) (secTo a k) ∧ Below w.heap.size w wr) (fun i _ => 512 - (intOf i).toNat)
  case atStart => exact ⟨0, Nat.zero_le _, rfl, hown1, (Below.refl _ _).grown hgrow1 (Nat.le_refl _) (fun k h => by cases h)⟩
  case round =>
    obtain ⟨k, hk, rfl, hown, hbel⟩ := hrel
    clear hown1 hgrow1
    by_cases hlt : k < 512
    · have hlt' : (k : Int) < 512 := by omega
      have hc := hown.cellAt (secTo_len a k hk) k hlt
      have hf := hown.frozenAt (secTo_len a k hk) k
      have HS : Hid (OwnB (wr.setCell ⟨w.heap.size, k, none⟩ (.int .u8 (a.toNat : Int))) w.heap.size (.slice (some ⟨w.heap.size, 0, none⟩) 512 512) (secTo a (k + 1))) := by
        have := hown.set (secTo_len a k hk) k a
        rw [secTo_set a k hlt] at this; exact this
      clear hown
      go_wp2
      go_roundw
      case rel => exact ⟨k + 1, by omega, by go_num, HS.out, hbel.setCell (Nat.le_refl _) _⟩
      case measure => simp [intOf]; omega
    · have hkn : k = 512 := by omega
      subst hkn
      have hc := hown.cellAt (secTo_len a 512 hk) b.toNat (by omega)
      have hf := hown.frozenAt (secTo_len a 512 hk) b.toNat
      have HS : Hid (OwnB (wr.setCell ⟨w.heap.size, b.toNat, none⟩ (.int .u8 (b.toNat : Int))) w.heap.size (.slice (some ⟨w.heap.size, 0, none⟩) 512 512) (secL a b)) := by
        have := hown.set (secTo_len a 512 hk) b.toNat b
        rw [secTo_all] at this; exact this
      clear hown
      go_wp2
      go_ret
      exact ⟨_, rfl, HS.out, hbel.setCell (Nat.le_refl _) _⟩
end Go.Proofs.Ytjmgodlefaadoaa
