/- What the document's leap, days, ahead answer, of years that are no longer than 9999. What the document's Pad answers: a number by so many digits. -/
import Derived.Test.YtmgflcglmakceaaJ13
import Derived.Laws.IdiomStrings
namespace Go.Proofs.Ytmgflcglmakceaa
open Go.RowKit

end Go.Proofs.Ytmgflcglmakceaa
namespace Go.Proofs.Ytmgflcglmakceaa
open Go.RowKit

theorem conv1 (w : World) (c : UInt8) : (convert 22 9 (.slice (some { block := w.heap.size, off := 0 }) 1 1)).run Try.prog (w.alloc (Obj.cells #[.int .u8 (c.toNat : Int)] 5)) = .ok (.string ⟨#[c]⟩) (w.alloc (Obj.cells #[.int .u8 (c.toNat : Int)] 5)) := by
  refine run_convert_bytes_back _ 22 9 5 ⟨w.heap.size, 0, none⟩ 1 [c] Try.underlying22 Try.underlying5 Try.underlying9 fun j hj => ?_
  have : j = 0 := by simpa using hj
  subst this
  simp only [World.cell?, Addr.add, if_true]
  rw [heap_alloc_new]
  rfl

set_option maxHeartbeats 400000 in
theorem refPadN (n k : Nat) (w : World) (hn : n ≤ 1000000) (hk : k ≤ 100) :
    Calls Try.prog 23 #[.int .i64 (n : Int), .int .i64 (k : Int)] w fun e w' => e = .returned (.string ⟨(dgs k n).toArray⟩) ∧ Below w.heap.size w w' := by
  go_enter Try.func23, Try.ntmps23
  go_wp2
  go_loopw [0, 5, 6] (fun nn s i wr => ∃ j q : Nat, j ≤ k ∧ Hid (q = n / 10 ^ j) ∧ q ≤ 1000000 ∧ nn = .int .i64 (q : Int) ∧ s = .string ⟨(dgs j n).toArray⟩ ∧ i = .int .i64 (j : Int) ∧ Below w.heap.size w wr) (fun _ _ i _ => k - (intOf i).toNat)
  case atStart => exact ⟨0, n, by omega, by simp [Hid], hn, rfl, rfl, rfl, Below.refl _ _⟩
  case round =>
    obtain ⟨j, q, hj, hq, hq2, rfl, rfl, rfl, hbel⟩ := hrel
    have HL : (dgs j n).length = j := dgs_length j n
    by_cases hlt : j < k
    · obtain ⟨c, hc⟩ : ∃ c, c = dgt q := ⟨_, rfl⟩
      have hc1 : 48 + (q : Int) % 10 = (c.toNat : Int) := by rw [hc, dgt_toNat]; omega
      have hc2 := wrap8_nat c.toNat c.toNat_lt
      have HS : Hid (dgs (j + 1) n = c :: dgs j n) := by unfold Hid; rw [dgs_cons, ← hq.out, hc]
      have Hq : Hid (q / 10 = n / 10 ^ (j + 1)) := by unfold Hid; rw [Nat.pow_succ, ← Nat.div_div_eq_div_mul, ← hq.out]
      have hcv := conv1 wr c
      clear hc
      go_wp2
      go_roundw
      case rel => exact ⟨j + 1, q / 10, by omega, Hq.out, by omega, by go_num, by rw [HS.out]; exact congrArg Value.string (ByteArray.mk_append_mk [c] (dgs j n)), by go_num, hbel.alloc hbel.size _⟩
      case measure => simp [intOf]; omega
    · go_wp2
      go_ret
      have : j = k := by omega
      subst this
      exact ⟨rfl, hbel⟩
end Go.Proofs.Ytmgflcglmakceaa
