/- A text's bytes one by one. -/
import Derived.Test.YtmgflcglmakceaaBase
namespace Go.Proofs.Ytmgflcglmakceaa
def sb (s : ByteArray) (i : Int) : UInt8 := nth s.data.toList i.toNat

theorem ixs (s : ByteArray) (i : Int) (h0 : 0 ≤ i) (h1 : i < (s.size : Int)) (u : World) : (Instr.index 9 (.string s) (.int .i64 i)).run Try.prog u = .ok (.int .u8 ((sb s i).toNat : Int)) u := by
  rw [run_index_string u 9 _ .i64 i Try.underlying9]
  rw [dif_pos ⟨h0, h1⟩]
  have : i.toNat < s.data.toList.length := by have : s.data.toList.length = s.size := by rw [Array.length_toList]; rfl
                                              omega
  unfold sb
  rw [nth_eq _ _ this]
  rfl
end Go.Proofs.Ytmgflcglmakceaa
