/- What rounds256 and mix256 answer. -/
import Derived.Test.YtabblgompnmmeaaSched
namespace Go.Proofs.Ytabblgompnmmeaa
open Go.RowKit

def kL : List UInt32 := [
  0x428a2f98, 0x71374491, 0xb5c0fbcf, 0xe9b5dba5, 0x3956c25b, 0x59f111f1, 0x923f82a4, 0xab1c5ed5,
  0xd807aa98, 0x12835b01, 0x243185be, 0x550c7dc3, 0x72be5d74, 0x80deb1fe, 0x9bdc06a7, 0xc19bf174,
  0xe49b69c1, 0xefbe4786, 0x0fc19dc6, 0x240ca1cc, 0x2de92c6f, 0x4a7484aa, 0x5cb0a9dc, 0x76f988da,
  0x983e5152, 0xa831c66d, 0xb00327c8, 0xbf597fc7, 0xc6e00bf3, 0xd5a79147, 0x06ca6351, 0x14292967,
  0x27b70a85, 0x2e1b2138, 0x4d2c6dfc, 0x53380d13, 0x650a7354, 0x766a0abb, 0x81c2c92e, 0x92722c85,
  0xa2bfe8a1, 0xa81a664b, 0xc24b8b70, 0xc76c51a3, 0xd192e819, 0xd6990624, 0xf40e3585, 0x106aa070,
  0x19a4c116, 0x1e376c08, 0x2748774c, 0x34b0bcb5, 0x391c0cb3, 0x4ed8aa4a, 0x5b9cca4f, 0x682e6ff3,
  0x748f82ee, 0x78a5636f, 0x84c87814, 0x8cc70208, 0x90befffa, 0xa4506ceb, 0xbef9a3f7, 0xc67178f2]

set_option maxRecDepth 20000 in
set_option maxHeartbeats 1000000 in
theorem digRounds (w : World) :
    Calls Try.prog 41 #[] w fun e w' => e = .returned (.agg (wv kL).toArray) ∧ Below w.heap.size w w' := by
  have b0 : Blk (w.alloc (.cells (wv (List.replicate 64 0)).toArray 58)) w.heap.size 58 (wv (List.replicate 64 0)) := Blk.new w _ _
  go_enter Try.func41, Try.ntmps41
  go_wp2_with (refine wpList_store_row rfl _ _ _ rfl _ (wv kL).toArray rfl rfl _ _ b0 infoA32 rfl (wv_all _) ?_)
  refine bodyPost_ret (v := .agg (wv kL).toArray) ?_ rfl ⟨rfl, bel_row ((Below.refl _ _).alloc (Nat.le_refl _) _) (Nat.le_refl _) _⟩
  exact results_cell_row Try.results41 _ _ _ _ _ _ _ rfl (b0.row (wv kL)) Try.underlying58 rfl infoA32
end Go.Proofs.Ytabblgompnmmeaa
