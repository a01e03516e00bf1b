/- SHA-256's kind. -/
import Derived.Test.YtjhfkghcplbmkabBegin
import Derived.Test.YtjhfkghcplbmkabMix256
namespace Go.Proofs.Ytjhfkghcplbmkab
open Go.RowKit

def s256 : S8 := ⟨0x6a09e667, 0xbb67ae85, 0x3c6ef372, 0xa54ff53a, 0x510e527f, 0x9b05688c, 0x1f83d9ab, 0x5be0cd19⟩
def mix256L (ws : List UInt32) (bl : List UInt8) : List UInt32 := (mixS (S8.of ws) bl).list

theorem list8 (ws : List UInt32) (h : ws.length = 8) : (S8.of ws).list = ws := by
  match ws, h with
  | [_, _, _, _, _, _, _, _], _ => rfl

theorem callf {f : Nat} {fn : Func} (hf : Try.prog.funcs[f]? = some fn) (hn : (fn.name == "runtime.NumGoroutine") = false) (hb : fn.body.isNone = false) (args : Array Value) (w : World) : (callFunc f args).run Try.prog w = .ok (.enter f args) w := by
  have h1 : fn.name ≠ "runtime.NumGoroutine" := by simpa using hn
  have h2 : fn.body ≠ none := by intro e; rw [e] at hb; cases hb
  simp [callFunc, hf, h1, h2]

theorem mixOK256 : MixOK 22 mix256L := by
  refine ⟨fun _ _ => rfl, fun args w => ?_, fun ws bl w h8 h64 => ?_⟩
  · exact callf Try.func22 (by kernel_rfl) (by kernel_rfl) args w
  · have := digMix256 (S8.of ws) bl h64 w
    rw [list8 ws h8] at this
    exact this

/-- SHA-256 of bytes -/
def sha256L (A : List UInt8) : List UInt8 := hashL mix256L s256.list 32 A

theorem zero10 : (Try.prog.info? 38).map (·.zero) = some (some (.agg (.int .i64 0 :: (wv (List.replicate 8 0) ++ [.nilFunc])).toArray)) := by kernel_rfl

theorem oneKc (size : Int) (s : S8) (mf : Nat) : ∀ u ∈ kcOf size s mf, u.oneCell' = true := by
  intro u h
  unfold kcOf at h
  rcases List.mem_cons.1 h with rfl | h
  · rfl
  · rcases List.mem_append.1 h with h | h
    · exact wv_one _ u h
    · rcases List.mem_cons.1 h with rfl | h
      · rfl
      · cases h

set_option maxRecDepth 20000 in
set_option maxHeartbeats 400000 in
theorem digKind256 (w : World) :
    Calls Try.prog 13 #[] w fun e w' => e = .returned (.agg (kcOf (32 : Nat) s256 22).toArray) ∧ Below w.heap.size w w' := by
  have Bz : Blk (w.alloc (.cells (.int .i64 0 :: (wv (List.replicate 8 0) ++ [.nilFunc])).toArray 38)) w.heap.size 38 (.int .i64 0 :: (wv (List.replicate 8 0) ++ [.nilFunc])) := Blk.new w _ _
  go_enter Try.func13, Try.ntmps13
  go_wp2_with (refine wpList_store_row rfl 38 _ _ rfl w.heap.size (kcOf (32 : Nat) s256 22).toArray rfl rfl _ _ Bz info10 rfl (all_oneCell_toArray (oneKc _ _ _)) ?_)
  refine bodyPost_ret (v := .agg (kcOf (32 : Nat) s256 22).toArray) ?_ rfl ⟨rfl, bel_row ((Below.refl _ _).alloc (Nat.le_refl _) _) (Nat.le_refl _) _⟩
  exact results_cell_row Try.results13 _ _ _ _ _ _ _ rfl (Bz.row (kcOf (32 : Nat) s256 22)) Try.underlying38 rfl info10

end Go.Proofs.Ytjhfkghcplbmkab
