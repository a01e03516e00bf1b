/- What digest.Sha256 answers. -/
import Derived.Test.YtmgflcglmakceaaDigest
namespace Go.Proofs.Ytmgflcglmakceaa
open Go.RowKit

def s256 : S8 := ⟨0x6a09e667, 0xbb67ae85, 0x3c6ef372, 0xa54ff53a, 0x510e527f, 0x9b05688c, 0x1f83d9ab, 0x5be0cd19⟩
def mix256L (ws : List UInt32) (bl : List UInt8) : List UInt32 := (mixS (S8.of ws) bl).list

theorem list8 (ws : List UInt32) (h : ws.length = 8) : (S8.of ws).list = ws := by
  match ws, h with
  | [_, _, _, _, _, _, _, _], _ => rfl

theorem callf {f : Nat} {fn : Func} (hf : Try.prog.funcs[f]? = some fn) (hn : (fn.name == "runtime.NumGoroutine") = false) (hb : fn.body.isNone = false) (args : Array Value) (w : World) : (callFunc f args).run Try.prog w = .ok (.enter f args) w := by
  have h1 : fn.name ≠ "runtime.NumGoroutine" := by simpa using hn
  have h2 : fn.body ≠ none := by intro e; rw [e] at hb; cases hb
  simp [callFunc, hf, h1, h2]

/-- SHA-256 of bytes -/
def sha256L (A : List UInt8) : List UInt8 := hashL mix256L s256.list 32 A

theorem zero10 : (Try.prog.info? 53).map (·.zero) = some (some (.agg (.int .i64 0 :: (wv (List.replicate 8 0) ++ [.nilFunc])).toArray)) := by kernel_rfl

theorem oneKc (size : Int) (s : S8) (mf : Nat) : ∀ u ∈ kcOf size s mf, u.oneCell' = true := by
  intro u h
  unfold kcOf at h
  rcases List.mem_cons.1 h with rfl | h
  · rfl
  · rcases List.mem_append.1 h with h | h
    · exact wv_one _ u h
    · rcases List.mem_cons.1 h with rfl | h
      · rfl
      · cases h

theorem IsPs.one {w : World} (B : Nat) (a : Option Addr) (len cap : Nat) (l : List UInt8) (hb : w.cell? ⟨B, 0, none⟩ = some (.slice a len cap)) (h : IsB w a len cap l) : IsPs w (some ⟨B, 0, none⟩) 1 1 [l] := by
  refine ⟨rfl, ⟨Nat.le_refl _, by decide⟩, fun _ => ⟨B, 0, rfl, fun i hi => ?_⟩⟩
  have : i = 0 := by omega
  subst this
  have e : ([l] : List (List UInt8)).getD 0 [] = l := rfl
  rw [e, h.len_eq]
  exact ⟨a, cap, hb, h⟩

end Go.Proofs.Ytmgflcglmakceaa
