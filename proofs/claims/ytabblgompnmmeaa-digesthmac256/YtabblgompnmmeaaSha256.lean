/- What digest.Sha256 answers. -/
import Derived.Test.YtabblgompnmmeaaDigest
namespace Go.Proofs.Ytabblgompnmmeaa
open Go.RowKit

def s256 : S8 := ⟨0x6a09e667, 0xbb67ae85, 0x3c6ef372, 0xa54ff53a, 0x510e527f, 0x9b05688c, 0x1f83d9ab, 0x5be0cd19⟩
def mix256L (ws : List UInt32) (bl : List UInt8) : List UInt32 := (mixS (S8.of ws) bl).list

theorem list8 (ws : List UInt32) (h : ws.length = 8) : (S8.of ws).list = ws := by
  match ws, h with
  | [_, _, _, _, _, _, _, _], _ => rfl

theorem callf {f : Nat} {fn : Func} (hf : Try.prog.funcs[f]? = some fn) (hn : (fn.name == "runtime.NumGoroutine") = false) (hb : fn.body.isNone = false) (args : Array Value) (w : World) : (callFunc f args).run Try.prog w = .ok (.enter f args) w := by
  have h1 : fn.name ≠ "runtime.NumGoroutine" := by simpa using hn
  have h2 : fn.body ≠ none := by intro e; rw [e] at hb; cases hb
  simp [callFunc, hf, h1, h2]

theorem mixOK256 : MixOK 36 mix256L := by
  refine ⟨fun _ _ => rfl, fun args w => ?_, fun ws bl w h8 h64 => ?_⟩
  · exact callf Try.func36 (by kernel_rfl) (by kernel_rfl) args w
  · have := digMix256 (S8.of ws) bl h64 w
    rw [list8 ws h8] at this
    exact this

/-- SHA-256 of bytes -/
def sha256L (A : List UInt8) : List UInt8 := hashL mix256L s256.list 32 A

theorem zero10 : (Try.prog.info? 38).map (·.zero) = some (some (.agg (.int .i64 0 :: (wv (List.replicate 8 0) ++ [.nilFunc])).toArray)) := by kernel_rfl

theorem oneKc (size : Int) (s : S8) (mf : Nat) : ∀ u ∈ kcOf size s mf, u.oneCell' = true := by
  intro u h
  unfold kcOf at h
  rcases List.mem_cons.1 h with rfl | h
  · rfl
  · rcases List.mem_append.1 h with h | h
    · exact wv_one _ u h
    · rcases List.mem_cons.1 h with rfl | h
      · rfl
      · cases h

set_option maxRecDepth 20000 in
set_option maxHeartbeats 400000 in
theorem digKind256 (w : World) :
    Calls Try.prog 23 #[] w fun e w' => e = .returned (.agg (kcOf (32 : Nat) s256 36).toArray) ∧ Below w.heap.size w w' := by
  have Bz : Blk (w.alloc (.cells (.int .i64 0 :: (wv (List.replicate 8 0) ++ [.nilFunc])).toArray 38)) w.heap.size 38 (.int .i64 0 :: (wv (List.replicate 8 0) ++ [.nilFunc])) := Blk.new w _ _
  go_enter Try.func23, Try.ntmps23
  go_wp2_with (refine wpList_store_row rfl 38 _ _ rfl w.heap.size (kcOf (32 : Nat) s256 36).toArray rfl rfl _ _ Bz info10 rfl (all_oneCell_toArray (oneKc _ _ _)) ?_)
  refine bodyPost_ret (v := .agg (kcOf (32 : Nat) s256 36).toArray) ?_ rfl ⟨rfl, bel_row ((Below.refl _ _).alloc (Nat.le_refl _) _) (Nat.le_refl _) _⟩
  exact results_cell_row Try.results23 _ _ _ _ _ _ _ rfl (Bz.row (kcOf (32 : Nat) s256 36)) Try.underlying38 rfl info10

theorem IsPs.one {w : World} (B : Nat) (a : Option Addr) (len cap : Nat) (l : List UInt8) (hb : w.cell? ⟨B, 0, none⟩ = some (.slice a len cap)) (h : IsB w a len cap l) : IsPs w (some ⟨B, 0, none⟩) 1 1 [l] := by
  refine ⟨rfl, ⟨Nat.le_refl _, by decide⟩, fun _ => ⟨B, 0, rfl, fun i hi => ?_⟩⟩
  have : i = 0 := by omega
  subst this
  have e : ([l] : List (List UInt8)).getD 0 [] = l := rfl
  rw [e, h.len_eq]
  exact ⟨a, cap, hb, h⟩

set_option maxRecDepth 20000 in
set_option maxHeartbeats 400000 in
theorem digSha256 (a : Option Addr) (len cap : Nat) (l : List UInt8) (w : World) (h : IsB w a len cap l) (hn : len < 4294967296) :
    Calls Try.prog 11 #[.slice a len cap] w fun e w' => ∃ v, e = .returned v ∧ OwnB w' w.heap.size v (sha256L l) ∧ Below w.heap.size w w' := by
  have H : Hid (IsB w a len cap l) := h
  clear h
  go_enter Try.func11, Try.ntmps11
  go_wp2_with fail
  refine (digKind256 _).mono ?_
  rintro e w1 ⟨rfl, bel1⟩
  have H1 : Hid (IsB w1 a len cap l) := H.out.below bel1 rfl
  go_wp2_with fail
  refine (digDigest 36 mix256L s256 mixOK256 32 (by omega) _ _ _ [l] _ (by exact IsPs.one _ _ _ _ _ (by simp) (H1.out.below ((Below.refl _ _).alloc (Nat.le_refl _) _) rfl)) (by simp [H1.out.len_eq]; omega)).mono ?_
  rintro e w2 ⟨v, rfl, hown, bel2⟩
  have e1 : ([l] : List (List UInt8)).flatten = l := by simp
  rw [e1] at hown
  have hb : Below w.heap.size w w2 := (bel1.alloc bel1.size _).trans (bel2.mono (by have := bel1.size; simp; omega))
  have ho : OwnB w2 w.heap.size v (sha256L l) := hown.base (by have := bel1.size; simp; omega)
  clear hown bel1 bel2
  go_wp2
  go_ret
  exact ⟨_, rfl, ho, hb⟩
end Go.Proofs.Ytabblgompnmmeaa
