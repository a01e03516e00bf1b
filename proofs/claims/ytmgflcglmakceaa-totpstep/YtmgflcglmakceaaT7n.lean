/- Codes, plain: a code stands for its step and the ones beside it. -/
import Derived.Test.YtmgflcglmakceaaT7l
namespace Go.Proofs.Ytmgflcglmakceaa
theorem chk_near (key : List UInt8) (p q : Nat) (h : q = p ∨ q = p + 1 ∨ p = q + 1) (hl : q < 614891469123651720) : chkL key q (hotL key p) = true := by
  unfold chkL
  rcases h with h | h | h
  · subst h; rw [eqB_self]; rfl
  · subst h
    rw [show p + 1 - 1 = p by omega, eqB_self, decide_eq_true (show 0 < p + 1 by omega)]; simp
  · subst h
    rw [eqB_self, decide_eq_true hl]; simp
end Go.Proofs.Ytmgflcglmakceaa
