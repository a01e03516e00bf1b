/- SHA-256's rounds, as plain functions. -/
import Derived.Test.YtmgflcglmakceaaMix
namespace Go.Proofs.Ytmgflcglmakceaa

structure S8 where
  a : UInt32
  b : UInt32
  c : UInt32
  d : UInt32
  e : UInt32
  f : UInt32
  g : UInt32
  h : UInt32

def S8.list (s : S8) : List UInt32 := [s.a, s.b, s.c, s.d, s.e, s.f, s.g, s.h]
def S8.of (l : List UInt32) : S8 := ⟨nthW l 0, nthW l 1, nthW l 2, nthW l 3, nthW l 4, nthW l 5, nthW l 6, nthW l 7⟩

def t1 (s : S8) (k w : UInt32) : UInt32 :=
  add32 (add32 (add32 (add32 s.h (xor32 (xor32 (rot s.e 6) (rot s.e 11)) (rot s.e 25))) (xor32 (and32 s.e s.f) (and32 (not32 s.e) s.g))) k) w
def t2 (s : S8) : UInt32 :=
  add32 (xor32 (xor32 (rot s.a 2) (rot s.a 13)) (rot s.a 22)) (xor32 (xor32 (and32 s.a s.b) (and32 s.a s.c)) (and32 s.b s.c))
def stepS (s : S8) (k w : UInt32) : S8 := ⟨add32 (t1 s k w) (t2 s), s.a, s.b, s.c, add32 s.d (t1 s k w), s.e, s.f, s.g⟩
/-- the first n rounds of a block -/
def runS (s : S8) (ws : List UInt32) : Nat → S8
  | 0 => s
  | n + 1 => stepS (runS s ws n) (nthW kL n) (nthW ws n)
def addS (s r : S8) : S8 := ⟨add32 s.a r.a, add32 s.b r.b, add32 s.c r.c, add32 s.d r.d, add32 s.e r.e, add32 s.f r.f, add32 s.g r.g, add32 s.h r.h⟩
def mixS (s : S8) (bl : List UInt8) : S8 := addS s (runS s (wl bl 64) 64)

theorem S8.of_list (s : S8) : S8.of s.list = s := rfl
theorem runS_succ (s : S8) (ws : List UInt32) (n : Nat) : runS s ws (n + 1) = stepS (runS s ws n) (nthW kL n) (nthW ws n) := rfl
end Go.Proofs.Ytmgflcglmakceaa
