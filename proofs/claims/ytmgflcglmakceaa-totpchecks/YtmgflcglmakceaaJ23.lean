/- What rounds256 and mix256 answer. SHA-256's rounds, as plain functions. -/
import Derived.Test.YtmgflcglmakceaaSched
namespace Go.Proofs.Ytmgflcglmakceaa
open Go.RowKit

def kL : List UInt32 := [
  0x428a2f98, 0x71374491, 0xb5c0fbcf, 0xe9b5dba5, 0x3956c25b, 0x59f111f1, 0x923f82a4, 0xab1c5ed5,
  0xd807aa98, 0x12835b01, 0x243185be, 0x550c7dc3, 0x72be5d74, 0x80deb1fe, 0x9bdc06a7, 0xc19bf174,
  0xe49b69c1, 0xefbe4786, 0x0fc19dc6, 0x240ca1cc, 0x2de92c6f, 0x4a7484aa, 0x5cb0a9dc, 0x76f988da,
  0x983e5152, 0xa831c66d, 0xb00327c8, 0xbf597fc7, 0xc6e00bf3, 0xd5a79147, 0x06ca6351, 0x14292967,
  0x27b70a85, 0x2e1b2138, 0x4d2c6dfc, 0x53380d13, 0x650a7354, 0x766a0abb, 0x81c2c92e, 0x92722c85,
  0xa2bfe8a1, 0xa81a664b, 0xc24b8b70, 0xc76c51a3, 0xd192e819, 0xd6990624, 0xf40e3585, 0x106aa070,
  0x19a4c116, 0x1e376c08, 0x2748774c, 0x34b0bcb5, 0x391c0cb3, 0x4ed8aa4a, 0x5b9cca4f, 0x682e6ff3,
  0x748f82ee, 0x78a5636f, 0x84c87814, 0x8cc70208, 0x90befffa, 0xa4506ceb, 0xbef9a3f7, 0xc67178f2]

end Go.Proofs.Ytmgflcglmakceaa
namespace Go.Proofs.Ytmgflcglmakceaa

structure S8 where
  a : UInt32
  b : UInt32
  c : UInt32
  d : UInt32
  e : UInt32
  f : UInt32
  g : UInt32
  h : UInt32

def S8.list (s : S8) : List UInt32 := [s.a, s.b, s.c, s.d, s.e, s.f, s.g, s.h]
def S8.of (l : List UInt32) : S8 := ⟨nthW l 0, nthW l 1, nthW l 2, nthW l 3, nthW l 4, nthW l 5, nthW l 6, nthW l 7⟩

def t1 (s : S8) (k w : UInt32) : UInt32 :=
  add32 (add32 (add32 (add32 s.h (xor32 (xor32 (rot s.e 6) (rot s.e 11)) (rot s.e 25))) (xor32 (and32 s.e s.f) (and32 (not32 s.e) s.g))) k) w
def t2 (s : S8) : UInt32 :=
  add32 (xor32 (xor32 (rot s.a 2) (rot s.a 13)) (rot s.a 22)) (xor32 (xor32 (and32 s.a s.b) (and32 s.a s.c)) (and32 s.b s.c))
def stepS (s : S8) (k w : UInt32) : S8 := ⟨add32 (t1 s k w) (t2 s), s.a, s.b, s.c, add32 s.d (t1 s k w), s.e, s.f, s.g⟩
/-- the first n rounds of a block -/
def runS (s : S8) (ws : List UInt32) : Nat → S8
  | 0 => s
  | n + 1 => stepS (runS s ws n) (nthW kL n) (nthW ws n)
def addS (s r : S8) : S8 := ⟨add32 s.a r.a, add32 s.b r.b, add32 s.c r.c, add32 s.d r.d, add32 s.e r.e, add32 s.f r.f, add32 s.g r.g, add32 s.h r.h⟩
def mixS (s : S8) (bl : List UInt8) : S8 := addS s (runS s (wl bl 64) 64)

theorem S8.of_list (s : S8) : S8.of s.list = s := rfl
theorem runS_succ (s : S8) (ws : List UInt32) (n : Nat) : runS s ws (n + 1) = stepS (runS s ws n) (nthW kL n) (nthW ws n) := rfl
end Go.Proofs.Ytmgflcglmakceaa
