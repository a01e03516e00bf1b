/- SHA-1's rounds, as plain functions; what blend, rounds1 answer. -/
import Derived.Test.YtmgflcglmakceaaSched
namespace Go.Proofs.Ytmgflcglmakceaa
open Go.RowKit
attribute [local go_sem] w_add w_addw w_xor w_and w_or w_not w_notm

structure S5 where
  a : UInt32
  b : UInt32
  c : UInt32
  d : UInt32
  e : UInt32
def S5.list (s : S5) : List UInt32 := [s.a, s.b, s.c, s.d, s.e]
/-- the row of eight, of which the last three are 0 -/
def S5.list8 (s : S5) : List UInt32 := [s.a, s.b, s.c, s.d, s.e, 0, 0, 0]

def next1 (p : List UInt32) (n : Nat) : UInt32 := rot (xor32 (xor32 (xor32 (nthW p (n - 3)) (nthW p (n - 8))) (nthW p (n - 14))) (nthW p (n - 16))) 31
def wl1 (bl : List UInt8) : Nat → List UInt32
  | 0 => []
  | n + 1 => wl1 bl n ++ [if n < 16 then wd bl n else next1 (wl1 bl n) n]
theorem wl1_length (bl : List UInt8) : ∀ n, (wl1 bl n).length = n
  | 0 => rfl
  | n + 1 => by rw [wl1, List.length_append, wl1_length bl n]; rfl

def k1L : List UInt32 := [0x5a827999, 0x6ed9eba1, 0x8f1bbcdc, 0xca62c1d6]
/-- what the quarter of the rounds makes of three words -/
def blendW (q : Nat) (b c d : UInt32) : UInt32 :=
  if q = 0 then xor32 (and32 b c) (and32 (not32 b) d) else if q = 2 then xor32 (xor32 (and32 b c) (and32 b d)) (and32 c d) else xor32 (xor32 b c) d
def step1 (s : S5) (t : Nat) (w : UInt32) : S5 :=
  ⟨add32 (add32 (add32 (add32 (rot s.a 27) (blendW (t / 20) s.b s.c s.d)) s.e) (nthW k1L (t / 20))) w, s.a, rot s.b 2, s.c, s.d⟩
def run1 (s : S5) (ws : List UInt32) : Nat → S5
  | 0 => s
  | n + 1 => step1 (run1 s ws n) n (nthW ws n)
theorem run1_succ (s : S5) (ws : List UInt32) (n : Nat) : run1 s ws (n + 1) = step1 (run1 s ws n) n (nthW ws n) := rfl
def add1 (s r : S5) : S5 := ⟨add32 s.a r.a, add32 s.b r.b, add32 s.c r.c, add32 s.d r.d, add32 s.e r.e⟩
def mix1S (s : S5) (bl : List UInt8) : S5 := add1 s (run1 s (wl1 bl 80) 80)

/-- or and xor are the same where no bit is in both -/
theorem ch_or (b c d : UInt32) : or32 (and32 b c) (and32 (not32 b) d) = xor32 (and32 b c) (and32 (not32 b) d) := by
  unfold or32 and32 not32 xor32
  apply UInt32.toBitVec_inj.1
  simp only [UInt32.toBitVec_or, UInt32.toBitVec_and, UInt32.toBitVec_not, UInt32.toBitVec_xor]
  apply BitVec.eq_of_getLsbD_eq
  intro i hi
  simp only [BitVec.getLsbD_or, BitVec.getLsbD_and, BitVec.getLsbD_xor, BitVec.getLsbD_not, hi, decide_true, Bool.true_and]
  cases b.toBitVec.getLsbD i <;> cases c.toBitVec.getLsbD i <;> cases d.toBitVec.getLsbD i <;> rfl
theorem maj_or (b c d : UInt32) : or32 (or32 (and32 b c) (and32 b d)) (and32 c d) = xor32 (xor32 (and32 b c) (and32 b d)) (and32 c d) := by
  unfold or32 and32 xor32
  apply UInt32.toBitVec_inj.1
  simp only [UInt32.toBitVec_or, UInt32.toBitVec_and, UInt32.toBitVec_xor]
  apply BitVec.eq_of_getLsbD_eq
  intro i hi
  simp only [BitVec.getLsbD_or, BitVec.getLsbD_and, BitVec.getLsbD_xor]
  cases b.toBitVec.getLsbD i <;> cases c.toBitVec.getLsbD i <;> cases d.toBitVec.getLsbD i <;> rfl

set_option maxHeartbeats 1000000 in
theorem digBlend (q : Nat) (b c d : UInt32) (hq : q < 4) (w : World) :
    Calls Try.prog 43 #[.int .i64 (q : Int), .int .u32 (b.toNat : Int), .int .u32 (c.toNat : Int), .int .u32 (d.toNat : Int)] w fun e w' => e = .returned (.int .u32 ((blendW q b c d).toNat : Int)) ∧ w' = w := by
  have : q = 0 ∨ q = 1 ∨ q = 2 ∨ q = 3 := by omega
  rcases this with rfl | rfl | rfl | rfl
  all_goals
    go_enter Try.func43, Try.ntmps43
    go_wp2
    go_ret
    exact ⟨rfl, rfl⟩
end Go.Proofs.Ytmgflcglmakceaa
