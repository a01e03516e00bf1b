/- What rounds256 and mix256 answer. · SHA-256's rounds, as plain functions. · What a kind's begin answers. -/
import Derived.Test.YtbclhaleibjkgaaSched
import Derived.Test.YtbclhaleibjkgaaB19
namespace Go.Proofs.Ytbclhaleibjkgaa
open Go.RowKit

def kL : List UInt32 := [
  0x428a2f98, 0x71374491, 0xb5c0fbcf, 0xe9b5dba5, 0x3956c25b, 0x59f111f1, 0x923f82a4, 0xab1c5ed5,
  0xd807aa98, 0x12835b01, 0x243185be, 0x550c7dc3, 0x72be5d74, 0x80deb1fe, 0x9bdc06a7, 0xc19bf174,
  0xe49b69c1, 0xefbe4786, 0x0fc19dc6, 0x240ca1cc, 0x2de92c6f, 0x4a7484aa, 0x5cb0a9dc, 0x76f988da,
  0x983e5152, 0xa831c66d, 0xb00327c8, 0xbf597fc7, 0xc6e00bf3, 0xd5a79147, 0x06ca6351, 0x14292967,
  0x27b70a85, 0x2e1b2138, 0x4d2c6dfc, 0x53380d13, 0x650a7354, 0x766a0abb, 0x81c2c92e, 0x92722c85,
  0xa2bfe8a1, 0xa81a664b, 0xc24b8b70, 0xc76c51a3, 0xd192e819, 0xd6990624, 0xf40e3585, 0x106aa070,
  0x19a4c116, 0x1e376c08, 0x2748774c, 0x34b0bcb5, 0x391c0cb3, 0x4ed8aa4a, 0x5b9cca4f, 0x682e6ff3,
  0x748f82ee, 0x78a5636f, 0x84c87814, 0x8cc70208, 0x90befffa, 0xa4506ceb, 0xbef9a3f7, 0xc67178f2]

set_option maxRecDepth 20000 in
set_option maxHeartbeats 1000000 in
theorem digRounds (w : World) :
    Calls Try.prog 76 #[] w fun e w' => e = .returned (.agg (wv kL).toArray) ∧ Below w.heap.size w w' := by
  have b0 : Blk (w.alloc (.cells (wv (List.replicate 64 0)).toArray 102)) w.heap.size 102 (wv (List.replicate 64 0)) := Blk.new w _ _
  go_enter Try.func76, Try.ntmps76
  go_wp2_with (refine wpList_store_row rfl _ _ _ rfl _ (wv kL).toArray rfl rfl _ _ b0 infoA32 rfl (wv_all _) ?_)
  refine bodyPost_ret (v := .agg (wv kL).toArray) ?_ rfl ⟨rfl, bel_row ((Below.refl _ _).alloc (Nat.le_refl _) _) (Nat.le_refl _) _⟩
  exact results_cell_row Try.results76 _ _ _ _ _ _ _ rfl (b0.row (wv kL)) Try.underlying102 rfl infoA32
end Go.Proofs.Ytbclhaleibjkgaa
namespace Go.Proofs.Ytbclhaleibjkgaa

structure S8 where
  a : UInt32
  b : UInt32
  c : UInt32
  d : UInt32
  e : UInt32
  f : UInt32
  g : UInt32
  h : UInt32

def S8.list (s : S8) : List UInt32 := [s.a, s.b, s.c, s.d, s.e, s.f, s.g, s.h]
def S8.of (l : List UInt32) : S8 := ⟨nthW l 0, nthW l 1, nthW l 2, nthW l 3, nthW l 4, nthW l 5, nthW l 6, nthW l 7⟩

def t1 (s : S8) (k w : UInt32) : UInt32 :=
  add32 (add32 (add32 (add32 s.h (xor32 (xor32 (rot s.e 6) (rot s.e 11)) (rot s.e 25))) (xor32 (and32 s.e s.f) (and32 (not32 s.e) s.g))) k) w
def t2 (s : S8) : UInt32 :=
  add32 (xor32 (xor32 (rot s.a 2) (rot s.a 13)) (rot s.a 22)) (xor32 (xor32 (and32 s.a s.b) (and32 s.a s.c)) (and32 s.b s.c))
def stepS (s : S8) (k w : UInt32) : S8 := ⟨add32 (t1 s k w) (t2 s), s.a, s.b, s.c, add32 s.d (t1 s k w), s.e, s.f, s.g⟩
/-- the first n rounds of a block -/
def runS (s : S8) (ws : List UInt32) : Nat → S8
  | 0 => s
  | n + 1 => stepS (runS s ws n) (nthW kL n) (nthW ws n)
def addS (s r : S8) : S8 := ⟨add32 s.a r.a, add32 s.b r.b, add32 s.c r.c, add32 s.d r.d, add32 s.e r.e, add32 s.f r.f, add32 s.g r.g, add32 s.h r.h⟩
def mixS (s : S8) (bl : List UInt8) : S8 := addS s (runS s (wl bl 64) 64)

theorem S8.of_list (s : S8) : S8.of s.list = s := rfl
theorem runS_succ (s : S8) (ws : List UInt32) (n : Nat) : runS s ws (n + 1) = stepS (runS s ws n) (nthW kL n) (nthW ws n) := rfl
end Go.Proofs.Ytbclhaleibjkgaa
namespace Go.Proofs.Ytbclhaleibjkgaa
open Go.RowKit

def kcOf (size : Int) (s : S8) (mf : Nat) : List Value := .int .i64 size :: (wv s.list ++ [.func (.func mf) #[] #[]])
theorem kcOf_length (size : Int) (s : S8) (mf : Nat) : (kcOf size s mf).length = 10 := rfl

def zeros83 : List Value := rc (.int .i64 0 :: (wv (List.replicate 8 0) ++ [.nilFunc])) (List.replicate 8 0) (List.replicate 64 0) 0
theorem zero83 : (Try.prog.info? 95).map (·.zero) = some (some (.agg zeros83.toArray)) := by kernel_rfl
theorem zv83 (w : World) : (zeroValue 95).run Try.prog w = .ok (.agg zeros83.toArray) w := by
  have h := zero83
  cases hq : Try.prog.info? 95 with
  | none => rw [hq] at h; cases h
  | some i =>
    rw [hq] at h
    have hz : i.zero = some (.agg zeros83.toArray) := by simpa using h
    simp [zeroValue, typeInfo, hq, hz]
attribute [local go_sem ↓] zv83
theorem info83 : (Try.prog.info? 95).map (·.size) = some 83 := by kernel_rfl
theorem info10 : (Try.prog.info? 73).map (·.size) = some 10 := by kernel_rfl
theorem zeros83_length : zeros83.length = 83 := rfl

theorem oneCells83 (size : Int) (s : S8) (mf : Nat) : ∀ u ∈ rc (kcOf size s mf) s.list (List.replicate 64 0) 0, u.oneCell' = true := by
  intro u hu
  unfold rc kcOf at hu
  rcases List.mem_append.1 hu with h | h
  · rcases List.mem_cons.1 h with rfl | h
    · rfl
    · rcases List.mem_append.1 h with h | h
      · exact wv_one _ u h
      · rcases List.mem_cons.1 h with rfl | h
        · rfl
        · cases h
  · rcases List.mem_append.1 h with h | h
    · exact wv_one _ u h
    · rcases List.mem_append.1 h with h | h
      · exact bv_one _ u h
      · rcases List.mem_cons.1 h with rfl | h
        · rfl
        · cases h

/-- a struct or an array is built of parts that are known -/
theorem list_build {P : Program} {ops : Array Oper} {rest : List Oper} {o : Oper} {a : Act} {w : World} {Q : Exit → Act → World → Prop} (hgd : o.guard = none) (t : TypeId) (parts : Array (Nat × Operand)) (ho : o.op = .build t parts)
    (vals : List (Nat × Value)) (hv : (parts.map fun (i, x) => (i, a.eval x)).toList = vals) (cells : Array Value) (hb : P.built t vals = some cells)
    (h : wpList P ops Q rest (a.put o.dst (.agg cells)) w) : wpList P ops Q (o :: rest) a w :=
  wpList_plain hgd fun _ hK => wp_build t parts ho (by rw [hv, hb]; rfl) (by rw [hv, hb]; exact hK _ _ h)

set_option maxRecDepth 20000 in
set_option maxHeartbeats 400000 in
theorem digBegin (size : Int) (s : S8) (mf : Nat) (w : World) :
    Calls Try.prog 69 #[.agg (kcOf size s mf).toArray] w fun e w' => e = .returned (.agg (rc (kcOf size s mf) s.list (List.replicate 64 0) 0).toArray) ∧ Below w.heap.size w w' := by
  have Bk : Blk ((w.alloc (.cells (kcOf size s mf).toArray 73)).alloc (.cells zeros83.toArray 95)) w.heap.size 73 (kcOf size s mf) := (Blk.new w _ _).alloc _
  have Bz : Blk ((w.alloc (.cells (kcOf size s mf).toArray 73)).alloc (.cells zeros83.toArray 95)) (w.heap.size + 1) 95 zeros83 := Blk.newAt _ _ _ _ _ (by simp) rfl
  have hr : ((w.alloc (.cells (kcOf size s mf).toArray 73)).alloc (.cells zeros83.toArray 95)).rangeAt w.heap.size 1 (wv s.list) := Bk.range 1 _ (fun j v hj => by
    have : (kcOf size s mf)[1 + j]? = (wv s.list ++ [.func (.func mf) #[] #[]])[j]? := by rw [Nat.add_comm]; rfl
    rw [this, List.getElem?_append_left (List.getElem?_eq_some_iff.1 hj).1]; exact hj)
  have hb : Try.prog.built 95 [(0, .agg (kcOf size s mf).toArray), (1, .agg (wv s.list).toArray)] = some (rc (kcOf size s mf) s.list (List.replicate 64 0) 0).toArray := by kernel_rfl
  go_enter Try.func69, Try.ntmps69
  have hst : (rc (kcOf size s mf) s.list (List.replicate 64 0) 0).toArray.size = 83 := rfl
  go_wp2_with (first | (refine wpList_load_row rfl 73 _ rfl _ rfl _ _ _ _ Bk Try.underlying73 rfl info10 ?_) | (refine wpList_load_mid rfl 70 _ rfl w.heap.size 1 rfl (wv s.list) _ hr Try.underlying70 rfl (by kernel_rfl) ?_) | (refine list_build rfl 95 _ rfl [(0, .agg (kcOf size s mf).toArray), (1, .agg (wv s.list).toArray)] (by simp only [List.map_toArray, List.map_cons, List.map_nil]; rfl) (rc (kcOf size s mf) s.list (List.replicate 64 0) 0).toArray hb ?_) | (refine wpList_store_row rfl 95 _ _ rfl (w.heap.size + 1) (rc (kcOf size s mf) s.list (List.replicate 64 0) 0).toArray rfl rfl _ _ Bz info83 rfl (all_oneCell_toArray (oneCells83 size s mf)) ?_))
  refine bodyPost_ret (v := .agg (rc (kcOf size s mf) s.list (List.replicate 64 0) 0).toArray) ?_ rfl ⟨rfl, bel_row (((Below.refl _ _).alloc (Nat.le_refl _) _).alloc (by simp) _) (by omega) _⟩
  exact results_cell_row Try.results69 _ _ _ _ _ _ _ rfl (Bz.row (rc (kcOf size s mf) s.list (List.replicate 64 0) 0)) Try.underlying95 rfl info83
end Go.Proofs.Ytbclhaleibjkgaa
