/- What word and schedule256 answer. -/
import Derived.Test.YtmgflcglmakceaaWords
namespace Go.Proofs.Ytmgflcglmakceaa
open Go.RowKit

/-- the first j bytes of word i, as a number -/
def wn (bl : List UInt8) (i : Nat) : Nat → Nat
  | 0 => 0
  | j + 1 => wn bl i j * 256 + (nth bl (4 * i + j)).toNat
theorem wn_lt (bl : List UInt8) (i : Nat) : ∀ j, wn bl i j < 256 ^ j
  | 0 => by simp [wn]
  | j + 1 => by
    have h1 := wn_lt bl i j
    have h2 := (nth bl (4 * i + j)).toNat_lt
    rw [wn, Nat.pow_succ]; omega
theorem wn_lt24 (bl : List UInt8) (i j : Nat) (h : j ≤ 3) : wn bl i j < 16777216 :=
  Nat.lt_of_lt_of_le (wn_lt bl i j) (Nat.pow_le_pow_right (by omega) h : 256 ^ j ≤ 256 ^ 3)
def wd (bl : List UInt8) (i : Nat) : UInt32 := UInt32.ofNat (wn bl i 4)
theorem wd_nat (bl : List UInt8) (i : Nat) : ((wd bl i).toNat : Int) = (wn bl i 4 : Int) := by
  have h := wn_lt bl i 4
  unfold wd; rw [UInt32.toNat_ofNat', Nat.mod_eq_of_lt (by simpa using h)]

theorem or_nat (x b : Nat) (hx : x < 16777216) (hb : b < 256) : bits .or .u32 ((x : Int) * 256 % 4294967296) (b : Int) = ((x * 256 + b : Nat) : Int) := by
  have e1 : ((x : Int) * 256 % 4294967296) = ((UInt32.ofNat (x * 256)).toNat : Int) := by rw [UInt32.toNat_ofNat']; omega
  have e2 : ((b : Int)) = ((UInt32.ofNat b).toNat : Int) := by rw [UInt32.toNat_ofNat']; omega
  rw [e1, e2, bits_or32, UInt32.toNat_or, UInt32.toNat_ofNat', UInt32.toNat_ofNat', Nat.mod_eq_of_lt (by omega : x * 256 < 2 ^ 32), Nat.mod_eq_of_lt (by omega : b < 2 ^ 32)]
  have : 256 * x + b = 256 * x ||| b := Nat.two_pow_add_eq_or_of_lt (i := 8) hb x
  rw [Nat.mul_comm x 256, ← this]

/-- cells of an array that lies in a block of its own -/
theorem blk_cell {w : World} {B t : Nat} {cs : List Value} (hb : w.heap[B]? = some (.cells cs.toArray t (0, 0))) (j : Nat) : w.cell? ⟨B, j, none⟩ = cs[j]? := by
  rw [cell_of_row w B j _ _ _ hb]; simp

set_option maxRecDepth 20000 in
set_option maxHeartbeats 1000000 in
theorem digWord (bl : List UInt8) (hl : bl.length = 64) (i : Nat) (hi : i < 16) (w : World) :
    Calls Try.prog 47 #[.agg (bv bl).toArray, .int .i64 (i : Int)] w fun e w' => e = .returned (.int .u32 ((wd bl i).toNat : Int)) ∧ Below w.heap.size w w' := by
  have HL : Hid (bl.length = 64) := hl
  clear hl
  go_enter Try.func47, Try.ntmps47
  go_wp2
  go_loopw [5, 7] (fun v c wr => ∃ j : Nat, j ≤ 4 ∧ c = .int .i64 j ∧ v = .int .u32 (wn bl i j : Int) ∧ wr.heap[w.heap.size]? = some (.cells (bv bl).toArray 57 (0, 0)) ∧ Below w.heap.size w wr) (fun _ c _ => 4 - (intOf c).toNat)
  case atStart => exact ⟨0, by omega, rfl, rfl, heap_alloc_new w _, (Below.refl _ _).alloc (Nat.le_refl _) _⟩
  case round =>
    obtain ⟨j, hj, rfl, rfl, hb, hbel⟩ := hrel
    by_cases hlt : j < 4
    · have hc := (blk_cell hb (4 * i + j)).trans (bv_at bl (4 * i + j) (by rw [HL.out]; omega))
      have H : Hid (bits .or .u32 ((wn bl i j : Int) * 256 % 4294967296) ((nth bl (4 * i + j)).toNat : Int) = (wn bl i (j + 1) : Int)) :=
        or_nat (wn bl i j) _ (wn_lt24 bl i j (by omega)) (nth bl (4 * i + j)).toNat_lt
      have hu : ((nth bl (4 * i + j)).toNat : Int) < 256 := by have := (nth bl (4 * i + j)).toNat_lt; omega
      have hlt' : 4 * (i : Int) + (j : Int) < 64 := by omega
      have hge : (0 : Int) ≤ 4 * (i : Int) + (j : Int) := by omega
      have HB : Hid (wr.heap[w.heap.size]? = some (.cells (bv bl).toArray 57 (0, 0))) := hb
      clear hb
      go_wp2
      go_roundw
      case rel => exact ⟨j + 1, by omega, by go_num, by rw [H.out], HB.out, hbel⟩
      case measure => simp [intOf]; omega
    · have : j = 4 := by omega
      subst this
      go_wp2
      go_ret
      exact ⟨ret_int32 (wd_nat bl i).symm, hbel⟩

/-- the words of the schedule, one behind the other -/
def sig0 (x : UInt32) : UInt32 := xor32 (xor32 (rot x 7) (rot x 18)) (shr32 x 3)
def sig1 (x : UInt32) : UInt32 := xor32 (xor32 (rot x 17) (rot x 19)) (shr32 x 10)
def nextW (p : List UInt32) (n : Nat) : UInt32 := add32 (add32 (add32 (nthW p (n - 16)) (sig0 (nthW p (n - 15)))) (nthW p (n - 7))) (sig1 (nthW p (n - 2)))
def wl (bl : List UInt8) : Nat → List UInt32
  | 0 => []
  | n + 1 => wl bl n ++ [if n < 16 then wd bl n else nextW (wl bl n) n]
theorem wl_length (bl : List UInt8) : ∀ n, (wl bl n).length = n
  | 0 => rfl
  | n + 1 => by rw [wl, List.length_append, wl_length bl n]; rfl
def wfill (bl : List UInt8) (n : Nat) : List UInt32 := wl bl n ++ List.replicate (64 - n) 0
theorem wfill_length (bl : List UInt8) (n : Nat) (h : n ≤ 64) : (wfill bl n).length = 64 := by
  unfold wfill; rw [List.length_append, wl_length, List.length_replicate]; omega
theorem wfill_set (bl : List UInt8) (n : Nat) (h : n < 64) (x : UInt32) (hx : x = if n < 16 then wd bl n else nextW (wl bl n) n) : (wfill bl n).set n x = wfill bl (n + 1) := by
  unfold wfill
  obtain ⟨m, hm⟩ : ∃ m, 64 - n = m + 1 := ⟨64 - n - 1, by omega⟩
  have hm' : 64 - (n + 1) = m := by omega
  rw [hm, hm', wl, List.set_append_right _ _ (by rw [wl_length]; exact Nat.le_refl _), wl_length, Nat.sub_self, List.replicate_succ, List.set_cons_zero, List.append_assoc, hx]
  rfl
theorem wfill_at (bl : List UInt8) (n i : Nat) (h : i < n) : nthW (wfill bl n) i = nthW (wl bl n) i := by
  have h1 : i < (wl bl n).length := by rw [wl_length]; exact h
  rw [nthW_eq _ _ h1, nthW_eq _ _ (by unfold wfill; rw [List.length_append]; omega)]
  unfold wfill
  rw [List.getElem_append_left h1]
theorem wfill_cell (bl : List UInt8) (n i : Nat) (hn : n ≤ 64) (h : i < n) : (wv (wfill bl n))[i]? = some (.int .u32 ((nthW (wl bl n) i).toNat : Int)) := by
  rw [wv_at _ _ (by rw [wfill_length bl n hn]; omega), wfill_at bl n i h]
theorem wfill_any (bl : List UInt8) (n i : Nat) (hn : n ≤ 64) (h : i < 64) : ∃ v, (wv (wfill bl n))[i]? = some v :=
  ⟨_, wv_at _ _ (by rw [wfill_length bl n hn]; omega)⟩

theorem infoA8 : (Try.prog.info? 57).map (·.size) = some 64 := by kernel_rfl
attribute [local go_sem] w_add w_addw w_xor w_and w_not w_shr3 w_shr10

end Go.Proofs.Ytmgflcglmakceaa
