/- Plain facts: what is laid behind a text, and how a digest's words become bytes. -/
import Derived.Test.YtmgflcglmakceaaAbsorb
namespace Go.Proofs.Ytmgflcglmakceaa

/-- how many zeros -/
def zN (n : Nat) : Nat := (119 - n % 64) % 64
theorem zN_lt (n : Nat) : zN n < 64 := Nat.mod_lt _ (by decide)
theorem zN_wrap (n : Nat) : IntKind.u64.wrap (55 - (n : Int)) % 64 = (zN n : Int) := by
  unfold zN
  simp [IntKind.wrap, IntKind.signed, IntKind.bits]
  omega
theorem zN_tmod (n : Nat) : (IntKind.u64.wrap (55 - (n : Int))).tmod 64 = (zN n : Int) := by
  rw [Int.tmod_eq_emod_of_nonneg (by simp [IntKind.wrap, IntKind.signed, IntKind.bits]; omega)]; exact zN_wrap n
theorem zN_len (n : Nat) : (n + (1 + zN n + 8)) % 64 = 0 := by unfold zN; omega

/-- byte i of eight, the highest first -/
def be (N i : Nat) : UInt8 := UInt8.ofNat (N / 2 ^ (56 - 8 * i))
def be8 (N : Nat) : List UInt8 := (List.range 8).map (be N)
def padOf (n : Nat) : List UInt8 := 128 :: (List.replicate (zN n) 0 ++ be8 (n * 8))
theorem padOf_length (n : Nat) : (padOf n).length = 1 + zN n + 8 := by simp [padOf, be8]; omega

theorem nth_set (l : List UInt8) (i k : Nat) (x : UInt8) (h : i < l.length) : nth (l.set i x) k = if k = i then x else nth l k := by
  unfold nth
  rw [List.getD_eq_getElem?_getD, List.getD_eq_getElem?_getD, List.getElem?_set]
  by_cases e : i = k
  · subst e; simp [h]
  · rw [if_neg e, if_neg (fun e' => e e'.symm)]
theorem nth_replicate (n k : Nat) : nth (List.replicate n 0) k = 0 := by
  unfold nth; rw [List.getD_eq_getElem?_getD, List.getElem?_replicate]; split <;> rfl
theorem nth_range (f : Nat → UInt8) (n k : Nat) (h : k < n) : nth ((List.range n).map f) k = f k := by
  rw [nth_eq _ _ (by simpa using h)]; simp

/-- the pad's array behind j rounds -/
def pl (z N : Nat) : Nat → List UInt8
  | 0 => (List.replicate 72 0).set 0 128
  | j + 1 => (pl z N j).set (1 + z + j) (be N j)
theorem pl_length (z N : Nat) : ∀ j, (pl z N j).length = 72
  | 0 => by simp [pl]
  | j + 1 => by rw [pl, List.length_set]; exact pl_length z N j
theorem pl_nth (z N : Nat) (hz : z < 64) : ∀ j, j ≤ 8 → ∀ i, i < 72 → nth (pl z N j) i = if i = 0 then 128 else if 1 + z ≤ i ∧ i < 1 + z + j then be N (i - (1 + z)) else 0
  | 0, _, i, hi => by
    rw [pl, nth_set _ _ _ _ (by simp), nth_replicate]
    by_cases e : i = 0
    · rw [if_pos e, if_pos e]
    · rw [if_neg e, if_neg e, if_neg (by omega)]
  | j + 1, hj, i, hi => by
    rw [pl, nth_set _ _ _ _ (by rw [pl_length]; omega), pl_nth z N hz j (by omega) i hi]
    by_cases e : i = 1 + z + j
    · rw [if_pos e, if_neg (by omega), if_pos (by omega)]
      congr 1; omega
    · rw [if_neg e]
      by_cases e0 : i = 0
      · rw [if_pos e0, if_pos e0]
      · rw [if_neg e0, if_neg e0]
        by_cases e1 : 1 + z ≤ i ∧ i < 1 + z + j
        · rw [if_pos e1, if_pos (by omega)]
        · rw [if_neg e1, if_neg (by omega)]
theorem pl_take (n : Nat) : (pl (zN n) (n * 8) 8).take (1 + zN n + 8) = padOf n := by
  have hz := zN_lt n
  refine extNth _ _ (by rw [List.length_take, pl_length, padOf_length]; omega) fun i hi => ?_
  rw [List.length_take, pl_length] at hi
  rw [nth_take _ _ _ (by omega), pl_nth _ _ hz 8 (by omega) i (by omega)]
  unfold padOf
  by_cases e0 : i = 0
  · subst e0; rw [if_pos rfl]; rfl
  · rw [if_neg e0]
    obtain ⟨k, rfl⟩ : ∃ k, i = k + 1 := ⟨i - 1, by omega⟩
    have : nth (128 :: (List.replicate (zN n) 0 ++ be8 (n * 8))) (k + 1) = nth (List.replicate (zN n) 0 ++ be8 (n * 8)) k := by simp [nth]
    rw [this]
    by_cases e1 : k < zN n
    · rw [if_neg (by omega), nth_append_left _ _ _ (by simpa using e1), nth_replicate]
    · rw [if_pos (by omega), nth_append_right _ _ _ (by simpa using e1), List.length_replicate]
      unfold be8
      rw [nth_range _ _ _ (by omega)]
      congr 1; omega

/-- byte i of a digest's words -/
def dgW (ws : List UInt32) (i : Nat) : UInt8 := UInt8.ofNat ((nthW ws (i / 4)).toNat / 2 ^ (24 - 8 * (i % 4)))
def outB (ws : List UInt32) (k : Nat) : List UInt8 := (List.range k).map (dgW ws)
theorem outB_length (ws : List UInt32) (k : Nat) : (outB ws k).length = k := by simp [outB]
theorem outB_succ (ws : List UInt32) (k : Nat) : outB ws (k + 1) = outB ws k ++ [dgW ws k] := by
  unfold outB; rw [List.range_succ, List.map_append]; rfl
def outF (ws : List UInt32) (n k : Nat) : List UInt8 := outB ws k ++ List.replicate (n - k) 0
theorem outF_length (ws : List UInt32) (n k : Nat) (h : k ≤ n) : (outF ws n k).length = n := by simp [outF, outB_length]; omega
theorem outF_set (ws : List UInt32) (n k : Nat) (h : k < n) : (outF ws n k).set k (dgW ws k) = outF ws n (k + 1) := by
  unfold outF
  obtain ⟨m, hm⟩ : ∃ m, n - k = m + 1 := ⟨n - k - 1, by omega⟩
  have hm' : n - (k + 1) = m := by omega
  rw [hm, hm', outB_succ, List.set_append_right _ _ (by rw [outB_length]; exact Nat.le_refl _), outB_length, Nat.sub_self, List.replicate_succ, List.set_cons_zero, List.append_assoc]
  rfl

/-- the whole: the digest of A -/
def hashL (mix : List UInt32 → List UInt8 → List UInt32) (start : List UInt32) (size : Nat) (A : List UInt8) : List UInt8 :=
  outB (ab mix start (A ++ padOf A.length) ((A.length + (1 + zN A.length + 8)) / 64)) size

theorem be_val (n i : Nat) : (n : Int) * 8 / 2 ^ (56 - 8 * i) % 256 = ((be (n * 8) i).toNat : Int) := by
  unfold be; rw [UInt8.toNat_ofNat', Int.natCast_emod, Int.natCast_ediv, Int.natCast_mul, Int.natCast_pow]; rfl
theorem dgW_val (ws : List UInt32) (i : Nat) : ((nthW ws (i / 4)).toNat : Int) / 2 ^ (24 - 8 * (i % 4)) % 256 = ((dgW ws i).toNat : Int) := by
  unfold dgW; rw [UInt8.toNat_ofNat', Int.natCast_emod, Int.natCast_ediv, Int.natCast_pow]; rfl
theorem byte_of (N k : Nat) : IntKind.u8.wrap ((N / 2 ^ k : Nat) : Int) = ((UInt8.ofNat (N / 2 ^ k)).toNat : Int) := by
  rw [UInt8.toNat_ofNat']
  simp [IntKind.wrap, IntKind.signed, IntKind.bits]
end Go.Proofs.Ytmgflcglmakceaa
