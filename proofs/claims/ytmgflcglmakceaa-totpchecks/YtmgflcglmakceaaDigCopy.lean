/- What a kind's hmac answers. -/
import Derived.Test.YtmgflcglmakceaaSha256
import Derived.Test.YtmgflcglmakceaaRefBlock
import Derived.Laws.IdiomCopy
import Derived.Deep.RegionHeld3
namespace Go.Proofs.Ytmgflcglmakceaa
open Go.RowKit

/-- a key in an array, its first j bytes each with another one -/
def xorTo (k : List UInt8) (x : UInt8) (j : Nat) : List UInt8 := (List.range 64).map fun i => if i < j then xor8 (nth k i) x else nth k i
theorem xorTo_length (k : List UInt8) (x : UInt8) (j : Nat) : (xorTo k x j).length = 64 := by simp [xorTo]
theorem xorTo_at (k : List UInt8) (x : UInt8) (j i : Nat) (h : i < 64) : nth (xorTo k x j) i = if i < j then xor8 (nth k i) x else nth k i := by
  rw [nth_eq _ _ (by rw [xorTo_length]; exact h)]; simp [xorTo]
theorem nth_appl (l m : List UInt8) (k : Nat) : nth (l ++ m) k = if k < l.length then nth l k else nth m (k - l.length) := by
  unfold nth
  rw [List.getD_eq_getElem?_getD, List.getD_eq_getElem?_getD, List.getD_eq_getElem?_getD]
  split
  · rename_i h; rw [List.getElem?_append_left h]
  · rename_i h; rw [List.getElem?_append_right (by omega)]
theorem nth_repl (n i : Nat) : nth (List.replicate n 0) i = 0 := by
  unfold nth; rw [List.getD_eq_getElem?_getD]
  by_cases h : i < n
  · rw [List.getElem?_replicate, if_pos h]; rfl
  · rw [List.getElem?_replicate, if_neg h]; rfl
theorem xorTo_zero (k : List UInt8) (x : UInt8) (h : k.length ≤ 64) : xorTo k x 0 = k ++ (List.replicate 64 0).drop k.length := by
  refine ext_nth8 _ _ (by rw [xorTo_length, List.length_append, List.length_drop, List.length_replicate]; omega) fun i hi => ?_
  rw [xorTo_length] at hi
  rw [xorTo_at _ _ _ _ hi, if_neg (by omega), nth_appl]
  split
  · rfl
  · rename_i h2
    rw [nth_over k i (by omega), nth_drop, nth_repl]
theorem xorTo_succ (k : List UInt8) (x : UInt8) (j : Nat) : (xorTo k x j).set j (xor8 (nth k j) x) = xorTo k x (j + 1) := by
  refine ext_nth8 _ _ (by rw [List.length_set, xorTo_length, xorTo_length]) fun i hi => ?_
  rw [List.length_set, xorTo_length] at hi
  rw [nth_set8 _ _ _ _ (by rw [xorTo_length]; exact hi), xorTo_at _ _ _ _ hi, xorTo_at _ _ _ _ hi]
  by_cases e : j = i
  · subst e; rw [if_pos rfl, if_pos (by omega)]
  · rw [if_neg e]
    by_cases h : i < j
    · rw [if_pos h, if_pos (by omega)]
    · rw [if_neg h, if_neg (by omega)]
theorem xorTo_all (k : List UInt8) (x : UInt8) : xorTo k x 64 = blkL k x := by
  refine ext_nth8 _ _ (by rw [xorTo_length, blkL_length]) fun i hi => ?_
  rw [xorTo_length] at hi
  unfold blkL
  rw [xorTo_at _ _ _ _ hi, blkTo_at _ _ _ _ hi, if_pos hi, if_pos hi]

theorem infoR8' : (Try.prog.info? 5).map (·.size) = some 1 := by kernel_rfl

/-- copy(arr[:], k) -/
theorem copy64 (W : World) (I T : Nat) (cs : List UInt8) (hB : Blk W I T (bv cs)) (hl : cs.length = 64) (a : Option Addr) (n c : Nat) (k : List UInt8) (hk : IsB W a n c k) (hn : n ≤ 64) :
    ∃ W', (Builtin.copy_ #[22, 22] 3 #[.slice (some ⟨I, 0, none⟩) 64 64, .slice a n c]).run Try.prog W = .ok (.int .i64 (n : Int)) W' ∧ Blk W' I T (bv (k ++ cs.drop n)) ∧ W.grownBy W' (some I) := by
  by_cases h0 : n = 0
  · subst h0
    have e : k = [] := List.eq_nil_of_length_eq_zero hk.len_eq
    subst e
    refine ⟨W, ?_, by simpa using hB, ⟨rfl, rfl, rfl, Nat.le_refl _, fun _ _ _ => rfl⟩⟩
    exact run_copy_none W 22 22 3 5 (some ⟨I, 0, none⟩) a 64 64 0 c Try.underlying22 infoR8' rfl
  · obtain ⟨b, off, rfl, hc⟩ := hk.cells (by omega)
    have hlen := hk.len_eq
    have hcs : ∀ j v, (bv k)[j]? = some v → W.cell? ((⟨b, off, none⟩ : Addr).add j) = some v := by
      intro j v hj
      have hjl : j < k.length := by
        rcases Nat.lt_or_ge j k.length with h | h
        · exact h
        · rw [List.getElem?_eq_none (by rw [bv_length]; exact h)] at hj; cases hj
      rw [bv_at k j hjl] at hj
      rw [Addr.add_lit, hc j (by omega), ← hj]
    have h := run_copy_row (P := Try.prog) W 22 22 3 5 I 0 64 64 ⟨b, off, none⟩ n c _ T (bv k) Try.underlying22 infoR8' hB (by rw [bv_length, hlen]; show n = min n 64; omega) hcs (by rw [bv_length, List.size_toArray, bv_length]; omega) (bv_one k)
    have e2 : (bv cs).take 0 ++ bv k ++ (bv cs).drop (0 + (bv k).length) = bv (k ++ cs.drop n) := by
      rw [bv_append, bv_length, hlen]; simp [bv]
    have h2 : (Builtin.copy_ #[22, 22] 3 #[.slice (some ⟨I, 0, none⟩) 64 64, .slice (some ⟨b, off, none⟩) n c]).run Try.prog W = .ok (.int .i64 (n : Int)) (W.setRow I (bv (k ++ cs.drop n)).toArray) := by
      rw [h, ← e2, bv_length, hlen]
      rfl
    exact ⟨_, h2, hB.row _, ⟨rfl, rfl, rfl, by simp [World.setRow], fun i _ hi => setRow_other W I i _ (fun e => hi (by rw [e]))⟩⟩
end Go.Proofs.Ytmgflcglmakceaa
