/- Plain facts: a text of digits, and the bytes that it stands for, there and back. -/
import Derived.Test.YtbkihkfbikbgjaaHex
import Derived.Test.YtbkihkfbikbgjaaDigUnhex
namespace Go.Proofs.Ytbkihkfbikbgjaa

theorem hvN_dg (n : Nat) (h : n < 16) : hvN (dg n) = n := by
  have : ∀ n, n < 16 → hvN (dg n) = n := by decide
  exact this n h
theorem dg_hvN (c : UInt8) (h : hvN c < 16) : dg (hvN c) = c := by
  have : ∀ n, n < 256 → hvN (UInt8.ofNat n) < 16 → dg (hvN (UInt8.ofNat n)) = UInt8.ofNat n := by decide +kernel
  have := this c.toNat c.toNat_lt (by rw [UInt8.ofNat_toNat]; exact h)
  rwa [UInt8.ofNat_toNat] at this

theorem nth_cons_succ (x : UInt8) (l : List UInt8) (k : Nat) : nth (x :: l) (k + 1) = nth l k := by simp [nth]
theorem nth_cons_zero (x : UInt8) (l : List UInt8) : nth (x :: l) 0 = x := by simp [nth]

theorem nth_hexL (l : List UInt8) : ∀ k, k < l.length → nth (hexL l) (2 * k) = dg (hiN (nth l k)) ∧ nth (hexL l) (2 * k + 1) = dg (loN (nth l k)) := by
  induction l with
  | nil => intro k h; exact absurd h (Nat.not_lt_zero _)
  | cons x l ih =>
    intro k h
    match k with
    | 0 => simp [hexL, nth]
    | k + 1 =>
      have := ih k (by simpa using h)
      have e1 : 2 * (k + 1) = 2 * k + 1 + 1 := by omega
      have e2 : 2 * (k + 1) + 1 = 2 * k + 1 + 1 + 1 := by omega
      rw [e1, hexL, nth_cons_succ, nth_cons_succ, nth_cons_succ, nth_cons_succ, nth_cons_succ]
      exact this

theorem ext_nth (l m : List UInt8) (h : l.length = m.length) (hn : ∀ k, k < l.length → nth l k = nth m k) : l = m := by
  apply List.ext_getElem h
  intro i h1 h2
  have := hn i h1
  rwa [nth_eq l i h1, nth_eq m i h2] at this

theorem nth_map_range (f : Nat → UInt8) (n k : Nat) (h : k < n) : nth ((List.range n).map f) k = f k := by
  rw [nth_eq _ _ (by simpa using h)]; simp

theorem hexS_size (l : List UInt8) : (ByteArray.mk (hexL l).toArray).size = 2 * l.length := by
  show (hexL l).toArray.size = _
  rw [List.size_toArray, hexL_length]
theorem sb_hexS (l : List UInt8) (i : Int) : sb (ByteArray.mk (hexL l).toArray) i = nth (hexL l) i.toNat := by
  unfold sb; rw [List.toList_toArray]

theorem back_at (l : List UInt8) (k : Nat) (h : k < l.length) :
    hvN (sb (ByteArray.mk (hexL l).toArray) (2 * (k : Int))) = hiN (nth l k) ∧ hvN (sb (ByteArray.mk (hexL l).toArray) (2 * (k : Int) + 1)) = loN (nth l k) := by
  have := nth_hexL l k h
  rw [sb_hexS, sb_hexS]
  have e1 : (2 * (k : Int)).toNat = 2 * k := by omega
  have e2 : (2 * (k : Int) + 1).toNat = 2 * k + 1 := by omega
  rw [e1, e2, this.1, this.2, hvN_dg _ (hiN_lt _), hvN_dg _ (loN_lt _)]
  exact ⟨rfl, rfl⟩

theorem good_hexS (l : List UInt8) : goodS (ByteArray.mk (hexL l).toArray) = true := by
  unfold goodS
  rw [hexS_size]
  have e : 2 * l.length / 2 = l.length := by omega
  have e2 : 2 * l.length % 2 = 0 := by omega
  rw [e, e2, Bool.and_eq_true]
  refine ⟨rfl, ?_⟩
  unfold goodTo
  rw [decide_eq_true_eq]
  intro i hi
  have := back_at l i hi
  unfold isHv
  rw [this.1, this.2, decide_eq_true_eq, decide_eq_true_eq]
  exact ⟨hiN_lt _, loN_lt _⟩

theorem pr_hexS (l : List UInt8) (k : Nat) (h : k < l.length) : pr (ByteArray.mk (hexL l).toArray) k = nth l k := by
  have := back_at l k h
  unfold pr
  rw [this.1, this.2]
  have e : 16 * hiN (nth l k) + loN (nth l k) = (nth l k).toNat := by unfold hiN loN; omega
  rw [e, UInt8.ofNat_toNat]

/-- what was written as digits is read as it was -/
theorem unR_hexS (l : List UInt8) : unR (ByteArray.mk (hexL l).toArray) = l := by
  unfold unR
  rw [good_hexS, hexS_size]
  have e : 2 * l.length / 2 = l.length := by omega
  rw [e, if_pos rfl]
  refine ext_nth _ _ (unL_length _ _) fun k hk => ?_
  rw [unL_length] at hk
  unfold unL
  rw [nth_map_range _ _ _ hk, pr_hexS l k hk]
theorem unE_hexS (l : List UInt8) : unE (ByteArray.mk (hexL l).toArray) = 0 := by
  unfold unE; rw [good_hexS]; rfl

/-- a text that is read is what is written of it -/
theorem hex_unR (s : ByteArray) (h : goodS s = true) : hexL (unR s) = s.data.toList := by
  have h' := h
  unfold goodS at h'
  rw [Bool.and_eq_true] at h'
  obtain ⟨h1, h2⟩ := h'
  have hev : s.size % 2 = 0 := by simpa using h1
  unfold goodTo at h2
  rw [decide_eq_true_eq] at h2
  have hsz : s.data.toList.length = s.size := by rw [Array.length_toList]; rfl
  unfold unR
  rw [h, if_pos rfl]
  have hlen : (hexL (unL s (s.size / 2))).length = s.size := by rw [hexL_length, unL_length]; omega
  refine ext_nth _ _ (by rw [hlen, hsz]) fun k hk => ?_
  rw [hlen] at hk
  have half : ∀ j, j < s.size / 2 → dg (hiN (pr s j)) = nth s.data.toList (2 * j) ∧ dg (loN (pr s j)) = nth s.data.toList (2 * j + 1) := by
    intro j hj
    have := h2 j hj
    have a0 : hvN (sb s (2 * (j : Int))) < 16 := of_decide_eq_true this.1
    have a1 : hvN (sb s (2 * (j : Int) + 1)) < 16 := of_decide_eq_true this.2
    have hp : (pr s j).toNat = 16 * hvN (sb s (2 * (j : Int))) + hvN (sb s (2 * (j : Int) + 1)) := by
      unfold pr; rw [UInt8.toNat_ofNat']; omega
    have e1 : hiN (pr s j) = hvN (sb s (2 * (j : Int))) := by unfold hiN; rw [hp]; omega
    have e2 : loN (pr s j) = hvN (sb s (2 * (j : Int) + 1)) := by unfold loN; rw [hp]; omega
    rw [e1, e2, dg_hvN _ a0, dg_hvN _ a1]
    have f1 : (2 * (j : Int)).toNat = 2 * j := by omega
    have f2 : (2 * (j : Int) + 1).toNat = 2 * j + 1 := by omega
    unfold sb
    rw [f1, f2]
    exact ⟨rfl, rfl⟩
  have key : ∀ j, j < s.size / 2 → nth (hexL (unL s (s.size / 2))) (2 * j) = nth s.data.toList (2 * j) ∧ nth (hexL (unL s (s.size / 2))) (2 * j + 1) = nth s.data.toList (2 * j + 1) := by
    intro j hj
    have g := nth_hexL (unL s (s.size / 2)) j (by rw [unL_length]; exact hj)
    have e : nth (unL s (s.size / 2)) j = pr s j := by unfold unL; exact nth_map_range _ _ _ hj
    rw [e] at g
    have := half j hj
    rw [g.1, g.2]; exact this
  rcases Nat.mod_two_eq_zero_or_one k with hk2 | hk2
  · have e : k = 2 * (k / 2) := by omega
    have := (key (k / 2) (by omega)).1
    rw [← e] at this; exact this
  · have e : k = 2 * (k / 2) + 1 := by omega
    have := (key (k / 2) (by omega)).2
    rw [← e] at this; exact this

theorem unE_ok (s : ByteArray) (h : goodS s = true) : unE s = 0 := by unfold unE; rw [h]; rfl
theorem unE_no (s : ByteArray) (h : goodS s = false) : unE s = 4 := by unfold unE; rw [h]; rfl
theorem unR_length_le (s : ByteArray) : (unR s).length ≤ s.size := by
  unfold unR
  split
  · rw [unL_length]; omega
  · exact Nat.zero_le _
end Go.Proofs.Ytbkihkfbikbgjaa
