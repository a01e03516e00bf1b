/- What digest.Unhex answers, of any text. -/
import Derived.Test.YtbkihkfbikbgjaaUnhex
namespace Go.Proofs.Ytbkihkfbikbgjaa
open Go.RowKit

/-- a byte of a text, at a place that is a number of Go's -/
def sb (s : ByteArray) (i : Int) : UInt8 := nth s.data.toList i.toNat

theorem ixs (s : ByteArray) (i : Int) (h0 : 0 ≤ i) (h1 : i < (s.size : Int)) (u : World) : (Instr.index 9 (.string s) (.int .i64 i)).run Try.prog u = .ok (.int .u8 ((sb s i).toNat : Int)) u := by
  rw [run_index_string u 9 _ .i64 i Try.underlying9]
  rw [dif_pos ⟨h0, h1⟩]
  have : i.toNat < s.data.toList.length := by have : s.data.toList.length = s.size := by rw [Array.length_toList]; rfl
                                              omega
  unfold sb
  rw [nth_eq _ _ this]
  rfl

/-- the byte that two digits stand for -/
def pr (s : ByteArray) (k : Nat) : UInt8 := UInt8.ofNat (16 * hvN (sb s (2 * (k : Int))) + hvN (sb s (2 * (k : Int) + 1)))
/-- the first k pairs are digits -/
def goodTo (s : ByteArray) (k : Nat) : Bool := decide (∀ i, i < k → isHv (sb s (2 * (i : Int))) = true ∧ isHv (sb s (2 * (i : Int) + 1)) = true)
def goodS (s : ByteArray) : Bool := s.size % 2 == 0 && goodTo s (s.size / 2)
def unL (s : ByteArray) (k : Nat) : List UInt8 := (List.range k).map (pr s)
/-- what Unhex tells of a text -/
def unR (s : ByteArray) : List UInt8 := if goodS s then unL s (s.size / 2) else []
def unE (s : ByteArray) : Int := if goodS s then 0 else 4

theorem goodTo_succ (s : ByteArray) (k : Nat) : goodTo s (k + 1) = (goodTo s k && (isHv (sb s (2 * (k : Int))) && isHv (sb s (2 * (k : Int) + 1)))) := by
  unfold goodTo
  rw [Bool.eq_iff_iff]
  simp only [decide_eq_true_eq, Bool.and_eq_true]
  constructor
  · intro h; exact ⟨fun i hi => h i (by omega), h k (by omega)⟩
  · rintro ⟨h1, h2⟩ i hi
    by_cases e : i = k
    · subst e; exact h2
    · exact h1 i (by omega)
theorem good_no (s : ByteArray) (k : Nat) (hk : k < s.size / 2) (h : isHv (sb s (2 * (k : Int))) = false ∨ isHv (sb s (2 * (k : Int) + 1)) = false) : goodS s = false := by
  unfold goodS
  rw [Bool.and_eq_false_iff]
  right
  unfold goodTo
  rw [decide_eq_false_iff_not]
  intro hh
  have := hh k hk
  rcases h with h | h
  · rw [h] at this; exact absurd this.1 (by simp)
  · rw [h] at this; exact absurd this.2 (by simp)
theorem unL_succ (s : ByteArray) (k : Nat) : unL s (k + 1) = unL s k ++ [pr s k] := by
  unfold unL; rw [List.range_succ, List.map_append]; rfl
theorem unL_length (s : ByteArray) (k : Nat) : (unL s k).length = k := by simp [unL]

/-- what lies in the made slice behind k rounds -/
def fillTo (s : ByteArray) (n k : Nat) : List UInt8 := unL s k ++ List.replicate (n - k) 0
theorem fillTo_length (s : ByteArray) (n k : Nat) (h : k ≤ n) : (fillTo s n k).length = n := by simp [fillTo, unL_length]; omega
theorem fillTo_set (s : ByteArray) (n k : Nat) (h : k < n) : (fillTo s n k).set k (pr s k) = fillTo s n (k + 1) := by
  unfold fillTo
  obtain ⟨m, hm⟩ : ∃ m, n - k = m + 1 := ⟨n - k - 1, by omega⟩
  have hm' : n - (k + 1) = m := by omega
  rw [hm, hm', unL_succ, List.set_append_right _ _ (by rw [unL_length]; exact Nat.le_refl _), unL_length, Nat.sub_self, List.replicate_succ, List.set_cons_zero, List.append_assoc]
  rfl

theorem or_pr (s : ByteArray) (k : Nat) (h0 : isHv (sb s (2 * (k : Int))) = true) (h1 : isHv (sb s (2 * (k : Int) + 1)) = true) :
    bits .or .u8 ((hvZ (sb s (2 * (k : Int))) : Int) * 16) (hvZ (sb s (2 * (k : Int) + 1)) : Int) = ((pr s k).toNat : Int) := by
  have a0 : hvN (sb s (2 * (k : Int))) < 16 := of_decide_eq_true h0
  have a1 : hvN (sb s (2 * (k : Int) + 1)) < 16 := of_decide_eq_true h1
  unfold hvZ pr
  rw [if_pos a0, if_pos a1]
  generalize hvN (sb s (2 * (k : Int))) = x at *
  generalize hvN (sb s (2 * (k : Int) + 1)) = y at *
  have hx : ((x : Int) * 16) = ((UInt8.ofNat (x * 16)).toNat : Int) := by rw [UInt8.toNat_ofNat']; omega
  have hy : ((y : Int)) = ((UInt8.ofNat y).toNat : Int) := by rw [UInt8.toNat_ofNat']; omega
  rw [hx, hy, bits_or8, UInt8.toNat_or, UInt8.toNat_ofNat', UInt8.toNat_ofNat', UInt8.toNat_ofNat']
  have e : x * 16 % 2 ^ 8 ||| y % 2 ^ 8 = 16 * x + y := by
    rw [Nat.mod_eq_of_lt (by omega : x * 16 < 2 ^ 8), Nat.mod_eq_of_lt (by omega : y < 2 ^ 8), Nat.mul_comm x 16]
    exact (Nat.two_pow_add_eq_or_of_lt (i := 4) a1 x).symm
  rw [e]; omega

theorem ret_un {v : Value} {a b : Int} (h : a = b) : Ending.returned (.tuple #[v, .int .i64 a]) = .returned (.tuple #[v, .int .i64 b]) := by rw [h]
attribute [local go_sem ↓] ixs

set_option maxHeartbeats 1000000 in
theorem digUnhex (s : ByteArray) (w : World) (hs : s.size ≤ 140737488355328) :
    Calls Try.prog 19 #[.string s] w fun e w' => ∃ v, e = .returned (.tuple #[v, .int .i64 (unE s)]) ∧ OwnB w' w.heap.size v (unR s) ∧ Below w.heap.size w w' := by
  by_cases hev : s.size % 2 = 0
  · obtain ⟨n, hn⟩ : ∃ n, n = s.size / 2 := ⟨_, rfl⟩
    have Hn : Hid (n = s.size / 2) := hn
    have hn2 : s.size = 2 * n := by omega
    have Hn2 : Hid (s.size = 2 * n) := hn2
    have hz1 : ((s.size : Int).tmod 2 != 0) = false := by rw [Int.tmod_eq_emod_of_nonneg (by omega)]; simp; omega
    have hz2 : (s.size : Int) / 2 = (n : Int) := by omega
    have hnb : n ≤ 140737488355328 := by omega
    clear hn hn2
    go_enter Try.func19, Try.ntmps19
    go_wp2_with (at_make; refine make_full8 _ rfl _ _ rfl w.heap.size .i64 .i64 _ _ n rfl rfl (by omega) (by omega) (by omega) (Nat.le_refl _) ?_; intro w1 hown1 hgrow1)
    go_loopw [19] (fun i wr => ∃ k : Nat, k ≤ n ∧ i = .int .i64 k ∧ Hid (goodTo s k = true) ∧ OwnB wr w.heap.size (.slice (some ⟨w.heap.size, 0, none⟩) n n) (fillTo s n k) ∧ Below w.heap.size w wr) (fun i _ => n - (intOf i).toNat)
    case atStart => exact ⟨0, Nat.zero_le _, rfl, by simp [Hid, goodTo], hown1, (Below.refl _ _).grown hgrow1 (Nat.le_refl _) (fun k h => by cases h)⟩
    case round =>
      obtain ⟨k, hk, rfl, hgood, hown, hbel⟩ := hrel
      clear hown1 hgrow1
      by_cases hlt : k < n
      · have hb0 : (0 : Int) ≤ 2 * (k : Int) := by omega
        have hb1 : 2 * (k : Int) < (s.size : Int) := by have := Hn2.out; omega
        have hb2 : (0 : Int) ≤ 2 * (k : Int) + 1 := by omega
        have hb3 : 2 * (k : Int) + 1 < (s.size : Int) := by have := Hn2.out; omega
        have hlt' : (k : Int) < (n : Int) := by omega
        by_cases h0 : isHv (sb s (2 * (k : Int))) = true
        · by_cases h1 : isHv (sb s (2 * (k : Int) + 1)) = true
          · have hc := hown.cellAt (fillTo_length s n k hk) k hlt
            have hf := hown.frozenAt (fillTo_length s n k hk) k
            have hz : hvZ (sb s (2 * (k : Int))) ≤ 15 := by unfold hvZ; split <;> omega
            have HS : Hid (OwnB (wr.setCell ⟨w.heap.size, k, none⟩ (.int .u8 ((pr s k).toNat : Int))) w.heap.size (.slice (some ⟨w.heap.size, 0, none⟩) n n) (fillTo s n (k + 1))) := by
              have := hown.set (fillTo_length s n k hk) k (pr s k)
              rw [fillTo_set s n k hlt] at this; exact this
            have HO : Hid (bits .or .u8 ((hvZ (sb s (2 * (k : Int))) : Int) * 16) (hvZ (sb s (2 * (k : Int) + 1)) : Int) = ((pr s k).toNat : Int)) := or_pr s k h0 h1
            have HG : Hid (goodTo s (k + 1) = true) := by unfold Hid; rw [goodTo_succ, hgood.out, h0, h1]; rfl
            clear hown
            go_wp2_with (go_at_call 34; refine (hexValue _ _).mono ?_; rintro e w' ⟨rfl, rfl⟩)
            go_roundw
            case rel => exact ⟨k + 1, by omega, by go_num, HG.out, by rw [HO.out]; exact HS.out, hbel.setCell (Nat.le_refl _) _⟩
            case measure => simp [intOf]; omega
          · have h1' : isHv (sb s (2 * (k : Int) + 1)) = false := by simpa using h1
            have HG : Hid (goodS s = false) := good_no s k (by rw [← Hn.out]; exact hlt) (.inr h1')
            go_wp2_with (go_at_call 34; refine (hexValue _ _).mono ?_; rintro e w' ⟨rfl, rfl⟩)
            go_ret2
            exact ⟨.slice none 0 0, ret_un (by unfold unE; rw [HG.out]; rfl), by unfold unR; rw [HG.out]; exact OwnB.nil _ _, hbel⟩
        · have h0' : isHv (sb s (2 * (k : Int))) = false := by simpa using h0
          have HG : Hid (goodS s = false) := good_no s k (by rw [← Hn.out]; exact hlt) (.inl h0')
          go_wp2_with (go_at_call 34; refine (hexValue _ _).mono ?_; rintro e w' ⟨rfl, rfl⟩)
          go_ret2
          exact ⟨.slice none 0 0, ret_un (by unfold unE; rw [HG.out]; rfl), by unfold unR; rw [HG.out]; exact OwnB.nil _ _, hbel⟩
      · have hkn : k = n := by omega
        subst hkn
        have HG : Hid (goodS s = true) := by unfold Hid goodS; rw [← Hn.out, hgood.out, hev]; rfl
        have HF : Hid (fillTo s k k = unR s) := by unfold Hid fillTo unR; rw [HG.out, ← Hn.out, Nat.sub_self]; simp
        rw [HF.out] at hown
        go_wp2
        go_ret2
        exact ⟨_, ret_un (by unfold unE; rw [HG.out]; rfl), hown, hbel⟩
  · have hz1 : (s.size : Int) % 2 = 1 := by omega
    have HG : Hid (goodS s = false) := by unfold Hid goodS; simp; intro h; omega
    go_enter Try.func19, Try.ntmps19
    go_wp2
    go_ret2
    exact ⟨.slice none 0 0, ret_un (by unfold unE; rw [HG.out]; rfl), by unfold unR; rw [HG.out]; exact OwnB.nil _ _, Below.refl _ _⟩
end Go.Proofs.Ytbkihkfbikbgjaa
