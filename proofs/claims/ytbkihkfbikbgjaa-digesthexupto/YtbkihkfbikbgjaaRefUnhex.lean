/- What the document's Unhex answers, of any text. -/
import Derived.Test.YtbkihkfbikbgjaaDigUnhex
namespace Go.Proofs.Ytbkihkfbikbgjaa
open Go.RowKit
attribute [local go_sem ↓] Go.wp_at_zero Go.wp_at_succ ixs

theorem pr_eq (s : ByteArray) (k : Nat) (h0 : isHv (sb s (2 * (k : Int))) = true) (h1 : isHv (sb s (2 * (k : Int) + 1)) = true) :
    (hvN (sb s (2 * (k : Int))) : Int) * 16 + (hvN (sb s (2 * (k : Int) + 1)) : Int) = ((pr s k).toNat : Int) := by
  have a0 : hvN (sb s (2 * (k : Int))) < 16 := of_decide_eq_true h0
  have a1 : hvN (sb s (2 * (k : Int) + 1)) < 16 := of_decide_eq_true h1
  unfold pr
  rw [UInt8.toNat_ofNat']; omega

set_option maxHeartbeats 1000000 in
theorem refUnhex (s : ByteArray) (w : World) (hs : s.size ≤ 140737488355328) :
    Calls Try.prog 20 #[.string s] w fun e w' => ∃ v, e = .returned (.tuple #[v, .int .i64 (unE s)]) ∧ OwnB w' w.heap.size v (unR s) ∧ Below w.heap.size w w' := by
  by_cases hev : s.size % 2 = 0
  · obtain ⟨n, hn⟩ : ∃ n, n = s.size / 2 := ⟨_, rfl⟩
    have Hn : Hid (n = s.size / 2) := hn
    have hn2 : s.size = 2 * n := by omega
    have Hn2 : Hid (s.size = 2 * n) := hn2
    have hz1 : (s.size : Int) % 2 = 0 := by omega
    have hnb : n ≤ 140737488355328 := by omega
    clear hn hn2
    go_enter Try.func20, Try.ntmps20
    go_wp2
    go_loopw [4, 5] (fun v i wr => ∃ k : Nat, k ≤ n ∧ i = .int .i64 (2 * (k : Int)) ∧ Hid (goodTo s k = true) ∧ OwnB wr w.heap.size v (unL s k) ∧ Below w.heap.size w wr) (fun _ i _ => 2 * n - (intOf i).toNat)
    case atStart => exact ⟨0, Nat.zero_le _, rfl, by simp [Hid, goodTo], OwnB.nil _ _, Below.refl _ _⟩
    case round =>
      obtain ⟨k, hk, rfl, hgood, hown, hbel⟩ := hrel
      clear hz1
      have HL : Hid ((unL s k).length = k) := unL_length s k
      by_cases hlt : k < n
      · have hb0 : (0 : Int) ≤ 2 * (k : Int) := by omega
        have hb1 : 2 * (k : Int) < (s.size : Int) := by have := Hn2.out; omega
        have hb2 : (0 : Int) ≤ 2 * (k : Int) + 1 := by omega
        have hb3 : 2 * (k : Int) + 1 < (s.size : Int) := by have := Hn2.out; omega
        by_cases h0 : isHv (sb s (2 * (k : Int))) = true
        · have a0 : hvN (sb s (2 * (k : Int))) < 16 := of_decide_eq_true h0
          by_cases h1 : isHv (sb s (2 * (k : Int) + 1)) = true
          · have a1 : hvN (sb s (2 * (k : Int) + 1)) < 16 := of_decide_eq_true h1
            have HS : Hid (unL s (k + 1) = unL s k ++ [pr s k]) := unL_succ s k
            have HG : Hid (goodTo s (k + 1) = true) := by unfold Hid; rw [goodTo_succ, hgood.out, h0, h1]; rfl
            have hO := pr_eq s k h0 h1
            have hw := wrap8_nat (pr s k).toNat (pr s k).toNat_lt
            have HB := hown.blk
            have hw3 : IntKind.i64.wrap ((hvN (sb s (2 * (k : Int))) : Int) * 16) = (hvN (sb s (2 * (k : Int))) : Int) * 16 := wrapi64_in _ (by omega) (by omega)
            have hw4 : IntKind.i64.wrap ((pr s k).toNat : Int) = ((pr s k).toNat : Int) := by have := (pr s k).toNat_lt; exact wrapi64_in _ (by omega) (by omega)
            have hw2 : IntKind.i64.wrap (2 * (k : Int) + 1) = 2 * (k : Int) + 1 := wrapi64_in _ (by omega) (by omega)
            clear h0 h1
            go_wp2_with (go_at_call 35; refine (refDigit _ _).mono ?_; rintro e w' ⟨rfl, hww⟩; rw [hww]; clear hww w')
            go_region_held3 (fun w' => True) (trivial)
              (first | (go_at_call 35; refine (refDigit _ _).mono ?_; rintro e w' ⟨rfl, hww⟩; rw [hww]; clear hww w') | (refine step_app8 _ (by rfl) _ _ (by rfl) w.heap.size _ (unL s k) (by rfl) ((hown.alloc _).heap rfl) wr.heap.size 1 1 [pr s k] (by rfl) (by rfl) (heap_alloc_new wr _) (by omega) (by rw [HL.out]; omega) (by have := hbel.size; simp; omega) (wr.heap.size + 1) (by simp) ?_; intro gg cap w1 hown1 hgrow hat hlt1))
            all_goals
              go_wp2
              go_roundw
              case rel => exact ⟨k + 1, by omega, by go_num, HG.out, by rw [HS.out]; exact hown1, ((hbel.alloc hbel.size _).drew).grown hgrow (by have := hbel.size; simp; omega) (fun j hj => (HB j hj).1)⟩
              case measure => simp [intOf]; omega
          · have h1' : isHv (sb s (2 * (k : Int) + 1)) = false := by simpa using h1
            have a1 : 16 ≤ hvN (sb s (2 * (k : Int) + 1)) := by have := of_decide_eq_false h1'; omega
            have HG : Hid (goodS s = false) := good_no s k (by rw [← Hn.out]; exact hlt) (.inr h1')
            go_wp2_with (go_at_call 35; refine (refDigit _ _).mono ?_; rintro e w' ⟨rfl, hww⟩; rw [hww]; clear hww w')
            go_ret2
            exact ⟨.slice none 0 0, ret_un (by unfold unE; rw [HG.out]; rfl), by unfold unR; rw [HG.out]; exact OwnB.nil _ _, hbel⟩
        · have h0' : isHv (sb s (2 * (k : Int))) = false := by simpa using h0
          have a0 : 16 ≤ hvN (sb s (2 * (k : Int))) := by have := of_decide_eq_false h0'; omega
          have HG : Hid (goodS s = false) := good_no s k (by rw [← Hn.out]; exact hlt) (.inl h0')
          go_wp2_with (go_at_call 35; refine (refDigit _ _).mono ?_; rintro e w' ⟨rfl, hww⟩; rw [hww]; clear hww w')
          go_ret2
          exact ⟨.slice none 0 0, ret_un (by unfold unE; rw [HG.out]; rfl), by unfold unR; rw [HG.out]; exact OwnB.nil _ _, hbel⟩
      · have hkn : k = n := by omega
        subst hkn
        have hb1 : ¬ (2 * (k : Int) < (s.size : Int)) := by have := Hn2.out; omega
        have HG : Hid (goodS s = true) := by unfold Hid goodS; rw [← Hn.out, hgood.out, hev]; rfl
        have HF : Hid (unL s k = unR s) := by unfold Hid unR; rw [HG.out, ← Hn.out]; simp
        rw [HF.out] at hown
        go_wp2
        go_ret2
        exact ⟨_, ret_un (by unfold unE; rw [HG.out]; rfl), hown, hbel⟩
  · have hz1 : (s.size : Int) % 2 = 1 := by omega
    have HG : Hid (goodS s = false) := by unfold Hid goodS; simp; intro h; omega
    go_enter Try.func20, Try.ntmps20
    go_wp2
    go_ret2
    exact ⟨.slice none 0 0, ret_un (by unfold unE; rw [HG.out]; rfl), by unfold unR; rw [HG.out]; exact OwnB.nil _ _, Below.refl _ _⟩
end Go.Proofs.Ytbkihkfbikbgjaa
