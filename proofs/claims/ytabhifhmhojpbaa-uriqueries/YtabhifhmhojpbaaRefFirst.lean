/- What the document's first answers. -/
import Derived.Test.YtabhifhmhojpbaaRefUri1
import Derived.Test.YtabhifhmhojpbaaUri1
namespace Go.Proofs.Ytabhifhmhojpbaa
open Go.RowKit

set_option maxHeartbeats 1000000 in
theorem refFirst (s : ByteArray) (c : UInt8) (w : World) (hs : s.size ≤ 40000000000000) :
    Calls Try.prog 32 #[.string s, .int .u8 (c.toNat : Int)] w fun e w' => e = .returned (.tuple #[.string (str (headL c s.data.toList)), .string (str (tailL c s.data.toList))]) ∧ Below w.heap.size w w' := by
  obtain ⟨l, hl⟩ : ∃ l, l = s.data.toList := ⟨_, rfl⟩
  have Hl : Hid (l = s.data.toList) := hl
  have HL : Hid (l.length = s.size) := by unfold Hid; rw [hl]; rfl
  have T1 := fun k => ext_take s k
  have T2 := fun k => ext_drop s k
  have T3 := str_of s
  rw [← hl] at T1 T2 T3 ⊢
  have H1 : Hid (∀ k, s.extract 0 k = str (l.take k)) := T1
  have H2 : Hid (∀ k, s.extract k s.size = str (l.drop k)) := T2
  have H3 : Hid (str l = s) := T3
  clear hl T1 T2 T3
  go_enter Try.func32, Try.ntmps32
  go_wp2
  go_loopw [6] (fun i wr => ∃ (k : Nat), k ≤ s.size ∧ i = .int .i64 k ∧ Hid (∀ i, i < k → ¬ nth l i = c) ∧ Below w.heap.size w wr) (fun i _ => s.size - (intOf i).toNat)
  case atStart => exact ⟨0, Nat.zero_le _, rfl, fun i hi => absurd hi (Nat.not_lt_zero _), Below.refl _ _⟩
  case round =>
    obtain ⟨k, hk, rfl, HD, hbel⟩ := hrel
    by_cases hlt : k < s.size
    · have hb0 : (0 : Int) ≤ (k : Int) := by omega
      have hb1 : (k : Int) < (s.size : Int) := by omega
      have hb2 : (k : Int) + 1 ≤ (s.size : Int) := by omega
      have hcn : nth l k = sb s (k : Int) := by rw [Hl.out]; rfl
      have hkl : k < l.length := by rw [HL.out]; exact hlt
      have hx0 := ixs s (k : Int) hb0 hb1
      generalize sb s (k : Int) = c0 at *
      by_cases hc : c0 = c
      · have Hq := head_at c l k hkl HD.out (hcn.trans hc)
        have HQ1 : Hid (headL c l = l.take k) := Hq.1
        have HQ2 : Hid (tailL c l = l.drop (k + 1)) := Hq.2
        subst hc
        clear hcn hkl Hq
        go_wp2
        go_quiet (fail)
        go_wp2
        go_ret2
        exact ⟨ret_ss (by rw [HQ1.out]; exact H1.out k) (by rw [HQ2.out]; exact H2.out (k + 1)), bel_drewN hbel _⟩
      · have hc' : ¬ (c0.toNat : Int) = (c.toNat : Int) := by intro e; exact hc (UInt8.toNat_inj.1 (by omega))
        have HT : Hid (∀ i, i < k + 1 → ¬ nth l i = c) := by
          intro i hi
          rcases Nat.lt_or_ge i k with h | h
          · exact HD.out i h
          · have : i = k := by omega
            subst this
            rw [hcn]; exact hc
        clear hcn hkl hc
        go_wp2
        go_roundw
        case rel => exact ⟨k + 1, by omega, by go_num, HT, hbel⟩
        case measure => simp [intOf]; omega
    · have Hq := head_none c l (fun i hi => HD.out i (by rw [HL.out] at hi; omega))
      have HQ1 : Hid (headL c l = l) := Hq.1
      have HQ2 : Hid (tailL c l = []) := Hq.2
      clear Hq
      go_wp2
      go_ret2
      exact ⟨ret_ss (by rw [HQ1.out, H3.out]) (by rw [HQ2.out]; rfl), hbel⟩
end Go.Proofs.Ytabhifhmhojpbaa
