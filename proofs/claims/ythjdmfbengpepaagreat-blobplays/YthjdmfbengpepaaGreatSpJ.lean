/- SpacePlays: one call of both, whatever it is; both made and mounted. -/
import Derived.Test.YthjdmfbengpepaaGreatSpE
import Derived.Test.YthjdmfbengpepaaGreatSpF
import Derived.Test.YthjdmfbengpepaaGreatSpG
import Derived.Test.YthjdmfbengpepaaGreatSpI
import Derived.Test.YthjdmfbengpepaaGreatSpH
import Derived.Test.YthjdmfbengpepaaGreatB22
namespace Go.Proofs.YthjdmfbengpepaaGreat
open Go.RowKit

theorem rkNewN (n : Nat) (h0 : 64 ≤ n) (h1 : n ≤ 4096) (base : Nat) (w : World) (hb : base ≤ w.heap.size) : Calls Tryz.prog 9 #[.int .i64 (n : Int)] w fun e w' => (∃ D, e = .returned (.pointer (some ⟨D, 0, none⟩)) ∧ IsRk (fun _ => False) w' D base 0 (Pl.new n)) ∧ Below w.heap.size w w' := by
  have H := refNew9 (n : Int) w
  simp only [if_pos (show (64 : Int) ≤ (n : Int) ∧ (n : Int) ≤ 4096 by omega)] at H
  have en : (n : Int).toNat = n := by omega
  rw [en] at H
  refine H.mono ?_
  rintro e w' ⟨⟨rfl, hD⟩, hbel⟩
  exact ⟨⟨_, rfl, ⟨_, _, _, hD.base hb, rfl, ⟨h1, Nat.zero_le _, fun g hg => (by cases hg), Nat.zero_le _, Nat.zero_le _, Nat.zero_le _⟩, fun h => h, fun _ _ h => h, fun _ h => h.elim⟩⟩, hbel⟩
theorem mountN (n : Nat) (h0 : 64 ≤ n) (h1 : n ≤ 4096) : mountE (Pl.new n) = 0 ∧ mountP (Pl.new n) = Pl.new n ∧ mountS (Pl.new n) = 0 := by
  obtain ⟨h1, _, h2⟩ := mount_good (few_mnew n h0 h1) (good_new n)
  refine ⟨h1, ?_, by unfold mountS; rw [held_new]⟩
  rcases h2 with h2 | ⟨s, l, h2, _⟩
  · exact h2.2
  · rw [held_new] at h2; cases h2
theorem refMountN (n : Nat) (h0 : 64 ≤ n) (h1 : n ≤ 4096) (D base : Nat) (w : World) (h : IsRk (fun _ => False) w D base 0 (Pl.new n)) :
    Calls Tryz.prog 10 #[.pointer (some ⟨D, 0, none⟩)] w fun e w' => (∃ K, e = .returned (.tuple #[.pointer (some ⟨K, 0, none⟩), .int .i64 0]) ∧ Hid (RjAt w' K D 0 false) ∧ Hid (base ≤ K)) ∧ Hid (IsRk (fun _ => False) w' D base 50 (Pl.new n)) ∧ Hid (KC base w w') := by
  obtain ⟨e1, e2, e3⟩ := mountN n h0 h1
  have H := refMount10 D base 0 (Pl.new n) w h (by omega) h0 h1
  rw [e1, e2, e3] at H
  refine H.mono ?_
  rintro e w' ⟨hm, hr, hk, _, hb⟩
  unfold MtPost at hm
  rw [if_pos rfl] at hm
  obtain ⟨K, he, hl, hB⟩ := hm
  exact ⟨⟨K, he, hB, Nat.le_trans h.low hl⟩, hr, ⟨hk.wide (by decide), hb⟩⟩
theorem newFit (n : Nat) (h0 : 64 ≤ n) (h1 : n ≤ 4096) : Fit ⟨[], false⟩ ⟨Pl.new n, 0, false⟩ 50 :=
  ⟨(few_mnew n h0 h1).more (by omega), by omega, good_new n, Nat.zero_le _, fun g hg => (by cases hg), fun g hg => (by cases hg), rfl, rfl, by show (0 : Nat) < 18446744073709551616; omega⟩
end Go.Proofs.YthjdmfbengpepaaGreat
