/- How both stand ahead of a transaction. -/
import Derived.Test.YtacnoagjcacniaaGreatJs6
namespace Go.Proofs.YtacnoagjcacniaaGreat
open Go.RowKit

theorem rkNew (base : Nat) (w : World) (hb : base ≤ w.heap.size) : Calls Tryz.prog 10 #[.int .i64 64] w fun e w' => (∃ D, e = .returned (.pointer (some ⟨D, 0, none⟩)) ∧ IsRk (fun _ => False) w' D base 0 (Pl.new 64)) ∧ Below w.heap.size w w' := by
  have H := refNew9 64 w
  simp only [if_pos (show (64 : Int) ≤ 64 ∧ (64 : Int) ≤ 4096 by omega)] at H
  refine H.mono ?_
  rintro e w' ⟨⟨rfl, hD⟩, hbel⟩
  exact ⟨⟨_, rfl, ⟨_, _, _, hD.base hb, rfl, ⟨by show (64 : Int).toNat ≤ 4096; decide, Nat.zero_le _, fun g hg => (by cases hg), Nat.zero_le _, Nat.zero_le _, Nat.zero_le _⟩, fun h => h, fun _ _ h => h, fun _ h => h.elim⟩⟩, hbel⟩
/-- how both stand ahead of a transaction -/
structure PlayB (JA : World → Nat → Nat → Nat → Jl → Prop) (w : World) (J K P D base m : Nat) (j : Jl) : Prop where
  ja : JA w J P base j
  rj : RjAt w K D j.seq j.dead
  rk : IsRk (fun _ => False) w D base m j.p
  few : FewM j.p m
  lowK : base ≤ K
  seq : j.seq < 18446744073709551616

end Go.Proofs.YtacnoagjcacniaaGreat
