/- One call of both: Take. · One call of both: Commit. · One call of both: Give. · One call of both: Read. · One call of both: Write. · A script of stage 11 in a world. · SpacePlays: one call of both, whatever it is; both made and mounted. -/
import Derived.Test.YthjdmfbengpepaaGreatB26
import Derived.Test.YthjdmfbengpepaaGreatB22
namespace Go.Proofs.YthjdmfbengpepaaGreat
open Go.RowKit

/-- a script's call -/
structure Sq where
  kind : Int
  at_ : Int
  by_ : UInt8
def sqc (o : Sq) : List Value := [.int .i64 o.kind, .int .i64 o.at_, .int .u8 (o.by_.toNat : Int)]
structure Both11 (SA : World → Nat → Nat → Nat → Nat → Tl → Jl → Prop) (w : World) (S R U J K P D base m : Nat) (t : Tl) (j : Jl) : Prop where
  sa : SA w S J P base t j
  rs : RefS w R U K D base m t j
  fit : Fit t j m
theorem Both11.on {JA : World → Nat → Nat → Nat → Jl → Prop} {SA : World → Nat → Nat → Nat → Nat → Tl → Jl → Prop} (so : SpcOK JA SA) {w w' : World} {S R U J K P D base m : Nat} {t : Tl} {j : Jl} (h : Both11 SA w S R U J K P D base m t j) (hb : Below w.heap.size w w') : Both11 SA w' S R U J K P D base m t j := ⟨so.keep h.sa (KeepT.of_below hb), h.rs.on hb, h.fit⟩
theorem KQ.ofK {base : Nat} {w w' : World} (h : KC base w w') : KQ base w w' := KQ.ofC h.t h.b
end Go.Proofs.YthjdmfbengpepaaGreat
namespace Go.Proofs.YthjdmfbengpepaaGreat
open Go.RowKit

end Go.Proofs.YthjdmfbengpepaaGreat
namespace Go.Proofs.YthjdmfbengpepaaGreat
open Go.RowKit

end Go.Proofs.YthjdmfbengpepaaGreat
namespace Go.Proofs.YthjdmfbengpepaaGreat
open Go.RowKit

end Go.Proofs.YthjdmfbengpepaaGreat
namespace Go.Proofs.YthjdmfbengpepaaGreat
open Go.RowKit

end Go.Proofs.YthjdmfbengpepaaGreat
namespace Go.Proofs.YthjdmfbengpepaaGreat
open Go.RowKit

def sq0 : Sq := ⟨0, 0, 0⟩
structure OkS (o : Sq) : Prop where
  kind0 : -9223372036854775808 ≤ o.kind
  kind1 : o.kind ≤ 9223372036854775807
  at0 : -9223372036854775808 ≤ o.at_
  at1 : o.at_ ≤ 9223372036854775807
structure IsSs (w : World) (a : Option Addr) (len cap : Nat) (os : List Sq) : Prop where
  len_eq : os.length = len
  max : len ≤ 140737488351232
  cells : 0 < len → ∃ b off, a = some ⟨b, off, none⟩ ∧ b < w.heap.size ∧ ∀ i, i < len → ∀ j, j < 3 → w.cell? ⟨b, off + i * 3 + j, none⟩ = (sqc (os.getD i sq0))[j]?
  ok : ∀ i, i < len → OkS (os.getD i sq0)
end Go.Proofs.YthjdmfbengpepaaGreat
namespace Go.Proofs.YthjdmfbengpepaaGreat
open Go.RowKit

theorem rkNewN (n : Nat) (h0 : 64 ≤ n) (h1 : n ≤ 4096) (base : Nat) (w : World) (hb : base ≤ w.heap.size) : Calls Tryz.prog 9 #[.int .i64 (n : Int)] w fun e w' => (∃ D, e = .returned (.pointer (some ⟨D, 0, none⟩)) ∧ IsRk (fun _ => False) w' D base 0 (Pl.new n)) ∧ Below w.heap.size w w' := by
  have H := refNew9 (n : Int) w
  simp only [if_pos (show (64 : Int) ≤ (n : Int) ∧ (n : Int) ≤ 4096 by omega)] at H
  have en : (n : Int).toNat = n := by omega
  rw [en] at H
  refine H.mono ?_
  rintro e w' ⟨⟨rfl, hD⟩, hbel⟩
  exact ⟨⟨_, rfl, ⟨_, _, _, hD.base hb, rfl, ⟨h1, Nat.zero_le _, fun g hg => (by cases hg), Nat.zero_le _, Nat.zero_le _, Nat.zero_le _⟩, fun h => h, fun _ _ h => h, fun _ h => h.elim⟩⟩, hbel⟩
theorem mountN (n : Nat) (h0 : 64 ≤ n) (h1 : n ≤ 4096) : mountE (Pl.new n) = 0 ∧ mountP (Pl.new n) = Pl.new n ∧ mountS (Pl.new n) = 0 := by
  obtain ⟨h1, _, h2⟩ := mount_good (few_mnew n h0 h1) (good_new n)
  refine ⟨h1, ?_, by unfold mountS; rw [held_new]⟩
  rcases h2 with h2 | ⟨s, l, h2, _⟩
  · exact h2.2
  · rw [held_new] at h2; cases h2
theorem refMountN (n : Nat) (h0 : 64 ≤ n) (h1 : n ≤ 4096) (D base : Nat) (w : World) (h : IsRk (fun _ => False) w D base 0 (Pl.new n)) :
    Calls Tryz.prog 10 #[.pointer (some ⟨D, 0, none⟩)] w fun e w' => (∃ K, e = .returned (.tuple #[.pointer (some ⟨K, 0, none⟩), .int .i64 0]) ∧ Hid (RjAt w' K D 0 false) ∧ Hid (base ≤ K)) ∧ Hid (IsRk (fun _ => False) w' D base 50 (Pl.new n)) ∧ Hid (KC base w w') := by
  obtain ⟨e1, e2, e3⟩ := mountN n h0 h1
  have H := refMount10 D base 0 (Pl.new n) w h (by omega) h0 h1
  rw [e1, e2, e3] at H
  refine H.mono ?_
  rintro e w' ⟨hm, hr, hk, _, hb⟩
  unfold MtPost at hm
  rw [if_pos rfl] at hm
  obtain ⟨K, he, hl, hB⟩ := hm
  exact ⟨⟨K, he, hB, Nat.le_trans h.low hl⟩, hr, ⟨hk.wide (by decide), hb⟩⟩
theorem newFit (n : Nat) (h0 : 64 ≤ n) (h1 : n ≤ 4096) : Fit ⟨[], false⟩ ⟨Pl.new n, 0, false⟩ 50 :=
  ⟨(few_mnew n h0 h1).more (by omega), by omega, good_new n, Nat.zero_le _, fun g hg => (by cases hg), fun g hg => (by cases hg), rfl, rfl, by show (0 : Nat) < 18446744073709551616; omega⟩
end Go.Proofs.YthjdmfbengpepaaGreat
