/- The statements' mount, over any journal that keeps the document. -/
import Derived.Test.YtacnoagjcacniaaGreatB43
import Derived.BigQuiet
namespace Go.Proofs.YtacnoagjcacniaaGreat
open Go.RowKit

theorem IsRk.keepO {X : Nat → Prop} {w w' : World} {D base m : Nat} {p : Pl} (h : IsRk X w D base m p) {us : List TypeId} (hk : KeepO us w w') (h1 : 81 ∈ us) (h2 : 102 ∈ us) (h3 : 5 ∈ us) : IsRk X w' D base m p := by
  obtain ⟨r, vS, vC, a, b, c, d, e, f⟩ := h
  exact ⟨r, vS, vC, a.keepO hk h1 h2 h3, b, c, d, e, fun k hx => Nat.lt_of_lt_of_le (f k hx) hk.size⟩
theorem steps_51 : ∀ (l : Qs) (p : Pl), (∀ g ∈ l, g.1 < p.n ∧ g.2.length = 512) → stepsE p l = 0 ∨ stepsE p l = 51 := by
  intro l
  induction l with
  | nil =>
    intro p _
    rw [stepsE, Pl.flE]
    split
    · exact .inr rfl
    · exact .inl rfl
  | cons g l ih =>
    intro p hg
    rw [stepsE]
    split
    · exact ih _ (fun x hx => by rw [write_n]; exact hg x (by simp [hx]))
    · rename_i hz
      right
      have hg0 := hg g (by simp)
      unfold Pl.wrE at hz ⊢
      rw [inR_nat hg0.1] at hz ⊢
      by_cases ho : p.off = true
      · rw [if_pos ho]
      · rw [if_neg ho] at hz ⊢
        simp only [Bool.true_eq_false, if_false, hg0.2, ne_eq, not_true_eq_false] at hz ⊢
        split at hz
        · rename_i ha; rw [if_pos ha]
        · exact absurd rfl hz
theorem mount_51 {p : Pl} {m : Nat} (hp : FewM p m) (h : mountE p ≠ 0) : mountE p = 51 := by
  cases ho : p.off with
  | true =>
    have e : p.rdE 0 = 51 := by unfold Pl.rdE; rw [ho]; rfl
    unfold mountE
    rw [if_pos (by rw [e]; decide), e]
  | false =>
    unfold mountE at h ⊢
    have h0 := rdE_zero hp ho
    rw [if_neg (by simp [h0])] at h ⊢
    cases hh : heldJ p with
    | none => rw [hh] at h; exact absurd rfl h
    | some q =>
      obtain ⟨s, l⟩ := q
      rw [hh] at h
      have h1 := heldJ_len hh
      have h2 := heldJ_512 hp ho hh
      rcases steps_51 l p (fun g hg => ⟨(h1.2 g hg).2, h2.1 g hg⟩) with h3 | h3
      · exact absurd h3 h
      · exact h3
/-- what a mount of both gives -/
def MtBoth (JA : World → Nat → Nat → Nat → Jl → Prop) (w0 w : World) (P D base : Nat) (p : Pl) (vj vk : Value) : Prop :=
  if mountE p = 0 then ∃ J K, vj = .pointer (some ⟨J, 0, none⟩) ∧ vk = .pointer (some ⟨K, 0, none⟩) ∧ JA w J P base ⟨mountP p, mountS p, false⟩ ∧ RjAt w K D (mountS p) false ∧ w0.heap.size ≤ K
  else vj = .pointer none ∧ vk = .pointer none ∧ IsD0 w P base (mountP p)

set_option maxRecDepth 20000 in
set_option maxHeartbeats 4000000 in
theorem lawMount10 {JA : World → Nat → Nat → Nat → Jl → Prop} {TA : World → Nat → Nat → Nat → Nat → Tl → Jl → Prop} (ok : JrnOK JA TA) {X : Nat → Prop} (P D base m : Nat) (p : Pl) (w : World) (hP : IsD0 w P base p) (hD : IsRk X w D base m p) (hf : FewM p m) (hm : m ≤ 80000) :
    Calls Tryz.prog 11 #[.pointer (some ⟨P, 0, none⟩), .pointer (some ⟨D, 0, none⟩)] w fun e w' => (∃ vj vk, e = .returned (.tuple #[vj, vk, .bool true]) ∧ MtBoth JA w w' P D base p vj vk) ∧ IsRk X w' D base (m + 50) (mountP p) ∧ KeepO [4, 5, 38, 48] w w' ∧ Below base w w' := by
  have HD := mkHid hD
  by_cases he : mountE p = 0
  · have HM := jMount ok hP hf hm he
    have HR := fun W (hW : KP base w W) => refMount10 D base m p W (HD.out.keepO hW.o (by decide) (by decide) (by decide)) hm hf.n0 hf.n
    simp only [MtPost, if_pos he] at HR
    have HE : Hid (∀ W vj vk J K, vj = Value.pointer (some ⟨J, 0, none⟩) → vk = Value.pointer (some ⟨K, 0, none⟩) → JA W J P base ⟨mountP p, mountS p, false⟩ → RjAt W K D (mountS p) false → w.heap.size ≤ K → MtBoth JA w W P D base p vj vk) := fun W vj vk J K h1 h2 h3 h4 h5 => by unfold MtBoth; rw [if_pos he]; exact ⟨J, K, h1, h2, h3, h4, h5⟩
    generalize mountS p = sq at *
    clear hP hD
    go_enter Tryz.func11, Tryz.ntmps11
    go_wp2_with fail
    refine HM.mono ?_
    rintro e x1 ⟨⟨J, rfl, hJ1⟩, hk1⟩
    have HK1 := mkHid hk1
    have HJ1 := mkHid hJ1
    have HR1 := HR x1 hk1
    clear HM HR hJ1 hk1
    go_wp2_with fail
    refine HR1.mono ?_
    rintro e x2 ⟨⟨K, rfl, hK0, hK2⟩, hD2, hT2, _, hb2⟩
    have HJ2 := mkHid (ok.keepJ HJ1.out (hT2.wide (by decide)))
    have HKK := mkHid hK2
    have HD2 := mkHid hD2
    have HK0 := mkHid (Nat.le_trans HK1.out.o.size hK0)
    have HB2 := mkHid (HK1.out.b.trans hb2)
    have HO2 : Hid (KeepO [4, 5, 38, 48] w x2) := (HK1.out.o.less (by decide)).trans (KeepO.ofT hT2 (by decide))
    have k1 : x2.cell? ⟨K, 1, none⟩ = some (.int .u64 (sq : Int)) := Blk.cell hK2 1
    have HS : ∀ W, JA W J P base ⟨mountP p, sq, false⟩ → Calls Tryz.prog 24 #[.pointer (some ⟨J, 0, none⟩)] W fun e w' => e = .returned (.int .u64 (sq : Int)) ∧ Hid (JA w' J P base ⟨mountP p, sq, false⟩) ∧ Hid (KP base W w') := fun W hW => (ok.seq W J P base _ hW).mono fun _ _ ⟨h1, h2⟩ => ⟨h1, ok.keepJ hW (KeepT.of_below h2), KP.of_below h2 (ok.disk hW).low⟩
    have HLow : Hid (base ≤ x2.heap.size) := Nat.le_trans HD.out.low HB2.out.size
    have HKP : ∀ w', Hid (JA w' J P base ⟨mountP p, sq, false⟩) → Hid (KP base x2 w') → Hid (JA w' J P base ⟨mountP p, sq, false⟩) ∧ Hid (KP base x2 w') ∧ w'.cell? ⟨K, 1, none⟩ = some (.int .u64 (sq : Int)) := fun w' h1 h2 => ⟨h1, h2, Blk.cell (h2.out.o.blk HKK.out (by decide)) 1⟩
    have HQ0 := mkHid (HKP _ (mkHid (ok.keepJ HJ2.out (KeepT.of_below ((Below.refl _ x2).drew)))) (mkHid (KP.of_below ((Below.refl _ x2).drew) HLow.out)))
    clear HR1 hK0 hK2 hD2 hT2 hb2
    go_wp2_with fail
    go_region_held3 (fun w' => Hid (JA w' J P base ⟨mountP p, sq, false⟩) ∧ Hid (KP base x2 w') ∧ w'.cell? ⟨K, 1, none⟩ = some (.int .u64 (sq : Int)))
      (first | exact HQ0.out | assumption | (have hq0 := ‹Hid (JA _ _ _ _ _) ∧ _›; exact HKP _ hjx (mkHid (hq0.2.1.out.trans hkx.out))))
      (first
        | (go_at_call 24; have hq0 := ‹Hid (JA _ _ _ _ _) ∧ _›; refine (HS _ hq0.1.out).mono ?_; rintro e y ⟨rfl, hjx, hkx⟩; clear hq0))
    all_goals
      have hq9 := ‹Hid (JA _ _ _ _ _) ∧ _›
      go_wp2_with fail
      go_ret3
      refine ⟨⟨_, _, rfl, HE.out _ _ _ J K rfl rfl hq9.1.out (hq9.2.1.out.o.blk HKK.out (by decide)) HK0.out⟩, HD2.out.keepO hq9.2.1.out.o (by decide) (by decide) (by decide), HO2.out.trans (hq9.2.1.out.o.less (by decide)), HB2.out.trans hq9.2.1.out.b⟩
  · have HM := jMountNo ok hP hf hm he
    have HR := fun W (hW : KP base w W) => refMount10 D base m p W (HD.out.keepO hW.o (by decide) (by decide) (by decide)) hm hf.n0 hf.n
    simp only [MtPost, if_neg he] at HR
    have HE : Hid (∀ W, IsD0 W P base (mountP p) → MtBoth JA w W P D base p (.pointer none) (.pointer none)) := fun W h1 => by unfold MtBoth; rw [if_neg he]; exact ⟨rfl, rfl, h1⟩
    rw [mount_51 hf he] at HM
    simp only [mount_51 hf he] at HR
    clear hP hD
    go_enter Tryz.func11, Tryz.ntmps11
    go_wp2_with fail
    refine HM.mono ?_
    rintro e x1 ⟨⟨rfl, hI1⟩, hk1⟩
    have HK1 := mkHid hk1
    have HI1 := mkHid hI1
    have HR1 := HR x1 hk1
    clear HM HR hI1 hk1
    go_wp2_with fail
    refine HR1.mono ?_
    rintro e x2 ⟨rfl, hD2, hT2, _, hb2⟩
    have HI2 := mkHid (HI1.out.keep hT2 (by decide) (by decide) (by decide))
    have HD2 := mkHid hD2
    have HB2 := mkHid (HK1.out.b.trans hb2)
    have HO2 : Hid (KeepO [4, 5, 38, 48] w x2) := (HK1.out.o.less (by decide)).trans (KeepO.ofT hT2 (by decide))
    clear HR1 hD2 hT2 hb2
    have HLow : Hid (base ≤ x2.heap.size) := Nat.le_trans HD.out.low HB2.out.size
    go_wp2_with fail
    go_quiet (fail)
    have hd : Below x2.heap.size x2 (x2.drewN nq) := bel_drewN (Below.refl _ x2) nq
    go_wp2_with fail
    go_ret3
    exact ⟨⟨_, _, rfl, HE.out _ (HI2.out.on hd)⟩, HD2.out.on hd, HO2.out.trans (KeepO.of_below hd), HB2.out.trans (hd.mono HLow.out)⟩
end Go.Proofs.YtacnoagjcacniaaGreat
