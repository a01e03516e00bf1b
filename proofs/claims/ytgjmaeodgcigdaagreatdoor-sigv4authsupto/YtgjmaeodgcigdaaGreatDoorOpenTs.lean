/- What the frame tells of a slice of texts that came in. -/
import Derived.Test.YtgjmaeodgcigdaaGreatDoorB42
import Derived.Test.YtgjmaeodgcigdaaGreatDoorS6a
namespace Go.Proofs.YtgjmaeodgcigdaaGreatDoor
open Go.ChangeShapes Go.WideShapes

set_option maxRecDepth 100000 in
theorem open_texts {H : Type} {enc : TypeId × Value → H} {W : World} {fuel : Nat} {a : Option Addr} {len cap : Nat} {x : DataW H × List MemPlace} (h : DataW.trod enc Tryz.prog W 0 (fun _ => true) true fuel 26 [.slice a len cap] = some x) :
    ∃ ts, IsT W a len cap ts ∧ (∀ i, i < ts.length → (nthT ts i).length ∈ x.1.weights Tryz.prog 26) ∧ (∀ i, i < ts.length → (nthT ts i).length ≤ Rows.uptoBulk x.1) := by
  rcases Deep.open_slice Tryz.underlying26 h with ⟨hcs, _⟩ | ⟨ad, l, c, m, n, D, Pl, hcs, _, hl, hm, hmm, hx, hel⟩
  · simp only [List.cons.injEq, and_true, Value.slice.injEq] at hcs
    obtain ⟨rfl, rfl, rfl⟩ := hcs
    exact ⟨[], isT_nil W, (fun i hi => absurd hi (Nat.not_lt_zero _)), fun i hi => absurd hi (Nat.not_lt_zero _)⟩
  · simp only [List.cons.injEq, and_true, Value.slice.injEq] at hcs
    obtain ⟨rfl, rfl, rfl⟩ := hcs
    have hmc : m = cap := by simpa using hmm
    subst hmc
    rw [cellsS1] at hel
    have each : ∀ i, i < len → ∃ q : List UInt8, W.cell? (ad.add i) = some (.string (str q)) ∧ q.length ∈ x.1.weights Tryz.prog 26 ∧ q.length ≤ Rows.uptoBulk x.1 := by
      intro i hi
      obtain ⟨cs', h1, h2⟩ := hel i (by omega)
      obtain ⟨_, hlen, hcell⟩ := World.cells?_some h1
      obtain ⟨s, e, x1, _⟩ := DataW.trod_string Tryz.underlying9 h2
      subst e
      replace x1 : D i = .lit (.string s.data.toList) := (Prod.mk.inj x1).1
      have e0 := hcell 0 (by omega)
      rw [Deep.add_add] at e0
      have hmem : D i ∈ (List.range len).map D := List.mem_map.2 ⟨i, List.mem_range.2 hi, rfl⟩
      have hbk : Rows.uptoBulk (D i) ≤ Rows.uptoBulk x.1 := by
        have := bulk_mem hmem
        rw [hx]; simp only [Rows.uptoBulk]; omega
      refine ⟨s.data.toList, by rw [str_of]; simpa using e0, ?_, ?_⟩
      · rw [hx]
        simp only [DataW.weights, Tryz.underlying26, List.mem_cons, List.mem_append]
        refine .inr (.inl (weights_all hmem _ ?_))
        rw [x1]
        simp [DataW.weights]
      · rw [x1] at hbk
        simp only [Rows.uptoBulk] at hbk
        omega
    haveI : Inhabited (List UInt8) := ⟨[]⟩
    obtain ⟨q, hq⟩ := Deep.choose_lt each
    have hn : ∀ i, i < len → nthT ((List.range len).map fun i => q i) i = q i := fun i hi => by
      rw [nthT_eq _ _ (by simpa using hi)]; simp
    refine ⟨(List.range len).map fun i => q i, ⟨by simp, hl, hm, fun e => (by cases e), fun hp => ?_⟩, (fun i hi => ?_), fun i hi => ?_⟩
    · obtain ⟨b, off, spot⟩ := ad
      have hspot : spot = none := by simpa [Addr.add] using World.cell?_spot (hq 0 hp).1
      subst hspot
      refine ⟨b, off, rfl, fun i hi => ?_⟩
      have h0 := (hq i hi).1
      rw [Addr.add_lit] at h0
      rw [hn i hi]
      exact h0
    · have hi' : i < len := by simpa using hi
      rw [hn i hi']
      exact (hq i hi').2.1
    · have hi' : i < len := by simpa using hi
      rw [hn i hi']
      exact (hq i hi').2.2
/-- a slice of texts that came in -/
structure TsIn (W : World) (v : Value) (ta : Option Addr) (tn tc : Nat) (ts : List (List UInt8)) : Prop where
  val : v = .slice ta tn tc
  isT : IsT W ta tn tc ts
set_option maxRecDepth 100000 in
theorem open_ts {H : Type} {enc : TypeId × Value → H} {W : World} {r : Reach} {b0 : Nat} {v : Value} {d : DataW H} {pl : List MemPlace} (hv : Value.okWide Tryz.prog W r b0 26 v) (h : DataW.Trod enc Tryz.prog W 0 (fun _ => true) true 26 v d pl)
    (N : Nat) (hN : ∀ n ∈ d.weights Tryz.prog 26, n ≤ N) :
    ∃ ta tn tc ts, TsIn W v ta tn tc ts ∧ (∀ i, i < ts.length → (nthT ts i).length ≤ N) ∧ (∀ i, i < ts.length → (nthT ts i).length ≤ Rows.uptoBulk d) := by
  obtain ⟨ta, tn, tc, rfl⟩ := okWide_slice Tryz.underlying26 hv
  obtain ⟨fuel, hf⟩ := h
  obtain ⟨ts, hT, hw, hu⟩ := open_texts hf
  exact ⟨ta, tn, tc, ts, ⟨rfl, hT⟩, fun i hi => hN _ (hw i hi), hu⟩
end Go.Proofs.YtgjmaeodgcigdaaGreatDoor
