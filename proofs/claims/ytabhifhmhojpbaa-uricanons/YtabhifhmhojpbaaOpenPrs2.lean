/- What the frame tells of a slice of pairs that came in, and how long its texts may be. -/
import Derived.Test.YtabhifhmhojpbaaUri2
import Derived.Deep.SlicePairs
import Derived.SizedLaws
namespace Go.Proofs.Ytabhifhmhojpbaa
open Go.ChangeShapes Go.WideShapes

theorem weights_all {H : Type} {P : Program} {e : TypeId} {d : DataW H} : ∀ {l : List (DataW H)}, d ∈ l → ∀ n ∈ d.weights P e, n ∈ DataW.weightsAll P e l
  | [], h, _, _ => by cases h
  | x :: l, h, n, hn => by
    simp only [DataW.weightsAll, List.mem_append]
    rcases List.mem_cons.1 h with rfl | h
    · exact .inl hn
    · exact .inr (weights_all h n hn)

theorem cellsPr2 : Try.prog.cellsOf 42 = 2 := by kernel_rfl

set_option maxRecDepth 100000 in
theorem open_pair2 {H : Type} {enc : TypeId × Value → H} {W : World} {n : Nat} {cs : List Value} {d : DataW H} {pl : List MemPlace} (h : DataW.trod enc Try.prog W 0 (fun _ => true) true n 42 cs = some (d, pl)) :
    ∃ p : Pr, cs = [.string (str p.1), .string (str p.2)] ∧ p.1.length ∈ d.weights Try.prog 42 ∧ p.2.length ∈ d.weights Try.prog 42 := by
  obtain ⟨xs, k, hk, hxy, hcl, hxl, hf⟩ := DataW.trod_struct Try.underlying42 h
  rw [cellsPr2] at hcl
  match xs, hxl, cs, hcl with
  | [y0, y1], _, [v0, v1], _ =>
    have g0 := hf 0 _ rfl
    have g1 := hf 1 _ rfl
    have c9 : Try.prog.cellsOf 9 = 1 := by kernel_rfl
    simp [c9] at g0 g1
    obtain ⟨s0, e0, x0, _⟩ := DataW.trod_string Try.underlying9 g0
    obtain ⟨s1, e1, x1, _⟩ := DataW.trod_string Try.underlying9 g1
    simp only [List.cons.injEq, and_true] at e0 e1
    subst e0 e1
    have hd : d = .agg [y0.1, y1.1] := by have := (Prod.mk.inj hxy).1; simpa using this
    refine ⟨(s0.data.toList, s1.data.toList), by rw [str_of, str_of], ?_, ?_⟩
    · rw [hd, x0, x1]
      simp [DataW.weights, Try.underlying42, DataW.weightsEach]
    · rw [hd, x0, x1]
      simp [DataW.weights, Try.underlying42, DataW.weightsEach]

set_option maxRecDepth 100000 in
theorem open_pairs2 {H : Type} {enc : TypeId × Value → H} {W : World} {fuel : Nat} {a : Option Addr} {len cap : Nat} {x : DataW H × List MemPlace} (h : DataW.trod enc Try.prog W 0 (fun _ => true) true fuel 33 [.slice a len cap] = some x) :
    ∃ ps, IsP W a len cap ps ∧ (∀ i, i < ps.length → (nthP ps i).1.length ∈ x.1.weights Try.prog 33 ∧ (nthP ps i).2.length ∈ x.1.weights Try.prog 33) := by
  rcases Deep.open_slice Try.underlying33 h with ⟨hcs, _⟩ | ⟨ad, l, c, m, n, D, Pl, hcs, _, hl, hm, hmm, hx, hel⟩
  · simp only [List.cons.injEq, and_true, Value.slice.injEq] at hcs
    obtain ⟨rfl, rfl, rfl⟩ := hcs
    exact ⟨[], ⟨rfl, Nat.le_refl _, Nat.zero_le _, fun _ => rfl, fun h => absurd h (Nat.lt_irrefl 0)⟩, fun i hi => absurd hi (Nat.not_lt_zero _)⟩
  · simp only [List.cons.injEq, and_true, Value.slice.injEq] at hcs
    obtain ⟨rfl, rfl, rfl⟩ := hcs
    have hmc : m = cap := by simpa using hmm
    subst hmc
    rw [cellsPr2] at hel
    have each : ∀ i, i < len → ∃ q : Pr, W.cell? (ad.add (i * 2)) = some (.string (str q.1)) ∧ W.cell? (ad.add (i * 2 + 1)) = some (.string (str q.2)) ∧ q.1.length ∈ x.1.weights Try.prog 33 ∧ q.2.length ∈ x.1.weights Try.prog 33 := by
      intro i hi
      obtain ⟨cs', h1, h2⟩ := hel i (by omega)
      obtain ⟨_, _, hcell⟩ := World.cells?_some h1
      obtain ⟨p, rfl, hb1, hb2⟩ := open_pair2 h2
      have e0 := hcell 0 (by omega)
      have e1 := hcell 1 (by omega)
      rw [Deep.add_add] at e0 e1
      have hmem : D i ∈ (List.range len).map D := List.mem_map.2 ⟨i, List.mem_range.2 hi, rfl⟩
      refine ⟨p, by simpa using e0, by simpa using e1, ?_, ?_⟩
      · rw [hx]
        simp only [DataW.weights, Try.underlying33, List.mem_cons, List.mem_append]
        exact .inr (.inl (weights_all hmem _ hb1))
      · rw [hx]
        simp only [DataW.weights, Try.underlying33, List.mem_cons, List.mem_append]
        exact .inr (.inl (weights_all hmem _ hb2))
    haveI : Inhabited Pr := ⟨([], [])⟩
    obtain ⟨q, hq⟩ := Deep.choose_lt each
    have hn : ∀ i, i < len → nthP ((List.range len).map fun i => q i) i = q i := fun i hi => by
      rw [nthP_eq _ _ (by simpa using hi)]; simp
    refine ⟨(List.range len).map fun i => q i, ⟨by simp, hl, hm, fun e => (by cases e), fun hp => ?_⟩, fun i hi => ?_⟩
    · obtain ⟨b, off, spot⟩ := ad
      have hspot : spot = none := by simpa [Addr.add] using World.cell?_spot (hq 0 hp).1
      subst hspot
      refine ⟨b, off, rfl, fun i hi => ?_⟩
      obtain ⟨h0, h1, _⟩ := hq i hi
      rw [Addr.add_lit] at h0 h1
      rw [hn i hi, Nat.add_assoc]
      exact ⟨h0, h1⟩
    · have hi' : i < len := by simpa using hi
      rw [hn i hi']
      exact (hq i hi').2.2
end Go.Proofs.Ytabhifhmhojpbaa
