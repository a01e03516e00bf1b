/- Rules that came in, with how many they may be. -/
import Derived.Test.YtihfpoclflppnaaDoorB38
namespace Go.Proofs.YtihfpoclflppnaaDoor
open Go.ChangeShapes Go.WideShapes

set_option maxRecDepth 100000 in
theorem rules_bytes {H : Type} {enc : TypeId × Value → H} {W : World} {fuel : Nat} {a : Option Addr} {len cap : Nat} {x : DataW H × List MemPlace} (h : DataW.trod enc Tryd.prog W 0 (fun _ => true) true fuel 22 [.slice a len cap] = some x)
    (N : Nat) (hN : ∀ n ∈ x.1.weights Tryd.prog 22, n ≤ N) : len * 56 ≤ N := by
  rcases Deep.open_slice Tryd.underlying22 h with ⟨hcs, _⟩ | ⟨ad, l, c, m, n, D, Pl, hcs, _, hl, hm, hmm, hx, hel⟩
  · simp only [List.cons.injEq, and_true, Value.slice.injEq] at hcs
    obtain ⟨rfl, rfl, rfl⟩ := hcs
    omega
  · simp only [List.cons.injEq, and_true, Value.slice.injEq] at hcs
    obtain ⟨rfl, rfl, rfl⟩ := hcs
    have hb : Tryd.prog.bytesOf 38 = 56 := by kernel_rfl
    rw [hx] at hN
    simp only [DataW.weights, Tryd.underlying22, hb] at hN
    have := hN _ (List.mem_cons_self ..)
    simp only [List.length_map, List.length_range] at this
    omega
set_option maxRecDepth 100000 in
theorem open_rs8b {H : Type} {enc : TypeId × Value → H} {W : World} {r : Reach} {b0 : Nat} {v : Value} {d : DataW H} {pl : List MemPlace} (hv : Value.okWide Tryd.prog W r b0 22 v) (h : DataW.Trod enc Tryd.prog W 0 (fun _ => true) true 22 v d pl)
    (hN : ∀ n ∈ d.weights Tryd.prog 22, n ≤ 140737488351232) :
    ∃ a cap l, v = .slice a l.length cap ∧ IsRs W a l.length cap l ∧ ReachR l ∧ l.length * 56 ≤ 140737488351232 := by
  obtain ⟨a, n, cap, rfl⟩ := okWide_slice Tryd.underlying22 hv
  obtain ⟨fuel, hf⟩ := h
  obtain ⟨rs, hR, hw⟩ := open_rules hf
  have hb := rules_bytes hf _ hN
  have hl := hR.len_eq
  subst hl
  exact ⟨a, cap, rs, rfl, hR, fun i hi => ⟨hN _ (hw i hi).1, hN _ (hw i hi).2.1, hN _ (hw i hi).2.2⟩, hb⟩
end Go.Proofs.YtihfpoclflppnaaDoor
