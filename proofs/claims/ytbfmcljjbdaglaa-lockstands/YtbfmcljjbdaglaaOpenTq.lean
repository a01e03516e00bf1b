/- A row of tries that came in. -/
import Derived.Test.YtbfmcljjbdaglaaOpenLk
import Derived.Test.YtbfmcljjbdaglaaLk8
namespace Go.Proofs.Ytbfmcljjbdaglaa
open Go.ChangeShapes Go.WideShapes

set_option maxRecDepth 100000 in
set_option maxHeartbeats 1000000 in
theorem open_tqc {H : Type} {enc : TypeId × Value → H} {W : World} (n : Nat) (cs : List Value) (x : DataW H × List MemPlace) (h : DataW.trod enc Try.prog W 0 (fun _ => true) true n 43 cs = some x) (hN : ∀ m ∈ x.1.weights Try.prog 43, m ≤ 140737488351232) :
    ∃ q : Tq, cs = tqc q ∧ TqOK q := by
  obtain ⟨d, pl⟩ := x
  obtain ⟨xs, k, hk, hxy, hcl, hxl, hf⟩ := DataW.trod_struct Try.underlying43 h
  rw [show Try.prog.cellsOf 43 = 4 by kernel_rfl] at hcl
  match xs, hxl, cs, hcl with
  | [y0, y1, y2], _, [v0, v1, v2, v3], _ =>
    have g0 := hf 0 _ rfl
    have g1 := hf 1 _ rfl
    have g2 := hf 2 _ rfl
    have c_R : Try.prog.cellsOf 24 = 2 := by kernel_rfl
    have c_b : Try.prog.cellsOf 4 = 1 := by kernel_rfl
    have c_u : Try.prog.cellsOf 22 = 1 := by kernel_rfl
    simp [c_R] at g0
    simp [c_u] at g1
    simp [c_b] at g2
    have hd : d = .agg [y0.1, y1.1, y2.1] := by have := (Prod.mk.inj hxy).1; simpa using this
    have hw0 : ∀ n ∈ y0.1.weights Try.prog 24, n ≤ 140737488351232 := fun n hn => hN n (by
      rw [hd]
      simp only [DataW.weights, Try.underlying43, DataW.weightsEach, List.map_cons, List.map_nil]
      simp [hn])
    obtain ⟨⟨m0, u0⟩, e0, i0, l0⟩ := open_rtc _ _ _ g0 hw0
    simp only [rtc, List.cons.injEq, and_true] at e0
    obtain ⟨rfl, rfl⟩ := e0
    obtain ⟨z1, e1, _, r1⟩ := DataW.trod_int Try.underlying22 g1
    simp only [List.cons.injEq, and_true] at e1
    subst e1
    have s1 : 0 ≤ z1 ∧ z1 ≤ 18446744073709551615 := by simpa [Lit.wf, IntKind.min, IntKind.max, IntKind.signed, IntKind.bits] using r1
    obtain ⟨x1, rfl⟩ : ∃ x : Nat, z1 = (x : Int) := ⟨z1.toNat, by omega⟩
    have l1 : x1 < 18446744073709551616 := by omega
    obtain ⟨x2, e2, _⟩ := DataW.trod_bool Try.underlying4 g2
    simp only [List.cons.injEq, and_true] at e2
    subst e2
    exact ⟨⟨m0, u0, x1, x2⟩, rfl, ⟨i0, l0, l1⟩⟩
theorem open_tqs {H : Type} {enc : TypeId × Value → H} {W : World} {fuel : Nat} {a : Option Addr} {len cap : Nat} {x : DataW H × List MemPlace} (h : DataW.trod enc Try.prog W 0 (fun _ => true) true fuel 41 [.slice a len cap] = some x) (hN : ∀ n ∈ x.1.weights Try.prog 41, n ≤ 140737488351232) :
    ∃ l, RowC 4 tqc W a len l ∧ (∀ y ∈ l, TqOK y) ∧ len ≤ 140737488351232 := by
  obtain ⟨l, h1, h2, h3, _⟩ := open_row (⟨0, 0, 0, false⟩ : Tq) 4 tqc TqOK 41 43 Try.underlying41 (by kernel_rfl) (by decide) (fun _ => rfl) open_tqc h hN
  rw [show Try.prog.bytesOf 43 = 32 by kernel_rfl] at h3
  exact ⟨l, h1, h2, by omega⟩
end Go.Proofs.Ytbfmcljjbdaglaa
