/- What the frame tells of a row of versions that came in. -/
import Derived.Test.YtjmkfkkkjcjplaaOpenLk
import Derived.Test.YtjmkfkkkjcjplaaEx0
import Derived.ChangeMaps5
namespace Go.Proofs.Ytjmkfkkkjcjplaa
open Go.ChangeShapes Go.WideShapes

theorem open_vss {H : Type} {enc : TypeId × Value → H} {W : World} {fuel : Nat} {a : Option Addr} {len cap : Nat} {x : DataW H × List MemPlace} (h : DataW.trod enc Try.prog W 0 (fun _ => true) true fuel 22 [.slice a len cap] = some x) (hN : ∀ n ∈ x.1.weights Try.prog 22, n ≤ 140737488351232) :
    ∃ l, RowC 10 vqc W a len l ∧ (∀ y ∈ l, VsOK W y.1 y.2) ∧ len ≤ 140737488351232 ∧ len ≤ cap ∧ (a = none → len = 0 ∧ cap = 0) := by
  obtain ⟨l, h1, h2, h3, h4, h5⟩ := open_row ((⟨⟨#[]⟩, ⟨#[]⟩, 0, 0, false, [], 0, 0, false, 0⟩, ⟨none, 0⟩) : Vq) 10 vqc (fun y => VsOK W y.1 y.2) 22 37 Try.underlying22 (by kernel_rfl) (by decide) (fun _ => rfl) open_vsc h hN
  rw [show Try.prog.bytesOf 37 = 112 by kernel_rfl] at h3
  exact ⟨l, h1, h2, by omega, h4, h5⟩
end Go.Proofs.Ytjmkfkkkjcjplaa
