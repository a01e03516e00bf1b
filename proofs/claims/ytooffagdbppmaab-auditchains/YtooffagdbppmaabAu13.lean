/- AuditVerifies: the walk. -/
import Derived.Test.YtooffagdbppmaabAu12
import Derived.Test.YtooffagdbppmaabB43
namespace Go.Proofs.Ytooffagdbppmaab
open Go.RowKit

theorem light_of14 {l : List Rq14} (h : lightR (l.map Prod.fst) = true) : (∀ x ∈ l, rcLen x.1 ≤ 5000) ∧ l.length ≤ 100 := by
  obtain ⟨h1, h2⟩ := light_len h
  exact ⟨fun x hx => h1 x.1 (List.mem_map.2 ⟨x, hx, rfl⟩), by rw [List.length_map] at h2; exact h2⟩
attribute [local go_sem] undef
end Go.Proofs.Ytooffagdbppmaab
