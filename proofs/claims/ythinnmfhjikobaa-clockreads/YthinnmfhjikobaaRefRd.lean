/- What the document's Read answers, of whatever text. -/
import Derived.Test.YthinnmfhjikobaaRefRead
import Derived.Test.YthinnmfhjikobaaRead3
namespace Go.Proofs.Ythinnmfhjikobaa
open Go.RowKit

theorem refRead (s : ByteArray) (w : World) :
    Calls Try.prog 18 #[.string s] w fun e w' => ReadE s.data.toList e ∧ Below w.heap.size w w' := by
  have hlen : s.data.toList.length = s.size := by rw [Array.length_toList]; rfl
  by_cases h : s.size = 16
  · by_cases h2 : sb s 8 = 84 ∧ sb s 15 = 90
    · refine (refRead_body s w h h2.1 h2.2).mono ?_
      rintro e w' ⟨hr, hb⟩
      exact ⟨raw_read (by omega) h2.1 h2.2 hr, hb⟩
    · refine (refRead_sign s w h h2).mono ?_
      rintro e w' ⟨rfl, q, rfl⟩
      refine ⟨.inr ⟨fun t ht => h2 ?_, rfl⟩, bel_drewN (Below.refl _ _) q⟩
      obtain ⟨n, y, m, d, hh, i, c, hd, hn, h1, h2, h3, s8, s15, -⟩ := ht.six
      exact ⟨s8, s15⟩
  · refine (refRead_len s w h).mono ?_
    rintro e w' ⟨rfl, q, rfl⟩
    refine ⟨.inr ⟨fun t ht => h ?_, rfl⟩, bel_drewN (Below.refl _ _) q⟩
    have := ht.length
    omega
end Go.Proofs.Ythinnmfhjikobaa
