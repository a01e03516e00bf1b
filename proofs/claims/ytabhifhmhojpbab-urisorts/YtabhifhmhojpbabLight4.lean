/- What light answers of one text, and of two. -/
import Derived.Test.YtabhifhmhojpbabLawLight
import Derived.Test.YtabhifhmhojpbabBlk
import Derived.Below
namespace Go.Proofs.Ytabhifhmhojpbab
open Go.RowKit

def lightW (s : ByteArray) (w : World) : World := w.alloc (.cells #[.string s] 9)
def lightW2 (s t : ByteArray) (w : World) : World := w.alloc (.cells #[.string s, .string t] 9)
theorem lightW_bel (s : ByteArray) (w : World) : Below w.heap.size w (lightW s w) := (Below.refl _ _).alloc (Nat.le_refl _) _
theorem lightW2_bel (s t : ByteArray) (w : World) : Below w.heap.size w (lightW2 s t w) := (Below.refl _ _).alloc (Nat.le_refl _) _

theorem light1 (s : ByteArray) (w : World) (h : s.size ≤ 9223372036854775807) :
    Calls Try.prog 4 #[.slice (some ⟨w.heap.size, 0, none⟩) 1 1] (w.alloc (.cells #[.string s] 9)) fun e w' => e = .returned (.bool (decide (s.size ≤ 20000))) ∧ w' = lightW s w := by
  have hL := lawLight w.heap.size [s] (lightW s w) (by simp) (by simpa [sumS] using h) (fun i hi => by
    have e : i = 0 := by simp at hi; omega
    subst e
    exact (Blk.newAt w w.heap.size 9 _ [.string s] rfl rfl).cell 0)
  have e : sumS [s] = s.size := by simp [sumS]
  rw [e] at hL
  exact hL
theorem light2 (s t : ByteArray) (w : World) (h : s.size + t.size ≤ 9223372036854775807) :
    Calls Try.prog 4 #[.slice (some ⟨w.heap.size, 0, none⟩) 2 2] (w.alloc (.cells #[.string s, .string t] 9)) fun e w' => e = .returned (.bool (decide (s.size + t.size ≤ 20000))) ∧ w' = lightW2 s t w := by
  have hL := lawLight w.heap.size [s, t] (lightW2 s t w) (by simp) (by simpa [sumS] using h) (fun i hi => by
    have e : i = 0 ∨ i = 1 := by simp at hi; omega
    rcases e with rfl | rfl
    · exact (Blk.newAt w w.heap.size 9 _ [.string s, .string t] rfl rfl).cell 0
    · exact (Blk.newAt w w.heap.size 9 _ [.string s, .string t] rfl rfl).cell 1)
  have e : sumS [s, t] = s.size + t.size := by simp [sumS]
  rw [e] at hL
  exact hL
end Go.Proofs.Ytabhifhmhojpbab
