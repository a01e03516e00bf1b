/- What the document's Find answers. -/
import Derived.Test.YtabhifhmhojpbaaUri2
import Derived.Test.YtabhifhmhojpbaaRet
namespace Go.Proofs.Ytabhifhmhojpbaa
open Go.RowKit

set_option maxHeartbeats 1000000 in
theorem refFind (a : Option Addr) (n cap : Nat) (l : List Pr) (nm : List UInt8) (w : World) (h : IsP w a n cap l) :
    Calls Try.prog 18 #[.slice a n cap, .string (str nm)] w fun e w' => e = .returned (.tuple #[.string (str ((findL l nm).getD [])), .bool (findL l nm).isSome]) ∧ w' = w := by
  have HL : Hid (l.length = n) := h.len_eq
  have H : Hid (IsP w a n cap l) := h
  have hm : n ≤ 9223372036854775807 := by have := h.le; have := h.max; unfold maxLen at this; omega
  clear h
  go_enter Try.func18, Try.ntmps18
  go_wp2
  go_loopw [6] (fun i wr => ∃ (k : Nat), k ≤ n ∧ i = .int .i64 k ∧ Hid (∀ i, i < k → ¬ (nthP l i).1 = nm) ∧ wr = w) (fun i _ => n - (intOf i).toNat)
  case atStart => exact ⟨0, Nat.zero_le _, rfl, fun i hi => absurd hi (Nat.not_lt_zero _), rfl⟩
  case round =>
    obtain ⟨k, hk, rfl, HD, rfl⟩ := hrel
    by_cases hlt : k < n
    · obtain ⟨b, off, rfl, hc⟩ := H.out.cells (by omega)
      obtain ⟨c1, c2⟩ := hc k hlt
      have hb0 : (0 : Int) ≤ (k : Int) := by omega
      have hb1 : (k : Int) < (n : Int) := by omega
      clear hc
      by_cases he : (nthP l k).1 = nm
      · have HQ : Hid (findL l nm = some (nthP l k).2) := find_at l nm k (by rw [HL.out]; exact hlt) HD.out he
        have hq : ((str (nthP l k).1).toList == (str nm).toList) = true := by rw [str_beq]; simpa using he
        clear he
        generalize nthP l k = p at *
        go_wp2
        go_ret2
        exact ⟨ret_sb (by rw [HQ.out]; rfl) (by rw [HQ.out]; rfl), by first | rfl | trivial⟩
      · have hq : ((str (nthP l k).1).toList == (str nm).toList) = false := by rw [str_beq]; simpa using he
        have HT : Hid (∀ i, i < k + 1 → ¬ (nthP l i).1 = nm) := by
          intro i hi
          rcases Nat.lt_or_ge i k with h | h
          · exact HD.out i h
          · have : i = k := by omega
            subst this
            exact he
        clear he
        generalize nthP l k = p at c1 c2 hq
        go_wp2
        go_roundw
        case rel => exact ⟨k + 1, by omega, by go_num, HT, by first | rfl | trivial⟩
        case measure => simp [intOf]; omega
    · have HQ : Hid (findL l nm = none) := find_none l nm (fun i hi => HD.out i (by rw [HL.out] at hi; omega))
      go_wp2
      go_ret2
      exact ⟨ret_sb (by rw [HQ.out]; rfl) (by rw [HQ.out]; rfl), by first | rfl | trivial⟩
end Go.Proofs.Ytabhifhmhojpbaa
