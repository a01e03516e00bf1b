/- steleref06.Attach. -/
import Derived.Test.YtgjmaeodgcigdaaGreatDoorR6s
import Derived.Test.YtgjmaeodgcigdaaGreatDoorB37
import Derived.Sort.Walk0
namespace Go.Proofs.YtgjmaeodgcigdaaGreatDoor
open Go.RowKit

theorem leT_eq (x y : List UInt8) : decide (x ≤ y) = leT x y := by
  unfold leT
  rw [Go.Proofs.bytesLess_eq]
  by_cases h : y < x
  · rw [decide_eq_true h]
    have : ¬ x ≤ y := List.not_le.2 h
    rw [decide_eq_false this]; rfl
  · rw [decide_eq_false h]
    have : x ≤ y := List.not_lt.1 h
    rw [decide_eq_true this]; rfl
theorem nms_sort (hs : List Pr) : sortT (hs.map (·.1)) = nmsL hs := by
  unfold nmsL
  rw [sortT_merge]
  congr 1
  funext x y
  exact (leT_eq x y).symm
/-- where the date and the signature are right, the text is an authorization just if the parts are right -/
theorem att_right {who sec S : List UInt8} {t : Nat} {r : Rq} (hS : IsTime S t) (h : signE 0 (attR S r) (attT r.hs S) = 0) :
    rightL who (S.take 8) (attT r.hs S) (signT sec S 0 (attR S r) (attT r.hs S)) = auOk (attX who sec S 0 r) := by
  have hnm : namesL (attT r.hs S) = true := by
    cases hh : namesL (attT r.hs S) with
    | true => rfl
    | false =>
      unfold signE at h
      rw [if_pos rfl, (canon_no1 (r := attR S r) hh).1] at h
      cases h
  rw [right_same, Bool.eq_iff_iff]
  exact ⟨fun h1 => (au_back h1).2.2.2.2, fun h1 => right_who (time8 hS) hnm (sign_made h) h1⟩
end Go.Proofs.YtgjmaeodgcigdaaGreatDoor
