/- What Attach tells, by the program and by the document. -/
import Derived.Test.YtgjmaeodgcigdaaGreatDoorB40
import Derived.Test.YtgjmaeodgcigdaaGreatDoorB43
import Derived.Test.YtgjmaeodgcigdaaGreatDoorR6u
namespace Go.Proofs.YtgjmaeodgcigdaaGreatDoor
open Go.RowKit

/-- what Attach tells, of a short request, at any time, on both sides -/
theorem att_both (who sec m p q : List UInt8) (hs : List Pr) (bd : List UInt8) (t : Nat) (ht : t < 18446744073709551616) (zw : who.length ≤ 50000) (zs : sec.length ≤ 100000) (zm : m.length ≤ 30000) (zp : p.length ≤ 30000) (zq : q.length ≤ 30000) (zb : bd.length ≤ 30000) (zn : hs.length ≤ 1000) (zh : ∀ i, i < hs.length → (nthP hs i).1.length ≤ 30000 ∧ (nthP hs i).2.length ≤ 30000) :
    ∃ (R : Int) (aO : List Pr), (R = 0 → aO.length ≤ 1002) ∧ (∀ (w : World) ha hn hc ba bn bc, IsP w ha hn hc hs → IsB w ba bn bc bd → MxS w →
      Calls Tryz.prog 24 #[.agg #[.string (str m), .string (str p), .string (str q), .slice ha hn hc, .slice ba bn bc], .string (str who), .string (str sec), .int .u64 (t : Int)] w fun e w' =>
        (if R = 0 then ∃ va vn vc ua un uc, e = .returned (.tuple #[.agg #[.string (str m), .string (str p), .string (str q), .slice va vn vc, .slice ua un uc], .int .i64 0]) ∧ IsP w' va vn vc aO ∧ IsB w' ua un uc bd
         else e = .returned (.tuple #[rqNone, .int .i64 R])) ∧ Below w.heap.size w w') ∧
      (∀ (w : World) ha hn hc ba bn bc, IsP w ha hn hc hs → IsB w ba bn bc bd →
      Calls Tryz.prog 25 #[.agg #[.string (str m), .string (str p), .string (str q), .slice ha hn hc, .slice ba bn bc], .string (str who), .string (str sec), .int .u64 (t : Int)] w fun e w' =>
        (if R = 0 then ∃ va vn vc, e = .returned (.tuple #[.agg #[.string (str m), .string (str p), .string (str q), .slice va vn vc, .slice ba bn bc], .int .i64 0]) ∧ IsP w' va vn vc aO
         else e = .returned (.tuple #[rqNone, .int .i64 R])) ∧ Below w.heap.size w w') := by
  obtain ⟨S, E, hsh, hs1, hs2⟩ := show_both t ht
  have hE : (E = 0 ∧ IsTime S t) ∨ E = 6 := by
    rcases hsh with ⟨_, _, h⟩ | ⟨_, h1, h2⟩
    · exact .inr h
    · exact .inl ⟨h2, h1⟩
  refine ⟨attE who sec S E ⟨m, p, q, hs, bd⟩, attO who sec S E ⟨m, p, q, hs, bd⟩, fun _ => ?_, fun w ha hn hc ba bn bc hP hB hm => ?_, fun w ha hn hc ba bn bc hP hB => ?_⟩
  · unfold attO attH
    rw [List.length_append, List.length_append]
    show hs.length + 1 + 1 ≤ 1002
    omega
  · refine codAttach who sec m p q ha hn hc hs ba bn bc bd t S E w hP hB hm zw zs zm zp zq (by have := hB.len_eq; omega) (fun i hi => (zh i hi).2) (fun i hi => Nat.le_trans (zh i hi).1 (by decide)) (fun h => ?_) hs1
    rcases hE with ⟨_, h1⟩ | h1
    · exact h1.length
    · rw [h1] at h; cases h
  · exact refAttach who sec m p q ha hn hc hs ba bn bc bd t S E w hP hB zw zs zm zp zq (by have := hB.len_eq; omega) zh (by have := hP.len_eq; omega) hE hs2
end Go.Proofs.YtgjmaeodgcigdaaGreatDoor
