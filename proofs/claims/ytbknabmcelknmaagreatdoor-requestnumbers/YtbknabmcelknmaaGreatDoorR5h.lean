/- request: a target's parts. -/
import Derived.Test.YtbknabmcelknmaaGreatDoorR5d
import Derived.Test.YtbknabmcelknmaaGreatDoorCodQuery
namespace Go.Proofs.YtbknabmcelknmaaGreatDoor
open Go.RowKit

theorem pathC_or (l : List UInt8) : pathC l = 0 ∨ pathC l = 13 := by unfold pathC; split <;> simp
theorem queryC_or (l : List UInt8) : queryC l = 0 ∨ queryC l = 13 := by unfold queryC; split <;> simp

set_option maxRecDepth 20000 in
set_option maxHeartbeats 2000000 in
theorem codParted (t : List UInt8) (w : World) (ht : t.length ≤ 1000000) :
    Calls Tryz.prog 48 #[.string (str t)] w fun x w' => x = (if partC t = true then .returned (.tuple #[.string (str (headL 63 t)), .string (str (tailL 63 t))]) else refused 13) ∧ Below w.heap.size w w' := by
  have HC := fun w => codCut t 63 w (by omega)
  have l1 := headL_length 63 t
  have l2 := tailL_length 63 t
  have HP := fun w => codPath (headL 63 t) w (by omega)
  have HQ := fun w => codQuery (tailL 63 t) w (by omega)
  have HF : partC t = (decide (pathC (headL 63 t) = 0) && decide (queryC (tailL 63 t) = 0)) := rfl
  unfold PathR at HP
  unfold QOut at HQ
  have hp := pathC_or (headL 63 t)
  have hq := queryC_or (tailL 63 t)
  clear l1 l2 ht
  generalize queryP (tailL 63 t) = qp at *
  generalize pathC (headL 63 t) = pc at *
  generalize queryC (tailL 63 t) = qc at *
  generalize str (pathB (headL 63 t)) = pb at *
  generalize str (pathK (headL 63 t)) = pk at *
  generalize str (headL 63 t) = s1 at *
  generalize str (tailL 63 t) = s2 at *
  generalize hasL 63 t = b0 at *
  generalize partC t = pt at *
  generalize str t = s at *
  rcases hp with rfl | rfl
  · rcases hq with rfl | rfl
    · have : pt = true := HF
      subst this
      simp only [if_true]
      clear HF
      have HN := needYes 13
      go_enter Tryz.func48, Tryz.ntmps48
      go_wp2_with (first | (go_at_call 65; refine (HC _).mono ?_; rintro x w1 ⟨rfl, hb1⟩) | (go_at_call 69; refine (HP _).mono ?_; rintro x w2 ⟨rfl, hb2⟩) | (go_at_call 70; refine (HQ _).mono ?_; rintro x w3 ⟨⟨qa, qn, qc, rfl, hq⟩, hb3⟩) | (go_at_call 67; refine (codNeed _ 13 _).mono ?_; rintro x w9 ⟨hx, hww⟩; rw [hww]; clear hww w9; first | (obtain rfl : x = .returned (.tuple #[]) := hx) | (obtain rfl : x = .panicked [{ v := .iface 26 (.int .i64 13), recovered := false }] := hx)))
      go_ret2
      exact ⟨rfl, (hb1.trans (hb2.mono hb1.size)).trans (hb3.mono (Nat.le_trans hb1.size hb2.size))⟩
    · have : pt = false := HF
      subst this
      simp only [Bool.false_eq_true, if_false]
      unfold refused
      clear HF
      have HY := needYes 13
      have HN := needNo 13
      go_enter Tryz.func48, Tryz.ntmps48
      go_wp2_with (first | (go_at_call 65; refine (HC _).mono ?_; rintro x w1 ⟨rfl, hb1⟩) | (go_at_call 69; refine (HP _).mono ?_; rintro x w2 ⟨rfl, hb2⟩) | (go_at_call 70; refine (HQ _).mono ?_; rintro x w3 ⟨⟨qa, qn, qc, rfl, hq⟩, hb3⟩) | (go_at_call 67; refine (codNeed _ 13 _).mono ?_; rintro x w9 ⟨hx, hww⟩; rw [hww]; clear hww w9; first | (obtain rfl : x = .returned (.tuple #[]) := hx) | (obtain rfl : x = .panicked [{ v := .iface 26 (.int .i64 13), recovered := false }] := hx)))
      refine bp_panic ?_
      exact ⟨rfl, (hb1.trans (hb2.mono hb1.size)).trans (hb3.mono (Nat.le_trans hb1.size hb2.size))⟩
  · have : pt = false := HF
    subst this
    simp only [Bool.false_eq_true, if_false]
    unfold refused
    clear HF hq
    have HN := needNo 13
    go_enter Tryz.func48, Tryz.ntmps48
    go_wp2_with (first | (go_at_call 65; refine (HC _).mono ?_; rintro x w1 ⟨rfl, hb1⟩) | (go_at_call 69; refine (HP _).mono ?_; rintro x w2 ⟨rfl, hb2⟩) | (go_at_call 70; refine (HQ _).mono ?_; rintro x w3 ⟨⟨qa, qn, qc, rfl, hq⟩, hb3⟩) | (go_at_call 67; refine (codNeed _ 13 _).mono ?_; rintro x w9 ⟨hx, hww⟩; rw [hww]; clear hww w9; first | (obtain rfl : x = .returned (.tuple #[]) := hx) | (obtain rfl : x = .panicked [{ v := .iface 26 (.int .i64 13), recovered := false }] := hx)))
    refine bp_panic ?_
    exact ⟨rfl, hb1.trans (hb2.mono hb1.size)⟩
end Go.Proofs.YtbknabmcelknmaaGreatDoor
