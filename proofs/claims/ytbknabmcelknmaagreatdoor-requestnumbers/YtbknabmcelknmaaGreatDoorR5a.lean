/- request: refusals, signs between two bounds, tokens, methods. -/
import Derived.Test.YtbknabmcelknmaaGreatDoorReq2
import Derived.Test.YtbknabmcelknmaaGreatDoorStrb
import Derived.Test.YtbknabmcelknmaaGreatDoorRet
import Derived.Test.YtbknabmcelknmaaGreatDoorBlk
import Derived.WalkSmall
namespace Go.Proofs.YtbknabmcelknmaaGreatDoor
open Go.RowKit

/-- what a refusal leaves by -/
def refused (e : Int) : Ending := .panicked [{ v := .iface 26 (.int .i64 e), recovered := false }]

theorem codNeed (b : Bool) (e : Int) (w : World) :
    Calls Tryz.prog 67 #[.bool b, .int .i64 e] w fun x w' => x = (if b then .returned (.tuple #[]) else refused e) ∧ w' = w := by
  cases b
  · go_enter Tryz.func67, Tryz.ntmps67
    go_wp2
    simp [bodyPost, refused]
  · go_enter Tryz.func67, Tryz.ntmps67
    go_wp2
    go_end0
    exact ⟨rfl, rfl⟩

set_option maxHeartbeats 1000000 in
/-- each sign from lo to hi -/
theorem codWithin (l : List UInt8) (lo hi : Nat) (w : World) (hl : l.length ≤ 40000000000000) :
    Calls Tryz.prog 73 #[.string (str l), .int .u8 (lo : Int), .int .u8 (hi : Int)] w fun e w' => e = .returned (.bool (l.all (betwB lo hi))) ∧ w' = w := by
  have HZ : Hid ((str l).size = l.length) := str_size l
  have HS : Hid ((str l).data.toList = l) := str_list l
  generalize str l = s at *
  have hsz : s.size ≤ 40000000000000 := by rw [HZ.out]; exact hl
  go_enter Tryz.func73, Tryz.ntmps73
  go_wp2
  go_loopw [10] (fun i wr => ∃ (k : Nat), k ≤ s.size ∧ i = .int .i64 k ∧ Hid ((l.take k).all (betwB lo hi) = true) ∧ wr = w) (fun i _ => s.size - (intOf i).toNat)
  case atStart => exact ⟨0, Nat.zero_le _, rfl, rfl, rfl⟩
  case round =>
    obtain ⟨k, hk, rfl, HD, rfl⟩ := hrel
    by_cases hlt : k < s.size
    · have hb0 : (0 : Int) ≤ (k : Int) := by omega
      have hb1 : (k : Int) < (s.size : Int) := by omega
      have hkl : k < l.length := by rw [← HZ.out]; exact hlt
      have hcn : nth l k = sb s (k : Int) := by unfold sb; rw [HS.out]; rfl
      have hx0 := ixs s (k : Int) hb0 hb1
      have HT : Hid (betwB lo hi (nth l k) = true → (l.take (k + 1)).all (betwB lo hi) = true) := fun h => all_take hkl HD.out h
      have HF : Hid (betwB lo hi (nth l k) = false → l.all (betwB lo hi) = false) := fun h => all_nth hkl h
      rw [hcn] at HT HF
      generalize sb s (k : Int) = c at *
      clear hkl hcn
      by_cases h1 : c.toNat < lo
      · have h1' : (c.toNat : Int) < (lo : Int) := by omega
        have HR : Hid (l.all (betwB lo hi) = false) := HF.out (by unfold betwB; simp; omega)
        clear HT HF
        go_wp2
        go_ret
        exact ⟨ret_b HR.out.symm, by first | rfl | trivial⟩
      · have h1' : ¬ (c.toNat : Int) < (lo : Int) := by omega
        by_cases h2 : hi < c.toNat
        · have h2' : (hi : Int) < (c.toNat : Int) := by omega
          have HR : Hid (l.all (betwB lo hi) = false) := HF.out (by unfold betwB; simp; omega)
          clear HT HF
          go_wp2
          go_ret
          exact ⟨ret_b HR.out.symm, by first | rfl | trivial⟩
        · have h2' : ¬ (hi : Int) < (c.toNat : Int) := by omega
          have HR : Hid ((l.take (k + 1)).all (betwB lo hi) = true) := HT.out (by unfold betwB; simp; omega)
          clear HT HF HD
          go_wp2
          go_roundw
          case rel => exact ⟨k + 1, by omega, by go_num, HR, by first | rfl | trivial⟩
          case measure => simp [intOf]; omega
    · have hge : ¬ (k : Int) < (s.size : Int) := by omega
      have HR : Hid (l.all (betwB lo hi) = true) := by
        have := HD.out
        rw [List.take_of_length_le (by rw [← HZ.out]; omega)] at this
        exact this
      go_wp2
      go_ret
      exact ⟨ret_b HR.out.symm, by first | rfl | trivial⟩

theorem codTarget (l : List UInt8) (w : World) (hl : l.length ≤ 40000000000000) :
    Calls Tryz.prog 56 #[.string (str l)] w fun e w' => e = .returned (.bool (betwL 33 126 1024 l)) ∧ w' = w := by
  have HC := fun w => codWithin l 33 126 w hl
  have HZ : (str l).size = l.length := str_size l
  have HB : Hid (betwL 33 126 1024 l = (l.all (betwB 33 126) && decide (l.length ≤ 1024))) := rfl
  generalize l.all (betwB 33 126) = b at *
  by_cases h : l.length ≤ 1024
  · have h' : ((str l).size : Int) ≤ 1024 := by omega
    have HV : Hid (betwL 33 126 1024 l = b) := by unfold Hid; rw [HB.out, decide_eq_true h, Bool.and_true]
    rw [HV.out]
    clear HB HV h HZ hl
    generalize str l = s at *
    go_enter Tryz.func56, Tryz.ntmps56
    go_wp2_with (go_at_call 73; refine (HC _).mono ?_; rintro e w' ⟨rfl, hww⟩; rw [hww]; clear hww w')
    go_ret
    exact ⟨rfl, rfl⟩
  · have h' : ¬ ((str l).size : Int) ≤ 1024 := by omega
    have HV : Hid (betwL 33 126 1024 l = false) := by unfold Hid; rw [HB.out, decide_eq_false h, Bool.and_false]
    rw [HV.out]
    clear HB HV h HZ hl
    generalize str l = s at *
    go_enter Tryz.func56, Tryz.ntmps56
    go_wp2_with (go_at_call 73; refine (HC _).mono ?_; rintro e w' ⟨rfl, hww⟩; rw [hww]; clear hww w')
    go_ret
    exact ⟨rfl, rfl⟩
end Go.Proofs.YtbknabmcelknmaaGreatDoor
