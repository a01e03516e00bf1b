/- sigv4.madeOf: a text of such bytes. · sigv4.rightNames. · sigv4: texts joined; the scope. · What sigv4.rightAuth answers. -/
import Derived.Test.YtgjmaeodgcigdaaGreatDoorB28
import Derived.Test.YtgjmaeodgcigdaaGreatDoorB21
import Derived.Test.YtgjmaeodgcigdaaGreatDoorB26
import Derived.Lib.Join
import Derived.Test.YtgjmaeodgcigdaaGreatDoorB22
import Derived.Test.YtgjmaeodgcigdaaGreatDoorB23
import Derived.Sort.AtCall
namespace Go.Proofs.YtgjmaeodgcigdaaGreatDoor
open Go.RowKit

def madeL (p : UInt8 → Bool) (lo hi : Nat) (l : List UInt8) : Bool := decide (lo ≤ l.length ∧ l.length ≤ hi) && l.all p

set_option maxRecDepth 20000 in
set_option maxHeartbeats 2000000 in
theorem codMadeName (lo hi : Nat) (l : List UInt8) (w : World) (hl : l.length ≤ 140737488351232) (hhi : hi ≤ 100) :
    Calls Tryz.prog 73 #[.string (str l), .int .i64 (lo : Int), .int .i64 (hi : Int), .func (.func 74) #[] #[]] w fun e w' => e = .returned (.bool (madeL snNB lo hi l)) ∧ w' = w := by
  have HZ : Hid ((str l).size = l.length) := str_size l
  have HS : Hid ((str l).data.toList = l) := str_list l
  generalize str l = s at *
  have hsz : s.size ≤ 140737488351232 := by rw [HZ.out]; exact hl
  by_cases h1 : lo ≤ s.size
  · have i1 : ¬ (s.size : Int) < (lo : Int) := by omega
    by_cases h2 : s.size ≤ hi
    · have i2 : ¬ (hi : Int) < (s.size : Int) := by omega
      have HM : Hid (madeL snNB lo hi l = l.all snNB) := by unfold Hid madeL; rw [← HZ.out, decide_eq_true ⟨h1, h2⟩]; rfl
      go_enter Tryz.func73, Tryz.ntmps73
      go_wp2
      go_loopw [22] (fun i wr => ∃ (k : Nat), k ≤ s.size ∧ i = .int .i64 k ∧ Hid ((l.take k).all snNB = true) ∧ wr = w) (fun i _ => s.size - (intOf i).toNat)
      case atStart => exact ⟨0, Nat.zero_le _, rfl, rfl, rfl⟩
      case round =>
        obtain ⟨k, hk, rfl, HD, rfl⟩ := hrel
        by_cases hlt : k < s.size
        · have hb0 : (0 : Int) ≤ (k : Int) := by omega
          have hb1 : (k : Int) < (s.size : Int) := by omega
          have hkl : k < l.length := by rw [← HZ.out]; exact hlt
          have hcn : nth l k = sb s (k : Int) := by unfold sb; rw [HS.out]; rfl
          have hx0 := ixs s (k : Int) hb0 hb1
          have HT : Hid (snNB (nth l k) = true → (l.take (k + 1)).all snNB = true) := fun h => all_take hkl HD.out h
          have HF : Hid (snNB (nth l k) = false → madeL snNB lo hi l = false) := fun h => by rw [HM.out, all_nth hkl h]
          rw [hcn] at HT HF
          generalize sb s (k : Int) = c at *
          have HC := fun w => codInName c w
          cases hpc : snNB c with
          | true =>
            rw [hpc] at HC
            have HR : Hid ((l.take (k + 1)).all snNB = true) := HT.out hpc
            clear hkl hcn HD HT HF
            go_wp2_with (go_at_call 74; refine (HC _).mono ?_; rintro e w' ⟨rfl, rfl⟩)
            go_roundw
            case rel => exact ⟨k + 1, by omega, by go_num, HR, by first | rfl | trivial⟩
            case measure => simp [intOf]; omega
          | false =>
            rw [hpc] at HC
            have HR : Hid (madeL snNB lo hi l = false) := HF.out hpc
            clear hkl hcn HD HT HF
            go_wp2_with (go_at_call 74; refine (HC _).mono ?_; rintro e w' ⟨rfl, rfl⟩)
            go_ret
            exact ⟨ret_b HR.out.symm, by first | rfl | trivial⟩
        · have hge : ¬ (k : Int) < (s.size : Int) := by omega
          have HR : Hid (madeL snNB lo hi l = true) := by
            have := HD.out
            rw [List.take_of_length_le (by rw [← HZ.out]; omega)] at this
            unfold Hid; rw [HM.out]; exact this
          go_wp2
          go_ret
          exact ⟨ret_b HR.out.symm, by first | rfl | trivial⟩
    · have i2 : (hi : Int) < (s.size : Int) := by omega
      have HR : Hid (madeL snNB lo hi l = false) := by unfold Hid madeL; rw [← HZ.out, decide_eq_false (fun h => h2 h.2)]; rfl
      go_enter Tryz.func73, Tryz.ntmps73
      go_wp2
      go_ret
      exact ⟨ret_b HR.out.symm, by first | rfl | trivial⟩
  · have i1 : (s.size : Int) < (lo : Int) := by omega
    have HR : Hid (madeL snNB lo hi l = false) := by unfold Hid madeL; rw [← HZ.out, decide_eq_false (fun h => h1 h.1)]; rfl
    go_enter Tryz.func73, Tryz.ntmps73
    go_wp2
    go_ret
    exact ⟨ret_b HR.out.symm, by first | rfl | trivial⟩

set_option maxRecDepth 20000 in
set_option maxHeartbeats 2000000 in
theorem codMadeAlnum (lo hi : Nat) (l : List UInt8) (w : World) (hl : l.length ≤ 140737488351232) (hhi : hi ≤ 100) :
    Calls Tryz.prog 73 #[.string (str l), .int .i64 (lo : Int), .int .i64 (hi : Int), .func (.func 108) #[] #[]] w fun e w' => e = .returned (.bool (madeL acNB lo hi l)) ∧ w' = w := by
  have HZ : Hid ((str l).size = l.length) := str_size l
  have HS : Hid ((str l).data.toList = l) := str_list l
  generalize str l = s at *
  have hsz : s.size ≤ 140737488351232 := by rw [HZ.out]; exact hl
  by_cases h1 : lo ≤ s.size
  · have i1 : ¬ (s.size : Int) < (lo : Int) := by omega
    by_cases h2 : s.size ≤ hi
    · have i2 : ¬ (hi : Int) < (s.size : Int) := by omega
      have HM : Hid (madeL acNB lo hi l = l.all acNB) := by unfold Hid madeL; rw [← HZ.out, decide_eq_true ⟨h1, h2⟩]; rfl
      go_enter Tryz.func73, Tryz.ntmps73
      go_wp2
      go_loopw [22] (fun i wr => ∃ (k : Nat), k ≤ s.size ∧ i = .int .i64 k ∧ Hid ((l.take k).all acNB = true) ∧ wr = w) (fun i _ => s.size - (intOf i).toNat)
      case atStart => exact ⟨0, Nat.zero_le _, rfl, rfl, rfl⟩
      case round =>
        obtain ⟨k, hk, rfl, HD, rfl⟩ := hrel
        by_cases hlt : k < s.size
        · have hb0 : (0 : Int) ≤ (k : Int) := by omega
          have hb1 : (k : Int) < (s.size : Int) := by omega
          have hkl : k < l.length := by rw [← HZ.out]; exact hlt
          have hcn : nth l k = sb s (k : Int) := by unfold sb; rw [HS.out]; rfl
          have hx0 := ixs s (k : Int) hb0 hb1
          have HT : Hid (acNB (nth l k) = true → (l.take (k + 1)).all acNB = true) := fun h => all_take hkl HD.out h
          have HF : Hid (acNB (nth l k) = false → madeL acNB lo hi l = false) := fun h => by rw [HM.out, all_nth hkl h]
          rw [hcn] at HT HF
          generalize sb s (k : Int) = c at *
          have HC := fun w => codIsAlnum c w
          cases hpc : acNB c with
          | true =>
            rw [hpc] at HC
            have HR : Hid ((l.take (k + 1)).all acNB = true) := HT.out hpc
            clear hkl hcn HD HT HF
            go_wp2_with (go_at_call 108; refine (HC _).mono ?_; rintro e w' ⟨rfl, rfl⟩)
            go_roundw
            case rel => exact ⟨k + 1, by omega, by go_num, HR, by first | rfl | trivial⟩
            case measure => simp [intOf]; omega
          | false =>
            rw [hpc] at HC
            have HR : Hid (madeL acNB lo hi l = false) := HF.out hpc
            clear hkl hcn HD HT HF
            go_wp2_with (go_at_call 108; refine (HC _).mono ?_; rintro e w' ⟨rfl, rfl⟩)
            go_ret
            exact ⟨ret_b HR.out.symm, by first | rfl | trivial⟩
        · have hge : ¬ (k : Int) < (s.size : Int) := by omega
          have HR : Hid (madeL acNB lo hi l = true) := by
            have := HD.out
            rw [List.take_of_length_le (by rw [← HZ.out]; omega)] at this
            unfold Hid; rw [HM.out]; exact this
          go_wp2
          go_ret
          exact ⟨ret_b HR.out.symm, by first | rfl | trivial⟩
    · have i2 : (hi : Int) < (s.size : Int) := by omega
      have HR : Hid (madeL acNB lo hi l = false) := by unfold Hid madeL; rw [← HZ.out, decide_eq_false (fun h => h2 h.2)]; rfl
      go_enter Tryz.func73, Tryz.ntmps73
      go_wp2
      go_ret
      exact ⟨ret_b HR.out.symm, by first | rfl | trivial⟩
  · have i1 : (s.size : Int) < (lo : Int) := by omega
    have HR : Hid (madeL acNB lo hi l = false) := by unfold Hid madeL; rw [← HZ.out, decide_eq_false (fun h => h1 h.1)]; rfl
    go_enter Tryz.func73, Tryz.ntmps73
    go_wp2
    go_ret
    exact ⟨ret_b HR.out.symm, by first | rfl | trivial⟩

set_option maxRecDepth 20000 in
set_option maxHeartbeats 2000000 in
theorem codMadeDigit (lo hi : Nat) (l : List UInt8) (w : World) (hl : l.length ≤ 140737488351232) (hhi : hi ≤ 100) :
    Calls Tryz.prog 73 #[.string (str l), .int .i64 (lo : Int), .int .i64 (hi : Int), .func (.func 109) #[] #[]] w fun e w' => e = .returned (.bool (madeL dtB lo hi l)) ∧ w' = w := by
  have HZ : Hid ((str l).size = l.length) := str_size l
  have HS : Hid ((str l).data.toList = l) := str_list l
  generalize str l = s at *
  have hsz : s.size ≤ 140737488351232 := by rw [HZ.out]; exact hl
  by_cases h1 : lo ≤ s.size
  · have i1 : ¬ (s.size : Int) < (lo : Int) := by omega
    by_cases h2 : s.size ≤ hi
    · have i2 : ¬ (hi : Int) < (s.size : Int) := by omega
      have HM : Hid (madeL dtB lo hi l = l.all dtB) := by unfold Hid madeL; rw [← HZ.out, decide_eq_true ⟨h1, h2⟩]; rfl
      go_enter Tryz.func73, Tryz.ntmps73
      go_wp2
      go_loopw [22] (fun i wr => ∃ (k : Nat), k ≤ s.size ∧ i = .int .i64 k ∧ Hid ((l.take k).all dtB = true) ∧ wr = w) (fun i _ => s.size - (intOf i).toNat)
      case atStart => exact ⟨0, Nat.zero_le _, rfl, rfl, rfl⟩
      case round =>
        obtain ⟨k, hk, rfl, HD, rfl⟩ := hrel
        by_cases hlt : k < s.size
        · have hb0 : (0 : Int) ≤ (k : Int) := by omega
          have hb1 : (k : Int) < (s.size : Int) := by omega
          have hkl : k < l.length := by rw [← HZ.out]; exact hlt
          have hcn : nth l k = sb s (k : Int) := by unfold sb; rw [HS.out]; rfl
          have hx0 := ixs s (k : Int) hb0 hb1
          have HT : Hid (dtB (nth l k) = true → (l.take (k + 1)).all dtB = true) := fun h => all_take hkl HD.out h
          have HF : Hid (dtB (nth l k) = false → madeL dtB lo hi l = false) := fun h => by rw [HM.out, all_nth hkl h]
          rw [hcn] at HT HF
          generalize sb s (k : Int) = c at *
          have HC := fun w => codIsDigit c w
          cases hpc : dtB c with
          | true =>
            rw [hpc] at HC
            have HR : Hid ((l.take (k + 1)).all dtB = true) := HT.out hpc
            clear hkl hcn HD HT HF
            go_wp2_with (go_at_call 109; refine (HC _).mono ?_; rintro e w' ⟨rfl, rfl⟩)
            go_roundw
            case rel => exact ⟨k + 1, by omega, by go_num, HR, by first | rfl | trivial⟩
            case measure => simp [intOf]; omega
          | false =>
            rw [hpc] at HC
            have HR : Hid (madeL dtB lo hi l = false) := HF.out hpc
            clear hkl hcn HD HT HF
            go_wp2_with (go_at_call 109; refine (HC _).mono ?_; rintro e w' ⟨rfl, rfl⟩)
            go_ret
            exact ⟨ret_b HR.out.symm, by first | rfl | trivial⟩
        · have hge : ¬ (k : Int) < (s.size : Int) := by omega
          have HR : Hid (madeL dtB lo hi l = true) := by
            have := HD.out
            rw [List.take_of_length_le (by rw [← HZ.out]; omega)] at this
            unfold Hid; rw [HM.out]; exact this
          go_wp2
          go_ret
          exact ⟨ret_b HR.out.symm, by first | rfl | trivial⟩
    · have i2 : (hi : Int) < (s.size : Int) := by omega
      have HR : Hid (madeL dtB lo hi l = false) := by unfold Hid madeL; rw [← HZ.out, decide_eq_false (fun h => h2 h.2)]; rfl
      go_enter Tryz.func73, Tryz.ntmps73
      go_wp2
      go_ret
      exact ⟨ret_b HR.out.symm, by first | rfl | trivial⟩
  · have i1 : (s.size : Int) < (lo : Int) := by omega
    have HR : Hid (madeL dtB lo hi l = false) := by unfold Hid madeL; rw [← HZ.out, decide_eq_false (fun h => h1 h.1)]; rfl
    go_enter Tryz.func73, Tryz.ntmps73
    go_wp2
    go_ret
    exact ⟨ret_b HR.out.symm, by first | rfl | trivial⟩

set_option maxRecDepth 20000 in
set_option maxHeartbeats 2000000 in
theorem codMadeHex (lo hi : Nat) (l : List UInt8) (w : World) (hl : l.length ≤ 140737488351232) (hhi : hi ≤ 100) :
    Calls Tryz.prog 73 #[.string (str l), .int .i64 (lo : Int), .int .i64 (hi : Int), .func (.func 110) #[] #[]] w fun e w' => e = .returned (.bool (madeL hxB lo hi l)) ∧ w' = w := by
  have HZ : Hid ((str l).size = l.length) := str_size l
  have HS : Hid ((str l).data.toList = l) := str_list l
  generalize str l = s at *
  have hsz : s.size ≤ 140737488351232 := by rw [HZ.out]; exact hl
  by_cases h1 : lo ≤ s.size
  · have i1 : ¬ (s.size : Int) < (lo : Int) := by omega
    by_cases h2 : s.size ≤ hi
    · have i2 : ¬ (hi : Int) < (s.size : Int) := by omega
      have HM : Hid (madeL hxB lo hi l = l.all hxB) := by unfold Hid madeL; rw [← HZ.out, decide_eq_true ⟨h1, h2⟩]; rfl
      go_enter Tryz.func73, Tryz.ntmps73
      go_wp2
      go_loopw [22] (fun i wr => ∃ (k : Nat), k ≤ s.size ∧ i = .int .i64 k ∧ Hid ((l.take k).all hxB = true) ∧ wr = w) (fun i _ => s.size - (intOf i).toNat)
      case atStart => exact ⟨0, Nat.zero_le _, rfl, rfl, rfl⟩
      case round =>
        obtain ⟨k, hk, rfl, HD, rfl⟩ := hrel
        by_cases hlt : k < s.size
        · have hb0 : (0 : Int) ≤ (k : Int) := by omega
          have hb1 : (k : Int) < (s.size : Int) := by omega
          have hkl : k < l.length := by rw [← HZ.out]; exact hlt
          have hcn : nth l k = sb s (k : Int) := by unfold sb; rw [HS.out]; rfl
          have hx0 := ixs s (k : Int) hb0 hb1
          have HT : Hid (hxB (nth l k) = true → (l.take (k + 1)).all hxB = true) := fun h => all_take hkl HD.out h
          have HF : Hid (hxB (nth l k) = false → madeL hxB lo hi l = false) := fun h => by rw [HM.out, all_nth hkl h]
          rw [hcn] at HT HF
          generalize sb s (k : Int) = c at *
          have HC := fun w => codIsHex c w
          cases hpc : hxB c with
          | true =>
            rw [hpc] at HC
            have HR : Hid ((l.take (k + 1)).all hxB = true) := HT.out hpc
            clear hkl hcn HD HT HF
            go_wp2_with (go_at_call 110; refine (HC _).mono ?_; rintro e w' ⟨rfl, rfl⟩)
            go_roundw
            case rel => exact ⟨k + 1, by omega, by go_num, HR, by first | rfl | trivial⟩
            case measure => simp [intOf]; omega
          | false =>
            rw [hpc] at HC
            have HR : Hid (madeL hxB lo hi l = false) := HF.out hpc
            clear hkl hcn HD HT HF
            go_wp2_with (go_at_call 110; refine (HC _).mono ?_; rintro e w' ⟨rfl, rfl⟩)
            go_ret
            exact ⟨ret_b HR.out.symm, by first | rfl | trivial⟩
        · have hge : ¬ (k : Int) < (s.size : Int) := by omega
          have HR : Hid (madeL hxB lo hi l = true) := by
            have := HD.out
            rw [List.take_of_length_le (by rw [← HZ.out]; omega)] at this
            unfold Hid; rw [HM.out]; exact this
          go_wp2
          go_ret
          exact ⟨ret_b HR.out.symm, by first | rfl | trivial⟩
    · have i2 : (hi : Int) < (s.size : Int) := by omega
      have HR : Hid (madeL hxB lo hi l = false) := by unfold Hid madeL; rw [← HZ.out, decide_eq_false (fun h => h2 h.2)]; rfl
      go_enter Tryz.func73, Tryz.ntmps73
      go_wp2
      go_ret
      exact ⟨ret_b HR.out.symm, by first | rfl | trivial⟩
  · have i1 : (s.size : Int) < (lo : Int) := by omega
    have HR : Hid (madeL hxB lo hi l = false) := by unfold Hid madeL; rw [← HZ.out, decide_eq_false (fun h => h1 h.1)]; rfl
    go_enter Tryz.func73, Tryz.ntmps73
    go_wp2
    go_ret
    exact ⟨ret_b HR.out.symm, by first | rfl | trivial⟩

theorem made_sname (l : List UInt8) : madeL snNB 1 64 l = snameL l := by unfold madeL snameL; rw [Bool.and_comm]
theorem made_access (l : List UInt8) : madeL acNB 1 16 l = accessL l := by unfold madeL accessL; rw [Bool.and_comm]
end Go.Proofs.YtgjmaeodgcigdaaGreatDoor
namespace Go.Proofs.YtgjmaeodgcigdaaGreatDoor
open Go.RowKit

set_option maxRecDepth 20000 in
set_option maxHeartbeats 2000000 in
theorem codRightNames (a : Option Addr) (n cap : Nat) (l : List (List UInt8)) (w : World) (h : IsT w a n cap l) (hz : ∀ i, i < l.length → (nthT l i).length ≤ 140737488351232) :
    Calls Tryz.prog 30 #[.slice a n cap] w fun e w' => e = .returned (.bool (namesL l)) ∧ w' = w := by
  have HL : Hid (l.length = n) := h.len_eq
  have H : Hid (IsT w a n cap l) := h
  have hn : n ≤ 9223372036854775807 := by have := h.le; have := h.max; unfold maxLen at this; omega
  clear h
  by_cases h1 : 1 ≤ n
  · have i1 : ¬ (n : Int) < 1 := by omega
    by_cases h2 : n ≤ 24
    · have i2 : ¬ (24 : Int) < (n : Int) := by omega
      obtain ⟨b, off, rfl, hc⟩ := H.out.cells (by omega)
      go_enter Tryz.func30, Tryz.ntmps30
      go_wp2
      go_loopw [15] (fun i wr => ∃ (k : Nat), k ≤ n ∧ i = .int .i64 k ∧ Hid ((l.take k).all snameL = true ∧ riseTo l k = true) ∧ wr = w) (fun i _ => n - (intOf i).toNat)
      case atStart => exact ⟨0, Nat.zero_le _, rfl, ⟨rfl, rise_zero l⟩, rfl⟩
      case round =>
        obtain ⟨k, hk, rfl, HD, rfl⟩ := hrel
        by_cases hlt : k < n
        · have g1 := hc k hlt
          have hb0 : (0 : Int) ≤ (k : Int) := by omega
          have hb1 : (k : Int) < (n : Int) := by omega
          have hkl : k < l.length := by rw [HL.out]; exact hlt
          have HN := fun w => codMadeName 1 64 (nthT l k) w (hz k hkl) (by decide)
          rw [made_sname] at HN
          cases hs : snameL (nthT l k) with
          | false =>
            have HR : Hid (namesL l = false) := names_no1 hkl hs
            rw [hs] at HN
            clear hc hkl HD
            generalize str (nthT l k) = s1 at *
            go_wp2_with (go_at_call 73; refine (HN _).mono ?_; rintro e w' ⟨rfl, rfl⟩)
            go_ret
            exact ⟨ret_bb HR.out.symm, by first | rfl | trivial⟩
          | true =>
            rw [hs] at HN
            have HA : Hid ((l.take (k + 1)).all snameL = true) := by unfold Hid; rw [takeT l k hkl, List.all_append, HD.out.1]; simpa using hs
            cases k with
            | succ j =>
              have g2 := hc j (by omega)
              have hj0 : (0 : Int) ≤ (j : Int) := by omega
              have hj1 : (j : Int) < (n : Int) := by omega
              have hj2 : (0 : Int) < (j : Int) + 1 := by omega
              cases hless : Op.bytesLess (nthT l j) (nthT l (j + 1)) with
              | false =>
                have hq : Op.bytesLess (str (nthT l j)).toList (str (nthT l (j + 1))).toList = false := by rw [str_toList, str_toList]; exact hless
                have HR : Hid (namesL l = false) := names_no2 hkl (Nat.succ_pos j) hless
                clear hc hkl HD HA hless
                generalize str (nthT l (j + 1)) = s1 at *
                generalize str (nthT l j) = s2 at *
                go_wp2_with (go_at_call 73; refine (HN _).mono ?_; rintro e w' ⟨rfl, rfl⟩)
                go_ret
                exact ⟨ret_bb HR.out.symm, by first | rfl | trivial⟩
              | true =>
                have hq : Op.bytesLess (str (nthT l j)).toList (str (nthT l (j + 1))).toList = true := by rw [str_toList, str_toList]; exact hless
                have HR : Hid ((l.take (j + 1 + 1)).all snameL = true ∧ riseTo l (j + 1 + 1) = true) := ⟨HA.out, rise_succ HD.out.2 (fun _ => hless)⟩
                clear hc hkl HD HA hless
                generalize str (nthT l (j + 1)) = s1 at *
                generalize str (nthT l j) = s2 at *
                go_wp2_with (go_at_call 73; refine (HN _).mono ?_; rintro e w' ⟨rfl, rfl⟩)
                go_roundw
                case rel => exact ⟨j + 1 + 1, by omega, by go_num, HR, by first | rfl | trivial⟩
                case measure => simp [intOf]; omega
            | zero =>
              have HR : Hid ((l.take (0 + 1)).all snameL = true ∧ riseTo l (0 + 1) = true) := ⟨HA.out, rise_succ HD.out.2 (fun h => absurd h (Nat.lt_irrefl 0))⟩
              have g0 : wr.cell? ⟨b, off, none⟩ = some (.string (str (nthT l 0))) := g1
              have hb2 : (0 : Int) < (n : Int) := by omega
              clear hc hkl HD HA g1 hb0 hb1
              generalize str (nthT l 0) = s1 at *
              go_wp2_with (go_at_call 73; refine (HN _).mono ?_; rintro e w' ⟨rfl, rfl⟩)
              go_roundw
              case rel => exact ⟨0 + 1, by omega, by go_num, HR, by first | rfl | trivial⟩
              case measure => simp [intOf]; omega
        · have hge : ¬ (k : Int) < (n : Int) := by omega
          have hkn : k = n := by omega
          subst hkn
          have HV : Hid (namesL l = true) := by
            obtain ⟨h3, h4⟩ := HD.out
            rw [List.take_of_length_le (by rw [HL.out]; exact Nat.le_refl _)] at h3
            unfold Hid namesL; rw [h3, HL.out, h4, decide_eq_true ⟨h1, h2⟩]; rfl
          go_wp2
          go_ret
          exact ⟨ret_bb HV.out.symm, by first | rfl | trivial⟩
    · have i2 : (24 : Int) < (n : Int) := by omega
      have HV : Hid (namesL l = false) := by unfold Hid namesL; rw [HL.out, decide_eq_false (fun h => h2 h.2)]; simp
      go_enter Tryz.func30, Tryz.ntmps30
      go_wp2
      go_ret
      exact ⟨ret_bb HV.out.symm, by first | rfl | trivial⟩
  · have i1 : (n : Int) < 1 := by omega
    have HV : Hid (namesL l = false) := by unfold Hid namesL; rw [HL.out, decide_eq_false (fun h => h1 h.1)]; simp
    go_enter Tryz.func30, Tryz.ntmps30
    go_wp2
    go_ret
    exact ⟨ret_bb HV.out.symm, by first | rfl | trivial⟩
end Go.Proofs.YtgjmaeodgcigdaaGreatDoor
namespace Go.Proofs.YtgjmaeodgcigdaaGreatDoor
open Go.RowKit

theorem join_to (sg : List UInt8) (l : List (List UInt8)) : ∀ k, k ≤ l.length → joinTo sg l k = Lib.join (l.take k) sg := by
  intro k
  induction k with
  | zero => intro _; rfl
  | succ k ih =>
    intro hk
    rw [joinTo, ih (by omega), takeT l k (by omega)]
    by_cases h0 : k = 0
    · subst h0; rw [if_pos rfl, List.take_zero, List.nil_append, Lib.join_one, Lib.join_nil]; rfl
    · rw [if_neg h0]
      cases ht : l.take k with
      | nil =>
        have h1 : (l.take k).length = 0 := by rw [ht]; rfl
        rw [List.length_take] at h1
        omega
      | cons y r =>
        rw [List.cons_append, Lib.join_cons, Lib.join_cons]
        simp [Lib.joinTail]
theorem join_eq (sg : List UInt8) (l : List (List UInt8)) : Lib.join l sg = joinS sg l := by
  unfold joinS
  rw [join_to sg l l.length (Nat.le_refl _), List.take_length]

theorem codJoinT (sg : List UInt8) (a : Option Addr) (n cap : Nat) (l : List (List UInt8)) (w : World) (h : IsT w a n cap l) (hn : n ≤ 1000) (hb : (joinS sg l).length ≤ 140737488355328) :
    Calls Tryz.prog 37 #[.slice a n cap, .string (str sg)] w fun e w' => e = .returned (.string (str (joinS sg l))) ∧ Below w.heap.size w w' := by
  by_cases h0 : l = []
  · subst h0
    have h1 : n = 0 := h.len_eq.symm
    subst h1
    refine (Tryz.strings_Join_none a cap (str sg) w).mono ?_
    rintro e w' ⟨rfl, rfl⟩
    exact ⟨rfl, Below.refl _ _⟩
  · have hl := h.len_eq
    obtain ⟨b, off, rfl, hc⟩ := h.cells (by have := List.length_pos_iff.2 h0; omega)
    have e1 : (l.map str).map (fun x => x.data.toList) = l := by
      rw [List.map_map]
      have : ((fun x : ByteArray => x.data.toList) ∘ str) = id := by funext x; exact str_list x
      rw [this, List.map_id]
    have hJ := Tryz.strings_Join b off cap (l.map str) (str sg) w (fun j x hx => by
      have hj : j < l.length := by
        rcases Nat.lt_or_ge j l.length with h | h
        · exact h
        · rw [List.getElem?_eq_none (by simpa using h)] at hx; cases hx
      rw [hc j (by omega)]
      rw [List.getElem?_map, List.getElem?_eq_getElem hj] at hx
      cases hx
      rw [nthT_eq l j hj]) (cell_lt (hc 0 (by have := List.length_pos_iff.2 h0; omega))) (by rw [List.length_map]; omega) (by rw [List.length_map, hl]; exact h.le) (by rw [e1, str_list, join_eq]; exact hb)
    rw [e1, str_list, List.length_map, join_eq, hl] at hJ
    exact hJ
theorem codJoined (a : Option Addr) (n cap : Nat) (l : List (List UInt8)) (w : World) (h : IsT w a n cap l) (hn : n ≤ 1000) (hb : (joinS [10] l).length ≤ 140737488355328) :
    Calls Tryz.prog 34 #[.slice a n cap] w fun e w' => e = .returned (.string (str (joinS [10] l))) ∧ Below w.heap.size w w' := by
  have HJ := fun W (h : IsT W a n cap l) => codJoinT [10] a n cap l W h hn hb
  go_enter Tryz.func34, Tryz.ntmps34
  go_wp2_with (go_at_call 37; refine (HJ _ h).mono ?_; rintro e w' ⟨rfl, hbel⟩)
  go_ret
  exact ⟨rfl, hbel⟩
/-- a slice of texts that the call has built -/
theorem isT_new (w : World) (T : Nat) (l : List (List UInt8)) (hl : l.length ≤ 1000) : IsT (w.alloc (.cells (l.map fun t => Value.string (str t)).toArray T)) (some ⟨w.heap.size, 0, none⟩) l.length l.length l :=
  ⟨rfl, Nat.le_refl _, by unfold maxLen; omega, fun e => (by cases e), fun _ => ⟨w.heap.size, 0, rfl, fun i hi => by
    rw [Lib.cell_of_heap (w := w.alloc (.cells (l.map fun t => Value.string (str t)).toArray T)) (b := w.heap.size) (heap_alloc_new w _) (0 + i), Nat.zero_add, List.getElem?_toArray, List.getElem?_map, List.getElem?_eq_getElem hi, nthT_eq l i hi]
    rfl⟩⟩
theorem scope_join (d : List UInt8) : joinS [47] [d, sLocal, sS3, sReq] = scopeL d := by
  simp [joinS, joinTo, nthT, scopeL, sScope, sLocal, sS3, sReq]
theorem codScope (d : List UInt8) (w : World) (hd : d.length ≤ 140737488351232) :
    Calls Tryz.prog 50 #[.string (str d)] w fun e w' => e = .returned (.string (str (scopeL d))) ∧ Below w.heap.size w w' := by
  have hI : IsT (w.alloc (.cells #[.string (str d), .string ⟨#[108, 111, 99, 97, 108]⟩, .string ⟨#[115, 51]⟩, .string ⟨#[97, 119, 115, 52, 95, 114, 101, 113, 117, 101, 115, 116]⟩] 9)) (some ⟨w.heap.size, 0, none⟩) 4 4 [d, sLocal, sS3, sReq] := isT_new w 9 [d, sLocal, sS3, sReq] (by simp)
  have HJ := codJoinT [47] _ _ _ _ _ hI (by omega) (by rw [scope_join]; unfold scopeL sScope; simp; omega)
  rw [scope_join] at HJ
  have hbel0 : Below w.heap.size w (w.alloc (.cells #[.string (str d), .string ⟨#[108, 111, 99, 97, 108]⟩, .string ⟨#[115, 51]⟩, .string ⟨#[97, 119, 115, 52, 95, 114, 101, 113, 117, 101, 115, 116]⟩] 9)) := (Below.refl _ w).alloc (Nat.le_refl _) _
  clear hI
  go_enter Tryz.func50, Tryz.ntmps50
  go_wp2_with (go_at_call 37; refine HJ.mono ?_; rintro e w' ⟨rfl, hbel⟩)
  go_ret
  exact ⟨rfl, hbel0.trans (hbel.mono (by simp))⟩
end Go.Proofs.YtgjmaeodgcigdaaGreatDoor
namespace Go.Proofs.YtgjmaeodgcigdaaGreatDoor
open Go.RowKit

/-- which parts are right, by the code -/
def rightC (ac dt : List UInt8) (ts : List (List UInt8)) (sg : List UInt8) : Bool := accessL ac && (madeL dtB 8 8 dt && (namesL ts && madeL hxB 64 64 sg))

set_option maxRecDepth 20000 in
set_option maxHeartbeats 2000000 in
theorem codRightAuth (ac dt : List UInt8) (ta : Option Addr) (tn tc : Nat) (ts : List (List UInt8)) (sg : List UInt8) (w : World) (hT : IsT w ta tn tc ts)
    (z1 : ac.length ≤ 140737488351232) (z2 : dt.length ≤ 140737488351232) (z3 : ∀ i, i < ts.length → (nthT ts i).length ≤ 140737488351232) (z4 : sg.length ≤ 140737488351232) :
    Calls Tryz.prog 59 #[.agg #[.string (str ac), .string (str dt), .slice ta tn tc, .string (str sg)]] w fun e w' => e = .returned (.bool (rightC ac dt ts sg)) ∧ Below w.heap.size w w' := by
  have T0 : Below w.heap.size w (w.alloc (.cells #[.string (str ac), .string (str dt), .slice ta tn tc, .string (str sg)] 46)) := (Below.refl _ w).alloc (Nat.le_refl _) _
  have H1 := fun W => codMadeAlnum 1 16 ac W z1 (by decide)
  have H2 := fun W => codMadeDigit 8 8 dt W z2 (by decide)
  have H3 := codRightNames ta tn tc ts _ (hT.below T0 rfl) z3
  have H4 := fun W => codMadeHex 64 64 sg W z4 (by decide)
  rw [made_access] at H1
  clear hT z1 z2 z3 z4
  unfold rightC
  obtain ⟨r, HR⟩ : ∃ r, Hid (r = (accessL ac && (madeL dtB 8 8 dt && (namesL ts && madeL hxB 64 64 sg)))) := ⟨_, rfl⟩
  rw [← HR.out]
  generalize accessL ac = b1 at *
  generalize madeL dtB 8 8 dt = b2 at *
  generalize namesL ts = b3 at *
  generalize madeL hxB 64 64 sg = b4 at *
  generalize str ac = s1 at *
  generalize str dt = s2 at *
  generalize str sg = s4 at *
  cases b1 with
  | false =>
    go_enter Tryz.func59, Tryz.ntmps59
    go_wp2_with (first | (go_at_call_has 73 s1; refine (H1 _).mono ?_; rintro e w1 ⟨rfl, rfl⟩) | (go_at_call_has 73 s2; refine (H2 _).mono ?_; rintro e w1 ⟨rfl, rfl⟩) | (go_at_call_has 73 s4; refine (H4 _).mono ?_; rintro e w1 ⟨rfl, rfl⟩) | (go_at_call 30; refine H3.mono ?_; rintro e w1 ⟨rfl, rfl⟩))
    go_ret
    exact ⟨ret_bb (by rw [HR.out]; rfl), T0⟩
  | true =>
    cases b2 with
    | false =>
      go_enter Tryz.func59, Tryz.ntmps59
      go_wp2_with (first | (go_at_call_has 73 s1; refine (H1 _).mono ?_; rintro e w1 ⟨rfl, rfl⟩) | (go_at_call_has 73 s2; refine (H2 _).mono ?_; rintro e w1 ⟨rfl, rfl⟩) | (go_at_call_has 73 s4; refine (H4 _).mono ?_; rintro e w1 ⟨rfl, rfl⟩) | (go_at_call 30; refine H3.mono ?_; rintro e w1 ⟨rfl, rfl⟩))
      go_ret
      exact ⟨ret_bb (by rw [HR.out]; rfl), T0⟩
    | true =>
      cases b3 with
      | false =>
        go_enter Tryz.func59, Tryz.ntmps59
        go_wp2_with (first | (go_at_call_has 73 s1; refine (H1 _).mono ?_; rintro e w1 ⟨rfl, rfl⟩) | (go_at_call_has 73 s2; refine (H2 _).mono ?_; rintro e w1 ⟨rfl, rfl⟩) | (go_at_call_has 73 s4; refine (H4 _).mono ?_; rintro e w1 ⟨rfl, rfl⟩) | (go_at_call 30; refine H3.mono ?_; rintro e w1 ⟨rfl, rfl⟩))
        go_ret
        exact ⟨ret_bb (by rw [HR.out]; rfl), T0⟩
      | true =>
        go_enter Tryz.func59, Tryz.ntmps59
        go_wp2_with (first | (go_at_call_has 73 s1; refine (H1 _).mono ?_; rintro e w1 ⟨rfl, rfl⟩) | (go_at_call_has 73 s2; refine (H2 _).mono ?_; rintro e w1 ⟨rfl, rfl⟩) | (go_at_call_has 73 s4; refine (H4 _).mono ?_; rintro e w1 ⟨rfl, rfl⟩) | (go_at_call 30; refine H3.mono ?_; rintro e w1 ⟨rfl, rfl⟩))
        go_ret
        exact ⟨ret_bb (by rw [HR.out]; cases b4 <;> rfl), T0⟩
end Go.Proofs.YtgjmaeodgcigdaaGreatDoor
