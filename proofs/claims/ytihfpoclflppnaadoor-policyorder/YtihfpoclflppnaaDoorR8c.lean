/- What the document's Decide and May answer. -/
import Derived.Test.YtihfpoclflppnaaDoorOwnR
import Derived.Test.YtihfpoclflppnaaDoorR8b
namespace Go.Proofs.YtihfpoclflppnaaDoor
open Go.RowKit

/-- rules whose texts are not too long -/
def SmallR (l : List Ru) : Prop := ∀ i, i < l.length → (nthR l i).who.length ≤ 10000000 ∧ (nthR l i).act.length ≤ 10000000 ∧ (nthR l i).res.length ≤ 10000000
theorem den_take (l : List Ru) (who act res : List UInt8) (k : Nat) (h : k < l.length) : denR (l.take (k + 1)) who act res = (denR (l.take k) who act res || ((nthR l k).deny && fitR (nthR l k) who act res)) := by
  unfold denR; rw [takeR l k h, List.any_append]; simp
theorem all_takeR (l : List Ru) (who act res : List UInt8) (k : Nat) (h : k < l.length) : allR (l.take (k + 1)) who act res = (allR (l.take k) who act res || (!(nthR l k).deny && fitR (nthR l k) who act res)) := by
  unfold allR; rw [takeR l k h, List.any_append]; simp
theorem den_hit (l : List Ru) (who act res : List UInt8) (k : Nat) (h : k < l.length) (h1 : (nthR l k).deny = true) (h2 : fitR (nthR l k) who act res = true) : decR l who act res = 2 := by
  unfold decR denR
  rw [if_pos]
  rw [List.any_eq_true]
  exact ⟨nthR l k, by rw [nthR_eq l k h]; exact List.getElem_mem h, by rw [h1, h2]; rfl⟩
/-- what is decided by the first k rules, none of which denies -/
def outTo (l : List Ru) (who act res : List UInt8) (k : Nat) : Nat := if allR (l.take k) who act res = true then 1 else 0
theorem out_all (l : List Ru) (who act res : List UInt8) (h : denR (l.take l.length) who act res = false) : outTo l who act res l.length = decR l who act res := by
  rw [List.take_length] at h
  unfold outTo decR
  rw [List.take_length, h]
  simp
theorem out_miss (l : List Ru) (who act res : List UInt8) (k : Nat) (h : k < l.length) (h2 : fitR (nthR l k) who act res = false) (hd : denR (l.take k) who act res = false) : denR (l.take (k + 1)) who act res = false ∧ outTo l who act res (k + 1) = outTo l who act res k := by
  unfold outTo
  rw [den_take l who act res k h, all_takeR l who act res k h, h2, hd]
  simp
theorem out_hit (l : List Ru) (who act res : List UInt8) (k : Nat) (h : k < l.length) (h1 : (nthR l k).deny = false) (h2 : fitR (nthR l k) who act res = true) (hd : denR (l.take k) who act res = false) : denR (l.take (k + 1)) who act res = false ∧ outTo l who act res (k + 1) = 1 := by
  unfold outTo
  rw [den_take l who act res k h, all_takeR l who act res k h, h1, h2, hd]
  simp
theorem fit_no1 {r : Ru} {who act res : List UInt8} (h : matL r.who who = false) : fitR r who act res = false := by unfold fitR; rw [h]; rfl
theorem fit_no2 {r : Ru} {who act res : List UInt8} (h : matL r.act act = false) : fitR r who act res = false := by unfold fitR; rw [h]; simp
theorem fit_no3 {r : Ru} {who act res : List UInt8} (h : matL r.res res = false) : fitR r who act res = false := by unfold fitR; rw [h]; simp
theorem fit_yes {r : Ru} {who act res : List UInt8} (h1 : matL r.who who = true) (h2 : matL r.act act = true) (h3 : matL r.res res = true) : fitR r who act res = true := by unfold fitR; rw [h1, h2, h3]; rfl
theorem ret_i8 {a b : Int} (h : a = b) : Ending.returned (.int .i64 a) = .returned (.int .i64 b) := by rw [h]

set_option maxRecDepth 20000 in
set_option maxHeartbeats 4000000 in
theorem refDecide8 (a : Option Addr) (n cap : Nat) (l : List Ru) (who act res : List UInt8) (w : World) (h : IsRs w a n cap l) (hz : SmallR l) (hn : n ≤ 1000) (z1 : who.length ≤ 10000000) (z2 : act.length ≤ 10000000) (z3 : res.length ≤ 10000000) :
    Calls Tryd.prog 21 #[.slice a n cap, .string (str who), .string (str act), .string (str res)] w fun e w' => e = .returned (.int .i64 (decR l who act res : Int)) ∧ Below w.heap.size w w' := by
  have H : Hid (IsRs w a n cap l) := h
  have HZ : Hid (SmallR l) := hz
  have HL : Hid (l.length = n) := h.len_eq
  clear h hz
  go_enter Tryd.func21, Tryd.ntmps21
  go_wp2
  go_loopw [9, 10] (fun o i wr => ∃ k q : Nat, k ≤ n ∧ i = .int .i64 (k : Int) ∧ o = .int .i64 (q : Int) ∧ Hid (q = outTo l who act res k) ∧ Hid (denR (l.take k) who act res = false) ∧ Below w.heap.size w wr) (fun _ i _ => n - (intOf i).toNat)
  case atStart => exact ⟨0, 0, Nat.zero_le _, rfl, rfl, rfl, rfl, Below.refl _ _⟩
  case round =>
    obtain ⟨k, q, hk, rfl, rfl, hq, hden, hbel⟩ := hrel
    by_cases hlt : k < n
    · have hlt' : (k : Int) < (n : Int) := by omega
      have HKL : Hid (k < l.length) := by unfold Hid; rw [HL.out]; exact hlt
      obtain ⟨b, off, rfl, hc⟩ := H.out.cells (by omega)
      have gb : b < w.heap.size := cell_lt (hc k hlt).1
      have hR := (hc k hlt).below hbel gb
      have hzk := HZ.out k HKL.out
      obtain ⟨r, hr⟩ : ∃ r, r = nthR l k := ⟨_, rfl⟩
      have HR : Hid (r = nthR l k) := hr
      rw [← hr] at hR hzk
      have M1 := fun w => refMatch8 r.who who w hzk.1 z1
      have M2 := fun w => refMatch8 r.act act w hzk.2.1 z2
      have M3 := fun w => refMatch8 r.res res w hzk.2.2 z3
      have HRb : Hid (∀ w', Below w.heap.size w w' → RuAt w' b (off + k * 4) r) := fun w' hb' => by rw [hr]; exact (hc k hlt).below hb' gb
      clear hr hzk hc
      obtain ⟨c0, c1, c2, c3⟩ := hR
      by_cases h1 : matL r.who who = true
      · rw [h1] at M1
        by_cases h2 : matL r.act act = true
        · rw [h2] at M2
          by_cases h3 : matL r.res res = true
          · rw [h3] at M3
            have HF := fit_yes h1 h2 h3
            by_cases hd : r.deny = true
            · have HX : Hid (decR l who act res = 2) := den_hit l who act res k HKL.out (by rw [← HR.out]; exact hd) (by rw [← HR.out]; exact HF)
              clear HF h1 h2 h3
              go_wp2_with fail
              refine (M1 _).mono ?_
              rintro e x1 ⟨rfl, t1⟩
              have T1 := hbel.trans (t1.mono hbel.size)
              obtain ⟨d0, d1, d2, d3⟩ := HRb.out x1 T1
              clear c0 c1 c2 c3 t1
              go_wp2_with fail
              refine (M2 _).mono ?_
              rintro e x2 ⟨rfl, t2⟩
              have T2 := T1.trans (t2.mono T1.size)
              obtain ⟨e0, e1, e2, e3⟩ := HRb.out x2 T2
              clear d0 d1 d2 d3 t2
              go_wp2_with fail
              refine (M3 _).mono ?_
              rintro e x3 ⟨rfl, t3⟩
              have T3 := T2.trans (t3.mono T2.size)
              obtain ⟨f0, f1, f2, f3⟩ := HRb.out x3 T3
              rw [hd] at f0
              clear e0 e1 e2 e3 t3
              go_wp2_with fail
              go_ret
              exact ⟨ret_i8 (by rw [HX.out]; rfl), T3⟩
            · have hd' : r.deny = false := by simpa using hd
              have HX := out_hit l who act res k HKL.out (by rw [← HR.out]; exact hd') (by rw [← HR.out]; exact HF) hden.out
              have HX1 : Hid (denR (l.take (k + 1)) who act res = false) := HX.1
              have HX2 : Hid (outTo l who act res (k + 1) = 1) := HX.2
              clear HF h1 h2 h3 HX hden hq
              go_wp2_with fail
              refine (M1 _).mono ?_
              rintro e x1 ⟨rfl, t1⟩
              have T1 := hbel.trans (t1.mono hbel.size)
              obtain ⟨d0, d1, d2, d3⟩ := HRb.out x1 T1
              clear c0 c1 c2 c3 t1
              go_wp2_with fail
              refine (M2 _).mono ?_
              rintro e x2 ⟨rfl, t2⟩
              have T2 := T1.trans (t2.mono T1.size)
              obtain ⟨e0, e1, e2, e3⟩ := HRb.out x2 T2
              clear d0 d1 d2 d3 t2
              go_wp2_with fail
              refine (M3 _).mono ?_
              rintro e x3 ⟨rfl, t3⟩
              have T3 := T2.trans (t3.mono T2.size)
              obtain ⟨f0, f1, f2, f3⟩ := HRb.out x3 T3
              rw [hd'] at f0
              clear e0 e1 e2 e3 t3
              go_wp2_with fail
              go_roundw
              case rel => exact ⟨k + 1, 1, by omega, by go_num, rfl, HX2.out.symm, HX1.out, T3⟩
              case measure => simp [intOf]; omega
          · have h3' : matL r.res res = false := by simpa using h3
            rw [h3'] at M3
            have HX := out_miss l who act res k HKL.out (by rw [← HR.out]; exact fit_no3 h3') hden.out
            have HX1 : Hid (denR (l.take (k + 1)) who act res = false) := HX.1
            have HX2 : Hid (q = outTo l who act res (k + 1)) := by unfold Hid; rw [HX.2]; exact hq.out
            clear h1 h2 h3 h3' HX hden hq
            go_wp2_with fail
            refine (M1 _).mono ?_
            rintro e x1 ⟨rfl, t1⟩
            have T1 := hbel.trans (t1.mono hbel.size)
            obtain ⟨d0, d1, d2, d3⟩ := HRb.out x1 T1
            clear c0 c1 c2 c3 t1
            go_wp2_with fail
            refine (M2 _).mono ?_
            rintro e x2 ⟨rfl, t2⟩
            have T2 := T1.trans (t2.mono T1.size)
            obtain ⟨e0, e1, e2, e3⟩ := HRb.out x2 T2
            clear d0 d1 d2 d3 t2
            go_wp2_with fail
            refine (M3 _).mono ?_
            rintro e x3 ⟨rfl, t3⟩
            have T3 := T2.trans (t3.mono T2.size)
            clear e0 e1 e2 e3 t3
            go_wp2_with fail
            go_roundw
            case rel => exact ⟨k + 1, q, by omega, by go_num, rfl, HX2, HX1.out, T3⟩
            case measure => simp [intOf]; omega
        · have h2' : matL r.act act = false := by simpa using h2
          rw [h2'] at M2
          have HX := out_miss l who act res k HKL.out (by rw [← HR.out]; exact fit_no2 h2') hden.out
          have HX1 : Hid (denR (l.take (k + 1)) who act res = false) := HX.1
          have HX2 : Hid (q = outTo l who act res (k + 1)) := by unfold Hid; rw [HX.2]; exact hq.out
          clear h1 h2 h2' HX hden hq
          go_wp2_with fail
          refine (M1 _).mono ?_
          rintro e x1 ⟨rfl, t1⟩
          have T1 := hbel.trans (t1.mono hbel.size)
          obtain ⟨d0, d1, d2, d3⟩ := HRb.out x1 T1
          clear c0 c1 c2 c3 t1
          go_wp2_with fail
          refine (M2 _).mono ?_
          rintro e x2 ⟨rfl, t2⟩
          have T2 := T1.trans (t2.mono T1.size)
          clear d0 d1 d2 d3 t2
          go_wp2_with fail
          go_roundw
          case rel => exact ⟨k + 1, q, by omega, by go_num, rfl, HX2, HX1.out, T2⟩
          case measure => simp [intOf]; omega
      · have h1' : matL r.who who = false := by simpa using h1
        rw [h1'] at M1
        have HX := out_miss l who act res k HKL.out (by rw [← HR.out]; exact fit_no1 h1') hden.out
        have HX1 : Hid (denR (l.take (k + 1)) who act res = false) := HX.1
        have HX2 : Hid (q = outTo l who act res (k + 1)) := by unfold Hid; rw [HX.2]; exact hq.out
        clear h1 h1' HX hden hq
        go_wp2_with fail
        refine (M1 _).mono ?_
        rintro e x1 ⟨rfl, t1⟩
        have T1 := hbel.trans (t1.mono hbel.size)
        clear c0 c1 c2 c3 t1
        go_wp2_with fail
        go_roundw
        case rel => exact ⟨k + 1, q, by omega, by go_num, rfl, HX2, HX1.out, T1⟩
        case measure => simp [intOf]; omega
    · have hge : ¬ (k : Int) < (n : Int) := by omega
      have hkn : k = l.length := by rw [HL.out]; omega
      have HQ : Hid (q = decR l who act res) := by
        unfold Hid; rw [hq.out, hkn]; exact out_all l who act res (by rw [← hkn]; exact hden.out)
      clear hkn hq hden
      go_wp2_with fail
      go_ret
      exact ⟨ret_i8 (by rw [HQ.out]), hbel⟩

theorem may_dec (l : List Ru) (root : Bool) (who act res : List UInt8) : mayR l root who act res = (decide (decR l who act res = 1) || (decide (decR l who act res = 0) && root)) := by
  unfold mayR decR
  cases denR l who act res <;> cases allR l who act res <;> simp
theorem dec_three (l : List Ru) (who act res : List UInt8) : decR l who act res = 0 ∨ decR l who act res = 1 ∨ decR l who act res = 2 := by
  unfold decR; split
  · simp
  · split <;> simp

set_option maxRecDepth 20000 in
set_option maxHeartbeats 1000000 in
theorem refMay8 (a : Option Addr) (n cap : Nat) (l : List Ru) (root : Bool) (who act res : List UInt8) (w : World) (h : IsRs w a n cap l) (hz : SmallR l) (hn : n ≤ 1000) (z1 : who.length ≤ 10000000) (z2 : act.length ≤ 10000000) (z3 : res.length ≤ 10000000) :
    Calls Tryd.prog 23 #[.slice a n cap, .bool root, .string (str who), .string (str act), .string (str res)] w fun e w' => e = .returned (.bool (mayR l root who act res)) ∧ Below w.heap.size w w' := by
  have D := refDecide8 a n cap l who act res w h hz hn z1 z2 z3
  have HM := may_dec l root who act res
  rcases dec_three l who act res with h0 | h0 | h0
  · rw [h0] at D HM
    have HR : Hid (root = mayR l root who act res) := by unfold Hid; rw [HM]; simp
    clear HM h0 h hz
    go_enter Tryd.func23, Tryd.ntmps23
    go_wp2_with fail
    refine D.mono ?_
    rintro e x1 ⟨rfl, t1⟩
    go_wp2_with fail
    go_ret
    exact ⟨ret_b HR.out, t1⟩
  · rw [h0] at D HM
    have HR : Hid (true = mayR l root who act res) := by unfold Hid; rw [HM]; simp
    clear HM h0 h hz
    go_enter Tryd.func23, Tryd.ntmps23
    go_wp2_with fail
    refine D.mono ?_
    rintro e x1 ⟨rfl, t1⟩
    go_wp2_with fail
    go_ret
    exact ⟨ret_b HR.out, t1⟩
  · rw [h0] at D HM
    have HR : Hid (false = mayR l root who act res) := by unfold Hid; rw [HM]; simp
    clear HM h0 h hz
    go_enter Tryd.func23, Tryd.ntmps23
    go_wp2_with fail
    refine D.mono ?_
    rintro e x1 ⟨rfl, t1⟩
    go_wp2_with fail
    go_ret
    exact ⟨ret_b HR.out, t1⟩
end Go.Proofs.YtihfpoclflppnaaDoor
