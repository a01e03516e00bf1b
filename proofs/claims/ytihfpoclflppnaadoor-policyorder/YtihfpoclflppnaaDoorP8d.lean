/- What policy.Decide and policy.May answer. -/
import Derived.Test.YtihfpoclflppnaaDoorP8b
import Derived.Test.YtihfpoclflppnaaDoorP8c
import Derived.Test.YtihfpoclflppnaaDoorR8c
namespace Go.Proofs.YtihfpoclflppnaaDoor
open Go.RowKit

theorem dec_no (l : List Ru) (who act res : List UInt8) (k : Nat) (h : k < l.length) (hf : fitR (nthR l k) who act res = false) : decR (l.take (k + 1)) who act res = decR (l.take k) who act res := by
  unfold decR; rw [den_take l who act res k h, all_takeR l who act res k h, hf]; simp
theorem dec_den (l : List Ru) (who act res : List UInt8) (k : Nat) (h : k < l.length) (hf : fitR (nthR l k) who act res = true) (hd : (nthR l k).deny = true) : decR (l.take (k + 1)) who act res = 2 := by
  unfold decR; rw [den_take l who act res k h, hf, hd]; simp
theorem dec_all (l : List Ru) (who act res : List UInt8) (k : Nat) (h : k < l.length) (hf : fitR (nthR l k) who act res = true) (hd : (nthR l k).deny = false) : decR (l.take (k + 1)) who act res = max (decR (l.take k) who act res) 1 := by
  unfold decR; rw [den_take l who act res k h, all_takeR l who act res k h, hf, hd]
  cases denR (l.take k) who act res <;> cases allR (l.take k) who act res <;> rfl
theorem dec_le (l : List Ru) (who act res : List UInt8) : decR l who act res ≤ 2 := by
  unfold decR; split
  · exact Nat.le_refl _
  · split <;> omega

set_option maxRecDepth 20000 in
set_option maxHeartbeats 4000000 in
theorem codDecide8 (a : Option Addr) (n cap : Nat) (l : List Ru) (who act res : List UInt8) (w : World) (h : IsRs w a n cap l) (hz : SmallR l) (hn : n ≤ 1000) (z1 : who.length ≤ 10000000) (z2 : act.length ≤ 10000000) (z3 : res.length ≤ 10000000) :
    Calls Tryd.prog 20 #[.slice a n cap, .string (str who), .string (str act), .string (str res)] w fun e w' => e = .returned (.int .i64 (decR l who act res : Int)) ∧ Below w.heap.size w w' := by
  have H : Hid (IsRs w a n cap l) := h
  have HZ : Hid (SmallR l) := hz
  have HL : Hid (l.length = n) := h.len_eq
  clear h hz
  go_enter Tryd.func20, Tryd.ntmps20
  go_wp2
  go_loopw [9, 14] (fun o i wr => ∃ k q : Nat, k ≤ n ∧ i = .int .i64 (k : Int) ∧ o = .int .i64 (q : Int) ∧ q ≤ 2 ∧ Hid (q = decR (l.take k) who act res) ∧ Below w.heap.size w wr) (fun _ i _ => n - (intOf i).toNat)
  case atStart => exact ⟨0, 0, Nat.zero_le _, rfl, rfl, by omega, rfl, Below.refl _ _⟩
  case round =>
    obtain ⟨k, q, hk, rfl, rfl, hq2, hq, hbel⟩ := hrel
    by_cases hlt : k < n
    · have hlt' : (k : Int) < (n : Int) := by omega
      have HKL : Hid (k < l.length) := by unfold Hid; rw [HL.out]; exact hlt
      obtain ⟨b, off, rfl, hc⟩ := H.out.cells (by omega)
      have gb : b < w.heap.size := cell_lt (hc k hlt).1
      have hR := (hc k hlt).below hbel gb
      have hzk := HZ.out k HKL.out
      obtain ⟨r, hr⟩ : ∃ r, r = nthR l k := ⟨_, rfl⟩
      have HR : Hid (r = nthR l k) := hr
      rw [← hr] at hR hzk
      have M1 := fun w => codMatch8 r.who who w hzk.1 z1
      have M2 := fun w => codMatch8 r.act act w hzk.2.1 z2
      have M3 := fun w => codMatch8 r.res res w hzk.2.2 z3
      clear hr hzk hc
      obtain ⟨c0, c1, c2, c3⟩ := hR
      have HK : Hid (∀ o : Obj, o = .cells #[.bool r.deny, .string (str r.who), .string (str r.act), .string (str r.res)] 37 → ∀ W, Below (wr.alloc o).heap.size (wr.alloc o) W → Blk W wr.heap.size 37 [.bool r.deny, .string (str r.who), .string (str r.act), .string (str r.res)] ∧ Below w.heap.size w W) := fun o ho W hW => by
        subst ho
        have T0 : Below w.heap.size w (wr.alloc (.cells #[.bool r.deny, .string (str r.who), .string (str r.act), .string (str r.res)] 37)) := hbel.alloc hbel.size _
        exact ⟨(Blk.newAt wr wr.heap.size 37 _ _ rfl rfl).on hW, T0.trans (hW.mono T0.size)⟩
      have HNO : Hid (fitR r who act res = false → q = decR (l.take (k + 1)) who act res) := fun hf => by rw [dec_no l who act res k HKL.out (by rw [← HR.out]; exact hf)]; exact hq.out
      have HDE : Hid (fitR r who act res = true → r.deny = true → decR (l.take (k + 1)) who act res = 2) := fun hf hd => dec_den l who act res k HKL.out (by rw [← HR.out]; exact hf) (by rw [← HR.out]; exact hd)
      have HAL : Hid (fitR r who act res = true → r.deny = false → decR (l.take (k + 1)) who act res = max q 1) := fun hf hd => by rw [hq.out]; exact dec_all l who act res k HKL.out (by rw [← HR.out]; exact hf) (by rw [← HR.out]; exact hd)
      have F1 : Hid (matL r.who who = false → fitR r who act res = false) := fun h => fit_no1 h
      have F2 : Hid (matL r.act act = false → fitR r who act res = false) := fun h => fit_no2 h
      have F3 : Hid (matL r.res res = false → fitR r who act res = false) := fun h => fit_no3 h
      have F4 : Hid (matL r.who who = true → matL r.act act = true → matL r.res res = true → fitR r who act res = true) := fun h1 h2 h3 => fit_yes h1 h2 h3
      clear HR hq
      obtain ⟨x, hx⟩ : ∃ x, x = matL r.who who := ⟨_, rfl⟩
      obtain ⟨y, hy⟩ : ∃ y, y = matL r.act act := ⟨_, rfl⟩
      obtain ⟨z, hz⟩ : ∃ z, z = matL r.res res := ⟨_, rfl⟩
      rw [← hx] at M1 F1 F4
      rw [← hy] at M2 F2 F4
      rw [← hz] at M3 F3 F4
      clear hx hy hz
      generalize r.deny = dn at *
      generalize str r.who = s1 at *
      generalize str r.act = s2 at *
      generalize str r.res = s3 at *
      go_wp2_with fail
      refine (M1 _).mono ?_
      rintro e x1 ⟨rfl, t1⟩
      obtain ⟨k1, T1⟩ := HK.out _ rfl x1 t1
      have d2 : x1.cell? ⟨wr.heap.size, 2, none⟩ = some (.string s2) := k1.cell 2
      clear M1 t1 c0 c1 c2 c3
      cases x with
      | false =>
        have HQ : Hid (q = decR (l.take (k + 1)) who act res) := HNO.out (F1.out (by first | rfl | trivial))
        clear HNO HDE HAL F1 F2 F3 F4 M2 M3
        go_wp2_with fail
        go_roundw
        case rel => exact ⟨k + 1, q, by omega, by go_num, rfl, hq2, HQ, T1⟩
        case measure => simp [intOf]; omega
      | true =>
        go_wp2_with fail
        refine (M2 _).mono ?_
        rintro e x2 ⟨rfl, t2⟩
        have k2 := k1.on t2
        have T2 := T1.trans (t2.mono T1.size)
        have d3 : x2.cell? ⟨wr.heap.size, 3, none⟩ = some (.string s3) := k2.cell 3
        clear M2 t2 d2 k1
        cases y with
        | false =>
          have HQ : Hid (q = decR (l.take (k + 1)) who act res) := HNO.out (F2.out (by first | rfl | trivial))
          clear HNO HDE HAL F1 F2 F3 F4 M3
          go_wp2_with fail
          go_roundw
          case rel => exact ⟨k + 1, q, by omega, by go_num, rfl, hq2, HQ, T2⟩
          case measure => simp [intOf]; omega
        | true =>
          go_wp2_with fail
          refine (M3 _).mono ?_
          rintro e x3 ⟨rfl, t3⟩
          have k3 := k2.on t3
          have T3 := T2.trans (t3.mono T2.size)
          have f0 : x3.cell? ⟨wr.heap.size, 0, none⟩ = some (.bool dn) := k3.cell 0
          have f1 : x3.cell? ⟨wr.heap.size, 1, none⟩ = some (.string s1) := k3.cell 1
          have f2 : x3.cell? ⟨wr.heap.size, 2, none⟩ = some (.string s2) := k3.cell 2
          have f3 : x3.cell? ⟨wr.heap.size, 3, none⟩ = some (.string s3) := k3.cell 3
          have SY := fun W => codSays dn (.string s1) (.string s2) (.string s3) W
          clear M3 t3 d3 k2
          cases z with
          | false =>
            have HQ : Hid (q = decR (l.take (k + 1)) who act res) := HNO.out (F3.out (by first | rfl | trivial))
            clear HNO HDE HAL F1 F2 F3 F4 SY f0 f1 f2 f3
            go_wp2_with fail
            go_roundw
            case rel => exact ⟨k + 1, q, by omega, by go_num, rfl, hq2, HQ, T3⟩
            case measure => simp [intOf]; omega
          | true =>
            have hF := F4.out (by first | rfl | trivial) (by first | rfl | trivial) (by first | rfl | trivial)
            cases dn with
            | true =>
              change ∀ W : World, Calls Tryd.prog 34 _ W (fun e w' => e = .returned (.int .i64 2) ∧ _) at SY
              have HQ : Hid (2 = decR (l.take (k + 1)) who act res) := (HDE.out hF (by first | rfl | trivial)).symm
              have hm : max (q : Int) 2 = 2 := by omega
              clear HNO HDE HAL F1 F2 F3 F4 hF
              go_wp2_with fail
              refine (SY _).mono ?_
              rintro e x4 ⟨rfl, t4⟩
              have T4 := T3.trans (t4.mono T3.size)
              go_wp2_with fail
              go_roundw
              case rel => exact ⟨k + 1, 2, by omega, by go_num, rfl, by omega, HQ, T4⟩
              case measure => simp [intOf]; omega
            | false =>
              change ∀ W : World, Calls Tryd.prog 34 _ W (fun e w' => e = .returned (.int .i64 1) ∧ _) at SY
              have HQ : Hid (max q 1 = decR (l.take (k + 1)) who act res) := (HAL.out hF (by first | rfl | trivial)).symm
              clear HNO HDE HAL F1 F2 F3 F4 hF
              go_wp2_with fail
              refine (SY _).mono ?_
              rintro e x4 ⟨rfl, t4⟩
              have T4 := T3.trans (t4.mono T3.size)
              go_wp2_with fail
              go_roundw
              case rel => exact ⟨k + 1, max q 1, by omega, by go_num, by go_num, by omega, HQ, T4⟩
              case measure => simp [intOf]; omega
    · have hge : ¬ (k : Int) < (n : Int) := by omega
      have HQ : Hid (q = decR l who act res) := by
        have e : l.take k = l := List.take_of_length_le (by rw [HL.out]; omega)
        have := hq.out
        rw [e] at this; exact this
      clear hq
      go_wp2
      go_ret
      exact ⟨ret_i8 (by rw [HQ.out]), hbel⟩

set_option maxRecDepth 20000 in
set_option maxHeartbeats 1000000 in
theorem codMay8 (a : Option Addr) (n cap : Nat) (l : List Ru) (root : Bool) (who act res : List UInt8) (w : World) (h : IsRs w a n cap l) (hz : SmallR l) (hn : n ≤ 1000) (z1 : who.length ≤ 10000000) (z2 : act.length ≤ 10000000) (z3 : res.length ≤ 10000000) :
    Calls Tryd.prog 22 #[.slice a n cap, .bool root, .string (str who), .string (str act), .string (str res)] w fun e w' => e = .returned (.bool (mayR l root who act res)) ∧ Below w.heap.size w w' := by
  have D := codDecide8 a n cap l who act res w h hz hn z1 z2 z3
  have HM := may_dec l root who act res
  rcases dec_three l who act res with h0 | h0 | h0
  · rw [h0] at D HM
    have HR : Hid (root = mayR l root who act res) := by unfold Hid; rw [HM]; simp
    clear HM h0 h hz
    go_enter Tryd.func22, Tryd.ntmps22
    go_wp2_with fail
    refine D.mono ?_
    rintro e x1 ⟨rfl, t1⟩
    cases root with
    | false =>
      go_wp2_with fail
      go_ret
      exact ⟨ret_b HR.out, t1⟩
    | true =>
      go_wp2_with fail
      go_ret
      exact ⟨ret_b HR.out, t1⟩
  · rw [h0] at D HM
    have HR : Hid (true = mayR l root who act res) := by unfold Hid; rw [HM]; simp
    clear HM h0 h hz
    go_enter Tryd.func22, Tryd.ntmps22
    go_wp2_with fail
    refine D.mono ?_
    rintro e x1 ⟨rfl, t1⟩
    go_wp2_with fail
    go_ret
    exact ⟨ret_b HR.out, t1⟩
  · rw [h0] at D HM
    have HR : Hid (false = mayR l root who act res) := by unfold Hid; rw [HM]; simp
    clear HM h0 h hz
    go_enter Tryd.func22, Tryd.ntmps22
    go_wp2_with fail
    refine D.mono ?_
    rintro e x1 ⟨rfl, t1⟩
    go_wp2_with fail
    go_ret
    exact ⟨ret_b HR.out, t1⟩
end Go.Proofs.YtihfpoclflppnaaDoor
