/- A text's bytes one by one, and what the document's number answers. -/
import Derived.Test.YthinnmfhjikobaaRefPad3
import Derived.Test.YthinnmfhjikobaaStrb
namespace Go.Proofs.Ythinnmfhjikobaa
open Go.RowKit
attribute [local go_sem ↓] ixs

theorem allDg_take (l : List UInt8) (k : Nat) (h : k < l.length) : allDg (l.take (k + 1)) = (allDg (l.take k) && isDg (nth l k)) := by
  unfold allDg
  rw [nth_eq l k h, ← List.take_append_getElem h, List.all_append]; simp
theorem numL_take (l : List UInt8) (k : Nat) (h : k < l.length) : numL (l.take (k + 1)) = numL (l.take k) * 10 + ((nth l k).toNat - 48) := by
  rw [nth_eq l k h, ← List.take_append_getElem h, numL_snoc]
theorem allDg_no (l : List UInt8) (k : Nat) (h : k < l.length) (hc : isDg (nth l k) = false) : allDg l = false := by
  cases e : allDg l with
  | false => rfl
  | true =>
    have h2 : isDg l[k] = true := by
      unfold allDg at e
      rw [List.all_eq_true] at e
      exact e _ (List.getElem_mem h)
    rw [nth_eq l k h, h2] at hc
    cases hc

set_option maxHeartbeats 400000 in
theorem refNumber (s : ByteArray) (w : World) (hs : s.size ≤ 8) :
    Calls Try.prog 31 #[.string s] w fun e w' => e = .returned (.int .i64 (numI s.data.toList)) ∧ w' = w := by
  obtain ⟨l, hl⟩ : ∃ l, l = s.data.toList := ⟨_, rfl⟩
  have Hl : Hid (l = s.data.toList) := hl
  have HL : Hid (l.length = s.size) := by unfold Hid; rw [hl]; rfl
  rw [← hl]
  clear hl
  go_enter Try.func31, Try.ntmps31
  go_wp2
  go_loopw [3, 4] (fun nn i w' => ∃ k v : Nat, k ≤ s.size ∧ Hid (allDg (l.take k) = true) ∧ Hid (v = numL (l.take k)) ∧ v < 100000000 ∧ nn = .int .i64 (v : Int) ∧ i = .int .i64 (k : Int) ∧ w' = w) (fun _ i _ => s.size - (intOf i).toNat)
  case atStart => exact ⟨0, 0, by omega, by simp [Hid, allDg], by simp [Hid, numL], by omega, rfl, rfl, rfl⟩
  case round =>
    obtain ⟨k, v, hk, hg, hv, hv2, rfl, rfl, rfl⟩ := hrel
    by_cases hlt : k < s.size
    · have hb0 : (0 : Int) ≤ (k : Int) := by omega
      have hb1 : (k : Int) < (s.size : Int) := by omega
      have hcn : Hid (sb s (k : Int) = nth l k) := by unfold Hid; rw [Hl.out]; rfl
      have c256 := (sb s (k : Int)).toNat_lt
      by_cases h1 : (sb s (k : Int)).toNat < 48
      · have hno : Hid (allDg l = false) := allDg_no l k (by rw [HL.out]; exact hlt) (by rw [← hcn.out]; unfold isDg; simp; omega)
        have h1' : ((sb s (k : Int)).toNat : Int) < 48 := by omega
        clear h1
        go_wp2
        go_ret
        exact ⟨ret_i (by unfold numI; rw [hno.out]; rfl), rfl⟩
      · by_cases h2 : 57 < (sb s (k : Int)).toNat
        · have hno : Hid (allDg l = false) := allDg_no l k (by rw [HL.out]; exact hlt) (by rw [← hcn.out]; unfold isDg; simp; omega)
          have h2' : (57 : Int) < ((sb s (k : Int)).toNat : Int) := by omega
          have h1' : ¬ ((sb s (k : Int)).toNat : Int) < 48 := by omega
          clear h1 h2
          go_wp2
          go_ret
          exact ⟨ret_i (by unfold numI; rw [hno.out]; rfl), rfl⟩
        · have hyes : Hid (allDg (l.take (k + 1)) = true) := by
            unfold Hid
            rw [allDg_take l k (by rw [HL.out]; exact hlt), hg.out, ← hcn.out]
            unfold isDg; simp; omega
          have hval : Hid (v * 10 + ((sb s (k : Int)).toNat - 48) = numL (l.take (k + 1))) := by
            unfold Hid
            rw [numL_take l k (by rw [HL.out]; exact hlt), ← hv.out, hcn.out]
          have hbig : Hid (v * 10 + ((sb s (k : Int)).toNat - 48) < 100000000) := by
            unfold Hid
            rw [hval.out]
            have h3 := numL_lt (k + 1) (l.take (k + 1)) (by rw [List.length_take, HL.out]; omega) hyes.out
            have h4 : 10 ^ (k + 1) ≤ 10 ^ 8 := Nat.pow_le_pow_right (by decide) (by omega)
            omega
          have h2' : ¬ (57 : Int) < ((sb s (k : Int)).toNat : Int) := by omega
          have h1' : ¬ ((sb s (k : Int)).toNat : Int) < 48 := by omega
          go_wp2
          go_roundw
          case rel => exact ⟨k + 1, v * 10 + ((sb s (k : Int)).toNat - 48), by omega, hyes, hval, hbig.out, by go_num, by go_num, by first | rfl | trivial⟩
          case measure => simp [intOf]; omega
    · go_wp2
      go_ret
      have : k = s.size := by omega
      have e : l.take k = l := List.take_of_length_le (by rw [HL.out]; omega)
      have h1 := hg.out
      have h2 := hv.out
      rw [e] at h1 h2
      exact ⟨ret_i (by unfold numI; rw [h1, h2]; rfl), rfl⟩
end Go.Proofs.Ythinnmfhjikobaa
