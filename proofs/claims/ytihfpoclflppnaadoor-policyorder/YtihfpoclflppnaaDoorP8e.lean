/- What policy.Show answers. -/
import Derived.Test.YtihfpoclflppnaaDoorP8b
import Derived.Test.YtihfpoclflppnaaDoorB32
import Derived.Test.YtihfpoclflppnaaDoorR8e
namespace Go.Proofs.YtihfpoclflppnaaDoor
open Go.RowKit

theorem textR_ne (l : List Ru) (k : Nat) (h : k < l.length) : textR (l.take (k + 1)) ≠ [] := by
  by_cases h0 : 0 < k
  · rw [textR_succ l k h h0]; simp
  · rw [show k = 0 by omega, textR_first l (by omega)]; exact rule_ne _
theorem rule_len (r : Ru) (h : wordsR r = true) : (ruleT r).length ≤ 200 := by
  unfold wordsR at h
  rw [Bool.and_eq_true, Bool.and_eq_true] at h
  have h1 := wordL_len h.1.1
  have h2 := wordL_len h.1.2
  have h3 := wordL_len h.2
  rw [ruleT_eq]
  have hk : (kindL r.deny).length ≤ 5 := by
    rcases kind_eq r.deny with e | e <;> rw [e] <;> decide
  simp only [List.length_append, List.length_cons]
  omega

set_option maxRecDepth 20000 in
set_option maxHeartbeats 8000000 in
theorem codShow8 (a : Option Addr) (n cap : Nat) (l : List Ru) (w : World) (h : IsRs w a n cap l) (hz : SmallR l) (hn : n ≤ 100000) :
    Calls Tryd.prog 13 #[.slice a n cap] w fun e w' => e = .returned (.tuple #[.string (str (shoT l)), .int .i64 (shoE l)]) ∧ Below w.heap.size w w' := by
  have H : Hid (IsRs w a n cap l) := h
  have HZ : Hid (SmallR l) := hz
  have HL : Hid (l.length = n) := h.len_eq
  have HNo : Hid (∀ k, k < l.length → wordsR (nthR l k) = false → shoT l = [] ∧ shoE l = 45) := fun k hk hw => (sho_no l k hk hw).symm
  have HLong : Hid (∀ k, k ≤ l.length → ¬ (textR (l.take k)).length ≤ 160 → shoT l = [] ∧ shoE l = 45) := fun k hk hw => (sho_long l (fun h => hw (Nat.le_trans (textR_le l k hk) h))).symm
  have HYe : Hid (wordsTo l n → (textR l).length ≤ 160 → shoT l = textR l ∧ shoE l = 0) := fun hw h => (sho_yes l (by rw [HL.out]; exact hw) h).symm
  obtain ⟨rT, hrT⟩ : ∃ rT, rT = shoT l := ⟨_, rfl⟩
  obtain ⟨rE, hrE⟩ : ∃ rE, rE = shoE l := ⟨_, rfl⟩
  rw [← hrT, ← hrE] at HNo HLong HYe
  rw [← hrT, ← hrE]
  clear h hz hrT hrE
  have D0 : Hid (IsBd w.heap.size [] (w.alloc (.cells #[.pointer none, .slice none 0 0] 61))) := bd_new w
  have T0 : Below w.heap.size w (w.alloc (.cells #[.pointer none, .slice none 0 0] 61)) := (Below.refl _ w).alloc (Nat.le_refl _) _
  have HN0 := bd_none w
  go_enter Tryd.func13, Tryd.ntmps13
  go_wp2
  go_loopw [9] (fun i wr => ∃ k : Nat, k ≤ n ∧ i = .int .i64 (k : Int) ∧ Hid (wordsTo l k) ∧ Hid (IsBd w.heap.size (textR (l.take k)) wr) ∧ Hid ((textR (l.take k)).length ≤ 160) ∧ Below w.heap.size w wr ∧ Hid (k = 0 → wr = w.alloc (.cells #[.pointer none, .slice none 0 0] 61))) (fun i _ => n - (intOf i).toNat)
  case atStart => exact ⟨0, Nat.zero_le _, rfl, fun j hj => absurd hj (Nat.not_lt_zero _), D0.out, Nat.zero_le _, T0, fun _ => rfl⟩
  case round =>
    obtain ⟨k, hk, rfl, HWt, HD, H160, hbel, HE⟩ := hrel
    clear D0 T0
    by_cases hlt : k < n
    · have hlt' : (k : Int) < (n : Int) := by omega
      have HKL : Hid (k < l.length) := by unfold Hid; rw [HL.out]; exact hlt
      obtain ⟨b, off, rfl, hc⟩ := H.out.cells (by omega)
      have gb : b < w.heap.size := cell_lt (hc k hlt).1
      have hR := (hc k hlt).below hbel gb
      have hzk := HZ.out k HKL.out
      obtain ⟨r, hr⟩ : ∃ r, r = nthR l k := ⟨_, rfl⟩
      have HNO : Hid (wordsR r = false → rT = [] ∧ rE = 45) := fun h => HNo.out k HKL.out (by rw [← hr]; exact h)
      have HLO : Hid (¬ (textR (l.take (k + 1))).length ≤ 160 → rT = [] ∧ rE = 45) := fun h => HLong.out (k + 1) HKL.out h
      rw [← hr] at hR hzk
      have HW := fun W => codHas r.deny r.who r.act r.res W (by omega) (by omega) (by omega)
      change ∀ W, Calls Tryd.prog _ _ W (fun e w' => e = .returned (.bool (wordsR r)) ∧ _) at HW
      have HSR : Hid (wordsR r = true → ∀ W, Calls Tryd.prog 30 #[.agg #[.bool r.deny, .string (str r.who), .string (str r.act), .string (str r.res)]] W fun e w' => e = .returned (.string (str (ruleT r))) ∧ Below W.heap.size W w') := fun h W => codShowRule r W (by have := rule_len r h; omega)
      have HYES0 : Hid (k = 0 → wordsR r = true → ([] : List UInt8).length + (ruleT r).length ≤ 140737488355328 ∧ [] ++ ruleT r = textR (l.take (k + 1)) ∧ wordsTo l (k + 1)) := fun h0 h => ⟨by have := rule_len r h; simp; omega, by subst h0; rw [textR_first l HKL.out, ← hr]; rfl, fun j hj => by
        rcases Nat.lt_or_ge j k with hj2 | hj2
        · exact HWt.out j hj2
        · rw [show j = k by omega, ← hr]; exact h⟩
      have HYES1 : Hid (0 < k → wordsR r = true → (textR (l.take k) ++ [59]).length + (ruleT r).length ≤ 140737488355328 ∧ (textR (l.take k) ++ [59]) ++ ruleT r = textR (l.take (k + 1)) ∧ wordsTo l (k + 1)) := fun h0 h => ⟨by have := rule_len r h; have := H160.out; simp; omega, by rw [textR_succ l k HKL.out h0, ← hr, List.append_assoc]; rfl, fun j hj => by
        rcases Nat.lt_or_ge j k with hj2 | hj2
        · exact HWt.out j hj2
        · rw [show j = k by omega, ← hr]; exact h⟩
      clear hr hzk hc HWt HNo HLong HYe HN0
      obtain ⟨c0, c1, c2, c3⟩ := hR
      have HK : Hid (∀ o : Obj, o = .cells #[.bool r.deny, .string (str r.who), .string (str r.act), .string (str r.res)] 37 → Blk (wr.alloc o) wr.heap.size 37 [.bool r.deny, .string (str r.who), .string (str r.act), .string (str r.res)] ∧ IsBd w.heap.size (textR (l.take k)) (wr.alloc o) ∧ Below w.heap.size w (wr.alloc o)) := fun o ho => by
        subst ho
        exact ⟨Blk.newAt wr wr.heap.size 37 _ _ rfl rfl, HD.out.below ((Below.refl _ wr).alloc (Nat.le_refl _) _) rfl, hbel.alloc hbel.size _⟩
      obtain ⟨rt, hrt⟩ : ∃ rt, rt = ruleT r := ⟨_, rfl⟩
      obtain ⟨wd, hwd⟩ : ∃ wd, wd = wordsR r := ⟨_, rfl⟩
      rw [← hrt, ← hwd] at HYES0 HYES1 HSR
      rw [← hwd] at HNO HW
      have hlw : w.heap.size < wr.heap.size := by
        have h1 := HD.out
        rcases h1 with h1 | h1
        · obtain ⟨_, v, h2, _⟩ := h1; exact (Array.getElem?_eq_some_iff.1 h2).1
        · obtain ⟨_, v, h2, _⟩ := h1; exact (Array.getElem?_eq_some_iff.1 h2).1
      clear hrt hwd HD
      generalize r.deny = dn at *
      generalize str r.who = s1 at *
      generalize str r.act = s2 at *
      generalize str r.res = s3 at *
      by_cases hk0 : k = 0
      · subst hk0
        rw [Nat.zero_mul, Nat.add_zero] at c0 c1 c2 c3
        have HYa := HYES0.out rfl
        obtain ⟨PRE, hPRE⟩ : ∃ PRE : List UInt8, PRE = [] := ⟨_, rfl⟩
        rw [← hPRE] at HYa
        have HYES : Hid (wd = true → PRE.length + rt.length ≤ 140737488355328 ∧ PRE ++ rt = textR (l.take (0 + 1)) ∧ wordsTo l (0 + 1)) := HYa
        obtain ⟨hB, hD, hT⟩ := HK.out _ rfl
        have hD2 : textR (l.take 0) = PRE := by rw [hPRE]; rfl
        rw [hD2] at hD
        obtain ⟨nx, hnx⟩ : ∃ nx, nx = PRE ++ rt := ⟨_, rfl⟩
        rw [← hnx] at HYES
        clear HYa HYES0 HYES1 hPRE hD2 HK H160 HE
        go_wp2_with fail
        refine (HW _).mono ?_
        rintro e y1 ⟨rfl, t1⟩
        have B1 := hB.on t1
        have D1 := hD.below t1 rfl
        have T1 := hT.trans (t1.mono hT.size)
        have f0 : y1.cell? ⟨wr.heap.size, 0, none⟩ = some (.bool dn) := B1.cell 0
        have f1 : y1.cell? ⟨wr.heap.size, 1, none⟩ = some (.string s1) := B1.cell 1
        have f2 : y1.cell? ⟨wr.heap.size, 2, none⟩ = some (.string s2) := B1.cell 2
        have f3 : y1.cell? ⟨wr.heap.size, 3, none⟩ = some (.string s3) := B1.cell 3
        have Z1 : w.heap.size ≤ y1.heap.size := T1.size
        clear hB hD hT t1 HW
        cases wd with
        | false =>
          obtain ⟨q1, q2⟩ := HNO.out (by first | rfl | trivial)
          have Q1 : Hid (rT = []) := q1
          have Q2 : Hid (rE = 45) := q2
          clear HNO HYES HLO q1 q2 HSR D1 B1 f0 f1 f2 f3
          go_wp2_with fail
          go_ret2
          exact ⟨ret_se8 (a := []) Q1.out.symm Q2.out.symm, T1⟩
        | true =>
          have HY := HYES.out (by first | rfl | trivial)
          clear HNO HYES
          go_wp2_with fail
          refine (HSR.out (by first | rfl | trivial) _).mono ?_
          rintro e y2 ⟨rfl, t2⟩
          have D2 := D1.below t2 rfl
          have T2 := T1.trans (t2.mono T1.size)
          have HBW := bd_write w.heap.size PRE rt y2 D2 HY.1 T2.size
          rw [← hnx] at HBW
          have HY2 : Hid (nx = textR (l.take (0 + 1)) ∧ wordsTo l (0 + 1)) := HY.2
          clear D1 B1 f0 f1 f2 f3 HSR t2 HY D2 hnx
          go_wp2_with fail
          refine HBW.mono ?_
          rintro e y3 ⟨rfl, D3, t3, _⟩
          have T3 := T2.trans t3
          have HBL := bd_len w.heap.size nx y3 D3
          have HD3 : Hid (IsBd w.heap.size nx y3) := D3
          clear HBW D3 t3
          by_cases h160 : nx.length ≤ 160
          · have j1 : decide ((160 : Int) < (nx.length : Int)) = false := decide_eq_false (by omega)
            have j2 : ¬ (160 : Int) < (nx.length : Int) := by omega
            clear HLO
            go_wp2_with fail
            refine HBL.mono ?_
            rintro e y4 ⟨rfl, hy4⟩
            obtain rfl := hy4.symm
            go_wp2_with fail
            go_roundw
            case rel => exact ⟨0 + 1, by omega, by go_num, HY2.out.2, by have := HD3.out; rw [HY2.out.1] at this; exact this, by have := h160; rw [HY2.out.1] at this; exact this, T3, fun h => by omega⟩
            case measure => simp [intOf]; omega
          · have j1 : decide ((160 : Int) < (nx.length : Int)) = true := decide_eq_true (by omega)
            have j2 : (160 : Int) < (nx.length : Int) := by omega
            obtain ⟨q1, q2⟩ := HLO.out (by rw [← HY2.out.1]; exact h160)
            have Q1 : Hid (rT = []) := q1
            have Q2 : Hid (rE = 45) := q2
            clear HLO q1 q2
            go_wp2_with fail
            refine HBL.mono ?_
            rintro e y4 ⟨rfl, hy4⟩
            obtain rfl := hy4.symm
            go_wp2_with fail
            go_ret2
            exact ⟨ret_se8 (a := []) Q1.out.symm Q2.out.symm, T3⟩
      · have hk1 : (0 : Int) < (k : Int) := by omega
        have hkd : decide ((0 : Int) < (k : Int)) = true := decide_eq_true hk1
        have HYa := HYES1.out (by omega)
        obtain ⟨hB, hD, hT⟩ := HK.out _ rfl
        have HBW0 := bd_write w.heap.size (textR (l.take k)) [59] _ hD (by have := H160.out; simp; omega) hT.size
        change Calls Tryd.prog _ #[.pointer (some ⟨w.heap.size, 0, none⟩), .string ⟨#[59]⟩] _ (fun e w' => e = .returned (.tuple #[.int .i64 1, .nilIface]) ∧ _) at HBW0
        obtain ⟨PRE, hPRE⟩ : ∃ PRE : List UInt8, PRE = textR (l.take k) ++ [59] := ⟨_, rfl⟩
        rw [← hPRE] at HYa HBW0
        have HYES : Hid (wd = true → PRE.length + rt.length ≤ 140737488355328 ∧ PRE ++ rt = textR (l.take (k + 1)) ∧ wordsTo l (k + 1)) := HYa
        obtain ⟨nx, hnx⟩ : ∃ nx, nx = PRE ++ rt := ⟨_, rfl⟩
        rw [← hnx] at HYES
        clear HYa HYES0 HYES1 hPRE HK H160 HE hD
        go_wp2_with fail
        refine HBW0.mono ?_
        rintro e y0 ⟨rfl, hD, tb, hot⟩
        have hB := hB.others hot (by omega)
        have hT := hT.trans tb
        have c0 : y0.cell? ⟨wr.heap.size, 0, none⟩ = some (.bool dn) := hB.cell 0
        have c1 : y0.cell? ⟨wr.heap.size, 1, none⟩ = some (.string s1) := hB.cell 1
        have c2 : y0.cell? ⟨wr.heap.size, 2, none⟩ = some (.string s2) := hB.cell 2
        have c3 : y0.cell? ⟨wr.heap.size, 3, none⟩ = some (.string s3) := hB.cell 3
        clear HBW0 hot tb
        go_wp2_with fail
        refine (HW _).mono ?_
        rintro e y1 ⟨rfl, t1⟩
        have B1 := hB.on t1
        have D1 := hD.below t1 rfl
        have T1 := hT.trans (t1.mono hT.size)
        have f0 : y1.cell? ⟨wr.heap.size, 0, none⟩ = some (.bool dn) := B1.cell 0
        have f1 : y1.cell? ⟨wr.heap.size, 1, none⟩ = some (.string s1) := B1.cell 1
        have f2 : y1.cell? ⟨wr.heap.size, 2, none⟩ = some (.string s2) := B1.cell 2
        have f3 : y1.cell? ⟨wr.heap.size, 3, none⟩ = some (.string s3) := B1.cell 3
        have Z1 : w.heap.size ≤ y1.heap.size := T1.size
        clear hB hD hT t1 HW
        cases wd with
        | false =>
          obtain ⟨q1, q2⟩ := HNO.out (by first | rfl | trivial)
          have Q1 : Hid (rT = []) := q1
          have Q2 : Hid (rE = 45) := q2
          clear HNO HYES HLO q1 q2 HSR D1 B1 f0 f1 f2 f3
          go_wp2_with fail
          go_ret2
          exact ⟨ret_se8 (a := []) Q1.out.symm Q2.out.symm, T1⟩
        | true =>
          have HY := HYES.out (by first | rfl | trivial)
          clear HNO HYES
          go_wp2_with fail
          refine (HSR.out (by first | rfl | trivial) _).mono ?_
          rintro e y2 ⟨rfl, t2⟩
          have D2 := D1.below t2 rfl
          have T2 := T1.trans (t2.mono T1.size)
          have HBW := bd_write w.heap.size PRE rt y2 D2 HY.1 T2.size
          rw [← hnx] at HBW
          have HY2 : Hid (nx = textR (l.take (k + 1)) ∧ wordsTo l (k + 1)) := HY.2
          clear D1 B1 f0 f1 f2 f3 HSR t2 HY D2 hnx
          go_wp2_with fail
          refine HBW.mono ?_
          rintro e y3 ⟨rfl, D3, t3, _⟩
          have T3 := T2.trans t3
          have HBL := bd_len w.heap.size nx y3 D3
          have HD3 : Hid (IsBd w.heap.size nx y3) := D3
          clear HBW D3 t3
          by_cases h160 : nx.length ≤ 160
          · have j1 : decide ((160 : Int) < (nx.length : Int)) = false := decide_eq_false (by omega)
            have j2 : ¬ (160 : Int) < (nx.length : Int) := by omega
            clear HLO
            go_wp2_with fail
            refine HBL.mono ?_
            rintro e y4 ⟨rfl, hy4⟩
            obtain rfl := hy4.symm
            go_wp2_with fail
            go_roundw
            case rel => exact ⟨k + 1, by omega, by go_num, HY2.out.2, by have := HD3.out; rw [HY2.out.1] at this; exact this, by have := h160; rw [HY2.out.1] at this; exact this, T3, fun h => by omega⟩
            case measure => simp [intOf]; omega
          · have j1 : decide ((160 : Int) < (nx.length : Int)) = true := decide_eq_true (by omega)
            have j2 : (160 : Int) < (nx.length : Int) := by omega
            obtain ⟨q1, q2⟩ := HLO.out (by rw [← HY2.out.1]; exact h160)
            have Q1 : Hid (rT = []) := q1
            have Q2 : Hid (rE = 45) := q2
            clear HLO q1 q2
            go_wp2_with fail
            refine HBL.mono ?_
            rintro e y4 ⟨rfl, hy4⟩
            obtain rfl := hy4.symm
            go_wp2_with fail
            go_ret2
            exact ⟨ret_se8 (a := []) Q1.out.symm Q2.out.symm, T3⟩
    · have hge : ¬ (k : Int) < (n : Int) := by omega
      have hkn : k = n := by omega
      subst hkn
      have e : l.take l.length = l := List.take_length
      rw [HL.out] at e
      have h160 := H160.out
      have hD := HD.out
      rw [e] at h160 hD
      obtain ⟨q1, q2⟩ := HYe.out HWt.out h160
      by_cases hk0 : k = 0
      · subst hk0
        have hl0 : l = [] := List.eq_nil_of_length_eq_zero HL.out
        rw [hl0] at q1
        have Q1 : Hid (rT = []) := q1
        have Q2 : Hid (rE = 0) := q2
        have hw0 := HE.out rfl
        subst hw0
        clear HNo HLong HYe q1 q2 e h160 hD hl0 HD H160 HE
        go_wp2_with fail
        refine HN0.mono ?_
        rintro e y ⟨rfl, t⟩
        go_wp2_with fail
        go_ret2
        exact ⟨ret_se8 (a := []) Q1.out.symm Q2.out.symm, hbel.trans t⟩
      · have hne : textR l ≠ [] := by
          have := textR_ne l (k - 1) (by rw [HL.out]; omega)
          rw [show k - 1 + 1 = k by omega, e] at this
          exact this
        have HT := bd_text w.heap.size (textR l) wr hD hne
        have Q1 : Hid (rT = textR l) := q1
        have Q2 : Hid (rE = 0) := q2
        clear HNo HLong HYe q1 q2 e h160 hD hne HD H160 HE
        go_wp2_with fail
        refine HT.mono ?_
        rintro e y ⟨rfl, t⟩
        go_wp2_with fail
        go_ret2
        exact ⟨ret_se8 Q1.out.symm Q2.out.symm, hbel.trans t⟩
end Go.Proofs.YtihfpoclflppnaaDoor
