/- What the document's Check answers. -/
import Derived.Test.YtmgflcglmakceaaT7j
import Derived.Test.YtmgflcglmakceaaT7l
namespace Go.Proofs.Ytmgflcglmakceaa
open Go.RowKit

theorem str_eqB (h : List UInt8) (s : ByteArray) : ((str h).toList == s.toList) = eqB (sL s) h := by
  rw [ByteArray.toList_eq, ByteArray.toList_eq, str_list]
  unfold eqB sL
  rw [Bool.eq_iff_iff]
  simp only [beq_iff_eq]
  exact ⟨fun e => e.symm, fun e => e.symm⟩
theorem ret_bt {b : Bool} (h : b = true) : Ending.returned (.bool true) = .returned (.bool b) := by rw [h]
theorem chk_A (key l : List UInt8) (p : Nat) (h : eqB l (hotL key p) = true) : chkL key p l = true := by unfold chkL; rw [h]; rfl
theorem chk_B (key l : List UInt8) (p : Nat) (h0 : 0 < p) (h : eqB l (hotL key (p - 1)) = true) : chkL key p l = true := by
  unfold chkL; rw [h, decide_eq_true h0]; simp
theorem chk_C (key l : List UInt8) (p : Nat) (h1 : eqB l (hotL key p) = false) (h2 : (decide (0 < p) && eqB l (hotL key (p - 1))) = false) : chkL key p l = (decide (p < 614891469123651720) && eqB l (hotL key (p + 1))) := by
  unfold chkL; rw [h1, h2]; rfl

set_option maxRecDepth 20000 in
set_option maxHeartbeats 2000000 in
theorem refCheck (a0 : Option Addr) (len0 cap0 : Nat) (key : List UInt8) (t : Nat) (s : ByteArray) (w : World) (w0 : IsB w a0 len0 cap0 key) (ht : t < 18446744073709551616) (hs : len0 ≤ 1000000) :
    Calls Try.prog 13 #[.slice a0 len0 cap0, .int .u64 (t : Int), .string s] w fun e w' => e = .returned (.bool (chkL key (t / 30) (sL s))) ∧ Below w.heap.size w w' := by
  have B0 : Hid (IsB w a0 len0 cap0 key) := w0
  have C0 := fun w h => refTotp a0 len0 cap0 key t w h ht hs
  obtain ⟨p, hp⟩ : ∃ p, p = t / 30 := ⟨_, rfl⟩
  rw [← hp] at C0 ⊢
  have hp1 : (t : Int) / 30 = (p : Int) := by omega
  have hp2 : IntKind.u64.wrap ((t : Int) / 30) = (p : Int) := by rw [hp1]; exact wrap64_nat _ (by omega)
  have hpw : IntKind.u64.wrap (p : Int) = (p : Int) := wrap64_nat _ (by omega)
  have hpl : p ≤ 614891469123651720 := by omega
  have E0 := str_eqB (hotL key p) s
  clear w0
  by_cases hA : eqB (sL s) (hotL key p) = true
  · have HR : Hid (chkL key p (sL s) = true) := chk_A key (sL s) p hA
    rw [hA] at E0
    clear hp hp1 hp2 hpw hpl hA ht
    go_enter Try.func13, Try.ntmps13
    go_wp2_with fail
    refine (C0 w B0.out).mono ?_
    rintro e x1 ⟨rfl, t1⟩
    go_wp2_with fail
    go_ret
    exact ⟨ret_bt HR.out, t1⟩
  · have hA' : eqB (sL s) (hotL key p) = false := by simpa using hA
    rw [hA'] at E0
    by_cases h30 : t < 30
    · have hp0 : p = 0 := by omega
      have h30' : ¬ (30 : Int) ≤ (t : Int) := by omega
      subst hp0
      have C2 := fun w h => refHotp a0 len0 cap0 key 1 w h hs
      have E2 := str_eqB (hotL key 1) s
      have HR : Hid (eqB (sL s) (hotL key 1) = chkL key 0 (sL s)) := by
        unfold Hid; rw [chk_C key (sL s) 0 hA' rfl]; rfl
      generalize hb : eqB (sL s) (hotL key 1) = b at *
      clear hp hpw hpl hA hA' ht h30 hb
      go_enter Try.func13, Try.ntmps13
      go_wp2_with fail
      refine (C0 w B0.out).mono ?_
      rintro e x1 ⟨rfl, t1⟩
      go_wp2_with fail
      refine (C2 x1 (B0.out.below t1 rfl)).mono ?_
      rintro e x2 ⟨rfl, t2⟩
      go_wp2_with fail
      go_ret
      exact ⟨bool_ret HR.out, t1.trans (t2.mono t1.size)⟩
    · have h30' : (30 : Int) ≤ (t : Int) := by omega
      obtain ⟨u, hu⟩ : ∃ u : Nat, (t : Int) - 30 = (u : Int) := ⟨t - 30, by omega⟩
      have huw : IntKind.u64.wrap (u : Int) = (u : Int) := wrap64_nat _ (by omega)
      have hu2 : IntKind.u64.wrap ((t : Int) - 30) = (u : Int) := by rw [hu]; exact huw
      obtain ⟨q, hq⟩ : ∃ q, q = u / 30 := ⟨_, rfl⟩
      have hpq : p = q + 1 := by omega
      have C1 := fun w h => refTotp a0 len0 cap0 key u w h (by omega) hs
      rw [← hq] at C1
      have E1 := str_eqB (hotL key q) s
      by_cases hB : eqB (sL s) (hotL key q) = true
      · have HR : Hid (chkL key p (sL s) = true) := chk_B key (sL s) p (by omega) (by rw [show p - 1 = q by omega]; exact hB)
        rw [hB] at E1
        clear hp hp1 hp2 hpw hpl hA hA' ht h30 hB hq hpq
        go_enter Try.func13, Try.ntmps13
        go_wp2_with fail
        refine (C0 w B0.out).mono ?_
        rintro e x1 ⟨rfl, t1⟩
        go_wp2_with fail
        refine (C1 x1 (B0.out.below t1 rfl)).mono ?_
        rintro e x2 ⟨rfl, t2⟩
        go_wp2_with fail
        go_ret
        exact ⟨ret_bt HR.out, t1.trans (t2.mono t1.size)⟩
      · have hB' : eqB (sL s) (hotL key q) = false := by simpa using hB
        rw [hB'] at E1
        have HC : chkL key p (sL s) = (decide (p < 614891469123651720) && eqB (sL s) (hotL key (p + 1))) := chk_C key (sL s) p hA' (by rw [show p - 1 = q by omega, hB', Bool.and_false])
        by_cases hlt : p < 614891469123651720
        · have HLT : ∀ n : Nat, n = 7 → decide ((p : Int) < 614891469123651720) = true := fun _ _ => decide_eq_true (by omega)
          obtain ⟨r, hr⟩ : ∃ r, r = p + 1 := ⟨_, rfl⟩
          have HR1 : Hid ((p : Int) + 1 = (r : Int)) := by unfold Hid; omega
          have HRW : Hid (IntKind.u64.wrap (r : Int) = (r : Int)) := wrap64_nat _ (by omega)
          have C2 := fun w h => refHotp a0 len0 cap0 key r w h hs
          have E2 := str_eqB (hotL key r) s
          rw [decide_eq_true hlt, Bool.true_and, ← hr] at HC
          have HR : Hid (eqB (sL s) (hotL key r) = chkL key p (sL s)) := HC.symm
          clear HC
          generalize hb : eqB (sL s) (hotL key r) = b at *
          clear hp hpl hA hA' ht h30 hB hB' hq hpq hlt hr hb
          go_enter Try.func13, Try.ntmps13
          go_wp2_with fail
          refine (C0 w B0.out).mono ?_
          rintro e x1 ⟨rfl, t1⟩
          go_wp2_with fail
          refine (C1 x1 (B0.out.below t1 rfl)).mono ?_
          rintro e x2 ⟨rfl, t2⟩
          have T2 := t1.trans (t2.mono t1.size)
          have hr1 := HR1.out
          have hrw := HRW.out
          have hlt' := HLT 7 rfl
          clear HLT
          go_wp2_with fail
          refine (C2 x2 (B0.out.below T2 rfl)).mono ?_
          rintro e x3 ⟨rfl, t3⟩
          clear hlt'
          go_wp2_with fail
          go_ret
          exact ⟨bool_ret HR.out, T2.trans (t3.mono T2.size)⟩
        · have HLT : ∀ n : Nat, n = 7 → decide ((p : Int) < 614891469123651720) = false := fun _ _ => decide_eq_false (by omega)
          rw [decide_eq_false hlt, Bool.false_and] at HC
          have HR : Hid (false = chkL key p (sL s)) := HC.symm
          clear HC hp hpl hA hA' ht h30 hB hB' hq hpq hlt
          go_enter Try.func13, Try.ntmps13
          go_wp2_with fail
          refine (C0 w B0.out).mono ?_
          rintro e x1 ⟨rfl, t1⟩
          go_wp2_with fail
          refine (C1 x1 (B0.out.below t1 rfl)).mono ?_
          rintro e x2 ⟨rfl, t2⟩
          have T2 := t1.trans (t2.mono t1.size)
          have hlt' := HLT 7 rfl
          clear HLT
          go_wp2_with fail
          go_ret
          exact ⟨bool_ret HR.out, T2⟩
end Go.Proofs.Ytmgflcglmakceaa
