/- For every day the call of ClockNext returns true; no condition. -/
import Derived.Test.YthinnmfhjikobaaRows
import Derived.Test.YthinnmfhjikobaaBoth3
import Derived.Test.YthinnmfhjikobaaNums
import Derived.WalkKit
import Derived.ProofKit
import Derived.OpenShut
import Derived.ShutString
namespace Go.Proofs.Ythinnmfhjikobaa.clockNext
open Go.ChangeShapes Go.WideShapes Go.ChangeAt Go.RowKit
open Go.ChangeMaps (open_string shut_string)
set_option linter.unusedVariables false      -- a walk need not use every 'w<i>' (that an integer argument fits its kind)

theorem own : ownKnob Try.prog.godebug = none := by kernel_rfl

/-! ### STEP 1: THE WALK: the Go text returns true. 'Grown w w'': the world has at most new blocks (Derived/RowKit3.lean). Part the cases AHEAD of 'go_enter' where a test parts the walk; take each callee by a contract of your own. -/
theorem walk (a0 : Int) (w0 : (Lit.int .i64 a0).wf = true) (w : World) :
    Calls Try.prog 8 #[.int .i64 a0] w fun e w' => e = .returned (.bool true) ∧ Below w.heap.size w w' := by
  clear w0
  rcases civ_or a0 with h | ⟨n, y, m, d, rfl, hd⟩
  · by_cases c1 : a0 < -719162
    · go_enter Try.func8, Try.ntmps8
      go_wp2_with fail
      refine (codCivil_out a0 w h).mono ?_
      rintro e x1 ⟨rfl, b1⟩
      clear h
      go_wp2_with fail
      go_ret
      exact ⟨rfl, b1⟩
    · have c2 : 2932896 < a0 := by omega
      go_enter Try.func8, Try.ntmps8
      go_wp2_with fail
      refine (codCivil_out a0 w h).mono ?_
      rintro e x1 ⟨rfl, b1⟩
      clear h
      go_wp2_with fail
      go_ret
      exact ⟨rfl, b1⟩
  · have H : Hid (IsDate n y m d) := hd
    have hle := hd.le
    have y1 := hd.y1
    have y2 := hd.y2
    have m1 := hd.m1
    have m2 := hd.m2
    have d1 := hd.d1
    have d2 : d ≤ 31 := by have := hd.d2; have := dim_le y m; omega
    clear hd
    by_cases hn : n = 3652058
    · subst hn
      obtain ⟨rfl, rfl, rfl⟩ := H.out.uniq dateLast
      go_enter Try.func8, Try.ntmps8
      go_wp2_with fail
      refine (codCivil_in 3652058 9999 12 31 w H.out).mono ?_
      rintro e x1 ⟨rfl, b1⟩
      go_wp2_with fail
      refine (codDay_in 3652058 9999 12 31 x1 H.out).mono ?_
      rintro e x2 ⟨rfl, c2⟩
      have b2 := b1.trans (c2.mono b1.size)
      clear b1 c2
      go_wp2_with fail
      go_ret
      exact ⟨rfl, b2⟩
    · have hlt : n < 3652058 := by omega
      have e1 : Hid ((n : Int) - 719162 + 1 = ((n + 1 : Nat) : Int) - 719162) := by unfold Hid; omega
      have hnx := H.out.next hlt
      clear hn
      go_enter Try.func8, Try.ntmps8
      go_wp2_with fail
      refine (codCivil_in n y m d w H.out).mono ?_
      rintro e x1 ⟨rfl, b1⟩
      go_wp2_with fail
      refine (codDay_in n y m d x1 H.out).mono ?_
      rintro e x2 ⟨rfl, c2⟩
      have b2 := b1.trans (c2.mono b1.size)
      clear b1 c2
      go_wp2_with fail
      rw [e1.out]
      rcases hnx with ⟨_, hx⟩ | ⟨hdd, hmm, hx⟩ | ⟨hmm, hdd, hx⟩
      · refine (codCivil_in _ _ _ _ x2 hx).mono ?_
        rintro e x3 ⟨rfl, c3⟩
        have b3 := b2.trans (c3.mono b2.size)
        clear b2 c3 hx
        go_wp2_with fail
        go_ret
        exact ⟨rfl, b3⟩
      · refine (codCivil_in _ _ _ _ x2 hx).mono ?_
        rintro e x3 ⟨rfl, c3⟩
        have b3 := b2.trans (c3.mono b2.size)
        have d28 : 28 ≤ d := by have := dim_pos y m; omega
        clear b2 c3 hx hdd
        go_wp2_with fail
        go_ret
        exact ⟨rfl, b3⟩
      · refine (codCivil_in _ _ _ _ x2 hx).mono ?_
        rintro e x3 ⟨rfl, c3⟩
        have b3 := b2.trans (c3.mono b2.size)
        clear b2 c3 hx
        subst hmm hdd
        go_wp2_with fail
        go_ret
        exact ⟨rfl, b3⟩
  -- go_enter Try.func8, Try.ntmps8
  -- go_wp2
  -- go_ret
  -- exact ⟨rfl, by repeat (first | exact Grown.refl _ | apply Grown.drew | apply Grown.alloc)⟩

/-! ### THE ROW's STEP: WRITTEN OUT: LEAVE IT -/
set_option maxRecDepth 100000 in
theorem lifted (os : Os) (started : os.Started) (H : Type) (enc : TypeId × Value → H) :
    ReturnsInHanded {} Try.checked os 8 .any (Rows.clockNextSpec.pre6 enc Try.prog Try.f8 Rows.clockNextRow.domain false) (Rows.clockNextSpec.post enc Try.prog Try.f8 false true false false) := by
  refine returnsInHanded_of_change (C := Try.checked) own started (by kernel_rfl) Try.func8
    (ChangeSpec.witness6 (enc := enc) (C := Try.checked) false ⟨#[], #[.int .i64 0], []⟩ 8 (by kernel_rfl) (by kernel_rfl) (by kernel_rfl) (by kernel_rfl)) ?_
  intro W base args ds gs before hval0 hW hcnd _
  have hval : ∀ (j : Nat) t v, Try.f8.params[j]? = some t → args[j]? = some v → Value.okWide Try.prog W .any base t v := hval0
  have hW' := hW
  obtain ⟨p, q, hA0, hV, rfl, hfz, hnd⟩ := hW
  have hA : DataW.TrodAll enc Try.prog W 0 (fun _ => true) true Try.f8.params.toList args.toList ds p := hA0
  rw [Try.params8] at hA hval
  obtain ⟨v0, vs0, d0, ds0, p0, q0, hargs, rfl, rfl, h0, r0⟩ := trodAll_cons hA
  obtain ⟨rfl, rfl, rfl⟩ := trodAll_nil r0
  obtain rfl : args = #[v0] := by cases args; simp_all
  obtain ⟨rfl, rfl⟩ := trodVars_none hV
  obtain ⟨a0, rfl, rfl, rfl, w0⟩ := open_int Try.underlying3 (hval 0 3 v0 rfl rfl) h0
  clear hA0 hval0
  simp only [List.append_nil] at hW'
  refine (walk a0 w0 W).mono fun e W' ⟨he, hg⟩ => ?_
  subst he
  exact ⟨_, rfl, _, _, _, [], _, [], hW', trodAll_mk1 (shut_bool Try.underlying4 _), (trodAll_cons_mk (shut_int Try.underlying3 w0) trodAll_mk0), rfl, hg.frame _, fun h => by cases h⟩

theorem over : Rows.clockNextRow.holds Try.pinned (OpenSpec.ofChange Rows.clockNextSpec) :=
  OpenClaim.holds_of_wide 8 Try.f8 rfl rfl rfl rfl rfl rfl rfl ⟨rfl, rfl, rfl, rfl, rfl⟩ rfl rfl rfl rfl rfl (by kernel_rfl) Try.func8 (by kernel_rfl)
    (of_decide_eq_true (by kernel_rfl)) (by unfold Func.isWrapper; first | (rw [if_pos (by decide +kernel)]; kernel_rfl) | (rw [if_neg (by decide +kernel)]; exact ⟨rfl, rfl⟩))
    (fun os started H enc _ => lifted os started H enc)

/-- ████ THE STATEMENT ████ -/
theorem proved : Rows.ClockNextSaid :=
  over
#print axioms proved
end Go.Proofs.Ythinnmfhjikobaa.clockNext
