/- For every text the call of UriPaths returns true and leaves it as it was; no condition. -/
import Derived.Test.YtabhifhmhojpbaaRows
import Derived.Test.YtabhifhmhojpbaaLight4
import Derived.Test.YtabhifhmhojpbaaAlive4
import Derived.Test.YtabhifhmhojpbaaRefPath
import Derived.WalkKit
import Derived.ProofKit
import Derived.OpenShut
import Derived.ShutString
namespace Go.Proofs.Ytabhifhmhojpbaa.uriPaths
open Go.ChangeShapes Go.WideShapes Go.ChangeAt Go.RowKit
open Go.ChangeMaps (open_string shut_string)
set_option linter.unusedVariables false      -- a walk need not use every 'w<i>' (that an integer argument fits its kind)

theorem own : ownKnob Try.prog.godebug = none := by kernel_rfl

/-! ### STEP 1: THE WALK: the Go text returns true. 'Grown w w'': the world has at most new blocks (Derived/RowKit3.lean). Part the cases AHEAD of 'go_enter' where a test parts the walk; take each callee by a contract of your own. -/
theorem walk (a0 : ByteArray) (w0 : a0.size ≤ maxLen) (w : World) :
    Calls Try.prog 7 #[.string a0] w fun e w' => e = .returned (.bool true) ∧ Below w.heap.size w w' := by
  have HL := light1 a0 w w0
  by_cases hl : a0.size ≤ 20000
  · have HE := fun w => codPath a0.data.toList w (by rw [show a0.data.toList.length = a0.size from by rw [Array.length_toList]; rfl]; omega)
    have HR := fun w => refPath a0 w (by omega)
    rw [str_of] at HE
    unfold PathR at HE
    rw [decide_eq_true hl] at HL
    have T1 := lightW_bel a0 w
    clear hl w0
    generalize lightW a0 w = x1 at *
    generalize str (pathB a0.data.toList) = s at *
    generalize str (pathK a0.data.toList) = t at *
    generalize pathC a0.data.toList = n at *
    go_enter Try.func7, Try.ntmps7
    go_wp2_with fail
    refine HL.mono ?_
    rintro e w1 ⟨rfl, hw⟩
    rw [hw]; clear hw HL w1
    go_wp2_with fail
    refine (HE x1).mono ?_
    rintro e x2 ⟨rfl, c2⟩
    have T2 := T1.trans (c2.mono T1.size)
    clear c2
    go_wp2_with fail
    refine (HR x2).mono ?_
    rintro e x3 ⟨rfl, c3⟩
    have T3 := T2.trans (c3.mono T2.size)
    clear c3
    go_wp2_with fail
    refine (lawAlive x3).mono ?_
    rintro e x4 ⟨rfl, c4⟩
    have T4 := T3.trans (c4.mono T3.size)
    clear c4
    go_wp2_with fail
    go_ret
    exact ⟨rfl, T4⟩
  · rw [decide_eq_false hl] at HL
    have T1 := lightW_bel a0 w
    clear hl w0
    generalize lightW a0 w = x1 at *
    go_enter Try.func7, Try.ntmps7
    go_wp2_with fail
    refine HL.mono ?_
    rintro e w1 ⟨rfl, hw⟩
    rw [hw]; clear hw HL w1
    go_wp2_with fail
    refine (lawAlive x1).mono ?_
    rintro e x2 ⟨rfl, c2⟩
    have T2 := T1.trans (c2.mono T1.size)
    go_wp2_with fail
    go_ret
    exact ⟨rfl, T2⟩
  -- go_enter Try.func7, Try.ntmps7
  -- go_wp2
  -- go_ret
  -- exact ⟨rfl, by repeat (first | exact Grown.refl _ | apply Grown.drew | apply Grown.alloc)⟩

/-! ### THE ROW's STEP: WRITTEN OUT: LEAVE IT -/
set_option maxRecDepth 100000 in
theorem lifted (os : Os) (started : os.Started) (H : Type) (enc : TypeId × Value → H) :
    ReturnsInHanded {} Try.checked os 7 .any (Rows.uriPathsSpec.pre6 enc Try.prog Try.f7 Rows.uriPathsRow.domain false) (Rows.uriPathsSpec.post enc Try.prog Try.f7 false true false false) := by
  refine returnsInHanded_of_change (C := Try.checked) own started (by kernel_rfl) Try.func7
    (ChangeSpec.witness6 (enc := enc) (C := Try.checked) false ⟨#[], #[.string ByteArray.empty], []⟩ 8 (by kernel_rfl) (by kernel_rfl) (by kernel_rfl) (by kernel_rfl)) ?_
  intro W base args ds gs before hval0 hW hcnd _
  have hval : ∀ (j : Nat) t v, Try.f7.params[j]? = some t → args[j]? = some v → Value.okWide Try.prog W .any base t v := hval0
  have hW' := hW
  obtain ⟨p, q, hA0, hV, rfl, hfz, hnd⟩ := hW
  have hA : DataW.TrodAll enc Try.prog W 0 (fun _ => true) true Try.f7.params.toList args.toList ds p := hA0
  rw [Try.params7] at hA hval
  obtain ⟨v0, vs0, d0, ds0, p0, q0, hargs, rfl, rfl, h0, r0⟩ := trodAll_cons hA
  obtain ⟨rfl, rfl, rfl⟩ := trodAll_nil r0
  obtain rfl : args = #[v0] := by cases args; simp_all
  obtain ⟨rfl, rfl⟩ := trodVars_none hV
  obtain ⟨a0, rfl, rfl, rfl, w0⟩ := open_string Try.underlying9 (hval 0 9 v0 rfl rfl) h0
  clear hA0 hval0
  simp only [List.append_nil] at hW'
  refine (walk a0 w0 W).mono fun e W' ⟨he, hg⟩ => ?_
  subst he
  exact ⟨_, rfl, _, _, _, [], _, [], hW', trodAll_mk1 (shut_bool Try.underlying4 _), (trodAll_cons_mk (shut_string Try.underlying9 w0) trodAll_mk0), rfl, hg.frame _, fun h => by cases h⟩

theorem over : Rows.uriPathsRow.holds Try.pinned (OpenSpec.ofChange Rows.uriPathsSpec) :=
  OpenClaim.holds_of_wide 7 Try.f7 rfl rfl rfl rfl rfl rfl rfl ⟨rfl, rfl, rfl, rfl, rfl⟩ rfl rfl rfl rfl rfl (by kernel_rfl) Try.func7 (by kernel_rfl)
    (of_decide_eq_true (by kernel_rfl)) (by unfold Func.isWrapper; first | (rw [if_pos (by decide +kernel)]; kernel_rfl) | (rw [if_neg (by decide +kernel)]; exact ⟨rfl, rfl⟩))
    (fun os started H enc _ => lifted os started H enc)

/-- ████ THE STATEMENT ████ -/
theorem proved : Rows.UriPathsSaid :=
  over
#print axioms proved
end Go.Proofs.Ytabhifhmhojpbaa.uriPaths
