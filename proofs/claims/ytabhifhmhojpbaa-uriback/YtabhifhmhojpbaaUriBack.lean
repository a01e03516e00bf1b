/- For every two texts and every truth the call of UriBack returns true and leaves them as they were; no condition. -/
import Derived.Test.YtabhifhmhojpbaaRows
import Derived.Test.YtabhifhmhojpbaaLight4
import Derived.Test.YtabhifhmhojpbaaAlive4
import Derived.WalkKit
import Derived.ProofKit
import Derived.OpenShut
import Derived.SizedLaws
import Derived.ShutString
namespace Go.Proofs.Ytabhifhmhojpbaa.uriBack
open Go.ChangeShapes Go.WideShapes Go.ChangeAt Go.RowKit
open Go.ChangeMaps (open_string shut_string)
set_option linter.unusedVariables false      -- a walk need not use every 'w<i>' (that an integer argument fits its kind)

theorem own : ownKnob Try.prog.godebug = none := by kernel_rfl

/-! ### STEP 1: THE WALK: the Go text returns true. 'Grown w w'': the world has at most new blocks (Derived/RowKit3.lean). Part the cases AHEAD of 'go_enter' where a test parts the walk; take each callee by a contract of your own. -/
theorem walk (a0 : ByteArray) (a1 : ByteArray) (a2 : Bool) (w0 : a0.size ≤ maxLen) (w1 : a1.size ≤ maxLen) (w : World) (u0 : a0.size ≤ 140737488351232) (u1 : a1.size ≤ 140737488351232) :
    Calls Try.prog 8 #[.string a0, .string a1, .bool a2] w fun e w' => e = .returned (.bool true) ∧ Below w.heap.size w w' := by
  have HL := light2 a0 a1 w (by omega)
  have T1 := lightW2_bel a0 a1 w
  by_cases hl : a0.size + a1.size ≤ 20000
  · rw [decide_eq_true hl] at HL
    have HE := fun w => codEncode a0 a2 w (by omega)
    have HF := fun w => codEncode a1 a2 w (by omega)
    have lz : a0.data.toList.length = a0.size := by rw [Array.length_toList]; rfl
    have HD := fun w => codDecodeL (encL a2 a0.data.toList) w (by have := encL_length a2 a0.data.toList; omega)
    rw [decS_some (dec_enc a2 a0.data.toList), decC_some (dec_enc a2 a0.data.toList), str_of] at HD
    change ∀ w, Calls Try.prog _ _ w fun e w' => e = .returned (.string (str (encL a2 a0.data.toList))) ∧ _ at HE
    change ∀ w, Calls Try.prog _ _ w fun e w' => e = .returned (.string (str (encL a2 a1.data.toList))) ∧ _ at HF
    have h1 : ((str (encL a2 a1.data.toList)).toList == (str (encL a2 a0.data.toList)).toList) = (a0.toList == a1.toList) := by
      rw [str_beq, ByteArray.toList_eq, ByteArray.toList_eq, Bool.eq_iff_iff]
      simp only [beq_iff_eq]
      exact ⟨fun e => (encL_inj a2 _ _ e).symm, fun e => by rw [e]⟩
    clear hl lz w0 w1 u0 u1
    generalize lightW2 a0 a1 w = x1 at *
    generalize str (encL a2 a0.data.toList) = A at *
    generalize str (encL a2 a1.data.toList) = B at *
    go_enter Try.func8, Try.ntmps8
    go_wp2_with fail
    refine HL.mono ?_
    rintro e w1 ⟨rfl, hw⟩
    rw [hw]; clear hw HL w1
    go_wp2_with fail
    refine (HE x1).mono ?_
    rintro e x2 ⟨rfl, c2⟩
    have T2 := T1.trans (c2.mono T1.size)
    clear c2
    go_wp2_with fail
    refine (HD x2).mono ?_
    rintro e x3 ⟨rfl, c3⟩
    have T3 := T2.trans (c3.mono T2.size)
    clear c3
    go_wp2_with fail
    refine (HF x3).mono ?_
    rintro e x4 ⟨rfl, c4⟩
    have T4 := T3.trans (c4.mono T3.size)
    clear c4
    go_wp2_with fail
    refine (lawAlive x4).mono ?_
    rintro e x5 ⟨rfl, c5⟩
    have T5 := T4.trans (c5.mono T4.size)
    go_wp2_with fail
    go_ret
    exact ⟨rfl, T5⟩
  · rw [decide_eq_false hl] at HL
    clear hl w0 w1 u0 u1
    generalize lightW2 a0 a1 w = x1 at *
    go_enter Try.func8, Try.ntmps8
    go_wp2_with fail
    refine HL.mono ?_
    rintro e w1 ⟨rfl, hw⟩
    rw [hw]; clear hw HL w1
    go_wp2_with fail
    refine (lawAlive x1).mono ?_
    rintro e x2 ⟨rfl, c2⟩
    have T2 := T1.trans (c2.mono T1.size)
    go_wp2_with fail
    go_ret
    exact ⟨rfl, T2⟩
  -- go_enter Try.func8, Try.ntmps8
  -- go_wp2
  -- go_ret
  -- exact ⟨rfl, by repeat (first | exact Grown.refl _ | apply Grown.drew | apply Grown.alloc)⟩

/-! ### THE ROW's STEP: WRITTEN OUT: LEAVE IT -/
set_option maxRecDepth 100000 in
theorem lifted (os : Os) (started : os.Started) (H : Type) (enc : TypeId × Value → H) :
    ReturnsInHanded {} Try.checked os 8 .any (Rows.uriBackSpec.pre6 enc Try.prog Try.f8 Rows.uriBackRow.domain false) (Rows.uriBackSpec.post enc Try.prog Try.f8 false true false false) := by
  refine returnsInHanded_of_change_sized (C := Try.checked) own started (by kernel_rfl) Try.func8
    (ChangeSpec.witness6 (enc := enc) (C := Try.checked) false ⟨#[], #[.string ByteArray.empty, .string ByteArray.empty, .bool false], []⟩ 8 (by kernel_rfl) (by kernel_rfl) (by kernel_rfl) (by kernel_rfl)) ?_
  intro W base args ds gs before hval0 hW hcnd hsz _
  have hval : ∀ (j : Nat) t v, Try.f8.params[j]? = some t → args[j]? = some v → Value.okWide Try.prog W .any base t v := hval0
  have hW' := hW
  obtain ⟨p, q, hA0, hV, rfl, hfz, hnd⟩ := hW
  have hA : DataW.TrodAll enc Try.prog W 0 (fun _ => true) true Try.f8.params.toList args.toList ds p := hA0
  rw [Try.params8] at hA hval
  obtain ⟨v0, vs0, d0, ds0, p0, q0, hargs, rfl, rfl, h0, r0⟩ := trodAll_cons hA
  obtain ⟨v1, vs1, d1, ds1, p1, q1, rfl, rfl, rfl, h1, r1⟩ := trodAll_cons r0
  obtain ⟨v2, vs2, d2, ds2, p2, q2, rfl, rfl, rfl, h2, r2⟩ := trodAll_cons r1
  obtain ⟨rfl, rfl, rfl⟩ := trodAll_nil r2
  obtain rfl : args = #[v0, v1, v2] := by cases args; simp_all
  obtain ⟨rfl, rfl⟩ := trodVars_none hV
  obtain ⟨a0, rfl, rfl, rfl, w0⟩ := open_string Try.underlying9 (hval 0 9 v0 rfl rfl) h0
  obtain ⟨a1, rfl, rfl, rfl, w1⟩ := open_string Try.underlying9 (hval 1 9 v1 rfl rfl) h1
  obtain ⟨a2, rfl, rfl, rfl⟩ := open_bool Try.underlying4 (hval 2 4 v2 rfl rfl) h2
  clear hA0 hval0
  simp only [List.append_nil] at hW'
  have u0 : a0.size ≤ 140737488351232 := by
    have := sized_string hsz (j := 0) rfl rfl
    simpa [reachBytes] using this
  have u1 : a1.size ≤ 140737488351232 := by
    have := sized_string hsz (j := 1) rfl rfl
    simpa [reachBytes] using this
  refine (walk a0 a1 a2 w0 w1 W u0 u1).mono fun e W' ⟨he, hg⟩ => ?_
  subst he
  exact ⟨_, rfl, _, _, _, [], _, [], hW', trodAll_mk1 (shut_bool Try.underlying4 _), (trodAll_cons_mk (shut_string Try.underlying9 w0) (trodAll_cons_mk (shut_string Try.underlying9 w1) (trodAll_cons_mk (shut_bool Try.underlying4 _) trodAll_mk0))), rfl, hg.frame _, fun h => by cases h⟩

theorem over : Rows.uriBackRow.holds Try.pinned (OpenSpec.ofChange Rows.uriBackSpec) :=
  OpenClaim.holds_of_wide 8 Try.f8 rfl rfl rfl rfl rfl rfl rfl ⟨rfl, rfl, rfl, rfl, rfl⟩ rfl rfl rfl rfl rfl (by kernel_rfl) Try.func8 (by kernel_rfl)
    (of_decide_eq_true (by kernel_rfl)) (by unfold Func.isWrapper; first | (rw [if_pos (by decide +kernel)]; kernel_rfl) | (rw [if_neg (by decide +kernel)]; exact ⟨rfl, rfl⟩))
    (fun os started H enc _ => lifted os started H enc)

/-- ████ THE STATEMENT ████ -/
theorem proved : Rows.UriBackSaid :=
  over
#print axioms proved
end Go.Proofs.Ytabhifhmhojpbaa.uriBack
