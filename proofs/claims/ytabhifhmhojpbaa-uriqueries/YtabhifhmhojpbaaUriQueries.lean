/- For every two texts the call of UriQueries returns true and leaves them as they were; no condition. -/
import Derived.Test.YtabhifhmhojpbaaRows
import Derived.Test.YtabhifhmhojpbaaLight4
import Derived.Test.YtabhifhmhojpbaaAlive4
import Derived.Test.YtabhifhmhojpbaaRefQuery
import Derived.Test.YtabhifhmhojpbaaLawSame
import Derived.Test.YtabhifhmhojpbaaCodQuery
import Derived.WalkKit
import Derived.ProofKit
import Derived.OpenShut
import Derived.ShutString
namespace Go.Proofs.Ytabhifhmhojpbaa.uriQueries
open Go.ChangeShapes Go.WideShapes Go.ChangeAt Go.RowKit
open Go.ChangeMaps (open_string shut_string)
set_option linter.unusedVariables false      -- a walk need not use every 'w<i>' (that an integer argument fits its kind)

theorem own : ownKnob Try.prog.godebug = none := by kernel_rfl

/-! ### STEP 1: THE WALK: the Go text returns true. 'Grown w w'': the world has at most new blocks (Derived/RowKit3.lean). Part the cases AHEAD of 'go_enter' where a test parts the walk; take each callee by a contract of your own. -/
theorem walk (a0 : ByteArray) (a1 : ByteArray) (w0 : a0.size ≤ maxLen) (w1 : a1.size ≤ maxLen) (w : World) :
    Calls Try.prog 5 #[.string a0, .string a1] w fun e w' => e = .returned (.bool true) ∧ Below w.heap.size w w' := by
  have HL := light1 a0 w w0
  have T1 := lightW_bel a0 w
  by_cases hl : a0.size ≤ 20000
  · rw [decide_eq_true hl] at HL
    have lz : a0.data.toList.length = a0.size := by rw [Array.length_toList]; rfl
    have HQ := fun w => codQuery a0.data.toList w (by omega)
    rw [str_of] at HQ
    have HR := fun w => refQuery a0 w (by omega)
    have HF := fun a n cap l w h => codFind a n cap l a1.data.toList w h
    have HG := fun a n cap l w h => refFind a n cap l a1.data.toList w h
    rw [str_of] at HF HG
    clear hl lz w0 w1
    generalize lightW a0 w = x1 at *
    generalize a0.data.toList = l at *
    generalize a1.data.toList = m at *
    go_enter Try.func5, Try.ntmps5
    go_wp2_with fail
    refine HL.mono ?_
    rintro e w1 ⟨rfl, hw⟩
    rw [hw]; clear hw HL w1
    go_wp2_with fail
    refine (HQ x1).mono ?_
    rintro e x2 ⟨⟨a, n, cap, rfl, hP⟩, c2⟩
    have T2 := T1.trans (c2.mono T1.size)
    have P2 : Hid (IsP x2 a n cap (queryP l)) := hP
    clear c2 hP
    go_wp2_with fail
    refine (HR x2).mono ?_
    rintro e x3 ⟨⟨b, k, cbp, rfl, hR⟩, c3⟩
    have T3 := T2.trans (c3.mono T2.size)
    have P3 : Hid (IsP x3 a n cap (queryP l)) := P2.out.below c3 rfl
    have R3 : Hid (IsP x3 b k cbp (queryP l)) := hR
    clear c3 hR P2
    generalize queryC l = qc at *
    go_wp2_with fail
    refine (HF a n cap (queryP l) x3 P3.out).mono ?_
    rintro e x4 ⟨rfl, c4⟩
    have T4 := T3.trans (c4.mono T3.size)
    have P4 : Hid (IsP x4 a n cap (queryP l)) := P3.out.below c4 rfl
    have R4 : Hid (IsP x4 b k cbp (queryP l)) := R3.out.below c4 rfl
    clear c4 P3 R3
    go_wp2_with fail
    refine (HG b k cbp (queryP l) x4 R4.out).mono ?_
    rintro e w5 ⟨rfl, hw⟩
    rw [hw]; clear hw w5
    generalize str ((findL (queryP l) m).getD []) = fs at *
    generalize (findL (queryP l) m).isSome = fb at *
    go_wp2_with fail
    refine (lawSame a n cap (queryP l) b k cbp (queryP l) x4 P4.out R4.out).mono ?_
    rintro e x5 ⟨rfl, c5⟩
    rw [decide_eq_true rfl]
    have T5 := T4.trans (c5.mono T4.size)
    clear c5 P4 R4
    go_wp2_with fail
    refine (lawAlive x5).mono ?_
    rintro e x6 ⟨rfl, c6⟩
    have T6 := T5.trans (c6.mono T5.size)
    go_wp2_with fail
    go_ret
    exact ⟨rfl, T6⟩
  · rw [decide_eq_false hl] at HL
    clear hl w0
    generalize lightW a0 w = x1 at *
    go_enter Try.func5, Try.ntmps5
    go_wp2_with fail
    refine HL.mono ?_
    rintro e w1 ⟨rfl, hw⟩
    rw [hw]; clear hw HL w1
    go_wp2_with fail
    refine (lawAlive x1).mono ?_
    rintro e x2 ⟨rfl, c2⟩
    have T2 := T1.trans (c2.mono T1.size)
    go_wp2_with fail
    go_ret
    exact ⟨rfl, T2⟩
  -- go_enter Try.func5, Try.ntmps5
  -- go_wp2
  -- go_ret
  -- exact ⟨rfl, by repeat (first | exact Grown.refl _ | apply Grown.drew | apply Grown.alloc)⟩

/-! ### THE ROW's STEP: WRITTEN OUT: LEAVE IT -/
set_option maxRecDepth 100000 in
theorem lifted (os : Os) (started : os.Started) (H : Type) (enc : TypeId × Value → H) :
    ReturnsInHanded {} Try.checked os 5 .any (Rows.uriQueriesSpec.pre6 enc Try.prog Try.f5 Rows.uriQueriesRow.domain false) (Rows.uriQueriesSpec.post enc Try.prog Try.f5 false true false false) := by
  refine returnsInHanded_of_change (C := Try.checked) own started (by kernel_rfl) Try.func5
    (ChangeSpec.witness6 (enc := enc) (C := Try.checked) false ⟨#[], #[.string ByteArray.empty, .string ByteArray.empty], []⟩ 8 (by kernel_rfl) (by kernel_rfl) (by kernel_rfl) (by kernel_rfl)) ?_
  intro W base args ds gs before hval0 hW hcnd _
  have hval : ∀ (j : Nat) t v, Try.f5.params[j]? = some t → args[j]? = some v → Value.okWide Try.prog W .any base t v := hval0
  have hW' := hW
  obtain ⟨p, q, hA0, hV, rfl, hfz, hnd⟩ := hW
  have hA : DataW.TrodAll enc Try.prog W 0 (fun _ => true) true Try.f5.params.toList args.toList ds p := hA0
  rw [Try.params5] at hA hval
  obtain ⟨v0, vs0, d0, ds0, p0, q0, hargs, rfl, rfl, h0, r0⟩ := trodAll_cons hA
  obtain ⟨v1, vs1, d1, ds1, p1, q1, rfl, rfl, rfl, h1, r1⟩ := trodAll_cons r0
  obtain ⟨rfl, rfl, rfl⟩ := trodAll_nil r1
  obtain rfl : args = #[v0, v1] := by cases args; simp_all
  obtain ⟨rfl, rfl⟩ := trodVars_none hV
  obtain ⟨a0, rfl, rfl, rfl, w0⟩ := open_string Try.underlying9 (hval 0 9 v0 rfl rfl) h0
  obtain ⟨a1, rfl, rfl, rfl, w1⟩ := open_string Try.underlying9 (hval 1 9 v1 rfl rfl) h1
  clear hA0 hval0
  simp only [List.append_nil] at hW'
  refine (walk a0 a1 w0 w1 W).mono fun e W' ⟨he, hg⟩ => ?_
  subst he
  exact ⟨_, rfl, _, _, _, [], _, [], hW', trodAll_mk1 (shut_bool Try.underlying4 _), (trodAll_cons_mk (shut_string Try.underlying9 w0) (trodAll_cons_mk (shut_string Try.underlying9 w1) trodAll_mk0)), rfl, hg.frame _, fun h => by cases h⟩

theorem over : Rows.uriQueriesRow.holds Try.pinned (OpenSpec.ofChange Rows.uriQueriesSpec) :=
  OpenClaim.holds_of_wide 5 Try.f5 rfl rfl rfl rfl rfl rfl rfl ⟨rfl, rfl, rfl, rfl, rfl⟩ rfl rfl rfl rfl rfl (by kernel_rfl) Try.func5 (by kernel_rfl)
    (of_decide_eq_true (by kernel_rfl)) (by unfold Func.isWrapper; first | (rw [if_pos (by decide +kernel)]; kernel_rfl) | (rw [if_neg (by decide +kernel)]; exact ⟨rfl, rfl⟩))
    (fun os started H enc _ => lifted os started H enc)

/-- ████ THE STATEMENT ████ -/
theorem proved : Rows.UriQueriesSaid :=
  over
#print axioms proved
end Go.Proofs.Ytabhifhmhojpbaa.uriQueries
