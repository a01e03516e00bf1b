/- For every two numbers the call of ClockOrder returns true; no condition. -/
import Derived.Test.YthinnmfhjikobabRows
import Derived.Test.YthinnmfhjikobabCodShow
import Derived.Test.YthinnmfhjikobabNums
import Derived.WalkKit
import Derived.ProofKit
import Derived.OpenShut
import Derived.ShutString
namespace Go.Proofs.Ythinnmfhjikobab.clockOrder
open Go.ChangeShapes Go.WideShapes Go.ChangeAt Go.RowKit
open Go.ChangeMaps (open_string shut_string)
set_option linter.unusedVariables false      -- a walk need not use every 'w<i>' (that an integer argument fits its kind)

theorem own : ownKnob Try.prog.godebug = none := by kernel_rfl

/-! ### STEP 1: THE WALK: the Go text returns true. 'Grown w w'': the world has at most new blocks (Derived/RowKit3.lean). Part the cases AHEAD of 'go_enter' where a test parts the walk; take each callee by a contract of your own. -/
theorem walk (a0 : Int) (a1 : Int) (w0 : (Lit.int .u64 a0).wf = true) (w1 : (Lit.int .u64 a1).wf = true) (w : World) :
    Calls Try.prog 3 #[.int .u64 a0, .int .u64 a1] w fun e w' => e = .returned (.bool true) ∧ Below w.heap.size w w' := by
  obtain ⟨t, rfl, _⟩ := wf_u64 w0
  obtain ⟨u, rfl, _⟩ := wf_u64 w1
  clear w0 w1
  obtain ⟨S, E, hS, hc⟩ := show_cod t
  obtain ⟨R, F, hR, hd⟩ := show_cod u
  rcases hS with ⟨h1, rfl, rfl⟩ | ⟨h1, h2, rfl⟩
  · have h1' : (253402300799 : Int) < (t : Int) := by omega
    clear h1 hR
    generalize ByteArray.mk R.toArray = r at *
    go_enter Try.func3, Try.ntmps3
    go_wp2_with fail
    refine (hc w).mono ?_
    rintro e x1 ⟨rfl, b1⟩
    go_wp2_with fail
    refine (hd x1).mono ?_
    rintro e x2 ⟨rfl, c2⟩
    have b2 := b1.trans (c2.mono b1.size)
    clear b1 c2
    go_wp2_with fail
    go_ret
    exact ⟨rfl, b2⟩
  · rcases hR with ⟨h3, rfl, rfl⟩ | ⟨h3, h4, rfl⟩
    · have h3' : (253402300799 : Int) < (u : Int) := by omega
      clear h1 h2 h3
      generalize ByteArray.mk S.toArray = s at *
      go_enter Try.func3, Try.ntmps3
      go_wp2_with fail
      refine (hc w).mono ?_
      rintro e x1 ⟨rfl, b1⟩
      go_wp2_with fail
      refine (hd x1).mono ?_
      rintro e x2 ⟨rfl, c2⟩
      have b2 := b1.trans (c2.mono b1.size)
      clear b1 c2
      go_wp2_with fail
      go_ret
      exact ⟨rfl, b2⟩
    · have H1 : Hid (Op.bytesLess S R = decide (t < u)) := h2.less h4
      have H2 : Hid ((S == R) = decide (t = u)) := h2.eq_iff h4
      clear h1 h2 h3 h4
      go_enter Try.func3, Try.ntmps3
      go_wp2_with fail
      refine (hc w).mono ?_
      rintro e x1 ⟨rfl, b1⟩
      go_wp2_with fail
      refine (hd x1).mono ?_
      rintro e x2 ⟨rfl, c2⟩
      have b2 := b1.trans (c2.mono b1.size)
      clear b1 c2 hc hd
      go_wp2_with fail
      · go_ret
        refine ⟨ret_b ?_, b2⟩
        rw [H2.out]
        by_cases htu : t = u
        · subst htu; simp
        · have : ¬ (t : Int) = (u : Int) := by omega
          simp [htu, this]
      · rename_i hh
        exact absurd H1.out.symm hh
  -- go_enter Try.func3, Try.ntmps3
  -- go_wp2
  -- go_ret
  -- exact ⟨rfl, by repeat (first | exact Grown.refl _ | apply Grown.drew | apply Grown.alloc)⟩

/-! ### THE ROW's STEP: WRITTEN OUT: LEAVE IT -/
set_option maxRecDepth 100000 in
theorem lifted (os : Os) (started : os.Started) (H : Type) (enc : TypeId × Value → H) :
    ReturnsInHanded {} Try.checked os 3 .any (Rows.clockOrderSpec.pre6 enc Try.prog Try.f3 Rows.clockOrderRow.domain false) (Rows.clockOrderSpec.post enc Try.prog Try.f3 false true false false) := by
  refine returnsInHanded_of_change (C := Try.checked) own started (by kernel_rfl) Try.func3
    (ChangeSpec.witness6 (enc := enc) (C := Try.checked) false ⟨#[], #[.int .u64 0, .int .u64 0], []⟩ 8 (by kernel_rfl) (by kernel_rfl) (by kernel_rfl) (by kernel_rfl)) ?_
  intro W base args ds gs before hval0 hW hcnd _
  have hval : ∀ (j : Nat) t v, Try.f3.params[j]? = some t → args[j]? = some v → Value.okWide Try.prog W .any base t v := hval0
  have hW' := hW
  obtain ⟨p, q, hA0, hV, rfl, hfz, hnd⟩ := hW
  have hA : DataW.TrodAll enc Try.prog W 0 (fun _ => true) true Try.f3.params.toList args.toList ds p := hA0
  rw [Try.params3] at hA hval
  obtain ⟨v0, vs0, d0, ds0, p0, q0, hargs, rfl, rfl, h0, r0⟩ := trodAll_cons hA
  obtain ⟨v1, vs1, d1, ds1, p1, q1, rfl, rfl, rfl, h1, r1⟩ := trodAll_cons r0
  obtain ⟨rfl, rfl, rfl⟩ := trodAll_nil r1
  obtain rfl : args = #[v0, v1] := by cases args; simp_all
  obtain ⟨rfl, rfl⟩ := trodVars_none hV
  obtain ⟨a0, rfl, rfl, rfl, w0⟩ := open_int Try.underlying22 (hval 0 22 v0 rfl rfl) h0
  obtain ⟨a1, rfl, rfl, rfl, w1⟩ := open_int Try.underlying22 (hval 1 22 v1 rfl rfl) h1
  clear hA0 hval0
  simp only [List.append_nil] at hW'
  refine (walk a0 a1 w0 w1 W).mono fun e W' ⟨he, hg⟩ => ?_
  subst he
  exact ⟨_, rfl, _, _, _, [], _, [], hW', trodAll_mk1 (shut_bool Try.underlying4 _), (trodAll_cons_mk (shut_int Try.underlying22 w0) (trodAll_cons_mk (shut_int Try.underlying22 w1) trodAll_mk0)), rfl, hg.frame _, fun h => by cases h⟩

theorem over : Rows.clockOrderRow.holds Try.pinned (OpenSpec.ofChange Rows.clockOrderSpec) :=
  OpenClaim.holds_of_wide 3 Try.f3 rfl rfl rfl rfl rfl rfl rfl ⟨rfl, rfl, rfl, rfl, rfl⟩ rfl rfl rfl rfl rfl (by kernel_rfl) Try.func3 (by kernel_rfl)
    (of_decide_eq_true (by kernel_rfl)) (by unfold Func.isWrapper; first | (rw [if_pos (by decide +kernel)]; kernel_rfl) | (rw [if_neg (by decide +kernel)]; exact ⟨rfl, rfl⟩))
    (fun os started H enc _ => lifted os started H enc)

/-- ████ THE STATEMENT ████ -/
theorem proved : Rows.ClockOrderSaid :=
  over
#print axioms proved
end Go.Proofs.Ythinnmfhjikobab.clockOrder
