/- For every text the call of ClockReads returns true and leaves it as it was; no condition. -/
import Derived.Test.YthinnmfhjikobaaRows
import Derived.Test.YthinnmfhjikobaaCodRd
import Derived.Test.YthinnmfhjikobaaRefRd
import Derived.WalkKit
import Derived.ProofKit
import Derived.OpenShut
import Derived.ShutString
namespace Go.Proofs.Ythinnmfhjikobaa.clockReads
open Go.ChangeShapes Go.WideShapes Go.ChangeAt Go.RowKit
open Go.ChangeMaps (open_string shut_string)
set_option linter.unusedVariables false      -- a walk need not use every 'w<i>' (that an integer argument fits its kind)

theorem own : ownKnob Try.prog.godebug = none := by kernel_rfl

/-! ### STEP 1: THE WALK: the Go text returns true. 'Grown w w'': the world has at most new blocks (Derived/RowKit3.lean). Part the cases AHEAD of 'go_enter' where a test parts the walk; take each callee by a contract of your own. -/
theorem walk (a0 : ByteArray) (w0 : a0.size ≤ maxLen) (w : World) :
    Calls Try.prog 5 #[.string a0] w fun e w' => e = .returned (.bool true) ∧ Below w.heap.size w w' := by
  obtain ⟨v, E, hA, hc⟩ := read_cod a0
  have hr : ∀ w, Calls Try.prog 18 #[.string a0] w fun e w' => e = .returned (.tuple #[.int .u64 (v : Int), .int .i64 E]) ∧ Below w.heap.size w w' := by
    intro w
    obtain ⟨v', E', hA', hv⟩ := read_val a0.data.toList
    refine (refRead a0 w).mono ?_
    rintro e w' ⟨h1, h2⟩
    have h3 := hv e h1
    rcases hA with ⟨t1, rfl⟩ | ⟨t1, rfl, rfl⟩
    · rcases hA' with ⟨t2, rfl⟩ | ⟨t2, rfl, rfl⟩
      · rw [t1.uniqT t2]; exact ⟨h3, h2⟩
      · exact absurd t1 (t2 _)
    · rcases hA' with ⟨t2, rfl⟩ | ⟨t2, rfl, rfl⟩
      · exact absurd t2 (t1 _)
      · exact ⟨h3, h2⟩
  have hx : ∀ w, Calls Try.prog 17 #[.string ⟨#[50, 48, 49, 53, 48, 56, 51, 48, 84, 49, 50, 51, 54, 48, 48, 90]⟩] w fun e w' => e = .returned (.tuple #[.int .u64 1440938160, .int .i64 0]) ∧ Below w.heap.size w w' := by
    intro w
    obtain ⟨v', E', hA', hv⟩ := read_cod ⟨#[50, 48, 49, 53, 48, 56, 51, 48, 84, 49, 50, 51, 54, 48, 48, 90]⟩
    have ht : IsTime [50, 48, 49, 53, 48, 56, 51, 48, 84, 49, 50, 51, 54, 48, 48, 90] 1440938160 :=
      ⟨735839, 2015, 8, 30, 12, 36, 0, ⟨by decide, by decide, by decide, by decide, by decide, by decide, by decide⟩, by decide, by decide, by decide, by decide, by decide, by decide⟩
    rcases hA' with ⟨t1, rfl⟩ | ⟨t1, rfl, rfl⟩
    · have e : v' = 1440938160 := t1.uniqT ht
      subst e
      exact hv w
    · exact absurd ht (t1 _)
  clear hA
  go_enter Try.func5, Try.ntmps5
  go_wp2_with fail
  refine (hc w).mono ?_
  rintro e x1 ⟨rfl, b1⟩
  go_wp2_with fail
  refine (hr x1).mono ?_
  rintro e x2 ⟨rfl, c2⟩
  have b2 := b1.trans (c2.mono b1.size)
  clear b1 c2
  go_wp2_with fail
  refine (hx x2).mono ?_
  rintro e x3 ⟨rfl, c3⟩
  have b3 := b2.trans (c3.mono b2.size)
  clear b2 c3
  go_wp2_with fail
  go_ret
  exact ⟨rfl, b3⟩
  -- go_enter Try.func5, Try.ntmps5
  -- go_wp2
  -- go_ret
  -- exact ⟨rfl, by repeat (first | exact Grown.refl _ | apply Grown.drew | apply Grown.alloc)⟩

/-! ### THE ROW's STEP: WRITTEN OUT: LEAVE IT -/
set_option maxRecDepth 100000 in
theorem lifted (os : Os) (started : os.Started) (H : Type) (enc : TypeId × Value → H) :
    ReturnsInHanded {} Try.checked os 5 .any (Rows.clockReadsSpec.pre6 enc Try.prog Try.f5 Rows.clockReadsRow.domain false) (Rows.clockReadsSpec.post enc Try.prog Try.f5 false true false false) := by
  refine returnsInHanded_of_change (C := Try.checked) own started (by kernel_rfl) Try.func5
    (ChangeSpec.witness6 (enc := enc) (C := Try.checked) false ⟨#[], #[.string ByteArray.empty], []⟩ 8 (by kernel_rfl) (by kernel_rfl) (by kernel_rfl) (by kernel_rfl)) ?_
  intro W base args ds gs before hval0 hW hcnd _
  have hval : ∀ (j : Nat) t v, Try.f5.params[j]? = some t → args[j]? = some v → Value.okWide Try.prog W .any base t v := hval0
  have hW' := hW
  obtain ⟨p, q, hA0, hV, rfl, hfz, hnd⟩ := hW
  have hA : DataW.TrodAll enc Try.prog W 0 (fun _ => true) true Try.f5.params.toList args.toList ds p := hA0
  rw [Try.params5] at hA hval
  obtain ⟨v0, vs0, d0, ds0, p0, q0, hargs, rfl, rfl, h0, r0⟩ := trodAll_cons hA
  obtain ⟨rfl, rfl, rfl⟩ := trodAll_nil r0
  obtain rfl : args = #[v0] := by cases args; simp_all
  obtain ⟨rfl, rfl⟩ := trodVars_none hV
  obtain ⟨a0, rfl, rfl, rfl, w0⟩ := open_string Try.underlying9 (hval 0 9 v0 rfl rfl) h0
  clear hA0 hval0
  simp only [List.append_nil] at hW'
  refine (walk a0 w0 W).mono fun e W' ⟨he, hg⟩ => ?_
  subst he
  exact ⟨_, rfl, _, _, _, [], _, [], hW', trodAll_mk1 (shut_bool Try.underlying4 _), (trodAll_cons_mk (shut_string Try.underlying9 w0) trodAll_mk0), rfl, hg.frame _, fun h => by cases h⟩

theorem over : Rows.clockReadsRow.holds Try.pinned (OpenSpec.ofChange Rows.clockReadsSpec) :=
  OpenClaim.holds_of_wide 5 Try.f5 rfl rfl rfl rfl rfl rfl rfl ⟨rfl, rfl, rfl, rfl, rfl⟩ rfl rfl rfl rfl rfl (by kernel_rfl) Try.func5 (by kernel_rfl)
    (of_decide_eq_true (by kernel_rfl)) (by unfold Func.isWrapper; first | (rw [if_pos (by decide +kernel)]; kernel_rfl) | (rw [if_neg (by decide +kernel)]; exact ⟨rfl, rfl⟩))
    (fun os started H enc _ => lifted os started H enc)

/-- ████ THE STATEMENT ████ -/
theorem proved : Rows.ClockReadsSaid :=
  over
#print axioms proved
end Go.Proofs.Ythinnmfhjikobaa.clockReads
