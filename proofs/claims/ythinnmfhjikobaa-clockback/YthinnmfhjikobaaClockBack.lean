/- For every number and every text the call of ClockBack returns true and leaves the text as it was; no condition. -/
import Derived.Test.YthinnmfhjikobaaRows
import Derived.Test.YthinnmfhjikobaaCodRd
import Derived.Test.YthinnmfhjikobaaCodShow
import Derived.Test.YthinnmfhjikobaaNums
import Derived.WalkKit
import Derived.ProofKit
import Derived.OpenShut
import Derived.ShutString
namespace Go.Proofs.Ythinnmfhjikobaa.clockBack
open Go.ChangeShapes Go.WideShapes Go.ChangeAt Go.RowKit
open Go.ChangeMaps (open_string shut_string)
set_option linter.unusedVariables false      -- a walk need not use every 'w<i>' (that an integer argument fits its kind)

theorem own : ownKnob Try.prog.godebug = none := by kernel_rfl

/-! ### STEP 1: THE WALK: the Go text returns true. 'Grown w w'': the world has at most new blocks (Derived/RowKit3.lean). Part the cases AHEAD of 'go_enter' where a test parts the walk; take each callee by a contract of your own. -/
theorem walk (a0 : Int) (a1 : ByteArray) (w0 : (Lit.int .u64 a0).wf = true) (w1 : a1.size ≤ maxLen) (w : World) :
    Calls Try.prog 7 #[.int .u64 a0, .string a1] w fun e w' => e = .returned (.bool true) ∧ Below w.heap.size w w' := by
  obtain ⟨t, rfl, _⟩ := wf_u64 w0
  clear w0
  obtain ⟨S, E, hS, hs⟩ := show_cod t
  obtain ⟨v, F, hR, hr⟩ := read_cod a1
  have hR1 : ∀ t', IsTime S t' → ∀ w, Calls Try.prog 17 #[.string ⟨S.toArray⟩] w fun e w' => e = .returned (.tuple #[.int .u64 (t' : Int), .int .i64 0]) ∧ Below w.heap.size w w' := by
    intro t' ht w
    obtain ⟨v', E', hA', hv⟩ := read_cod ⟨S.toArray⟩
    rcases hA' with ⟨t1, rfl⟩ | ⟨t1, rfl, rfl⟩
    · have e : v' = t' := t1.uniqT ht
      subst e
      exact hv w
    · exact absurd ht (t1 _)
  have hS1 : ∀ w, IsTime a1.data.toList v → Calls Try.prog 13 #[.int .u64 (v : Int)] w fun e w' => e = .returned (.tuple #[.string a1, .int .i64 0]) ∧ Below w.heap.size w w' := by
    intro w ht
    obtain ⟨R, G, hG, hg⟩ := show_cod v
    rcases hG with ⟨h1, _, _⟩ | ⟨_, h2, rfl⟩
    · have := ht.le; omega
    · have e : R = a1.data.toList := h2.uniq ht
      subst e
      exact hg w
  rcases hS with ⟨_, rfl, rfl⟩ | ⟨_, ht, rfl⟩
  · rcases hR with ⟨hv, rfl⟩ | ⟨_, rfl, rfl⟩
    · clear hR1
      go_enter Try.func7, Try.ntmps7
      go_wp2_with fail
      refine (hs w).mono ?_
      rintro e x1 ⟨rfl, b1⟩
      go_wp2_with fail
      refine (hr x1).mono ?_
      rintro e x2 ⟨rfl, c2⟩
      have b2 := b1.trans (c2.mono b1.size)
      clear b1 c2
      go_wp2_with fail
      refine (hS1 x2 hv).mono ?_
      rintro e x3 ⟨rfl, c3⟩
      have b3 := b2.trans (c3.mono b2.size)
      clear b2 c3
      go_wp2_with fail
      go_ret
      exact ⟨rfl, b3⟩
    · clear hR1 hS1
      go_enter Try.func7, Try.ntmps7
      go_wp2_with fail
      refine (hs w).mono ?_
      rintro e x1 ⟨rfl, b1⟩
      go_wp2_with fail
      refine (hr x1).mono ?_
      rintro e x2 ⟨rfl, c2⟩
      have b2 := b1.trans (c2.mono b1.size)
      clear b1 c2
      go_wp2_with fail
      go_ret
      exact ⟨rfl, b2⟩
  · have hR2 := hR1 t ht
    clear hR1 ht
    generalize ByteArray.mk S.toArray = T at *
    rcases hR with ⟨hv, rfl⟩ | ⟨_, rfl, rfl⟩
    · go_enter Try.func7, Try.ntmps7
      go_wp2_with fail
      refine (hs w).mono ?_
      rintro e x0 ⟨rfl, b0⟩
      go_wp2_with fail
      refine (hR2 x0).mono ?_
      rintro e x1 ⟨rfl, c1⟩
      have b1 := b0.trans (c1.mono b0.size)
      clear b0 c1
      go_wp2_with fail
      refine (hr x1).mono ?_
      rintro e x2 ⟨rfl, c2⟩
      have b2 := b1.trans (c2.mono b1.size)
      clear b1 c2
      go_wp2_with fail
      refine (hS1 x2 hv).mono ?_
      rintro e x3 ⟨rfl, c3⟩
      have b3 := b2.trans (c3.mono b2.size)
      clear b2 c3
      go_wp2_with fail
      go_ret
      exact ⟨rfl, b3⟩
    · clear hS1
      go_enter Try.func7, Try.ntmps7
      go_wp2_with fail
      refine (hs w).mono ?_
      rintro e x0 ⟨rfl, b0⟩
      go_wp2_with fail
      refine (hR2 x0).mono ?_
      rintro e x1 ⟨rfl, c1⟩
      have b1 := b0.trans (c1.mono b0.size)
      clear b0 c1
      go_wp2_with fail
      refine (hr x1).mono ?_
      rintro e x2 ⟨rfl, c2⟩
      have b2 := b1.trans (c2.mono b1.size)
      clear b1 c2
      go_wp2_with fail
      go_ret
      exact ⟨rfl, b2⟩
  -- go_enter Try.func7, Try.ntmps7
  -- go_wp2
  -- go_ret
  -- exact ⟨rfl, by repeat (first | exact Grown.refl _ | apply Grown.drew | apply Grown.alloc)⟩

/-! ### THE ROW's STEP: WRITTEN OUT: LEAVE IT -/
set_option maxRecDepth 100000 in
theorem lifted (os : Os) (started : os.Started) (H : Type) (enc : TypeId × Value → H) :
    ReturnsInHanded {} Try.checked os 7 .any (Rows.clockBackSpec.pre6 enc Try.prog Try.f7 Rows.clockBackRow.domain false) (Rows.clockBackSpec.post enc Try.prog Try.f7 false true false false) := by
  refine returnsInHanded_of_change (C := Try.checked) own started (by kernel_rfl) Try.func7
    (ChangeSpec.witness6 (enc := enc) (C := Try.checked) false ⟨#[], #[.int .u64 0, .string ByteArray.empty], []⟩ 8 (by kernel_rfl) (by kernel_rfl) (by kernel_rfl) (by kernel_rfl)) ?_
  intro W base args ds gs before hval0 hW hcnd _
  have hval : ∀ (j : Nat) t v, Try.f7.params[j]? = some t → args[j]? = some v → Value.okWide Try.prog W .any base t v := hval0
  have hW' := hW
  obtain ⟨p, q, hA0, hV, rfl, hfz, hnd⟩ := hW
  have hA : DataW.TrodAll enc Try.prog W 0 (fun _ => true) true Try.f7.params.toList args.toList ds p := hA0
  rw [Try.params7] at hA hval
  obtain ⟨v0, vs0, d0, ds0, p0, q0, hargs, rfl, rfl, h0, r0⟩ := trodAll_cons hA
  obtain ⟨v1, vs1, d1, ds1, p1, q1, rfl, rfl, rfl, h1, r1⟩ := trodAll_cons r0
  obtain ⟨rfl, rfl, rfl⟩ := trodAll_nil r1
  obtain rfl : args = #[v0, v1] := by cases args; simp_all
  obtain ⟨rfl, rfl⟩ := trodVars_none hV
  obtain ⟨a0, rfl, rfl, rfl, w0⟩ := open_int Try.underlying28 (hval 0 28 v0 rfl rfl) h0
  obtain ⟨a1, rfl, rfl, rfl, w1⟩ := open_string Try.underlying9 (hval 1 9 v1 rfl rfl) h1
  clear hA0 hval0
  simp only [List.append_nil] at hW'
  refine (walk a0 a1 w0 w1 W).mono fun e W' ⟨he, hg⟩ => ?_
  subst he
  exact ⟨_, rfl, _, _, _, [], _, [], hW', trodAll_mk1 (shut_bool Try.underlying4 _), (trodAll_cons_mk (shut_int Try.underlying28 w0) (trodAll_cons_mk (shut_string Try.underlying9 w1) trodAll_mk0)), rfl, hg.frame _, fun h => by cases h⟩

theorem over : Rows.clockBackRow.holds Try.pinned (OpenSpec.ofChange Rows.clockBackSpec) :=
  OpenClaim.holds_of_wide 7 Try.f7 rfl rfl rfl rfl rfl rfl rfl ⟨rfl, rfl, rfl, rfl, rfl⟩ rfl rfl rfl rfl rfl (by kernel_rfl) Try.func7 (by kernel_rfl)
    (of_decide_eq_true (by kernel_rfl)) (by unfold Func.isWrapper; first | (rw [if_pos (by decide +kernel)]; kernel_rfl) | (rw [if_neg (by decide +kernel)]; exact ⟨rfl, rfl⟩))
    (fun os started H enc _ => lifted os started H enc)

/-- ████ THE STATEMENT ████ -/
theorem proved : Rows.ClockBackSaid :=
  over
#print axioms proved
end Go.Proofs.Ythinnmfhjikobaa.clockBack
