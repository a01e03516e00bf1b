/- For every slice of bytes, every number and every text the call of TotpChecks returns true and leaves slice and text as they were; no condition. -/
import Derived.Test.YtmgflcglmakceaaRows
import Derived.Test.YtmgflcglmakceaaT7m
import Derived.WalkKit
import Derived.ProofKit
import Derived.OpenShut
import Derived.ShutString
import Derived.ChangeOld
import Derived.Below
namespace Go.Proofs.Ytmgflcglmakceaa.totpChecks
open Go.ChangeShapes Go.WideShapes Go.ChangeAt Go.RowKit
open Go.ChangeMaps (open_string shut_string)
set_option linter.unusedVariables false

theorem own : ownKnob Try.prog.godebug = none := by kernel_rfl
theorem laidOut : laidOutB Try.prog = true := by kernel_rfl

/-! ### STEP 1: THE WALK: the Go text returns true, AND WRITES NOTHING THAT WAS THERE: 'Below w.heap.size w w'' (Derived/Below.lean: '.refl', '.alloc', '.drew', '.setCell' at a new block, '.trans'). Open each 'IsRow' by 'rcases' AHEAD of 'go_enter'; part every test ahead of the walk. -/
theorem walk (a0 : Option Addr) (len0 cap0 : Nat) (z0 : List Int) (a1 : Int) (a2 : ByteArray) (w : World) (w0 : IsRow .u8 w a0 len0 cap0 z0) (w1 : (Lit.int .u64 a1).wf = true) (w2 : a2.size ≤ maxLen) :
    Calls Try.prog 4 #[.slice a0 len0 cap0, .int .u64 a1, .string a2] w fun e w' => e = .returned (.bool true) ∧ Below w.heap.size w w' := by
  obtain ⟨l, b0⟩ := w0.bytes
  have B0 : Hid (IsB w a0 len0 cap0 l) := b0
  obtain ⟨t, rfl, ht⟩ : ∃ n : Nat, a1 = (n : Int) ∧ n < 18446744073709551616 := ⟨a1.toNat, by
    have : 0 ≤ a1 ∧ a1 ≤ 18446744073709551615 := by simpa [Lit.wf, IntKind.min, IntKind.max, IntKind.signed, IntKind.bits] using w1
    omega⟩
  clear w0 b0 w1
  by_cases hl : len0 ≤ 100000
  · have hg : ¬ (100000 : Int) < (len0 : Int) := by omega
    have H1 := fun w (h : IsB w a0 len0 cap0 l) => codCheck a0 len0 cap0 l t a2 w h ht (by omega) w2
    have H2 := fun w (h : IsB w a0 len0 cap0 l) => refCheck a0 len0 cap0 l t a2 w h ht (by omega)
    have H3 := fun w (h : IsB w a0 len0 cap0 l) => codTotp a0 len0 cap0 l t w h ht (by omega)
    have H4 := fun w (h : IsB w a0 len0 cap0 l) => codCheck a0 len0 cap0 l t (str (hotL l (t / 30))) w h ht (by omega) (by rw [str_size, hotL_length]; decide)
    rw [show sL (str (hotL l (t / 30))) = hotL l (t / 30) from str_list _, chk_A l _ _ (eqB_self _)] at H4
    have h6 : (str (hotL l (t / 30))).size = 6 := by rw [str_size, hotL_length]
    generalize chkL l (t / 30) (sL a2) = b at *
    generalize str (hotL l (t / 30)) = S at *
    clear ht w2 hl
    go_enter Try.func4, Try.ntmps4
    go_wp2_with fail
    refine (H1 w B0.out).mono ?_
    rintro e x1 ⟨rfl, t1⟩
    have B1 : Hid (IsB x1 a0 len0 cap0 l) := B0.out.below t1 rfl
    go_wp2_with fail
    refine (H2 x1 B1.out).mono ?_
    rintro e x2 ⟨rfl, t2⟩
    have T2 : Below w.heap.size w x2 := t1.trans (t2.mono t1.size)
    have B2 : Hid (IsB x2 a0 len0 cap0 l) := B0.out.below T2 rfl
    go_wp2_with fail
    refine (H3 x2 B2.out).mono ?_
    rintro e x3 ⟨rfl, t3⟩
    have T3 : Below w.heap.size w x3 := T2.trans (t3.mono T2.size)
    have B3 : Hid (IsB x3 a0 len0 cap0 l) := B0.out.below T3 rfl
    go_wp2_with fail
    refine (H4 x3 B3.out).mono ?_
    rintro e x4 ⟨rfl, t4⟩
    have T4 : Below w.heap.size w x4 := T3.trans (t4.mono T3.size)
    have B4 : Hid (IsB x4 a0 len0 cap0 l) := B0.out.below T4 rfl
    go_wp2_with fail
    refine (H3 x4 B4.out).mono ?_
    rintro e x5 ⟨rfl, t5⟩
    have T5 : Below w.heap.size w x5 := T4.trans (t5.mono T4.size)
    go_wp2_with fail
    go_ret
    exact ⟨rfl, T5⟩
  · have hg : (100000 : Int) < (len0 : Int) := by omega
    clear hl ht w2
    go_enter Try.func4, Try.ntmps4
    go_wp2_with fail
    go_ret
    exact ⟨rfl, Below.refl _ _⟩

/-! ### THE ROW's STEP: WRITTEN OUT: LEAVE IT -/
set_option maxRecDepth 100000 in
theorem lifted (os : Os) (started : os.Started) (H : Type) (enc : TypeId × Value → H) :
    ReturnsInHanded {} Try.checked os 4 .any (Rows.totpChecksSpec.pre6 enc Try.prog Try.f4 Rows.totpChecksRow.domain false) (Rows.totpChecksSpec.post enc Try.prog Try.f4 false true false false) := by
  refine returnsInHanded_of_change (C := Try.checked) own started (by kernel_rfl) Try.func4
    (ChangeSpec.witness6 (enc := enc) (C := Try.checked) false ⟨#[], #[.slice none 0 0, .int .u64 0, .string ByteArray.empty], []⟩ 8 (by kernel_rfl) (by kernel_rfl) (by kernel_rfl) (by kernel_rfl)) ?_
  intro W base args ds gs before hval0 hW hcnd _
  have hval : ∀ (j : Nat) t v, Try.f4.params[j]? = some t → args[j]? = some v → Value.okWide Try.prog W .any base t v := hval0
  have hW' := hW
  obtain ⟨p, q, hA0, hV, rfl, hfz, hnd⟩ := hW
  have hA : DataW.TrodAll enc Try.prog W 0 (fun _ => true) true Try.f4.params.toList args.toList ds p := hA0
  rw [Try.params4] at hA hval
  obtain ⟨v0, vs0, d0, ds0, p0, q0, hargs, rfl, rfl, h0, r0⟩ := trodAll_cons hA
  obtain ⟨v1, vs1, d1, ds1, p1, q1, rfl, rfl, rfl, h1, r1⟩ := trodAll_cons r0
  obtain ⟨v2, vs2, d2, ds2, p2, q2, rfl, rfl, rfl, h2, r2⟩ := trodAll_cons r1
  obtain ⟨rfl, rfl, rfl⟩ := trodAll_nil r2
  obtain rfl : args = #[v0, v1, v2] := by cases args; simp_all
  obtain ⟨rfl, rfl⟩ := trodVars_none hV
  obtain ⟨a0, len0, cap0, rfl⟩ := okWide_slice Try.underlying22 (hval 0 22 v0 rfl rfl)
  have k0 := h0
  have lt0 : ∀ x ∈ p0, x.block < W.heap.size := by obtain ⟨m, hm⟩ := k0; exact DataW.trod_lt m _ _ _ hm
  obtain ⟨z0, w0⟩ : ∃ zs, IsRow .u8 W a0 len0 cap0 zs := by
    obtain ⟨fuel, hf⟩ := h0
    rcases open_ints Try.underlying22 Try.underlying5 (by kernel_rfl) hf with ⟨hcs, _⟩ | ⟨x, l, c, zs, hcs, _, hl, hm, hz, _, hcell, hwz⟩
    · simp [Value.cells] at hcs
      obtain ⟨rfl, rfl, rfl⟩ := hcs
      exact ⟨[], .inl ⟨rfl, rfl, rfl, rfl⟩⟩
    · simp [Value.cells] at hcs
      obtain ⟨rfl, rfl, rfl⟩ := hcs
      exact ⟨zs, .inr ⟨_, rfl, hl, hm, by simpa using hz, hcell, hwz⟩⟩
  obtain ⟨a1, rfl, rfl, rfl, w1⟩ := open_int Try.underlying23 (hval 1 23 v1 rfl rfl) h1
  obtain ⟨a2, rfl, rfl, rfl, w2⟩ := open_string Try.underlying9 (hval 2 9 v2 rfl rfl) h2
  clear hA0 hval0
  refine (walk a0 len0 cap0 z0 a1 a2 W w0 w1 w2).mono fun e W' ⟨he, bel⟩ => ?_
  subst he
  exact ⟨_, rfl, _, _, _, [], _, [], hW', trodAll_mk1 (shut_bool Try.underlying4 _), (trodAll_cons_mk (Below.trod laidOut (by kernel_rfl) (of_decide_eq_true (by kernel_rfl)) k0 bel lt0) (trodAll_cons_mk (shut_int Try.underlying23 w1) (trodAll_cons_mk (shut_string Try.underlying9 w2) trodAll_mk0))), rfl, bel.frame _, fun h => by cases h⟩

theorem over : Rows.totpChecksRow.holds Try.pinned (OpenSpec.ofChange Rows.totpChecksSpec) :=
  OpenClaim.holds_of_wide 4 Try.f4 rfl rfl rfl rfl rfl rfl rfl ⟨rfl, rfl, rfl, rfl, rfl⟩ rfl rfl rfl rfl rfl (by kernel_rfl) Try.func4 (by kernel_rfl)
    (of_decide_eq_true (by kernel_rfl)) (by unfold Func.isWrapper; first | (rw [if_pos (by decide +kernel)]; kernel_rfl) | (rw [if_neg (by decide +kernel)]; exact ⟨rfl, rfl⟩))
    (fun os started H enc _ => lifted os started H enc)

/-- ████ THE STATEMENT ████ -/
theorem proved : Rows.TotpChecksSaid := over
#print axioms proved
end Go.Proofs.Ytmgflcglmakceaa.totpChecks
