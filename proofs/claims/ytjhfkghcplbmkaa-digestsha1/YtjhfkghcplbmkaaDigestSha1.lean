/- For every slice of bytes the call of DigestSha1 returns true and leaves it as it was; no condition. -/
import Derived.Test.YtjhfkghcplbmkaaRows
import Derived.Test.YtjhfkghcplbmkaaRefSame
import Derived.Test.YtjhfkghcplbmkaaLight
import Derived.Test.YtjhfkghcplbmkaaRefSha1
import Derived.WalkKit
import Derived.ProofKit
import Derived.OpenShut
import Derived.ShutString
import Derived.ChangeOld
import Derived.Below
namespace Go.Proofs.Ytjhfkghcplbmkaa.digestSha1
open Go.ChangeShapes Go.WideShapes Go.ChangeAt Go.RowKit
open Go.ChangeMaps (open_string shut_string)
set_option linter.unusedVariables false

theorem own : ownKnob Try.prog.godebug = none := by kernel_rfl
theorem laidOut : laidOutB Try.prog = true := by kernel_rfl

/-! ### STEP 1: THE WALK: the Go text returns true, AND WRITES NOTHING THAT WAS THERE: 'Below w.heap.size w w'' (Derived/Below.lean: '.refl', '.alloc', '.drew', '.setCell' at a new block, '.trans'). Open each 'IsRow' by 'rcases' AHEAD of 'go_enter'; part every test ahead of the walk. -/
theorem walk (a0 : Option Addr) (len0 cap0 : Nat) (z0 : List Int) (w : World) (w0 : IsRow .u8 w a0 len0 cap0 z0) :
    Calls Try.prog 4 #[.slice a0 len0 cap0] w fun e w' => e = .returned (.bool true) ∧ Below w.heap.size w w' := by
  obtain ⟨l, b0⟩ := w0.bytes
  clear w0
  have B0 : Hid (IsB w a0 len0 cap0 l) := b0
  have hle := b0.le
  have hmx := b0.max
  unfold maxLen at hmx
  clear b0
  have T1 : Below w.heap.size w (w.alloc (.cells #[.slice a0 len0 cap0] 22)) := (Below.refl _ _).alloc (Nat.le_refl _) _
  have C1 : Hid ((w.alloc (.cells #[.slice a0 len0 cap0] 22)).cell? ⟨w.heap.size, 0, none⟩ = some (.slice a0 len0 cap0)) := (Blk.newAt w w.heap.size 22 _ [.slice a0 len0 cap0] rfl rfl).cell 0
  have B1 : Hid (IsB (w.alloc (.cells #[.slice a0 len0 cap0] 22)) a0 len0 cap0 l) := B0.out.below T1 rfl
  have hcs : ∀ i, i < 1 → ∃ a c, (w.alloc (.cells #[.slice a0 len0 cap0] 22)).cell? ⟨w.heap.size, i, none⟩ = some (.slice a ((fun _ => len0) i) c) := fun i hi => by
    have e : i = 0 := by omega
    subst e
    exact ⟨a0, cap0, C1.out⟩
  have hL := lLight w.heap.size 1 (fun _ => len0) (w.alloc (.cells #[.slice a0 len0 cap0] 22)) (by omega) hcs (by simp only [sumTo]; omega)
  have HL : Hid (Calls Try.prog _ _ _ _) := hL
  clear hL hcs C1
  by_cases hl : len0 ≤ 200000
  · have hd : decide (sumTo (fun _ => len0) 1 ≤ 200000) = true := decide_eq_true (by simp only [sumTo]; omega)
    go_enter Try.func4, Try.ntmps4
    go_wp2_with fail
    refine HL.out.mono ?_
    rintro e w1 ⟨rfl, hw⟩
    rw [hw, hd]; clear hw hd HL w1
    generalize w.alloc (.cells #[.slice a0 len0 cap0] 22) = x1 at *
    go_wp2_with fail
    refine (digSha1 a0 len0 cap0 l x1 B1.out (by omega)).mono ?_
    rintro e x2 ⟨v2, rfl, o2, c2⟩
    have B2 : Hid (IsB x2 a0 len0 cap0 l) := B1.out.below c2 rfl
    have T2 : Below w.heap.size w x2 := T1.trans (c2.mono T1.size)
    obtain ⟨p2, q2, rfl, i2⟩ := o2.isB
    have I2 : Hid (IsB x2 p2 (sha1L l).length q2 (sha1L l)) := i2
    clear i2 o2 B1
    go_wp2_with fail
    refine (refSha1 a0 len0 cap0 l x2 B2.out (by omega)).mono ?_
    rintro e x3 ⟨v3, rfl, o3, c3⟩
    have T3 : Below w.heap.size w x3 := T2.trans (c3.mono T2.size)
    have I3 : Hid (IsB x3 p2 (sha1L l).length q2 (sha1L l)) := I2.out.below c3 rfl
    obtain ⟨p3, q3, rfl, i3⟩ := o3.isB
    have J3 : Hid (IsB x3 p3 (sha1L l).length q3 (sha1L l)) := i3
    clear i3 o3 I2 B2
    go_wp2_with fail
    refine (refSame _ _ _ _ _ _ _ _ x3 I3.out J3.out).mono ?_
    rintro e x4 ⟨rfl, n4, hw⟩
    rw [eqB_self]
    have T4 : Below w.heap.size w x4 := by rw [hw]; exact bel_drewN T3 n4
    clear hw
    go_wp2_with fail
    go_ret
    exact ⟨rfl, T4⟩
  · have hd : decide (sumTo (fun _ => len0) 1 ≤ 200000) = false := decide_eq_false (by simp only [sumTo]; omega)
    go_enter Try.func4, Try.ntmps4
    go_wp2_with fail
    refine HL.out.mono ?_
    rintro e w1 ⟨rfl, hw⟩
    rw [hw, hd]; clear hw hd HL w1
    generalize w.alloc (.cells #[.slice a0 len0 cap0] 22) = x1 at *
    go_wp2_with fail
    go_ret
    exact ⟨rfl, T1⟩

/-! ### THE ROW's STEP: WRITTEN OUT: LEAVE IT -/
set_option maxRecDepth 100000 in
theorem lifted (os : Os) (started : os.Started) (H : Type) (enc : TypeId × Value → H) :
    ReturnsInHanded {} Try.checked os 4 .any (Rows.digestSha1Spec.pre6 enc Try.prog Try.f4 Rows.digestSha1Row.domain false) (Rows.digestSha1Spec.post enc Try.prog Try.f4 false true false false) := by
  refine returnsInHanded_of_change (C := Try.checked) own started (by kernel_rfl) Try.func4
    (ChangeSpec.witness6 (enc := enc) (C := Try.checked) false ⟨#[], #[.slice none 0 0], []⟩ 8 (by kernel_rfl) (by kernel_rfl) (by kernel_rfl) (by kernel_rfl)) ?_
  intro W base args ds gs before hval0 hW hcnd _
  have hval : ∀ (j : Nat) t v, Try.f4.params[j]? = some t → args[j]? = some v → Value.okWide Try.prog W .any base t v := hval0
  have hW' := hW
  obtain ⟨p, q, hA0, hV, rfl, hfz, hnd⟩ := hW
  have hA : DataW.TrodAll enc Try.prog W 0 (fun _ => true) true Try.f4.params.toList args.toList ds p := hA0
  rw [Try.params4] at hA hval
  obtain ⟨v0, vs0, d0, ds0, p0, q0, hargs, rfl, rfl, h0, r0⟩ := trodAll_cons hA
  obtain ⟨rfl, rfl, rfl⟩ := trodAll_nil r0
  obtain rfl : args = #[v0] := by cases args; simp_all
  obtain ⟨rfl, rfl⟩ := trodVars_none hV
  obtain ⟨a0, len0, cap0, rfl⟩ := okWide_slice Try.underlying22 (hval 0 22 v0 rfl rfl)
  have k0 := h0
  have lt0 : ∀ x ∈ p0, x.block < W.heap.size := by obtain ⟨m, hm⟩ := k0; exact DataW.trod_lt m _ _ _ hm
  obtain ⟨z0, w0⟩ : ∃ zs, IsRow .u8 W a0 len0 cap0 zs := by
    obtain ⟨fuel, hf⟩ := h0
    rcases open_ints Try.underlying22 Try.underlying5 (by kernel_rfl) hf with ⟨hcs, _⟩ | ⟨x, l, c, zs, hcs, _, hl, hm, hz, _, hcell, hwz⟩
    · simp [Value.cells] at hcs
      obtain ⟨rfl, rfl, rfl⟩ := hcs
      exact ⟨[], .inl ⟨rfl, rfl, rfl, rfl⟩⟩
    · simp [Value.cells] at hcs
      obtain ⟨rfl, rfl, rfl⟩ := hcs
      exact ⟨zs, .inr ⟨_, rfl, hl, hm, by simpa using hz, hcell, hwz⟩⟩
  clear hA0 hval0
  refine (walk a0 len0 cap0 z0 W w0).mono fun e W' ⟨he, bel⟩ => ?_
  subst he
  exact ⟨_, rfl, _, _, _, [], _, [], hW', trodAll_mk1 (shut_bool Try.underlying4 _), (trodAll_cons_mk (Below.trod laidOut (by kernel_rfl) (of_decide_eq_true (by kernel_rfl)) k0 bel lt0) trodAll_mk0), rfl, bel.frame _, fun h => by cases h⟩

theorem over : Rows.digestSha1Row.holds Try.pinned (OpenSpec.ofChange Rows.digestSha1Spec) :=
  OpenClaim.holds_of_wide 4 Try.f4 rfl rfl rfl rfl rfl rfl rfl ⟨rfl, rfl, rfl, rfl, rfl⟩ rfl rfl rfl rfl rfl (by kernel_rfl) Try.func4 (by kernel_rfl)
    (of_decide_eq_true (by kernel_rfl)) (by unfold Func.isWrapper; first | (rw [if_pos (by decide +kernel)]; kernel_rfl) | (rw [if_neg (by decide +kernel)]; exact ⟨rfl, rfl⟩))
    (fun os started H enc _ => lifted os started H enc)

/-- ████ THE STATEMENT ████ -/
theorem proved : Rows.DigestSha1Said := over
#print axioms proved
end Go.Proofs.Ytjhfkghcplbmkaa.digestSha1
