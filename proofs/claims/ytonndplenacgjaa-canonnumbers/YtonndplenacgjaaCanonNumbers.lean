/- For every slice of bytes, every number, truth and whole number the call of CanonNumbers returns true and leaves the slice as it was; no condition. -/
import Derived.Test.YtonndplenacgjaaRows
import Derived.Test.YtonndplenacgjaaRefSame
import Derived.Test.YtonndplenacgjaaRefCan
import Derived.Test.YtonndplenacgjaaAlive
import Derived.WalkKit
import Derived.ProofKit
import Derived.OpenShut
import Derived.SizedLaws
import Derived.ShutString
import Derived.ChangeOld
import Derived.Below
namespace Go.Proofs.Ytonndplenacgjaa.canonNumbers
open Go.ChangeShapes Go.WideShapes Go.ChangeAt Go.RowKit
open Go.ChangeMaps (open_string shut_string)
set_option linter.unusedVariables false

theorem own : ownKnob Try.prog.godebug = none := by kernel_rfl
theorem laidOut : laidOutB Try.prog = true := by kernel_rfl

/-! ### STEP 1: THE WALK: the Go text returns true, AND WRITES NOTHING THAT WAS THERE: 'Below w.heap.size w w'' (Derived/Below.lean: '.refl', '.alloc', '.drew', '.setCell' at a new block, '.trans'). Open each 'IsRow' by 'rcases' AHEAD of 'go_enter'; part every test ahead of the walk. -/
theorem walk (a0 : Option Addr) (len0 cap0 : Nat) (z0 : List Int) (a1 : Int) (a2 : Bool) (a3 : Int) (w : World) (w0 : IsRow .u8 w a0 len0 cap0 z0) (w1 : (Lit.int .u64 a1).wf = true) (w3 : (Lit.int .i64 a3).wf = true) (u0 : len0 ≤ 140737488351232) :
    Calls Try.prog 3 #[.slice a0 len0 cap0, .int .u64 a1, .bool a2, .int .i64 a3] w fun e w' => e = .returned (.bool true) ∧ Below w.heap.size w w' := by
  obtain ⟨l, b0⟩ := w0.bytes
  clear w0
  have B0 : Hid (IsB w a0 len0 cap0 l) := b0
  have hm : len0 ≤ 140737488351232 := u0
  clear b0 u0
  obtain ⟨n1, rfl⟩ : ∃ n : Nat, a1 = (n : Int) := ⟨a1.toNat, by
    have : 0 ≤ a1 ∧ a1 ≤ 18446744073709551615 := by simpa [Lit.wf, IntKind.min, IntKind.max, IntKind.signed, IntKind.bits] using w1
    omega⟩
  clear w1
  go_enter Try.func3, Try.ntmps3
  go_wp2_with fail
  refine (canUint a0 len0 cap0 l n1 w B0.out (by omega)).mono ?_
  rintro e x1 ⟨v1, rfl, o1, c1⟩
  have o1 := o1.isV
  have B1 : Hid (IsB x1 a0 len0 cap0 l) := B0.out.below c1 rfl
  go_wp2_with fail
  refine (refUint a0 len0 cap0 l n1 x1 B1.out (by omega)).mono ?_
  rintro e x2 ⟨v2, rfl, o2, c2⟩
  have o1 := o1.below c2 rfl
  have o2 := o2.isV
  have T2 : Below w.heap.size w x2 := c1.trans (c2.mono c1.size)
  clear B1
  go_wp2_with fail
  obtain ⟨p1, q1, rfl, i1⟩ := o1
  obtain ⟨p2, q2, rfl, i2⟩ := o2
  refine (refSame _ _ _ _ _ _ _ _ x2 i1 i2).mono ?_
  rintro e x3 ⟨rfl, k3, rfl⟩
  rw [eqB_self]
  have T3 : Below w.heap.size w (x2.drewN k3) := bel_drewN T2 k3
  generalize x2.drewN k3 = x3 at *
  clear i1 i2 c1 c2 T2
  have B3 : Hid (IsB x3 a0 len0 cap0 l) := B0.out.below T3 rfl
  go_wp2_with fail
  refine (canBool a0 len0 cap0 l _ x3 B3.out (by omega)).mono ?_
  rintro e y1 ⟨v1, rfl, o1, c1⟩
  have o1 := o1.isV
  have B1 : Hid (IsB y1 a0 len0 cap0 l) := B3.out.below c1 rfl
  go_wp2_with fail
  refine (refBool a0 len0 cap0 l _ y1 B1.out (by omega)).mono ?_
  rintro e y2 ⟨v2, rfl, o2, c2⟩
  have o1 := o1.below c2 rfl
  have o2 := o2.isV
  have T1 : Below w.heap.size w y1 := T3.trans (c1.mono T3.size)
  have T2 : Below w.heap.size w y2 := T1.trans (c2.mono T1.size)
  clear B1
  go_wp2_with fail
  obtain ⟨p1, q1, rfl, i1⟩ := o1
  obtain ⟨p2, q2, rfl, i2⟩ := o2
  refine (refSame _ _ _ _ _ _ _ _ y2 i1 i2).mono ?_
  rintro e y3 ⟨rfl, k3, rfl⟩
  rw [eqB_self]
  have T3 : Below w.heap.size w (y2.drewN k3) := bel_drewN T2 k3
  generalize y2.drewN k3 = y3 at *
  clear i1 i2 c1 c2 T2 T1 B3
  have B3 : Hid (IsB y3 a0 len0 cap0 l) := B0.out.below T3 rfl
  go_wp2_with fail
  refine (canList a0 len0 cap0 l _ y3 B3.out (by omega)).mono ?_
  rintro e z1 ⟨v1, rfl, o1, c1⟩
  have o1 := o1.isV
  have B1 : Hid (IsB z1 a0 len0 cap0 l) := B3.out.below c1 rfl
  go_wp2_with fail
  refine (refList a0 len0 cap0 l _ z1 B1.out (by omega)).mono ?_
  rintro e z2 ⟨v2, rfl, o2, c2⟩
  have o1 := o1.below c2 rfl
  have o2 := o2.isV
  have T1 : Below w.heap.size w z1 := T3.trans (c1.mono T3.size)
  have T2 : Below w.heap.size w z2 := T1.trans (c2.mono T1.size)
  clear B1
  go_wp2_with fail
  obtain ⟨p1, q1, rfl, i1⟩ := o1
  obtain ⟨p2, q2, rfl, i2⟩ := o2
  refine (refSame _ _ _ _ _ _ _ _ z2 i1 i2).mono ?_
  rintro e z3 ⟨rfl, k3, rfl⟩
  rw [eqB_self]
  have T3 : Below w.heap.size w (z2.drewN k3) := bel_drewN T2 k3
  generalize z2.drewN k3 = z3 at *
  clear i1 i2 c1 c2 T2 T1 B3
  go_wp2_with fail
  refine (alive z3).mono ?_
  rintro e z4 ⟨rfl, c4⟩
  go_wp2_with fail
  go_ret
  exact ⟨rfl, T3.trans (c4.mono T3.size)⟩

/-! ### THE ROW's STEP: WRITTEN OUT: LEAVE IT -/
set_option maxRecDepth 100000 in
theorem lifted (os : Os) (started : os.Started) (H : Type) (enc : TypeId × Value → H) :
    ReturnsInHanded {} Try.checked os 3 .any (Rows.canonNumbersSpec.pre6 enc Try.prog Try.f3 Rows.canonNumbersRow.domain false) (Rows.canonNumbersSpec.post enc Try.prog Try.f3 false true false false) := by
  refine returnsInHanded_of_change_sized (C := Try.checked) own started (by kernel_rfl) Try.func3
    (ChangeSpec.witness6 (enc := enc) (C := Try.checked) false ⟨#[], #[.slice none 0 0, .int .u64 0, .bool false, .int .i64 0], []⟩ 8 (by kernel_rfl) (by kernel_rfl) (by kernel_rfl) (by kernel_rfl)) ?_
  intro W base args ds gs before hval0 hW hcnd hsz _
  have hval : ∀ (j : Nat) t v, Try.f3.params[j]? = some t → args[j]? = some v → Value.okWide Try.prog W .any base t v := hval0
  have hW' := hW
  obtain ⟨p, q, hA0, hV, rfl, hfz, hnd⟩ := hW
  have hA : DataW.TrodAll enc Try.prog W 0 (fun _ => true) true Try.f3.params.toList args.toList ds p := hA0
  rw [Try.params3] at hA hval
  obtain ⟨v0, vs0, d0, ds0, p0, q0, hargs, rfl, rfl, h0, r0⟩ := trodAll_cons hA
  obtain ⟨v1, vs1, d1, ds1, p1, q1, rfl, rfl, rfl, h1, r1⟩ := trodAll_cons r0
  obtain ⟨v2, vs2, d2, ds2, p2, q2, rfl, rfl, rfl, h2, r2⟩ := trodAll_cons r1
  obtain ⟨v3, vs3, d3, ds3, p3, q3, rfl, rfl, rfl, h3, r3⟩ := trodAll_cons r2
  obtain ⟨rfl, rfl, rfl⟩ := trodAll_nil r3
  obtain rfl : args = #[v0, v1, v2, v3] := by cases args; simp_all
  obtain ⟨rfl, rfl⟩ := trodVars_none hV
  obtain ⟨a0, len0, cap0, rfl⟩ := okWide_slice Try.underlying22 (hval 0 22 v0 rfl rfl)
  have k0 := h0
  have lt0 : ∀ x ∈ p0, x.block < W.heap.size := by obtain ⟨m, hm⟩ := k0; exact DataW.trod_lt m _ _ _ hm
  obtain ⟨z0, w0, u0⟩ : ∃ zs, IsRow .u8 W a0 len0 cap0 zs ∧ len0 ≤ 140737488351232 := by
    obtain ⟨fuel, hf⟩ := h0
    rcases open_ints Try.underlying22 Try.underlying5 (by kernel_rfl) hf with ⟨hcs, _⟩ | ⟨x, l, c, zs, hcs, _, hl, hm, hz, hx, hcell, hwz⟩
    · simp [Value.cells] at hcs
      obtain ⟨rfl, rfl, rfl⟩ := hcs
      exact ⟨[], .inl ⟨rfl, rfl, rfl, rfl⟩, Nat.zero_le _⟩
    · simp [Value.cells] at hcs
      obtain ⟨rfl, rfl, rfl⟩ := hcs
      have hz0 : zs.length = cap0 := by simpa using hz
      have hs := sized_slice hsz (j := 0) rfl (congrArg some (Prod.mk.inj hx).1) Try.underlying22
      have hbb : 1 ≤ Try.prog.bytesOf 5 := of_decide_eq_true (by kernel_rfl)
      have hs1 := Nat.le_trans (Nat.le_mul_of_pos_right _ hbb) hs
      simp only [lits, List.length_map, List.length_take, reachBytes] at hs1
      exact ⟨zs, .inr ⟨_, rfl, hl, hm, hz0, hcell, hwz⟩, by omega⟩
  obtain ⟨a1, rfl, rfl, rfl, w1⟩ := open_int Try.underlying23 (hval 1 23 v1 rfl rfl) h1
  obtain ⟨a2, rfl, rfl, rfl⟩ := open_bool Try.underlying4 (hval 2 4 v2 rfl rfl) h2
  obtain ⟨a3, rfl, rfl, rfl, w3⟩ := open_int Try.underlying3 (hval 3 3 v3 rfl rfl) h3
  clear hA0 hval0
  refine (walk a0 len0 cap0 z0 a1 a2 a3 W w0 w1 w3 u0).mono fun e W' ⟨he, bel⟩ => ?_
  subst he
  exact ⟨_, rfl, _, _, _, [], _, [], hW', trodAll_mk1 (shut_bool Try.underlying4 _), (trodAll_cons_mk (Below.trod laidOut (by kernel_rfl) (of_decide_eq_true (by kernel_rfl)) k0 bel lt0) (trodAll_cons_mk (shut_int Try.underlying23 w1) (trodAll_cons_mk (shut_bool Try.underlying4 _) (trodAll_cons_mk (shut_int Try.underlying3 w3) trodAll_mk0)))), rfl, bel.frame _, fun h => by cases h⟩

theorem over : Rows.canonNumbersRow.holds Try.pinned (OpenSpec.ofChange Rows.canonNumbersSpec) :=
  OpenClaim.holds_of_wide 3 Try.f3 rfl rfl rfl rfl rfl rfl rfl ⟨rfl, rfl, rfl, rfl, rfl⟩ rfl rfl rfl rfl rfl (by kernel_rfl) Try.func3 (by kernel_rfl)
    (of_decide_eq_true (by kernel_rfl)) (by unfold Func.isWrapper; first | (rw [if_pos (by decide +kernel)]; kernel_rfl) | (rw [if_neg (by decide +kernel)]; exact ⟨rfl, rfl⟩))
    (fun os started H enc _ => lifted os started H enc)

/-- ████ THE STATEMENT ████ -/
theorem proved : Rows.CanonNumbersSaid := over
#print axioms proved
end Go.Proofs.Ytonndplenacgjaa.canonNumbers
