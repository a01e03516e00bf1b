/- For every two slices of bytes and every text, together of bulk at most 1048576, the call of CanonTexts returns true and leaves them as they were. -/
import Derived.Test.YtbojhfphgiimnaaRows
import Derived.Test.YtbojhfphgiimnaaRefSame
import Derived.Test.YtbojhfphgiimnaaRefCan
import Derived.Test.YtbojhfphgiimnaaAlive
import Derived.Test.YtbojhfphgiimnaaBulk
import Derived.WalkKit
import Derived.ProofKit
import Derived.OpenShut
import Derived.JoinedCond
import Derived.ShutString
import Derived.ChangeOld
import Derived.Below
namespace Go.Proofs.Ytbojhfphgiimnaa.canonTextsUpto
open Go.ChangeShapes Go.WideShapes Go.ChangeAt Go.RowKit
open Go.ChangeMaps (open_string shut_string)
set_option linter.unusedVariables false

theorem own : ownKnob Try.prog.godebug = none := by kernel_rfl
theorem laidOut : laidOutB Try.prog = true := by kernel_rfl

/-! ### STEP 1: THE WALK: the Go text returns true, AND WRITES NOTHING THAT WAS THERE: 'Below w.heap.size w w'' (Derived/Below.lean: '.refl', '.alloc', '.drew', '.setCell' at a new block, '.trans'). Open each 'IsRow' by 'rcases' AHEAD of 'go_enter'; part every test ahead of the walk. -/
theorem walk (a0 : Option Addr) (len0 cap0 : Nat) (z0 : List Int) (a1 : Option Addr) (len1 cap1 : Nat) (z1 : List Int) (a2 : ByteArray) (w : World) (w0 : IsRow .u8 w a0 len0 cap0 z0) (w1 : IsRow .u8 w a1 len1 cap1 z1) (w2 : a2.size ≤ maxLen) (hu : len0 + len1 + a2.size ≤ 1048576) :
    Calls Try.prog 4 #[.slice a0 len0 cap0, .slice a1 len1 cap1, .string a2] w fun e w' => e = .returned (.bool true) ∧ Below w.heap.size w w' := by
  obtain ⟨l, b0⟩ := w0.bytes
  obtain ⟨m, b1⟩ := w1.bytes
  clear w0 w1 w2
  have B0 : Hid (IsB w a0 len0 cap0 l) := b0
  have D0 : Hid (IsB w a1 len1 cap1 m) := b1
  have hm : len0 ≤ 1048576 := by omega
  have hm1 : len1 ≤ 1048576 := by omega
  have hm2 : a2.size ≤ 1048576 := by omega
  clear b0 b1 hu
  go_enter Try.func4, Try.ntmps4
  go_wp2_with fail
  refine (canBytes a0 len0 cap0 l a1 len1 cap1 m w B0.out D0.out (by omega) (by omega)).mono ?_
  rintro e x1 ⟨v1, rfl, o1, c1⟩
  have o1 := o1.isV
  have B1 : Hid (IsB x1 a0 len0 cap0 l) := B0.out.below c1 rfl
  have D1 : Hid (IsB x1 a1 len1 cap1 m) := D0.out.below c1 rfl
  go_wp2_with fail
  refine (refBytes2 a0 len0 cap0 l a1 len1 cap1 m x1 B1.out D1.out (by omega) (by omega)).mono ?_
  rintro e x2 ⟨v2, rfl, o2, c2⟩
  have o1 := o1.below c2 rfl
  have o2 := o2.isV
  have T2 : Below w.heap.size w x2 := c1.trans (c2.mono c1.size)
  clear B1 D1
  go_wp2_with fail
  obtain ⟨p1, q1, rfl, i1⟩ := o1
  obtain ⟨p2, q2, rfl, i2⟩ := o2
  refine (refSame _ _ _ _ _ _ _ _ x2 i1 i2).mono ?_
  rintro e x3 ⟨rfl, k3, rfl⟩
  rw [eqB_self]
  have T3 : Below w.heap.size w (x2.drewN k3) := bel_drewN T2 k3
  generalize x2.drewN k3 = x3 at *
  clear i1 i2 c1 c2 T2
  have B3 : Hid (IsB x3 a0 len0 cap0 l) := B0.out.below T3 rfl
  go_wp2_with fail
  refine (canText a0 len0 cap0 l a2 x3 B3.out (by omega) (by omega)).mono ?_
  rintro e y1 ⟨v1, rfl, o1, c1⟩
  have o1 := o1.isV
  have B1 : Hid (IsB y1 a0 len0 cap0 l) := B3.out.below c1 rfl
  go_wp2_with fail
  refine (refText a0 len0 cap0 l a2 y1 B1.out (by omega) (by omega)).mono ?_
  rintro e y2 ⟨v2, rfl, o2, c2⟩
  have o1 := o1.below c2 rfl
  have o2 := o2.isV
  have T1 : Below w.heap.size w y1 := T3.trans (c1.mono T3.size)
  have T2 : Below w.heap.size w y2 := T1.trans (c2.mono T1.size)
  clear B1
  go_wp2_with fail
  obtain ⟨p1, q1, rfl, i1⟩ := o1
  obtain ⟨p2, q2, rfl, i2⟩ := o2
  refine (refSame _ _ _ _ _ _ _ _ y2 i1 i2).mono ?_
  rintro e y3 ⟨rfl, k3, rfl⟩
  rw [eqB_self]
  have T3 : Below w.heap.size w (y2.drewN k3) := bel_drewN T2 k3
  generalize y2.drewN k3 = y3 at *
  clear i1 i2 c1 c2 T2 T1 B3
  go_wp2_with fail
  refine (alive y3).mono ?_
  rintro e z4 ⟨rfl, c4⟩
  go_wp2_with fail
  go_ret
  exact ⟨rfl, T3.trans (c4.mono T3.size)⟩

/-! ### THE ROW's STEP: WRITTEN OUT: LEAVE IT -/
set_option maxRecDepth 100000 in
theorem lifted (os : Os) (started : os.Started) (H : Type) (enc : TypeId × Value → H) (F : Stop.Interp) :
    ReturnsInHanded {} Try.checked os 4 .any ((Rows.OpenSpec.upto Rows.canonTextsSpec).pre6 enc Try.prog Try.f4 Rows.canonTextsUptoRow.domain false) (((Rows.OpenSpec.upto Rows.canonTextsSpec).at F).post enc Try.prog Try.f4 false true false false) := by
  refine returnsInHanded_of_cond (C := Try.checked) (s := Rows.OpenSpec.upto Rows.canonTextsSpec) (k := Rows.uptoSmall) rfl own started (by kernel_rfl) Try.func4
    (OpenSpec.witness (enc := enc) (C := Try.checked) (s := Rows.OpenSpec.upto Rows.canonTextsSpec) (k := Rows.uptoSmall) rfl false ⟨#[], #[.slice none 0 0, .slice none 0 0, .string ByteArray.empty], []⟩ 8 (by kernel_rfl) (by kernel_rfl) (by kernel_rfl) (x := ([.nil, .nil, .lit (.string [])], [], [])) (by kernel_rfl) rfl (by kernel_rfl)) ?_
  intro W base args ds gs before hval0 hW _ hk _
  have hval : ∀ (j : Nat) t v, Try.f4.params[j]? = some t → args[j]? = some v → Value.okWide Try.prog W .any base t v := hval0
  have hW' := hW
  obtain ⟨p, q, hA0, hV, rfl, hfz, hnd⟩ := hW
  have hA : DataW.TrodAll enc Try.prog W 0 (fun _ => true) true Try.f4.params.toList args.toList ds p := hA0
  rw [Try.params4] at hA hval
  obtain ⟨v0, vs0, d0, ds0, p0, q0, hargs, rfl, rfl, h0, r0⟩ := trodAll_cons hA
  obtain ⟨v1, vs1, d1, ds1, p1, q1, rfl, rfl, rfl, h1, r1⟩ := trodAll_cons r0
  obtain ⟨v2, vs2, d2, ds2, p2, q2, rfl, rfl, rfl, h2, r2⟩ := trodAll_cons r1
  obtain ⟨rfl, rfl, rfl⟩ := trodAll_nil r2
  obtain rfl : args = #[v0, v1, v2] := by cases args; simp_all
  obtain ⟨rfl, rfl⟩ := trodVars_none hV
  obtain ⟨a0, len0, cap0, rfl⟩ := okWide_slice Try.underlying22 (hval 0 22 v0 rfl rfl)
  have k0 := h0
  have lt0 : ∀ x ∈ p0, x.block < W.heap.size := by obtain ⟨m, hm⟩ := k0; exact DataW.trod_lt m _ _ _ hm
  obtain ⟨z0, w0, u0⟩ : ∃ zs, IsRow .u8 W a0 len0 cap0 zs ∧ len0 ≤ Rows.uptoBulk d0 := by
    obtain ⟨fuel, hf⟩ := h0
    rcases open_ints Try.underlying22 Try.underlying5 (by kernel_rfl) hf with ⟨hcs, _⟩ | ⟨x, l, c, zs, hcs, _, hl, hm, hz, hx, hcell, hwz⟩
    · simp [Value.cells] at hcs
      obtain ⟨rfl, rfl, rfl⟩ := hcs
      exact ⟨[], .inl ⟨rfl, rfl, rfl, rfl⟩, Nat.zero_le _⟩
    · simp [Value.cells] at hcs
      obtain ⟨rfl, rfl, rfl⟩ := hcs
      have hz0 : zs.length = cap0 := by simpa using hz
      exact ⟨zs, .inr ⟨_, rfl, hl, hm, hz0, hcell, hwz⟩, by rw [(Prod.mk.inj hx).1]; refine Nat.le_trans ?_ (bulk_slice _ _); simp only [lits, List.length_map, List.length_take]; omega⟩
  obtain ⟨a1, len1, cap1, rfl⟩ := okWide_slice Try.underlying22 (hval 1 22 v1 rfl rfl)
  have k1 := h1
  have lt1 : ∀ x ∈ p1, x.block < W.heap.size := by obtain ⟨m, hm⟩ := k1; exact DataW.trod_lt m _ _ _ hm
  obtain ⟨z1, w1, u1⟩ : ∃ zs, IsRow .u8 W a1 len1 cap1 zs ∧ len1 ≤ Rows.uptoBulk d1 := by
    obtain ⟨fuel, hf⟩ := h1
    rcases open_ints Try.underlying22 Try.underlying5 (by kernel_rfl) hf with ⟨hcs, _⟩ | ⟨x, l, c, zs, hcs, _, hl, hm, hz, hx, hcell, hwz⟩
    · simp [Value.cells] at hcs
      obtain ⟨rfl, rfl, rfl⟩ := hcs
      exact ⟨[], .inl ⟨rfl, rfl, rfl, rfl⟩, Nat.zero_le _⟩
    · simp [Value.cells] at hcs
      obtain ⟨rfl, rfl, rfl⟩ := hcs
      have hz0 : zs.length = cap1 := by simpa using hz
      exact ⟨zs, .inr ⟨_, rfl, hl, hm, hz0, hcell, hwz⟩, by rw [(Prod.mk.inj hx).1]; refine Nat.le_trans ?_ (bulk_slice _ _); simp only [lits, List.length_map, List.length_take]; omega⟩
  obtain ⟨a2, rfl, rfl, rfl, w2⟩ := open_string Try.underlying9 (hval 2 9 v2 rfl rfl) h2
  clear hA0 hval0
  have hsum := bulk_all hk
  simp only [List.append_nil, Rows.uptoBulkAll] at hsum
  have u2 := bulk_string (H := H) a2
  simp only [List.append_nil] at hW'
  refine (walk a0 len0 cap0 z0 a1 len1 cap1 z1 a2 W w0 w1 w2 (by omega)).mono fun e W' ⟨he, bel⟩ => ?_
  subst he
  exact ⟨_, rfl, _, _, _, [], _, [], hW', trodAll_mk1 (shut_bool Try.underlying4 _), (trodAll_cons_mk (Below.trod laidOut (by kernel_rfl) (of_decide_eq_true (by kernel_rfl)) k0 bel lt0) (trodAll_cons_mk (Below.trod laidOut (by kernel_rfl) (of_decide_eq_true (by kernel_rfl)) k1 bel lt1) (trodAll_cons_mk (shut_string Try.underlying9 w2) trodAll_mk0))), rfl, bel.frame _, fun h => by cases h⟩

theorem over : Rows.canonTextsUptoRow.holds Try.pinned (Rows.OpenSpec.upto Rows.canonTextsSpec) :=
  OpenClaim.holds_of_cond 4 Try.f4 rfl rfl rfl rfl rfl rfl rfl ⟨rfl, rfl, rfl, rfl, rfl⟩ rfl rfl rfl rfl rfl (by kernel_rfl) Try.func4 (by kernel_rfl)
    (of_decide_eq_true (by kernel_rfl)) (by unfold Func.isWrapper; first | (rw [if_pos (by decide +kernel)]; kernel_rfl) | (rw [if_neg (by decide +kernel)]; exact ⟨rfl, rfl⟩))
    (fun os started H enc _ F => lifted os started H enc F)

/-- ████ THE STATEMENT ████ -/
theorem proved : Rows.CanonTextsUptoSaid := over
#print axioms proved
end Go.Proofs.Ytbojhfphgiimnaa.canonTextsUpto
