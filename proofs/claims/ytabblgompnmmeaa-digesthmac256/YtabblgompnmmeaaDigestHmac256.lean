/- For every key and every slice of bytes the call of DigestHmac256 returns true and leaves them as they were; no condition. -/
import Derived.Test.YtabblgompnmmeaaRows
import Derived.Test.YtabblgompnmmeaaRefSame
import Derived.Test.YtabblgompnmmeaaLight
import Derived.Test.YtabblgompnmmeaaHmac256
import Derived.Test.YtabblgompnmmeaaRefHmac
import Derived.WalkKit
import Derived.ProofKit
import Derived.OpenShut
import Derived.SizedLaws
import Derived.ShutString
import Derived.ChangeOld
import Derived.Below
namespace Go.Proofs.Ytabblgompnmmeaa.digestHmac256
open Go.ChangeShapes Go.WideShapes Go.ChangeAt Go.RowKit
open Go.ChangeMaps (open_string shut_string)
set_option linter.unusedVariables false

theorem own : ownKnob Try.prog.godebug = none := by kernel_rfl
theorem laidOut : laidOutB Try.prog = true := by kernel_rfl

/-! ### STEP 1: THE WALK: the Go text returns true, AND WRITES NOTHING THAT WAS THERE: 'Below w.heap.size w w'' (Derived/Below.lean: '.refl', '.alloc', '.drew', '.setCell' at a new block, '.trans'). Open each 'IsRow' by 'rcases' AHEAD of 'go_enter'; part every test ahead of the walk. -/
theorem walk (a0 : Option Addr) (len0 cap0 : Nat) (z0 : List Int) (a1 : Option Addr) (len1 cap1 : Nat) (z1 : List Int) (w : World) (w0 : IsRow .u8 w a0 len0 cap0 z0) (w1 : IsRow .u8 w a1 len1 cap1 z1) (u0 : len0 ≤ 140737488351232) (u1 : len1 ≤ 140737488351232) :
    Calls Try.prog 5 #[.slice a0 len0 cap0, .slice a1 len1 cap1] w fun e w' => e = .returned (.bool true) ∧ Below w.heap.size w w' := by
  obtain ⟨kl, b0⟩ := w0.bytes
  obtain ⟨l, b1⟩ := w1.bytes
  clear w0 w1
  have T1 : Below w.heap.size w (w.alloc (.cells #[.slice a0 len0 cap0, .slice a1 len1 cap1] 22)) := (Below.refl _ _).alloc (Nat.le_refl _) _
  have bb : Blk (w.alloc (.cells #[.slice a0 len0 cap0, .slice a1 len1 cap1] 22)) w.heap.size 22 [.slice a0 len0 cap0, .slice a1 len1 cap1] := Blk.newAt w _ _ _ _ rfl rfl
  have B1 : Hid (IsB (w.alloc (.cells #[.slice a0 len0 cap0, .slice a1 len1 cap1] 22)) a0 len0 cap0 kl) := b0.below T1 rfl
  have D1 : Hid (IsB (w.alloc (.cells #[.slice a0 len0 cap0, .slice a1 len1 cap1] 22)) a1 len1 cap1 l) := b1.below T1 rfl
  have hcs : ∀ i, i < 2 → ∃ a c, (w.alloc (.cells #[.slice a0 len0 cap0, .slice a1 len1 cap1] 22)).cell? ⟨w.heap.size, i, none⟩ = some (.slice a ((fun i => if i = 0 then len0 else len1) i) c) := fun i hi => by
    match i, hi with
    | 0, _ => exact ⟨a0, cap0, bb.cell 0⟩
    | 1, _ => exact ⟨a1, cap1, bb.cell 1⟩
  have hsum : sumTo (fun i => if i = 0 then len0 else len1) 2 = len0 + len1 := by simp [sumTo]
  have hL := lLight w.heap.size 2 (fun i => if i = 0 then len0 else len1) (w.alloc (.cells #[.slice a0 len0 cap0, .slice a1 len1 cap1] 22)) (by omega) hcs (by rw [hsum]; omega)
  rw [hsum] at hL
  have HL : Hid (Calls Try.prog _ _ _ _) := hL
  clear hL hcs bb b0 b1 hsum
  by_cases hl : len0 + len1 ≤ 200000
  · have hd : decide (len0 + len1 ≤ 200000) = true := decide_eq_true hl
    go_enter Try.func5, Try.ntmps5
    go_wp2_with fail
    refine HL.out.mono ?_
    rintro e x0 ⟨rfl, hw⟩
    rw [hw, hd]; clear hw hd HL x0
    generalize w.alloc (.cells #[.slice a0 len0 cap0, .slice a1 len1 cap1] 22) = x1 at *
    go_wp2_with fail
    refine (digHmac256 a0 len0 cap0 kl a1 len1 cap1 l x1 B1.out D1.out (by omega) (by omega)).mono ?_
    rintro e x2 ⟨v2, rfl, o2, c2⟩
    have B2 : Hid (IsB x2 a0 len0 cap0 kl) := B1.out.below c2 rfl
    have D2 : Hid (IsB x2 a1 len1 cap1 l) := D1.out.below c2 rfl
    have T2 : Below w.heap.size w x2 := T1.trans (c2.mono T1.size)
    obtain ⟨p2, q2, rfl, i2⟩ := o2.isB
    have I2 : Hid (IsB x2 p2 (hmL sha256L kl l).length q2 (hmL sha256L kl l)) := i2
    clear i2 o2 B1 D1
    go_wp2_with fail
    refine (refHmac256 a0 len0 cap0 kl a1 len1 cap1 l x2 B2.out D2.out (by omega) (by omega)).mono ?_
    rintro e x3 ⟨v3, rfl, o3, c3⟩
    have T3 : Below w.heap.size w x3 := T2.trans (c3.mono T2.size)
    have I3 : Hid (IsB x3 p2 (hmL sha256L kl l).length q2 (hmL sha256L kl l)) := I2.out.below c3 rfl
    obtain ⟨p3, q3, rfl, i3⟩ := o3.isB
    have J3 : Hid (IsB x3 p3 (hmL sha256L kl l).length q3 (hmL sha256L kl l)) := i3
    clear i3 o3 I2 B2 D2
    go_wp2_with fail
    refine (refSame _ _ _ _ _ _ _ _ x3 I3.out J3.out).mono ?_
    rintro e x4 ⟨rfl, n4, hw⟩
    rw [eqB_self]
    have T4 : Below w.heap.size w x4 := by rw [hw]; exact bel_drewN T3 n4
    clear hw
    go_wp2_with fail
    go_ret
    exact ⟨rfl, T4⟩
  · have hd : decide (len0 + len1 ≤ 200000) = false := decide_eq_false hl
    go_enter Try.func5, Try.ntmps5
    go_wp2_with fail
    refine HL.out.mono ?_
    rintro e x0 ⟨rfl, hw⟩
    rw [hw, hd]; clear hw hd HL x0
    generalize w.alloc (.cells #[.slice a0 len0 cap0, .slice a1 len1 cap1] 22) = x1 at *
    go_wp2_with fail
    go_ret
    exact ⟨rfl, T1⟩

/-! ### THE ROW's STEP: WRITTEN OUT: LEAVE IT -/
set_option maxRecDepth 100000 in
theorem lifted (os : Os) (started : os.Started) (H : Type) (enc : TypeId × Value → H) :
    ReturnsInHanded {} Try.checked os 5 .any (Rows.digestHmac256Spec.pre6 enc Try.prog Try.f5 Rows.digestHmac256Row.domain false) (Rows.digestHmac256Spec.post enc Try.prog Try.f5 false true false false) := by
  refine returnsInHanded_of_change_sized (C := Try.checked) own started (by kernel_rfl) Try.func5
    (ChangeSpec.witness6 (enc := enc) (C := Try.checked) false ⟨#[], #[.slice none 0 0, .slice none 0 0], []⟩ 8 (by kernel_rfl) (by kernel_rfl) (by kernel_rfl) (by kernel_rfl)) ?_
  intro W base args ds gs before hval0 hW hcnd hsz _
  have hval : ∀ (j : Nat) t v, Try.f5.params[j]? = some t → args[j]? = some v → Value.okWide Try.prog W .any base t v := hval0
  have hW' := hW
  obtain ⟨p, q, hA0, hV, rfl, hfz, hnd⟩ := hW
  have hA : DataW.TrodAll enc Try.prog W 0 (fun _ => true) true Try.f5.params.toList args.toList ds p := hA0
  rw [Try.params5] at hA hval
  obtain ⟨v0, vs0, d0, ds0, p0, q0, hargs, rfl, rfl, h0, r0⟩ := trodAll_cons hA
  obtain ⟨v1, vs1, d1, ds1, p1, q1, rfl, rfl, rfl, h1, r1⟩ := trodAll_cons r0
  obtain ⟨rfl, rfl, rfl⟩ := trodAll_nil r1
  obtain rfl : args = #[v0, v1] := by cases args; simp_all
  obtain ⟨rfl, rfl⟩ := trodVars_none hV
  obtain ⟨a0, len0, cap0, rfl⟩ := okWide_slice Try.underlying22 (hval 0 22 v0 rfl rfl)
  have k0 := h0
  have lt0 : ∀ x ∈ p0, x.block < W.heap.size := by obtain ⟨m, hm⟩ := k0; exact DataW.trod_lt m _ _ _ hm
  obtain ⟨z0, w0, u0⟩ : ∃ zs, IsRow .u8 W a0 len0 cap0 zs ∧ len0 ≤ 140737488351232 := by
    obtain ⟨fuel, hf⟩ := h0
    rcases open_ints Try.underlying22 Try.underlying5 (by kernel_rfl) hf with ⟨hcs, _⟩ | ⟨x, l, c, zs, hcs, _, hl, hm, hz, hx, hcell, hwz⟩
    · simp [Value.cells] at hcs
      obtain ⟨rfl, rfl, rfl⟩ := hcs
      exact ⟨[], .inl ⟨rfl, rfl, rfl, rfl⟩, Nat.zero_le _⟩
    · simp [Value.cells] at hcs
      obtain ⟨rfl, rfl, rfl⟩ := hcs
      have hz0 : zs.length = cap0 := by simpa using hz
      have hs := sized_slice hsz (j := 0) rfl (congrArg some (Prod.mk.inj hx).1) Try.underlying22
      have hbb : 1 ≤ Try.prog.bytesOf 5 := of_decide_eq_true (by kernel_rfl)
      have hs1 := Nat.le_trans (Nat.le_mul_of_pos_right _ hbb) hs
      simp only [lits, List.length_map, List.length_take, reachBytes] at hs1
      exact ⟨zs, .inr ⟨_, rfl, hl, hm, hz0, hcell, hwz⟩, by omega⟩
  obtain ⟨a1, len1, cap1, rfl⟩ := okWide_slice Try.underlying22 (hval 1 22 v1 rfl rfl)
  have k1 := h1
  have lt1 : ∀ x ∈ p1, x.block < W.heap.size := by obtain ⟨m, hm⟩ := k1; exact DataW.trod_lt m _ _ _ hm
  obtain ⟨z1, w1, u1⟩ : ∃ zs, IsRow .u8 W a1 len1 cap1 zs ∧ len1 ≤ 140737488351232 := by
    obtain ⟨fuel, hf⟩ := h1
    rcases open_ints Try.underlying22 Try.underlying5 (by kernel_rfl) hf with ⟨hcs, _⟩ | ⟨x, l, c, zs, hcs, _, hl, hm, hz, hx, hcell, hwz⟩
    · simp [Value.cells] at hcs
      obtain ⟨rfl, rfl, rfl⟩ := hcs
      exact ⟨[], .inl ⟨rfl, rfl, rfl, rfl⟩, Nat.zero_le _⟩
    · simp [Value.cells] at hcs
      obtain ⟨rfl, rfl, rfl⟩ := hcs
      have hz0 : zs.length = cap1 := by simpa using hz
      have hs := sized_slice hsz (j := 1) rfl (congrArg some (Prod.mk.inj hx).1) Try.underlying22
      have hbb : 1 ≤ Try.prog.bytesOf 5 := of_decide_eq_true (by kernel_rfl)
      have hs1 := Nat.le_trans (Nat.le_mul_of_pos_right _ hbb) hs
      simp only [lits, List.length_map, List.length_take, reachBytes] at hs1
      exact ⟨zs, .inr ⟨_, rfl, hl, hm, hz0, hcell, hwz⟩, by omega⟩
  clear hA0 hval0
  refine (walk a0 len0 cap0 z0 a1 len1 cap1 z1 W w0 w1 u0 u1).mono fun e W' ⟨he, bel⟩ => ?_
  subst he
  exact ⟨_, rfl, _, _, _, [], _, [], hW', trodAll_mk1 (shut_bool Try.underlying4 _), (trodAll_cons_mk (Below.trod laidOut (by kernel_rfl) (of_decide_eq_true (by kernel_rfl)) k0 bel lt0) (trodAll_cons_mk (Below.trod laidOut (by kernel_rfl) (of_decide_eq_true (by kernel_rfl)) k1 bel lt1) trodAll_mk0)), rfl, bel.frame _, fun h => by cases h⟩

theorem over : Rows.digestHmac256Row.holds Try.pinned (OpenSpec.ofChange Rows.digestHmac256Spec) :=
  OpenClaim.holds_of_wide 5 Try.f5 rfl rfl rfl rfl rfl rfl rfl ⟨rfl, rfl, rfl, rfl, rfl⟩ rfl rfl rfl rfl rfl (by kernel_rfl) Try.func5 (by kernel_rfl)
    (of_decide_eq_true (by kernel_rfl)) (by unfold Func.isWrapper; first | (rw [if_pos (by decide +kernel)]; kernel_rfl) | (rw [if_neg (by decide +kernel)]; exact ⟨rfl, rfl⟩))
    (fun os started H enc _ => lifted os started H enc)

/-- ████ THE STATEMENT ████ -/
theorem proved : Rows.DigestHmac256Said := over
#print axioms proved
end Go.Proofs.Ytabblgompnmmeaa.digestHmac256
