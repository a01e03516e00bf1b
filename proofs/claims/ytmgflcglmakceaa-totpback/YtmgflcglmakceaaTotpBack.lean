/- For every slice of bytes and every text the call of TotpBack returns true and leaves them as they were; no condition. -/
import Derived.Test.YtmgflcglmakceaaRows
import Derived.Test.YtmgflcglmakceaaRefSame
import Derived.Test.YtmgflcglmakceaaT7c
import Derived.Test.YtmgflcglmakceaaT7g
import Derived.WalkKit
import Derived.ProofKit
import Derived.OpenShut
import Derived.SizedLaws
import Derived.ShutString
import Derived.ChangeOld
import Derived.Below
namespace Go.Proofs.Ytmgflcglmakceaa.totpBack
open Go.ChangeShapes Go.WideShapes Go.ChangeAt Go.RowKit
open Go.ChangeMaps (open_string shut_string)
set_option linter.unusedVariables false

theorem own : ownKnob Try.prog.godebug = none := by kernel_rfl
theorem laidOut : laidOutB Try.prog = true := by kernel_rfl

/-! ### STEP 1: THE WALK: the Go text returns true, AND WRITES NOTHING THAT WAS THERE: 'Below w.heap.size w w'' (Derived/Below.lean: '.refl', '.alloc', '.drew', '.setCell' at a new block, '.trans'). Open each 'IsRow' by 'rcases' AHEAD of 'go_enter'; part every test ahead of the walk. -/
theorem walk (a0 : Option Addr) (len0 cap0 : Nat) (z0 : List Int) (a1 : ByteArray) (w : World) (w0 : IsRow .u8 w a0 len0 cap0 z0) (w1 : a1.size ≤ maxLen) (u1 : a1.size ≤ 140737488351232) (u0 : len0 ≤ 140737488351232) :
    Calls Try.prog 6 #[.slice a0 len0 cap0, .string a1] w fun e w' => e = .returned (.bool true) ∧ Below w.heap.size w w' := by
  obtain ⟨l, b0⟩ := w0.bytes
  clear w0
  have B0 : Hid (IsB w a0 len0 cap0 l) := b0
  have hll : l.length = len0 := b0.len_eq
  clear b0 w1
  by_cases hl : len0 + a1.size ≤ 20000
  · have hc : ((b32L [255] == [55, 52]) = true) := by decide
    have hg : ¬ (20000 : Int) < (len0 : Int) + (a1.size : Int) := by omega
    have hn0 : len0 ≤ 20000 := by omega
    have hn1 : a1.size ≤ 20000 := by omega
    have HU := fun w => codUnbase32 (ByteArray.mk (b32L l).toArray) w (by show (b32L l).toArray.size ≤ _; rw [List.size_toArray, b32L_length]; omega)
    have e1 : (ByteArray.mk (b32L l).toArray).data.toList = b32L l := by simp
    rw [e1, un7_res, un7_err] at HU
    have HV := fun w => codUnbase32 a1 w (by omega)
    have hrl := unRes_le a1.data.toList
    have hrs : a1.data.toList.length = a1.size := by rw [Array.length_toList]; rfl
    have hR : (unRes a1.data.toList).length ≤ 20000 := by omega
    have HB : Hid (unErr a1.data.toList = 0 → b32L (unRes a1.data.toList) = a1.toList) := by
      unfold Hid; intro h; rw [ByteArray.toList_eq]; exact un7_back _ h
    have HE : unErr a1.data.toList = 0 ∨ unErr a1.data.toList = 4 := unErr_cases _
    generalize unRes a1.data.toList = R at *
    generalize unErr a1.data.toList = E at *
    have HLl : Hid (l.length = len0) := hll
    clear hl hrl hrs hll e1
    go_enter Try.func6, Try.ntmps6
    go_wp2_with fail
    refine (codBase32 a0 len0 cap0 l _ B0.out (by omega)).mono ?_
    rintro e x1 ⟨rfl, bel1⟩
    have B1 : Hid (IsB x1 a0 len0 cap0 l) := B0.out.below bel1 rfl
    go_wp2_with fail
    refine (HU _).mono ?_
    rintro e x2 ⟨v2, rfl, own2, bel2⟩
    obtain ⟨p2, c2, rfl, is2⟩ := own2.isB
    have I2 : Hid (IsB x2 p2 l.length c2 l) := is2
    clear is2 own2
    have T2 : Below w.heap.size w x2 := bel1.trans (bel2.mono bel1.size)
    have B2 : Hid (IsB x2 a0 len0 cap0 l) := B0.out.below T2 rfl
    go_wp2_with fail
    refine (refSame _ _ _ l _ _ _ l _ I2.out B2.out).mono ?_
    rintro e x3 ⟨rfl, n3, hw⟩
    rw [eqB_self]
    have T3 : Below w.heap.size w x3 := by rw [hw]; exact bel_drewN T2 n3
    clear hw
    go_wp2_with fail
    refine (codBase32 _ _ _ [255] _ (by exact IsB.ofBlock [255] (by decide) (heap_alloc_new _ _)) (by decide)).mono ?_
    rintro e x4 ⟨rfl, bel4⟩
    have T4 : Below w.heap.size w x4 := (T3.alloc T3.size _).trans (bel4.mono (by have := T3.size; simp at this ⊢; omega))
    go_wp2_with fail
    refine (HV _).mono ?_
    rintro e x5 ⟨v5, rfl, own5, bel5⟩
    obtain ⟨p5, c5, rfl, is5⟩ := own5.isB
    have I5 : Hid (IsB x5 p5 R.length c5 R) := is5
    clear is5 own5
    have T5 : Below w.heap.size w x5 := T4.trans (bel5.mono T4.size)
    obtain h0 | h4 := HE
    · have HX : Hid (b32L R = a1.toList) := HB.out h0
      subst h0
      clear HB hc
      go_wp2_with fail
      refine (codBase32 _ _ _ R _ I5.out (by omega)).mono ?_
      rintro e x6 ⟨rfl, bel6⟩
      have T6 : Below w.heap.size w x6 := T5.trans (bel6.mono T5.size)
      go_wp2_with fail
      go_ret
      exact ⟨ret_bool (by rw [HX.out]; simp), T6⟩
    · subst h4
      clear HB hc
      go_wp2_with fail
      go_ret
      exact ⟨rfl, T5⟩
  · have hg : (20000 : Int) < (len0 : Int) + (a1.size : Int) := by omega
    clear hl
    go_enter Try.func6, Try.ntmps6
    go_wp2_with fail
    go_ret
    exact ⟨rfl, Below.refl _ _⟩

/-! ### THE ROW's STEP: WRITTEN OUT: LEAVE IT -/
set_option maxRecDepth 100000 in
theorem lifted (os : Os) (started : os.Started) (H : Type) (enc : TypeId × Value → H) :
    ReturnsInHanded {} Try.checked os 6 .any (Rows.totpBackSpec.pre6 enc Try.prog Try.f6 Rows.totpBackRow.domain false) (Rows.totpBackSpec.post enc Try.prog Try.f6 false true false false) := by
  refine returnsInHanded_of_change_sized (C := Try.checked) own started (by kernel_rfl) Try.func6
    (ChangeSpec.witness6 (enc := enc) (C := Try.checked) false ⟨#[], #[.slice none 0 0, .string ByteArray.empty], []⟩ 8 (by kernel_rfl) (by kernel_rfl) (by kernel_rfl) (by kernel_rfl)) ?_
  intro W base args ds gs before hval0 hW hcnd hsz _
  have hval : ∀ (j : Nat) t v, Try.f6.params[j]? = some t → args[j]? = some v → Value.okWide Try.prog W .any base t v := hval0
  have hW' := hW
  obtain ⟨p, q, hA0, hV, rfl, hfz, hnd⟩ := hW
  have hA : DataW.TrodAll enc Try.prog W 0 (fun _ => true) true Try.f6.params.toList args.toList ds p := hA0
  rw [Try.params6] at hA hval
  obtain ⟨v0, vs0, d0, ds0, p0, q0, hargs, rfl, rfl, h0, r0⟩ := trodAll_cons hA
  obtain ⟨v1, vs1, d1, ds1, p1, q1, rfl, rfl, rfl, h1, r1⟩ := trodAll_cons r0
  obtain ⟨rfl, rfl, rfl⟩ := trodAll_nil r1
  obtain rfl : args = #[v0, v1] := by cases args; simp_all
  obtain ⟨rfl, rfl⟩ := trodVars_none hV
  obtain ⟨a0, len0, cap0, rfl⟩ := okWide_slice Try.underlying22 (hval 0 22 v0 rfl rfl)
  have k0 := h0
  have lt0 : ∀ x ∈ p0, x.block < W.heap.size := by obtain ⟨m, hm⟩ := k0; exact DataW.trod_lt m _ _ _ hm
  obtain ⟨z0, w0, u0⟩ : ∃ zs, IsRow .u8 W a0 len0 cap0 zs ∧ len0 ≤ 140737488351232 := by
    obtain ⟨fuel, hf⟩ := h0
    rcases open_ints Try.underlying22 Try.underlying5 (by kernel_rfl) hf with ⟨hcs, _⟩ | ⟨x, l, c, zs, hcs, _, hl, hm, hz, hx, hcell, hwz⟩
    · simp [Value.cells] at hcs
      obtain ⟨rfl, rfl, rfl⟩ := hcs
      exact ⟨[], .inl ⟨rfl, rfl, rfl, rfl⟩, Nat.zero_le _⟩
    · simp [Value.cells] at hcs
      obtain ⟨rfl, rfl, rfl⟩ := hcs
      have hz0 : zs.length = cap0 := by simpa using hz
      have hs := sized_slice hsz (j := 0) rfl (congrArg some (Prod.mk.inj hx).1) Try.underlying22
      have hbb : 1 ≤ Try.prog.bytesOf 5 := of_decide_eq_true (by kernel_rfl)
      have hs1 := Nat.le_trans (Nat.le_mul_of_pos_right _ hbb) hs
      simp only [lits, List.length_map, List.length_take, reachBytes] at hs1
      exact ⟨zs, .inr ⟨_, rfl, hl, hm, hz0, hcell, hwz⟩, by omega⟩
  obtain ⟨a1, rfl, rfl, rfl, w1⟩ := open_string Try.underlying9 (hval 1 9 v1 rfl rfl) h1
  clear hA0 hval0
  have u1 : a1.size ≤ 140737488351232 := by
    have := sized_string hsz (j := 1) rfl rfl
    simpa [reachBytes] using this
  refine (walk a0 len0 cap0 z0 a1 W w0 w1 u1 u0).mono fun e W' ⟨he, bel⟩ => ?_
  subst he
  exact ⟨_, rfl, _, _, _, [], _, [], hW', trodAll_mk1 (shut_bool Try.underlying4 _), (trodAll_cons_mk (Below.trod laidOut (by kernel_rfl) (of_decide_eq_true (by kernel_rfl)) k0 bel lt0) (trodAll_cons_mk (shut_string Try.underlying9 w1) trodAll_mk0)), rfl, bel.frame _, fun h => by cases h⟩

theorem over : Rows.totpBackRow.holds Try.pinned (OpenSpec.ofChange Rows.totpBackSpec) :=
  OpenClaim.holds_of_wide 6 Try.f6 rfl rfl rfl rfl rfl rfl rfl ⟨rfl, rfl, rfl, rfl, rfl⟩ rfl rfl rfl rfl rfl (by kernel_rfl) Try.func6 (by kernel_rfl)
    (of_decide_eq_true (by kernel_rfl)) (by unfold Func.isWrapper; first | (rw [if_pos (by decide +kernel)]; kernel_rfl) | (rw [if_neg (by decide +kernel)]; exact ⟨rfl, rfl⟩))
    (fun os started H enc _ => lifted os started H enc)

/-- ████ THE STATEMENT ████ -/
theorem proved : Rows.TotpBackSaid := over
#print axioms proved
end Go.Proofs.Ytmgflcglmakceaa.totpBack
