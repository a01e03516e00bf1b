/- For every slice of bytes and every text, together of bulk at most 1048576, the call of DigestBack returns true and leaves them as they were. -/
import Derived.Test.YtbkihkfbikbgjaaRows
import Derived.Test.YtbkihkfbikbgjaaRefSame
import Derived.Test.YtbkihkfbikbgjaaHexBack
import Derived.Test.YtbkihkfbikbgjaaBulk
import Derived.WalkKit
import Derived.ProofKit
import Derived.OpenShut
import Derived.JoinedCond
import Derived.ShutString
import Derived.ChangeOld
import Derived.Below
namespace Go.Proofs.Ytbkihkfbikbgjaa.digestBackUpto
open Go.ChangeShapes Go.WideShapes Go.ChangeAt Go.RowKit
open Go.ChangeMaps (open_string shut_string)
set_option linter.unusedVariables false

theorem own : ownKnob Try.prog.godebug = none := by kernel_rfl
theorem laidOut : laidOutB Try.prog = true := by kernel_rfl

/-! ### STEP 1: THE WALK: the Go text returns true, AND WRITES NOTHING THAT WAS THERE: 'Below w.heap.size w w'' (Derived/Below.lean: '.refl', '.alloc', '.drew', '.setCell' at a new block, '.trans'). Open each 'IsRow' by 'rcases' AHEAD of 'go_enter'; part every test ahead of the walk. -/
theorem walk (a0 : Option Addr) (len0 cap0 : Nat) (z0 : List Int) (a1 : ByteArray) (w : World) (w0 : IsRow .u8 w a0 len0 cap0 z0) (w1 : a1.size ≤ maxLen) (hu : len0 + a1.size ≤ 1048576) :
    Calls Try.prog 8 #[.slice a0 len0 cap0, .string a1] w fun e w' => e = .returned (.bool true) ∧ Below w.heap.size w w' := by
  obtain ⟨l, b0⟩ := w0.bytes
  clear w0
  have B0 : Hid (IsB w a0 len0 cap0 l) := b0
  have hm : len0 ≤ 1048576 := by omega
  have hm1 : a1.size ≤ 1048576 := by omega
  have hll : Hid (l.length = len0) := b0.len_eq
  have hml : l.length ≤ 1048576 := by rw [hll.out]; omega
  clear b0 hu w1
  have HS : (ByteArray.mk (hexL l).toArray).size ≤ 140737488355328 := by rw [hexS_size]; omega
  have hur := unR_length_le a1
  go_enter Try.func8, Try.ntmps8
  go_wp2_with fail
  refine (digHex a0 len0 cap0 l _ B0.out (by omega)).mono ?_
  rintro e w1 ⟨rfl, bel1⟩
  go_wp2_with fail
  refine (digUnhex (ByteArray.mk (hexL l).toArray) _ HS).mono ?_
  rw [unE_hexS, unR_hexS]
  rintro e w2 ⟨v2, rfl, own2, bel2⟩
  obtain ⟨x2, c2, rfl, is2⟩ := own2.isB
  clear own2 HS
  have I2 : Hid (IsB w2 x2 l.length c2 l) := is2
  clear is2
  have T2 : Below w.heap.size w w2 := bel1.trans (bel2.mono bel1.size)
  have B2 : Hid (IsB w2 a0 len0 cap0 l) := B0.out.below T2 rfl
  go_wp2_with fail
  refine (refSame _ _ _ l _ _ _ l _ I2.out B2.out).mono ?_
  rintro e w3 ⟨rfl, n3, rfl⟩
  rw [eqB_self]
  go_wp2_with fail
  refine (digHex _ _ _ [240] _ (by exact IsB.ofBlock [240] (by decide) (heap_alloc_new _ _)) (by decide)).mono ?_
  rintro e w4 ⟨rfl, bel4⟩
  have T3 : Below w.heap.size w (w2.drewN n3) := bel_drewN T2 n3
  have T4 : Below w.heap.size w w4 := (T3.alloc T3.size _).trans (bel4.mono (by have := T3.size; simp at this ⊢; omega))
  have h240 : (ByteArray.mk (hexL [240]).toArray).size = 2 := by rw [hexS_size]; rfl
  go_wp2_with fail
  refine (digUnhex a1 _ (by omega)).mono ?_
  rintro e w5 ⟨v5, rfl, own5, bel5⟩
  obtain ⟨x5, c5, rfl, is5⟩ := own5.isB
  clear own5 h240
  have I5 : Hid (IsB w5 x5 (unR a1).length c5 (unR a1)) := is5
  clear is5
  have T5 : Below w.heap.size w w5 := T4.trans (bel5.mono T4.size)
  by_cases hg : goodS a1 = true
  · have HR : Hid (hexL (unR a1) = a1.data.toList) := hex_unR a1 hg
    have HT : Hid (a1.toList = a1.data.toList) := ByteArray.toList_eq a1
    rw [unE_ok a1 hg]
    clear hg
    go_wp2_with fail
    refine (digHex _ _ _ (unR a1) _ I5.out (by omega)).mono ?_
    rintro e w6 ⟨rfl, bel6⟩
    go_wp2_with fail
    go_ret
    exact ⟨ret_bool (by rw [HT.out, HR.out]; simp), T5.trans (bel6.mono T5.size)⟩
  · have hg' : goodS a1 = false := by simpa using hg
    rw [unE_no a1 hg']
    go_wp2_with fail
    go_ret
    exact ⟨rfl, T5⟩

/-! ### THE ROW's STEP: WRITTEN OUT: LEAVE IT -/
set_option maxRecDepth 100000 in
theorem lifted (os : Os) (started : os.Started) (H : Type) (enc : TypeId × Value → H) (F : Stop.Interp) :
    ReturnsInHanded {} Try.checked os 8 .any ((Rows.OpenSpec.upto Rows.digestBackSpec).pre6 enc Try.prog Try.f8 Rows.digestBackUptoRow.domain false) (((Rows.OpenSpec.upto Rows.digestBackSpec).at F).post enc Try.prog Try.f8 false true false false) := by
  refine returnsInHanded_of_cond (C := Try.checked) (s := Rows.OpenSpec.upto Rows.digestBackSpec) (k := Rows.uptoSmall) rfl own started (by kernel_rfl) Try.func8
    (OpenSpec.witness (enc := enc) (C := Try.checked) (s := Rows.OpenSpec.upto Rows.digestBackSpec) (k := Rows.uptoSmall) rfl false ⟨#[], #[.slice none 0 0, .string ByteArray.empty], []⟩ 8 (by kernel_rfl) (by kernel_rfl) (by kernel_rfl) (x := ([.nil, .lit (.string [])], [], [])) (by kernel_rfl) rfl (by kernel_rfl)) ?_
  intro W base args ds gs before hval0 hW _ hk _
  have hval : ∀ (j : Nat) t v, Try.f8.params[j]? = some t → args[j]? = some v → Value.okWide Try.prog W .any base t v := hval0
  have hW' := hW
  obtain ⟨p, q, hA0, hV, rfl, hfz, hnd⟩ := hW
  have hA : DataW.TrodAll enc Try.prog W 0 (fun _ => true) true Try.f8.params.toList args.toList ds p := hA0
  rw [Try.params8] at hA hval
  obtain ⟨v0, vs0, d0, ds0, p0, q0, hargs, rfl, rfl, h0, r0⟩ := trodAll_cons hA
  obtain ⟨v1, vs1, d1, ds1, p1, q1, rfl, rfl, rfl, h1, r1⟩ := trodAll_cons r0
  obtain ⟨rfl, rfl, rfl⟩ := trodAll_nil r1
  obtain rfl : args = #[v0, v1] := by cases args; simp_all
  obtain ⟨rfl, rfl⟩ := trodVars_none hV
  obtain ⟨a0, len0, cap0, rfl⟩ := okWide_slice Try.underlying22 (hval 0 22 v0 rfl rfl)
  have k0 := h0
  have lt0 : ∀ x ∈ p0, x.block < W.heap.size := by obtain ⟨m, hm⟩ := k0; exact DataW.trod_lt m _ _ _ hm
  obtain ⟨z0, w0, u0⟩ : ∃ zs, IsRow .u8 W a0 len0 cap0 zs ∧ len0 ≤ Rows.uptoBulk d0 := by
    obtain ⟨fuel, hf⟩ := h0
    rcases open_ints Try.underlying22 Try.underlying5 (by kernel_rfl) hf with ⟨hcs, _⟩ | ⟨x, l, c, zs, hcs, _, hl, hm, hz, hx, hcell, hwz⟩
    · simp [Value.cells] at hcs
      obtain ⟨rfl, rfl, rfl⟩ := hcs
      exact ⟨[], .inl ⟨rfl, rfl, rfl, rfl⟩, Nat.zero_le _⟩
    · simp [Value.cells] at hcs
      obtain ⟨rfl, rfl, rfl⟩ := hcs
      have hz0 : zs.length = cap0 := by simpa using hz
      exact ⟨zs, .inr ⟨_, rfl, hl, hm, hz0, hcell, hwz⟩, by rw [(Prod.mk.inj hx).1]; refine Nat.le_trans ?_ (bulk_slice _ _); simp only [lits, List.length_map, List.length_take]; omega⟩
  obtain ⟨a1, rfl, rfl, rfl, w1⟩ := open_string Try.underlying9 (hval 1 9 v1 rfl rfl) h1
  clear hA0 hval0
  have hsum := bulk_all hk
  simp only [List.append_nil, Rows.uptoBulkAll] at hsum
  have u1 := bulk_string (H := H) a1
  simp only [List.append_nil] at hW'
  refine (walk a0 len0 cap0 z0 a1 W w0 w1 (by omega)).mono fun e W' ⟨he, bel⟩ => ?_
  subst he
  exact ⟨_, rfl, _, _, _, [], _, [], hW', trodAll_mk1 (shut_bool Try.underlying4 _), (trodAll_cons_mk (Below.trod laidOut (by kernel_rfl) (of_decide_eq_true (by kernel_rfl)) k0 bel lt0) (trodAll_cons_mk (shut_string Try.underlying9 w1) trodAll_mk0)), rfl, bel.frame _, fun h => by cases h⟩

theorem over : Rows.digestBackUptoRow.holds Try.pinned (Rows.OpenSpec.upto Rows.digestBackSpec) :=
  OpenClaim.holds_of_cond 8 Try.f8 rfl rfl rfl rfl rfl rfl rfl ⟨rfl, rfl, rfl, rfl, rfl⟩ rfl rfl rfl rfl rfl (by kernel_rfl) Try.func8 (by kernel_rfl)
    (of_decide_eq_true (by kernel_rfl)) (by unfold Func.isWrapper; first | (rw [if_pos (by decide +kernel)]; kernel_rfl) | (rw [if_neg (by decide +kernel)]; exact ⟨rfl, rfl⟩))
    (fun os started H enc _ F => lifted os started H enc F)

/-- ████ THE STATEMENT ████ -/
theorem proved : Rows.DigestBackUptoSaid := over
#print axioms proved
end Go.Proofs.Ytbkihkfbikbgjaa.digestBackUpto
