/- For every slice of bytes, every number and every whole number the call of TotpStep returns true and leaves the slice as it was; no condition. -/
import Derived.Test.YtmgflcglmakceaaRows
import Derived.Test.YtmgflcglmakceaaT7n
import Derived.WalkKit
import Derived.ProofKit
import Derived.OpenShut
import Derived.ShutString
import Derived.ChangeOld
import Derived.Below
namespace Go.Proofs.Ytmgflcglmakceaa.totpStep
open Go.ChangeShapes Go.WideShapes Go.ChangeAt Go.RowKit
open Go.ChangeMaps (open_string shut_string)
set_option linter.unusedVariables false

theorem own : ownKnob Try.prog.godebug = none := by kernel_rfl
theorem laidOut : laidOutB Try.prog = true := by kernel_rfl

/-! ### STEP 1: THE WALK: the Go text returns true, AND WRITES NOTHING THAT WAS THERE: 'Below w.heap.size w w'' (Derived/Below.lean: '.refl', '.alloc', '.drew', '.setCell' at a new block, '.trans'). Open each 'IsRow' by 'rcases' AHEAD of 'go_enter'; part every test ahead of the walk. -/
theorem walk (a0 : Option Addr) (len0 cap0 : Nat) (z0 : List Int) (a1 : Int) (a2 : Int) (w : World) (w0 : IsRow .u8 w a0 len0 cap0 z0) (w1 : (Lit.int .u64 a1).wf = true) (w2 : (Lit.int .i64 a2).wf = true) :
    Calls Try.prog 7 #[.slice a0 len0 cap0, .int .u64 a1, .int .i64 a2] w fun e w' => e = .returned (.bool true) ∧ Below w.heap.size w w' := by
  obtain ⟨l, b0⟩ := w0.bytes
  have B0 : Hid (IsB w a0 len0 cap0 l) := b0
  obtain ⟨t, rfl, ht⟩ : ∃ n : Nat, a1 = (n : Int) ∧ n < 18446744073709551616 := ⟨a1.toNat, by
    have : 0 ≤ a1 ∧ a1 ≤ 18446744073709551615 := by simpa [Lit.wf, IntKind.min, IntKind.max, IntKind.signed, IntKind.bits] using w1
    omega⟩
  clear w0 b0 w1 w2
  by_cases hl : len0 ≤ 100000
  · have hg : ¬ (100000 : Int) < (len0 : Int) := by omega
    by_cases h60 : t ≤ 1152921504606846976
    · have HT : ∀ n : Nat, n = 7 → decide (1152921504606846976 < (t : Int)) = false := fun _ _ => decide_eq_false (by omega)
      by_cases h100 : t < 100
      · have h100' : (t : Int) < 100 := by omega
        clear ht h60 h100 hl
        have hT := HT 7 rfl
        clear HT
        go_enter Try.func7, Try.ntmps7
        go_wp2_with fail
        go_ret
        exact ⟨rfl, Below.refl _ _⟩
      by_cases hlo : a2 < -30
      · have h100' : ¬ (t : Int) < 100 := by omega
        clear ht h60 h100 hl
        have hT := HT 7 rfl
        clear HT
        go_enter Try.func7, Try.ntmps7
        go_wp2_with fail
        go_ret
        exact ⟨rfl, Below.refl _ _⟩
      by_cases hhi : 30 < a2
      · have h100' : ¬ (t : Int) < 100 := by omega
        clear ht h60 h100 hl
        have hT := HT 7 rfl
        clear HT
        go_enter Try.func7, Try.ntmps7
        go_wp2_with fail
        go_ret
        exact ⟨rfl, Below.refl _ _⟩
      have h100' : ¬ (t : Int) < 100 := by omega
      obtain ⟨p, hp⟩ : ∃ p, p = t / 30 := ⟨_, rfl⟩
      obtain ⟨m, hm⟩ : ∃ m, m = t % 30 := ⟨_, rfl⟩
      obtain ⟨f, hf⟩ : ∃ f, f = t - m := ⟨_, rfl⟩
      obtain ⟨g, hgg⟩ : ∃ g, g = f + 30 := ⟨_, rfl⟩
      obtain ⟨k, hk⟩ : ∃ k, k = f + 29 := ⟨_, rfl⟩
      have hm1 : (t : Int) % 30 = (m : Int) := by omega
      have hm2 : (t : Int).tmod 30 = (m : Int) := by rw [Int.tmod_eq_emod_of_nonneg (by omega)]; exact hm1
      have hf1 : (t : Int) - (m : Int) = (f : Int) := by omega
      have hg1 : (f : Int) + 30 = (g : Int) := by omega
      have hk1 : (g : Int) - 1 = (k : Int) := by omega
      have wm := wrap64_nat m (by omega)
      have wf := wrap64_nat f (by omega)
      have wg := wrap64_nat g (by omega)
      have wk := wrap64_nat k (by omega)
      have pf : f / 30 = p := by omega
      have pk : k / 30 = p := by omega
      have H1 := fun w (h : IsB w a0 len0 cap0 l) => codTotp a0 len0 cap0 l t w h ht (by omega)
      have H2 := fun w (h : IsB w a0 len0 cap0 l) => codTotp a0 len0 cap0 l f w h (by omega) (by omega)
      have H3 := fun w (h : IsB w a0 len0 cap0 l) => codTotp a0 len0 cap0 l k w h (by omega) (by omega)
      rw [← hp] at H1
      rw [pf] at H2
      rw [pk] at H3
      have h6 : (str (hotL l p)).size = 6 := by rw [str_size, hotL_length]
      by_cases hneg : a2 < 0
      · obtain ⟨b, hb⟩ : ∃ b : Nat, a2 = -(b : Int) := ⟨(-a2).toNat, by omega⟩
        subst hb
        obtain ⟨u, hu⟩ : ∃ u, u = t - b := ⟨_, rfl⟩
        have hu1 : (t : Int) - (b : Int) = (u : Int) := by omega
        have wb := wrap64_nat b (by omega)
        have wu := wrap64_nat u (by omega)
        have H4 := fun w (h : IsB w a0 len0 cap0 l) => codCheck a0 len0 cap0 l u (str (hotL l p)) w h (by omega) (by omega) (by rw [str_size, hotL_length]; decide)
        rw [show sL (str (hotL l p)) = hotL l p from str_list _, chk_near l p (u / 30) (by omega) (by omega)] at H4
        have hb1 : (0 : Int) < (b : Int) := by omega
        have hb2 : (b : Int) ≤ 30 := by omega
        have hb3 : ¬ (-(b : Int)) < -30 := by omega
        have hb4 : ¬ 30 < (-(b : Int)) := by omega
        have hb5 : (-(b : Int)) < 0 := by omega
        generalize str (hotL l p) = S at *
        clear ht h60 h100 hl hlo hhi hp hm hf hgg hk hu pf pk hneg
        have hT := HT 7 rfl
        clear HT
        go_enter Try.func7, Try.ntmps7
        go_wp2_with fail
        refine (H1 w B0.out).mono ?_
        rintro e x1 ⟨rfl, t1⟩
        have B1 : Hid (IsB x1 a0 len0 cap0 l) := B0.out.below t1 rfl
        clear hT
        go_wp2_with fail
        refine (H2 x1 B1.out).mono ?_
        rintro e x2 ⟨rfl, t2⟩
        have T2 : Below w.heap.size w x2 := t1.trans (t2.mono t1.size)
        have B2 : Hid (IsB x2 a0 len0 cap0 l) := B0.out.below T2 rfl
        go_wp2_with fail
        refine (H3 x2 B2.out).mono ?_
        rintro e x3 ⟨rfl, t3⟩
        have T3 : Below w.heap.size w x3 := T2.trans (t3.mono T2.size)
        have B3 : Hid (IsB x3 a0 len0 cap0 l) := B0.out.below T3 rfl
        go_wp2_with fail
        refine (H4 x3 B3.out).mono ?_
        rintro e x4 ⟨rfl, t4⟩
        have T4 : Below w.heap.size w x4 := T3.trans (t4.mono T3.size)
        go_wp2_with fail
        go_ret
        exact ⟨rfl, T4⟩
      · obtain ⟨b, hb⟩ : ∃ b : Nat, a2 = (b : Int) := ⟨a2.toNat, by omega⟩
        subst hb
        obtain ⟨u, hu⟩ : ∃ u, u = t + b := ⟨_, rfl⟩
        have hu1 : (t : Int) + (b : Int) = (u : Int) := by omega
        have wb := wrap64_nat b (by omega)
        have wu := wrap64_nat u (by omega)
        have H4 := fun w (h : IsB w a0 len0 cap0 l) => codCheck a0 len0 cap0 l u (str (hotL l p)) w h (by omega) (by omega) (by rw [str_size, hotL_length]; decide)
        rw [show sL (str (hotL l p)) = hotL l p from str_list _, chk_near l p (u / 30) (by omega) (by omega)] at H4
        have hb2 : (b : Int) ≤ 30 := by omega
        generalize str (hotL l p) = S at *
        clear ht h60 h100 hl hlo hhi hp hm hf hgg hk hu pf pk hneg
        have hT := HT 7 rfl
        clear HT
        go_enter Try.func7, Try.ntmps7
        go_wp2_with fail
        refine (H1 w B0.out).mono ?_
        rintro e x1 ⟨rfl, t1⟩
        have B1 : Hid (IsB x1 a0 len0 cap0 l) := B0.out.below t1 rfl
        clear hT
        go_wp2_with fail
        refine (H2 x1 B1.out).mono ?_
        rintro e x2 ⟨rfl, t2⟩
        have T2 : Below w.heap.size w x2 := t1.trans (t2.mono t1.size)
        have B2 : Hid (IsB x2 a0 len0 cap0 l) := B0.out.below T2 rfl
        go_wp2_with fail
        refine (H3 x2 B2.out).mono ?_
        rintro e x3 ⟨rfl, t3⟩
        have T3 : Below w.heap.size w x3 := T2.trans (t3.mono T2.size)
        have B3 : Hid (IsB x3 a0 len0 cap0 l) := B0.out.below T3 rfl
        go_wp2_with fail
        refine (H4 x3 B3.out).mono ?_
        rintro e x4 ⟨rfl, t4⟩
        have T4 : Below w.heap.size w x4 := T3.trans (t4.mono T3.size)
        go_wp2_with fail
        go_ret
        exact ⟨rfl, T4⟩
    · have HT : ∀ n : Nat, n = 7 → decide (1152921504606846976 < (t : Int)) = true := fun _ _ => decide_eq_true (by omega)
      clear ht h60 hl
      have hT := HT 7 rfl
      clear HT
      go_enter Try.func7, Try.ntmps7
      go_wp2_with fail
      go_ret
      exact ⟨rfl, Below.refl _ _⟩
  · have hg : (100000 : Int) < (len0 : Int) := by omega
    clear hl ht
    go_enter Try.func7, Try.ntmps7
    go_wp2_with fail
    go_ret
    exact ⟨rfl, Below.refl _ _⟩

/-! ### THE ROW's STEP: WRITTEN OUT: LEAVE IT -/
set_option maxRecDepth 100000 in
theorem lifted (os : Os) (started : os.Started) (H : Type) (enc : TypeId × Value → H) :
    ReturnsInHanded {} Try.checked os 7 .any (Rows.totpStepSpec.pre6 enc Try.prog Try.f7 Rows.totpStepRow.domain false) (Rows.totpStepSpec.post enc Try.prog Try.f7 false true false false) := by
  refine returnsInHanded_of_change (C := Try.checked) own started (by kernel_rfl) Try.func7
    (ChangeSpec.witness6 (enc := enc) (C := Try.checked) false ⟨#[], #[.slice none 0 0, .int .u64 0, .int .i64 0], []⟩ 8 (by kernel_rfl) (by kernel_rfl) (by kernel_rfl) (by kernel_rfl)) ?_
  intro W base args ds gs before hval0 hW hcnd _
  have hval : ∀ (j : Nat) t v, Try.f7.params[j]? = some t → args[j]? = some v → Value.okWide Try.prog W .any base t v := hval0
  have hW' := hW
  obtain ⟨p, q, hA0, hV, rfl, hfz, hnd⟩ := hW
  have hA : DataW.TrodAll enc Try.prog W 0 (fun _ => true) true Try.f7.params.toList args.toList ds p := hA0
  rw [Try.params7] at hA hval
  obtain ⟨v0, vs0, d0, ds0, p0, q0, hargs, rfl, rfl, h0, r0⟩ := trodAll_cons hA
  obtain ⟨v1, vs1, d1, ds1, p1, q1, rfl, rfl, rfl, h1, r1⟩ := trodAll_cons r0
  obtain ⟨v2, vs2, d2, ds2, p2, q2, rfl, rfl, rfl, h2, r2⟩ := trodAll_cons r1
  obtain ⟨rfl, rfl, rfl⟩ := trodAll_nil r2
  obtain rfl : args = #[v0, v1, v2] := by cases args; simp_all
  obtain ⟨rfl, rfl⟩ := trodVars_none hV
  obtain ⟨a0, len0, cap0, rfl⟩ := okWide_slice Try.underlying22 (hval 0 22 v0 rfl rfl)
  have k0 := h0
  have lt0 : ∀ x ∈ p0, x.block < W.heap.size := by obtain ⟨m, hm⟩ := k0; exact DataW.trod_lt m _ _ _ hm
  obtain ⟨z0, w0⟩ : ∃ zs, IsRow .u8 W a0 len0 cap0 zs := by
    obtain ⟨fuel, hf⟩ := h0
    rcases open_ints Try.underlying22 Try.underlying5 (by kernel_rfl) hf with ⟨hcs, _⟩ | ⟨x, l, c, zs, hcs, _, hl, hm, hz, _, hcell, hwz⟩
    · simp [Value.cells] at hcs
      obtain ⟨rfl, rfl, rfl⟩ := hcs
      exact ⟨[], .inl ⟨rfl, rfl, rfl, rfl⟩⟩
    · simp [Value.cells] at hcs
      obtain ⟨rfl, rfl, rfl⟩ := hcs
      exact ⟨zs, .inr ⟨_, rfl, hl, hm, by simpa using hz, hcell, hwz⟩⟩
  obtain ⟨a1, rfl, rfl, rfl, w1⟩ := open_int Try.underlying23 (hval 1 23 v1 rfl rfl) h1
  obtain ⟨a2, rfl, rfl, rfl, w2⟩ := open_int Try.underlying3 (hval 2 3 v2 rfl rfl) h2
  clear hA0 hval0
  refine (walk a0 len0 cap0 z0 a1 a2 W w0 w1 w2).mono fun e W' ⟨he, bel⟩ => ?_
  subst he
  exact ⟨_, rfl, _, _, _, [], _, [], hW', trodAll_mk1 (shut_bool Try.underlying4 _), (trodAll_cons_mk (Below.trod laidOut (by kernel_rfl) (of_decide_eq_true (by kernel_rfl)) k0 bel lt0) (trodAll_cons_mk (shut_int Try.underlying23 w1) (trodAll_cons_mk (shut_int Try.underlying3 w2) trodAll_mk0))), rfl, bel.frame _, fun h => by cases h⟩

theorem over : Rows.totpStepRow.holds Try.pinned (OpenSpec.ofChange Rows.totpStepSpec) :=
  OpenClaim.holds_of_wide 7 Try.f7 rfl rfl rfl rfl rfl rfl rfl ⟨rfl, rfl, rfl, rfl, rfl⟩ rfl rfl rfl rfl rfl (by kernel_rfl) Try.func7 (by kernel_rfl)
    (of_decide_eq_true (by kernel_rfl)) (by unfold Func.isWrapper; first | (rw [if_pos (by decide +kernel)]; kernel_rfl) | (rw [if_neg (by decide +kernel)]; exact ⟨rfl, rfl⟩))
    (fun os started H enc _ => lifted os started H enc)

/-- ████ THE STATEMENT ████ -/
theorem proved : Rows.TotpStepSaid := over
#print axioms proved
end Go.Proofs.Ytmgflcglmakceaa.totpStep
