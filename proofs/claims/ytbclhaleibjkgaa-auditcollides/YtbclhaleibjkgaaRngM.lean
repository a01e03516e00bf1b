/- A range over a function whose assignments make memory; regions that draw their order within a round. -/
import Derived.Test.YtbclhaleibjkgaaRngN
import Derived.Test.YtbclhaleibjkgaaTakeL
import Derived.OrdersIn
namespace Go.Proofs.Ytbclhaleibjkgaa
open Go Go.RowKit

/-- an operation, in a round, as by itself -/
theorem upon_in {P : Program} {o : Oper} {a : Act} {K : Act → World → Prop} {Q : Exit → Act → World → Prop} (l n : Nat) (r : Result Next) (h : o.upon P a K Q r) : o.uponIn (Fence.wide.inRound l) n P a K Q r := by
  have hz : (Fence.wide.inRound l).depth.isSome = true → 1 ≤ n := fun x => absurd x Bool.false_ne_true
  cases r with
  | ok x w' =>
    cases x <;> simp only [Oper.upon, Oper.uponIn] at h ⊢ <;>
      first
        | exact h
        | exact ⟨hz, (callsIn_wide.2 h).inRound l⟩
        | exact ⟨hz, fun c cs _ => let ⟨v, w'', r, s⟩ := h c cs; ⟨v, w'', r, stepsIn_wide.2 s⟩⟩
  | halt x w' => cases x <;> simp only [Oper.upon, Oper.uponIn] at h ⊢ <;> exact h
theorem wpOp_in {P : Program} {ops : Array Oper} {Q : Exit → Act → World → Prop} {i : Nat} {K : Act → World → Prop} {a : Act} {w : World} (l n : Nat) (hd : ∀ (i : Nat) (o : Oper), ops[i]? = some o → ∀ c, o.op ≠ .defer c) (hQ : ¬ LetsOut Q) (h : wpOp P ops Q i K a w) : wpOpIn (Fence.wide.inRound l) n P ops Q i K a w := by
  unfold wpOp at h
  unfold wpOpIn
  cases ho : ops[i]? with
  | none => rw [ho] at h; exact h
  | some o =>
    rw [ho] at h
    simp only [] at h ⊢
    by_cases hw : Region.wanted o (yielded ops a.tmps) = true
    · rw [if_pos hw] at h ⊢
      rcases h with h | h
      · refine ⟨fun _ _ => trivial, ?_⟩
        rw [Oper.semAt_eq _ _ _ (hd i o ho)]
        exact upon_in l n _ h
      · exact absurd h.2 hQ
    · rw [if_neg hw] at h ⊢
      exact ⟨fun _ _ => trivial, h⟩
theorem any_in {P : Program} {md : Region.Mode} {ops : Array Oper} {Q : Exit → Act → World → Prop} (l n : Nat) (hd : ∀ (i : Nat) (o : Oper), ops[i]? = some o → ∀ c, o.op ≠ .defer c) (hQ : ¬ LetsOut Q) : ∀ (f : Nat) (li : Array Bool) (a : Act) (w : World), wpAny P md ops Q f li a w → wpAnyIn (Fence.wide.inRound l) n P md ops Q f li a w
  | 0, _, _, _, h => h
  | f + 1, _, _, _, h => ⟨h.1, fun i hi => wpOpIn_mono (fun a' w' k => any_in l n hd hQ f _ a' w' k) (wpOp_in l n hd hQ (h.2 i hi))⟩
def noDefer (ops : Array Oper) : Bool := ops.all fun o => match o.op with | .defer _ => false | _ => true
theorem noDefer_spec {ops : Array Oper} (h : noDefer ops = true) : ∀ (i : Nat) (o : Oper), ops[i]? = some o → ∀ c, o.op ≠ .defer c := fun i o ho c e => by
  have := Array.all_eq_true_iff_forall_mem.1 h o (Array.mem_of_getElem? ho)
  rw [e] at this; cases this
theorem region_any_in {P : Program} {ops : Array Oper} {Q : Exit → Act → World → Prop} {l n id : Nat} {a : Act} {w : World} (hQ : ¬ LetsOut Q) (h : wpAny P .any ops Q ops.size (Array.replicate ops.size false) a w.drew) (hd : noDefer ops = true := by kernel_rfl) (hm : P.follows .mixedOrders = true := by kernel_rfl) : (Code.region id ops true).wpIn (Fence.wide.inRound l) n P Q a w :=
  wpIn_region_any hm (any_in l n (noDefer_spec hd) hQ _ _ _ _ h)
theorem region_held_in {P : Program} {ops : Array Oper} {Q : Exit → Act → World → Prop} {l n id : Nat} {a : Act} {w : World} (S : World → Prop) (hQ : ¬ LetsOut Q) (hS : S w.drew) (h : S w.drew → wpAnyH P .any ops Q S ops.size (Array.replicate ops.size false) a w.drew) (hd : noDefer ops = true := by kernel_rfl) (hm : P.follows .mixedOrders = true := by kernel_rfl) : (Code.region id ops true).wpIn (Fence.wide.inRound l) n P Q a w :=
  region_any_in hQ (wpAny_of_held _ _ _ _ (h hS)) hd hm
theorem region_last_in {P : Program} {ops : Array Oper} {Q : Exit → Act → World → Prop} {l n id : Nat} {a : Act} {w : World} (S : World → Prop) (z : Nat) (hQ : ¬ LetsOut Q) (hS : S w.drew) (h : S w.drew → LastOk P ops Q S z ops.size (Array.replicate ops.size false) a w.drew) (hd : noDefer ops = true := by kernel_rfl) (hm : P.follows .mixedOrders = true := by kernel_rfl) : (Code.region id ops true).wpIn (Fence.wide.inRound l) n P Q a w :=
  region_any_in hQ (LastOk.any _ _ _ _ (h hS)) hd hm

theorem range_m {P : Program} {n : Nat} {g : Operand} {ps : Array Tmp} {assign body : Code} {Q : Exit → Act → World → Prop} {a : Act} {w : World} (h1 : 1 ≤ n) {gf : Nat} {lb : Array Value}
    (hg : a.eval g = .func (.func gf) #[] lb) (eg : ∀ args w, (callFunc gf args).run P w = .ok (.enter gf args) w) {enc : Nat → Array Value} {Kp : World → World → Prop} {N : Nat} {X : World → Prop}
    (hseq : SeqN (n - 1) P gf lb enc Kp N X) (hX : ∀ W, Below w.heap.size w W → X W)
    (hKt : ∀ A B C : World, Kp A B → Kp B C → Kp A C) (hKb : ∀ (W : World) (l : Nat) (o : Obj), w.heap.size ≤ l → Kp W (W.putObj l o)) (hps : ∀ k, (enc k).size = ps.size)
    (I Ix : Nat → World → Prop) (hI : ∀ k A B, I k A → Turn w.heap.size A B → I k B) (hIx : ∀ k A B, Ix k A → Turn w.heap.size A B → Ix k B) (h0 : I 0 w) (As : Nat → Act → World → Prop) (hAs : ∀ k b A B, As k b A → Turn w.heap.size A B → As k b B) (hKa : ∀ A B : World, Below A.heap.size A B → w.heap.size ≤ A.heap.size → Kp A B)
    (hassign : ∀ (l : Nat) (k : Nat) (W : World) (K : Act → World → Prop), I k W → k < N → (∀ b W', Below W.heap.size W W' → As k b W' → K b W') →
      assign.wpIn (Fence.wide.inRound l) (n - 1 - 1) P (Exit.then K (fun _ _ _ => False)) { tmps := (ps.zip (enc k)).foldl (fun t (p, v) => t.setIfInBounds p v) a.tmps, defers := [] } W)
    (hbody : ∀ (l k : Nat) (b : Act) (W : World), I k W → As k b W → k < N → body.wpIn (Fence.wide.inRound l) (n - 1 - 1) P
      (fun e _ B => (e = .normal ∧ KeepO [] W B ∧ Kp W B ∧ I (k + 1) B) ∨ (e = .ret ∧ KeepO [] W B ∧ Ix (k + 1) B)) b W)
    (hdone : ∀ (D : Nat) (W : World), w.heap.size ≤ D → I N W → W.heap[D]? = some (.deferred (some [])) → Q .normal { a with defers := { target := .collected D, args := #[] } :: a.defers } W)
    (hstop : ∀ (D k : Nat) (W : World), w.heap.size ≤ D → Ix k W → W.heap[D]? = some (.deferred (some [])) → Code.ret.wpIn Fence.wide n P Q { a with defers := { target := .collected D, args := #[] } :: a.defers } W) :
    (Code.rangeFunc g ps assign body).wpIn Fence.wide n P Q a w := by
  refine wpIn_rangeFunc fun fn hfn => ?_
  let rc : LoopState → Option Code → Loop := fun st pe => { state := st, pending := pe, fn, tmps := a.tmps, params := ps, assign, body, defers := w.heap.size }
  have hnew := run_enterLoop_outer (P := P) (w := w) fn a.tmps ps assign body
  change _ = Result.ok _ ((w.alloc (.deferred (some []))).alloc (.loop (rc .ready none))) at hnew
  have hB1 : Below w.heap.size w ((w.alloc (.deferred (some []))).alloc (.loop (rc .ready none))) := ((Below.refl _ w).alloc (Nat.le_refl _) _).alloc (by simp) _
  have hL1 : ((w.alloc (.deferred (some []))).alloc (.loop (rc .ready none))).heap[w.heap.size + 1]? = some (.loop (rc .ready none)) := by
    have := World.alloc_heap_new (w.alloc (.deferred (some []))) (.loop (rc .ready none))
    rwa [World.size_alloc] at this
  have hD1 : ((w.alloc (.deferred (some []))).alloc (.loop (rc .ready none))).heap[w.heap.size]? = some (.deferred (some [])) :=
    (Below.heap_alloc _ _ _ (by simp)).trans (World.alloc_heap_new w _)
  have hI1 : I 0 ((w.alloc (.deferred (some []))).alloc (.loop (rc .ready none))) := hI 0 _ _ h0 (Turn.of_below hB1 (Nat.le_refl _))
  generalize (w.alloc (.deferred (some []))).alloc (.loop (rc .ready none)) = W1 at *
  refine ⟨w.heap.size + 1, [{ target := .collected w.heap.size, args := #[] }], W1, { target := .fn (.func gf) lb, args := #[.func (.yield (w.heap.size + 1)) #[] #[]] }, W1, gf,
    #[.func (.yield (w.heap.size + 1)) #[] #[]] ++ lb, W1, hnew, ?_, ?_, ?_, fun _ => h1, ?_⟩
  · simp only [resolve, hg]; simp [go_sem]
  · intro f' _; trivial
  · simp [invoke, go_sem, eg]
  refine (hseq (w.heap.size + 1)
    (fun k W => I k W ∧ W.heap[w.heap.size + 1]? = some (.loop (rc .ready none)) ∧ W.heap[w.heap.size]? = some (.deferred (some [])))
    (fun k W => Ix k W ∧ W.heap[w.heap.size + 1]? = some (.loop (rc .done (some .ret))) ∧ W.heap[w.heap.size]? = some (.deferred (some [])))
    W1 (hX _ hB1) ?_ ?_ ⟨hI1, hL1, hD1⟩).mono ?_
  · rintro k A B ⟨hi, hl, hd⟩ hb
    exact ⟨hI k A B hi (Turn.of_below hb (Nat.le_of_lt (Array.getElem?_eq_some_iff.1 hd).1)), (hb.5 _ (Array.getElem?_eq_some_iff.1 hl).1).trans hl, (hb.5 _ (Array.getElem?_eq_some_iff.1 hd).1).trans hd⟩
  · rintro k A ⟨hi, hl, hd⟩ hlen
    have hlt : w.heap.size + 1 < A.heap.size := (Array.getElem?_eq_some_iff.1 hl).1
    refine ⟨fn, _, assign, body, run_yield (P := P) (args := enc k) hl (hps k), roundIn_of_wpIn hfn (hassign _ k A _ hi hlen (fun b1 A1 hbA ha1 => ⟨_, run_beginRound ((hbA.5 _ (Array.getElem?_eq_some_iff.1 hl).1).trans hl) rfl, ?_⟩))⟩
    have hi := hI k A A1 hi (Turn.of_below hbA (by omega))
    have hkA := hKa A A1 hbA (by omega)
    have hlt : w.heap.size + 1 < A1.heap.size := Nat.lt_of_lt_of_le hlt hbA.size
    have hl := (hbA.5 _ (Array.getElem?_eq_some_iff.1 hl).1).trans hl
    have hd := (hbA.5 _ (Array.getElem?_eq_some_iff.1 hd).1).trans hd
    clear hbA
    have hl2 : (A1.putObj (w.heap.size + 1) (.loop (rc .busy none))).heap[w.heap.size + 1]? = some (.loop (rc .busy none)) := World.putObj_heap_same hlt
    have hd2 : (A1.putObj (w.heap.size + 1) (.loop (rc .busy none))).heap[w.heap.size]? = some (.deferred (some [])) := (World.putObj_heap_other (by omega)).trans hd
    refine wpIn_mono (hbody _ k b1 _ (hI k _ _ hi (Turn.put _ hl rfl (by omega))) (hAs k b1 _ _ ha1 (Turn.put _ hl rfl (by omega))) hlen) ?_
    rintro e _ C (⟨rfl, hk, hkp, hi3⟩ | ⟨rfl, hk, hi3⟩)
    · have hl3 := hk.ctl _ _ hl2 rfl
      have hd3 := hk.ctl _ _ hd2 rfl
      exact ⟨_, _, run_endRound (P := P) none hl3, .inl ⟨rfl, ⟨hI _ _ _ hi3 (Turn.put _ hl3 rfl (by omega)), World.putObj_heap_same (Array.getElem?_eq_some_iff.1 hl3).1, (World.putObj_heap_other (by omega)).trans hd3⟩,
        hKt _ _ _ hkA (hKt _ _ _ (hKt _ _ _ (hKb _ _ _ (by omega)) hkp) (hKb _ _ _ (by omega)))⟩⟩
    · have hl3 := hk.ctl _ _ hl2 rfl
      have hd3 := hk.ctl _ _ hd2 rfl
      exact ⟨_, _, run_endRound (P := P) (some .ret) hl3, .inr ⟨rfl, hIx _ _ _ hi3 (Turn.put _ hl3 rfl (by omega)), World.putObj_heap_same (Array.getElem?_eq_some_iff.1 hl3).1, (World.putObj_heap_other (by omega)).trans hd3⟩⟩
  · rintro e B ⟨⟨v, rfl⟩, (⟨hi, hl, hd⟩ | ⟨k, hi, hl, hd⟩)⟩
    · exact ⟨none, _, run_endLoop (P := P) hl (by simp [rc]), hdone _ _ (Nat.le_refl _) (hI _ _ _ hi (Turn.put _ hl rfl (by omega))) ((World.putObj_heap_other (by omega)).trans hd)⟩
    · exact ⟨some .ret, _, run_endLoop (P := P) hl (by simp [rc]), hstop _ k _ (Nat.le_refl _) (hIx _ _ _ hi (Turn.put _ hl rfl (by omega))) ((World.putObj_heap_other (by omega)).trans hd)⟩
end Go.Proofs.Ytbclhaleibjkgaa
