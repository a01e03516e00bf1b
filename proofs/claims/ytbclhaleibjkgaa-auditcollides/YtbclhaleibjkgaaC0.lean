/- AuditVerifies: the walk. · A range over a function that reads what it hands out behind a stop, too. · Regions that draw their order, in the widest fence: an operation is taken first under what is held. -/
import Derived.Test.YtbclhaleibjkgaaAu12
import Derived.Test.YtbclhaleibjkgaaB43
import Derived.Test.YtbclhaleibjkgaaRngM
import Derived.OrdersHeld
namespace Go.Proofs.Ytbclhaleibjkgaa
open Go.RowKit

theorem light_of14 {l : List Rq14} (h : lightR (l.map Prod.fst) = true) : (∀ x ∈ l, rcLen x.1 ≤ 20000) ∧ l.length ≤ 100 := by
  obtain ⟨h1, h2⟩ := light_len h
  exact ⟨fun x hx => h1 x.1 (List.mem_map.2 ⟨x, hx, rfl⟩), by rw [List.length_map] at h2; exact h2⟩
attribute [local go_sem] undef
set_option maxRecDepth 20000 in
set_option maxHeartbeats 2000000 in
theorem verifies14 (a : Option Addr) (n cap : Nat) (l : List Rq14) (hv : Value) (hd : List UInt8) (w : World) (h : IsRl w a n l) (hz : ∀ x ∈ l, RcZ x.1) (hn : n ≤ 140737488351232) (hh : IsV w hv hd) :
    Calls Try.prog 6 #[.slice a n cap, hv] w fun e w' => e = .returned (.bool true) ∧ Below w.heap.size w w' := by
  have HX := mkHid h
  have HH := mkHid hh
  have HLt := lawLight14 a n cap l w h hz hn
  have HL2 := @light_of14 l
  have HLn := mkHid h.len
  clear h hz hh
  generalize lightR (l.map Prod.fst) = LT at *
  cases LT with
  | false =>
    clear HL2
    go_enter Try.func6, Try.ntmps6
    go_wp2_with fail
    refine HLt.mono ?_
    rintro e y1 ⟨rfl, hb1⟩
    have HB1 := mkHid hb1
    clear hb1 HLt
    go_wp2_with fail
    go_ret
    exact ⟨rfl, HB1.out⟩
  | true =>
    obtain ⟨hs, hm⟩ := HL2 rfl
    rw [HLn.out] at hm
    have HC := fun W (hW : Below w.heap.size w W) => codVerify14 a n cap l hv hd W (HX.out.below hW) (HH.out.below hW rfl) hs (by omega)
    have HD := fun W (hW : Below w.heap.size w W) => refVerify14 a n cap l hv hd W (HX.out.below hW) (HH.out.below hW rfl) hs (by omega)
    clear HL2 hs hm HX HH HLn
    generalize verN (l.map Prod.fst) hd = VN at *
    go_enter Try.func6, Try.ntmps6
    go_wp2_with fail
    refine HLt.mono ?_
    rintro e y1 ⟨rfl, hb1⟩
    have HB1 := mkHid hb1
    clear hb1 HLt
    go_wp2_with fail
    refine (HC y1 HB1.out).mono ?_
    rintro e y2 ⟨rfl, hb2⟩
    have HB2 := mkHid (HB1.out.trans (hb2.mono HB1.out.size))
    clear hb2 HC HB1
    go_wp2_with fail
    refine (HD y2 HB2.out).mono ?_
    rintro e y3 ⟨rfl, hb3⟩
    have HB3 := mkHid (HB2.out.trans (hb3.mono HB2.out.size))
    clear hb3 HD HB2
    go_wp2_with fail
    refine (lawAlive14 y3).mono ?_
    rintro e y4 ⟨rfl, hb4⟩
    have HB4 := mkHid (HB3.out.trans (hb4.mono HB3.out.size))
    clear hb4 HB3
    go_wp2_with fail
    go_ret
    exact ⟨rfl, HB4.out⟩
end Go.Proofs.Ytbclhaleibjkgaa
namespace Go.Proofs.Ytbclhaleibjkgaa
open Go Go.RowKit

/-- what such a function answers: what is kept is kept behind a stop, too -/
def SeqS (n : Nat) (P : Program) (gf : Nat) (lb : Array Value) (enc : Nat → Array Value) (Kp : World → World → Prop) (N : Nat) (X : World → Prop) : Prop :=
  ∀ (l : Nat) (J Jx : Nat → World → Prop) (W : World), X W → (∀ k A B, J k A → Below A.heap.size A B → J k B) → (∀ k A B, Jx k A → Below A.heap.size A B → Jx k B) →
    (∀ k A, J k A → k < N → YieldAt Fence.wide (n - 1) P l (enc k) A fun e B =>
      (e = .returned (.bool true) ∧ J (k + 1) B ∧ Kp A B) ∨ (e = .returned (.bool false) ∧ Jx (k + 1) B ∧ Kp A B)) → J 0 W →
    CallsIn Fence.wide n P gf (#[.func (.yield l) #[] #[]] ++ lb) W fun e B => (∃ v, e = .returned v) ∧ (J N B ∨ ∃ k, Jx k B)
theorem range_s {P : Program} {n : Nat} {g : Operand} {ps : Array Tmp} {assign body : Code} {Q : Exit → Act → World → Prop} {a : Act} {w : World} (h1 : 1 ≤ n) {gf : Nat} {lb : Array Value}
    (hg : a.eval g = .func (.func gf) #[] lb) (eg : ∀ args w, (callFunc gf args).run P w = .ok (.enter gf args) w) {enc : Nat → Array Value} {Kp : World → World → Prop} {N : Nat} {X : World → Prop}
    (hseq : SeqS (n - 1) P gf lb enc Kp N X) (hX : ∀ W, Below w.heap.size w W → X W)
    (hKt : ∀ A B C : World, Kp A B → Kp B C → Kp A C) (hKb : ∀ (W : World) (l : Nat) (o : Obj), w.heap.size ≤ l → Kp W (W.putObj l o)) (hps : ∀ k, (enc k).size = ps.size)
    (I Ix : Nat → World → Prop) (hI : ∀ k A B, I k A → Turn w.heap.size A B → I k B) (hIx : ∀ k A B, Ix k A → Turn w.heap.size A B → Ix k B) (h0 : I 0 w) (As : Nat → Act → World → Prop) (hAs : ∀ k b A B, As k b A → Turn w.heap.size A B → As k b B) (hKa : ∀ A B : World, Below A.heap.size A B → w.heap.size ≤ A.heap.size → Kp A B)
    (hassign : ∀ (l : Nat) (k : Nat) (W : World) (K : Act → World → Prop), I k W → k < N → (∀ b W', Below W.heap.size W W' → As k b W' → K b W') →
      assign.wpIn (Fence.wide.inRound l) (n - 1 - 1) P (Exit.then K (fun _ _ _ => False)) { tmps := (ps.zip (enc k)).foldl (fun t (p, v) => t.setIfInBounds p v) a.tmps, defers := [] } W)
    (hbody : ∀ (l k : Nat) (b : Act) (W : World), I k W → As k b W → k < N → body.wpIn (Fence.wide.inRound l) (n - 1 - 1) P
      (fun e _ B => (e = .normal ∧ KeepO [] W B ∧ Kp W B ∧ I (k + 1) B) ∨ (e = .ret ∧ KeepO [] W B ∧ Kp W B ∧ Ix (k + 1) B)) b W)
    (hdone : ∀ (D : Nat) (W : World), w.heap.size ≤ D → I N W → W.heap[D]? = some (.deferred (some [])) → Q .normal { a with defers := { target := .collected D, args := #[] } :: a.defers } W)
    (hstop : ∀ (D k : Nat) (W : World), w.heap.size ≤ D → Ix k W → W.heap[D]? = some (.deferred (some [])) → Code.ret.wpIn Fence.wide n P Q { a with defers := { target := .collected D, args := #[] } :: a.defers } W) :
    (Code.rangeFunc g ps assign body).wpIn Fence.wide n P Q a w := by
  refine wpIn_rangeFunc fun fn hfn => ?_
  let rc : LoopState → Option Code → Loop := fun st pe => { state := st, pending := pe, fn, tmps := a.tmps, params := ps, assign, body, defers := w.heap.size }
  have hnew := run_enterLoop_outer (P := P) (w := w) fn a.tmps ps assign body
  change _ = Result.ok _ ((w.alloc (.deferred (some []))).alloc (.loop (rc .ready none))) at hnew
  have hB1 : Below w.heap.size w ((w.alloc (.deferred (some []))).alloc (.loop (rc .ready none))) := ((Below.refl _ w).alloc (Nat.le_refl _) _).alloc (by simp) _
  have hL1 : ((w.alloc (.deferred (some []))).alloc (.loop (rc .ready none))).heap[w.heap.size + 1]? = some (.loop (rc .ready none)) := by
    have := World.alloc_heap_new (w.alloc (.deferred (some []))) (.loop (rc .ready none))
    rwa [World.size_alloc] at this
  have hD1 : ((w.alloc (.deferred (some []))).alloc (.loop (rc .ready none))).heap[w.heap.size]? = some (.deferred (some [])) :=
    (Below.heap_alloc _ _ _ (by simp)).trans (World.alloc_heap_new w _)
  have hI1 : I 0 ((w.alloc (.deferred (some []))).alloc (.loop (rc .ready none))) := hI 0 _ _ h0 (Turn.of_below hB1 (Nat.le_refl _))
  generalize (w.alloc (.deferred (some []))).alloc (.loop (rc .ready none)) = W1 at *
  refine ⟨w.heap.size + 1, [{ target := .collected w.heap.size, args := #[] }], W1, { target := .fn (.func gf) lb, args := #[.func (.yield (w.heap.size + 1)) #[] #[]] }, W1, gf,
    #[.func (.yield (w.heap.size + 1)) #[] #[]] ++ lb, W1, hnew, ?_, ?_, ?_, fun _ => h1, ?_⟩
  · simp only [resolve, hg]; simp [go_sem]
  · intro f' _; trivial
  · simp [invoke, go_sem, eg]
  refine (hseq (w.heap.size + 1)
    (fun k W => I k W ∧ W.heap[w.heap.size + 1]? = some (.loop (rc .ready none)) ∧ W.heap[w.heap.size]? = some (.deferred (some [])))
    (fun k W => Ix k W ∧ W.heap[w.heap.size + 1]? = some (.loop (rc .done (some .ret))) ∧ W.heap[w.heap.size]? = some (.deferred (some [])))
    W1 (hX _ hB1) ?_ ?_ ?_ ⟨hI1, hL1, hD1⟩).mono ?_
  · rintro k A B ⟨hi, hl, hd⟩ hb
    exact ⟨hI k A B hi (Turn.of_below hb (Nat.le_of_lt (Array.getElem?_eq_some_iff.1 hd).1)), (hb.5 _ (Array.getElem?_eq_some_iff.1 hl).1).trans hl, (hb.5 _ (Array.getElem?_eq_some_iff.1 hd).1).trans hd⟩
  · rintro k A B ⟨hi, hl, hd⟩ hb
    exact ⟨hIx k A B hi (Turn.of_below hb (Nat.le_of_lt (Array.getElem?_eq_some_iff.1 hd).1)), (hb.5 _ (Array.getElem?_eq_some_iff.1 hl).1).trans hl, (hb.5 _ (Array.getElem?_eq_some_iff.1 hd).1).trans hd⟩
  · rintro k A ⟨hi, hl, hd⟩ hlen
    have hlt : w.heap.size + 1 < A.heap.size := (Array.getElem?_eq_some_iff.1 hl).1
    refine ⟨fn, _, assign, body, run_yield (P := P) (args := enc k) hl (hps k), roundIn_of_wpIn hfn (hassign _ k A _ hi hlen (fun b1 A1 hbA ha1 => ⟨_, run_beginRound ((hbA.5 _ (Array.getElem?_eq_some_iff.1 hl).1).trans hl) rfl, ?_⟩))⟩
    have hi := hI k A A1 hi (Turn.of_below hbA (by omega))
    have hkA := hKa A A1 hbA (by omega)
    have hlt : w.heap.size + 1 < A1.heap.size := Nat.lt_of_lt_of_le hlt hbA.size
    have hl := (hbA.5 _ (Array.getElem?_eq_some_iff.1 hl).1).trans hl
    have hd := (hbA.5 _ (Array.getElem?_eq_some_iff.1 hd).1).trans hd
    clear hbA
    have hl2 : (A1.putObj (w.heap.size + 1) (.loop (rc .busy none))).heap[w.heap.size + 1]? = some (.loop (rc .busy none)) := World.putObj_heap_same hlt
    have hd2 : (A1.putObj (w.heap.size + 1) (.loop (rc .busy none))).heap[w.heap.size]? = some (.deferred (some [])) := (World.putObj_heap_other (by omega)).trans hd
    refine wpIn_mono (hbody _ k b1 _ (hI k _ _ hi (Turn.put _ hl rfl (by omega))) (hAs k b1 _ _ ha1 (Turn.put _ hl rfl (by omega))) hlen) ?_
    rintro e _ C (⟨rfl, hk, hkp, hi3⟩ | ⟨rfl, hk, hkp, hi3⟩)
    · have hl3 := hk.ctl _ _ hl2 rfl
      have hd3 := hk.ctl _ _ hd2 rfl
      exact ⟨_, _, run_endRound (P := P) none hl3, .inl ⟨rfl, ⟨hI _ _ _ hi3 (Turn.put _ hl3 rfl (by omega)), World.putObj_heap_same (Array.getElem?_eq_some_iff.1 hl3).1, (World.putObj_heap_other (by omega)).trans hd3⟩,
        hKt _ _ _ hkA (hKt _ _ _ (hKt _ _ _ (hKb _ _ _ (by omega)) hkp) (hKb _ _ _ (by omega)))⟩⟩
    · have hl3 := hk.ctl _ _ hl2 rfl
      have hd3 := hk.ctl _ _ hd2 rfl
      exact ⟨_, _, run_endRound (P := P) (some .ret) hl3, .inr ⟨rfl, ⟨hIx _ _ _ hi3 (Turn.put _ hl3 rfl (by omega)), World.putObj_heap_same (Array.getElem?_eq_some_iff.1 hl3).1, (World.putObj_heap_other (by omega)).trans hd3⟩,
        hKt _ _ _ hkA (hKt _ _ _ (hKt _ _ _ (hKb _ _ _ (by omega)) hkp) (hKb _ _ _ (by omega)))⟩⟩
  · rintro e B ⟨⟨v, rfl⟩, (⟨hi, hl, hd⟩ | ⟨k, hi, hl, hd⟩)⟩
    · exact ⟨none, _, run_endLoop (P := P) hl (by simp [rc]), hdone _ _ (Nat.le_refl _) (hI _ _ _ hi (Turn.put _ hl rfl (by omega))) ((World.putObj_heap_other (by omega)).trans hd)⟩
    · exact ⟨some .ret, _, run_endLoop (P := P) hl (by simp [rc]), hstop _ k _ (Nat.le_refl _) (hIx _ _ _ hi (Turn.put _ hl rfl (by omega))) ((World.putObj_heap_other (by omega)).trans hd)⟩
end Go.Proofs.Ytbclhaleibjkgaa
namespace Go.Proofs.Ytbclhaleibjkgaa
open Go Go.RowKit

section
variable {P : Program} {md : Region.Mode} {ops : Array Oper} {Q : Exit → Act → World → Prop} {S : World → Prop} {n : Nat}
theorem yields_wpOpW {i : Nat} {o : Oper} {v : Value} {a : Act} (hi : ops[i]? = some o) (hy : YieldsIf P ops S o v a) {K : Act → World → Prop} {w : World} (hS : S w) (h : K (a.put o.dst v) w) : wpOpIn Fence.wide n P ops Q i K a w := by
  unfold wpOpIn
  simp only [hi]
  rcases hy with ⟨hw, hv⟩ | ⟨hw, rfl⟩
  · simp only [hw, if_true, Oper.wpIn]
    refine ⟨fun _ _ => trivial, ?_⟩
    rw [show Fence.wide.round = none from rfl, Oper.semAt_none, hv w hS]
    exact h
  · simp only [hw, Bool.false_eq_true, if_false]
    exact ⟨fun _ _ => trivial, h⟩
theorem wpOpW_putIf {j : Nat} {oi oj : Oper} {v : Value} (hj : ops[j]? = some oj) (hap : oi.apart ops oj = true)
    (hsi : ∀ cs b, oi.op ≠ .select cs b) (hsj : ∀ cs b, oj.op ≠ .select cs b)
    (hQ : ∀ c a w, Q (.panic c) (a.put oi.dst v) w → Q (.panic c) a w) {K : Act → World → Prop} {a : Act} {w : World}
    (hy : YieldsIf P ops S oi v a) (h : wpOpIn Fence.wide n P ops Q j K (a.put oi.dst v) w) :
    wpOpIn Fence.wide n P ops Q j (fun a' w' => YieldsIf P ops S oi v a' ∧ K (a'.put oi.dst v) w') a w := by
  obtain ⟨h1, h2, h3⟩ := Oper.apart_spec hap
  have keep : ∀ (a : Act), YieldsIf P ops S oi v a → ∀ u, YieldsIf P ops S oi v (a.put oj.dst u) := fun a hy u =>
    hy.of_same (execOp_put oi hsi a oj.dst u h3) (wanted_put oi a oj.dst u h3)
  have keepD : ∀ d, YieldsIf P ops S oi v { a with defers := d :: a.defers } := fun d => hy.of_same rfl rfl
  unfold wpOpIn at *
  simp only [hj] at *
  rw [wanted_put oj a oi.dst v h1] at h
  split
  · rename_i hw
    simp only [hw, if_true] at h
    unfold Oper.wpIn at *
    refine ⟨fun _ _ => trivial, ?_⟩
    have h := h.2
    rw [show Fence.wide.round = none from rfl, Oper.semAt_none, execOp_put oj hsj a oi.dst v h1] at h
    rw [show Fence.wide.round = none from rfl, Oper.semAt_none]
    generalize (execOp a.eval oj).run P w = r at *
    cases r with
    | ok x w' =>
      cases x <;> simp only [Oper.uponIn] at h ⊢
      case value u => exact ⟨keep a hy u, by rw [← Act.put_comm a v u h2]; exact h⟩
      case skip => exact ⟨keep a hy _, by rw [← Act.put_comm a v undef h2]; exact h⟩
      case defer d =>
        refine ⟨keep _ (keepD d) _, ?_⟩
        rw [← Act.put_comm _ v undef h2, ← Act.put_defers]
        exact h
      case enter f args =>
        refine ⟨h.1, CallsIn.mono h.2 fun e w'' he => ?_⟩
        cases e with
        | returned u => exact ⟨keep a hy u, by rw [← Act.put_comm a v u h2]; exact he⟩
        | panicked c => exact hQ _ _ _ he
        | outgrown => exact he
      case row row args => exact ⟨h.1, RowsIn.mono h.2 fun u w'' he => ⟨keep a hy u, by rw [← Act.put_comm a v u h2]; exact he⟩⟩
      case round l f tmps assign body =>
        refine ⟨h.1, RoundIn.mono h.2 fun e w'' he => ?_⟩
        cases e with
        | returned u => exact ⟨keep a hy u, by rw [← Act.put_comm a v u h2]; exact he⟩
        | panicked c => exact hQ _ _ _ he
        | outgrown => exact he
    | halt x w' =>
      cases x <;> simp only [Oper.uponIn] at h ⊢
      case panic u => exact hQ _ _ _ h
  · rename_i hw
    simp only [hw] at h
    exact ⟨fun _ _ => trivial, keep a hy _, by rw [← Act.put_comm a v undef h2]; exact h.2⟩
/-- whatever order is picked from here on; S holds behind every operation -/
def wpAnyW (n : Nat) (P : Program) (ops : Array Oper) (Q : Exit → Act → World → Prop) (S : World → Prop) : Nat → Array Bool → Act → World → Prop
  | 0, l, a, w => Region.ready .any ops l = [] ∧ Q .normal a w
  | f + 1, l, a, w => (Region.ready .any ops l = [] → Q .normal a w) ∧ ∀ i ∈ Region.ready .any ops l, wpOpIn Fence.wide n P ops Q i (fun a' w' => S w' ∧ wpAnyW n P ops Q S f (l.setIfInBounds i true) a' w') a w
theorem wpAnyIn_of_W : ∀ (f : Nat) (l : Array Bool) (a : Act) (w : World), wpAnyW n P ops Q S f l a w → wpAnyIn Fence.wide n P .any ops Q f l a w
  | 0, _, _, _, h => h
  | f + 1, _, _, _, h => ⟨h.1, fun i hi => wpOpIn_mono (fun a' w' h' => wpAnyIn_of_W f _ a' w' h'.2) (h.2 i hi)⟩
theorem wpAnyW_first {i : Nat} {o : Oper} {v : Value} (hi : ops[i]? = some o) (hs : Region.noSelect ops = true)
    (hQ : ∀ c a w, Q (.panic c) (a.put o.dst v) w → Q (.panic c) a w) : ∀ (f : Nat) (l : Array Bool) (a : Act) (w : World),
      (∀ j oj, ops[j]? = some oj → j ≠ i → l.getD j true = false → (∀ e ∈ oj.after, Region.binds .any e = true → e.on ≠ i) → o.apart ops oj = true) →
      i ∈ Region.ready .any ops l → YieldsIf P ops S o v a → S w → wpAnyW n P ops Q S f (l.setIfInBounds i true) (a.put o.dst v) w → wpAnyW n P ops Q S (f + 1) l a w := by
  have hsel := Region.noSelect_spec hs
  intro f
  induction f with
  | zero =>
    intro l a w _ hr hy hS H
    refine ⟨fun h => (by rw [h] at hr; cases hr), fun j hj => ?_⟩
    by_cases e : j = i
    · subst e; exact yields_wpOpW hi hy hS ⟨hS, H⟩
    · have := ready_mono hj e
      rw [H.1] at this
      cases this
  | succ f ih =>
    intro l a w hf hr hy hS H
    refine ⟨fun h => (by rw [h] at hr; cases hr), fun j hj => ?_⟩
    by_cases e : j = i
    · subst e; exact yields_wpOpW hi hy hS ⟨hS, H⟩
    · obtain ⟨hju, oj, hoj, hall⟩ := mem_ready.1 hj
      have hi0 := (mem_ready.1 hr).1
      have hnot : ∀ x ∈ oj.after, Region.binds .any x = true → x.on ≠ i := fun x hx hb h => by
        have := hall x hx hb
        rw [h, unlisted hi0] at this
        cases this
      have h2 := wpOpW_putIf hoj (hf j oj hoj e hju hnot) (fun cs b => hsel i o cs b hi) (fun cs b => hsel j oj cs b hoj) hQ hy (H.2 j (ready_mono hj e))
      refine wpOpIn_mono (fun a' w' k => ⟨k.2.1, ih _ a' w' (fun x ox hx hxi hu hno => hf x ox hx hxi ?_ hno) (ready_mono hr (Ne.symm e)) k.1 k.2.1 ?_⟩) h2
      · by_cases hjx : j = x
        · subst hjx; exact hju
        · rw [getD_set_ne true hjx] at hu; exact hu
      · rw [Array.setIfInBounds_comm _ _ e]
        exact k.2.2
/-- the region's beginning; an operation taken; the one that comes up; the end -/
theorem region_W {id : Nat} {a : Act} {w : World} (S : World → Prop) (hS : S w.drew) (h : S w.drew → wpAnyW n P ops Q S ops.size (Array.replicate ops.size false) a w.drew) (hm : P.follows .mixedOrders = true := by kernel_rfl) : (Code.region id ops true).wpIn Fence.wide n P Q a w :=
  wpIn_region_any hm (wpAnyIn_of_W _ _ _ _ (h hS))
theorem tkW {o : Oper} {f : Nat} {l : Array Bool} {a : Act} {w : World} (d : Tmp) (i : Nat) (v : Value) (hi : ops[i]? = some o) (hy : YieldsIf P ops S o v a) (hS : S w)
    (h : wpAnyW n P ops Q S f (l.setIfInBounds i true) (a.put (some d) v) w) (hs : Region.noSelect ops = true := by kernel_rfl) (hf : Region.free .any ops l i = true := by kernel_rfl) (hr : (Region.ready .any ops l).contains i = true := by kernel_rfl)
    (hQ : ∀ c a w, Q (.panic c) (a.put o.dst v) w → Q (.panic c) a w := by exact fun _ _ _ h => h) (hd : o.dst = some d := by rfl) : wpAnyW n P ops Q S (f + 1) l a w :=
  wpAnyW_first hi hs hQ f l a w (Region.free_spec hi hf) (by simpa using hr) hy hS (by rw [hd]; exact h)
theorem oneW {f : Nat} {l : Array Bool} {a : Act} {w : World} {o : Oper} (i : Nat) (ho : ops[i]? = some o) (hw : Region.wanted o (yielded ops a.tmps) = true)
    (h : ∀ K' : Act → World → Prop, Shut (∀ a w, S w → (S w → wpAnyW n P ops Q S f (l.setIfInBounds i true) a w) → K' a w) → o.wpIn Fence.wide n P a w K' Q) (hr : Region.ready .any ops l = [i] := by kernel_rfl) : wpAnyW n P ops Q S (f + 1) l a w :=
  ⟨fun h0 => absurd (hr ▸ h0) (by simp), fun j hj => by
    rw [hr] at hj
    have : j = i := by simpa using hj
    subst this
    unfold wpOpIn
    simp only [ho, hw, if_true]
    exact h _ (fun a w hS hW => ⟨hS, hW hS⟩)⟩
theorem doneW {f : Nat} {l : Array Bool} {a : Act} {w : World} (hr : Region.ready .any ops l = []) (h : Q .normal a w) : wpAnyW n P ops Q S f l a w := by
  cases f with
  | zero => exact ⟨hr, h⟩
  | succ f => exact ⟨fun _ => h, by rw [hr]; simp⟩
end
end Go.Proofs.Ytbclhaleibjkgaa
