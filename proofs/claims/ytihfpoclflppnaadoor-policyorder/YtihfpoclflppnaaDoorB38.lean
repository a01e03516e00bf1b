/- What the frame tells of the parameters of policy's statements. · The wrap of the statements: what is laid and the world's shape. · What the document's Action answers. -/
import Derived.Test.YtihfpoclflppnaaDoorB37
import Derived.Test.YtihfpoclflppnaaDoorR8h
import Derived.Test.YtihfpoclflppnaaDoorB0
import Derived.Stop.LaidErr
import Derived.Shelf.Vars
import Derived.Lib.LaidTab
import Derived.MakeChecks
import Derived.SizedLaws
import Derived.Test.YtihfpoclflppnaaDoorB5
import Derived.Test.YtihfpoclflppnaaDoorBlk
import Derived.Test.YtihfpoclflppnaaDoorB9
namespace Go.Proofs.YtihfpoclflppnaaDoor
open Go.ChangeShapes Go.WideShapes

set_option maxRecDepth 100000 in
theorem rules_len {H : Type} {enc : TypeId × Value → H} {W : World} {fuel : Nat} {a : Option Addr} {len cap : Nat} {x : DataW H × List MemPlace} (h : DataW.trod enc Tryd.prog W 0 (fun _ => true) true fuel 22 [.slice a len cap] = some x)
    (N : Nat) (hN : ∀ n ∈ x.1.weights Tryd.prog 22, n ≤ N) : len ≤ N := by
  rcases Deep.open_slice Tryd.underlying22 h with ⟨hcs, _⟩ | ⟨ad, l, c, m, n, D, Pl, hcs, _, hl, hm, hmm, hx, hel⟩
  · simp only [List.cons.injEq, and_true, Value.slice.injEq] at hcs
    obtain ⟨rfl, rfl, rfl⟩ := hcs
    exact Nat.zero_le _
  · simp only [List.cons.injEq, and_true, Value.slice.injEq] at hcs
    obtain ⟨rfl, rfl, rfl⟩ := hcs
    have hb : Tryd.prog.bytesOf 38 = 56 := by kernel_rfl
    rw [hx] at hN
    simp only [DataW.weights, Tryd.underlying22, hb] at hN
    have := hN _ (List.mem_cons_self ..)
    simp only [List.length_map, List.length_range] at this
    omega
set_option maxRecDepth 100000 in
/-- rules that came in -/
theorem open_rs8 {H : Type} {enc : TypeId × Value → H} {W : World} {r : Reach} {b0 : Nat} {v : Value} {d : DataW H} {pl : List MemPlace} (hv : Value.okWide Tryd.prog W r b0 22 v) (h : DataW.Trod enc Tryd.prog W 0 (fun _ => true) true 22 v d pl)
    (hN : ∀ n ∈ d.weights Tryd.prog 22, n ≤ 140737488351232) :
    ∃ a n cap l, v = .slice a n cap ∧ IsRs W a n cap l ∧ ReachR l ∧ n ≤ 140737488351232 := by
  obtain ⟨a, n, cap, rfl⟩ := okWide_slice Tryd.underlying22 hv
  obtain ⟨fuel, hf⟩ := h
  obtain ⟨rs, hR, hw⟩ := open_rules hf
  exact ⟨a, n, cap, rs, rfl, hR, fun i hi => ⟨hN _ (hw i hi).1, hN _ (hw i hi).2.1, hN _ (hw i hi).2.2⟩, rules_len hf _ hN⟩
set_option maxRecDepth 100000 in
/-- one rule that came in -/
theorem open_ru8 {H : Type} {enc : TypeId × Value → H} {W : World} {r : Reach} {b0 : Nat} {v : Value} {d : DataW H} {pl : List MemPlace} (hv : Value.okWide Tryd.prog W r b0 38 v) (h : DataW.Trod enc Tryd.prog W 0 (fun _ => true) true 38 v d pl)
    (hN : ∀ n ∈ d.weights Tryd.prog 38, n ≤ 140737488351232) :
    ∃ u : Ru, v = .agg #[.bool u.deny, .string (str u.who), .string (str u.act), .string (str u.res)] ∧ u.who.length ≤ 140737488351232 ∧ u.act.length ≤ 140737488351232 ∧ u.res.length ≤ 140737488351232 := by
  obtain ⟨cs, rfl, hsz⟩ := okWide_struct Tryd.underlying38 hv
  obtain ⟨fuel, hf⟩ := h
  obtain ⟨u, e, h1, h2, h3⟩ := open_rule hf
  refine ⟨u, ?_, hN _ h1, hN _ h2, hN _ h3⟩
  have e2 : cs.toList = ruc u := e
  have : cs = (ruc u).toArray := by rw [← e2]
  rw [this]; rfl
set_option maxRecDepth 100000 in
/-- who wants to do what -/
theorem open_ask8 {H : Type} {enc : TypeId × Value → H} {W : World} {r : Reach} {b0 : Nat} {v : Value} {d : DataW H} {pl : List MemPlace} (hv : Value.okWide Tryd.prog W r b0 48 v) (h : DataW.Trod enc Tryd.prog W 0 (fun _ => true) true 48 v d pl)
    (hN : ∀ n ∈ d.weights Tryd.prog 48, n ≤ 140737488351232) :
    ∃ p q s : List UInt8, v = .agg #[.string (str p), .string (str q), .string (str s)] ∧ p.length ≤ 140737488351232 ∧ q.length ≤ 140737488351232 ∧ s.length ≤ 140737488351232 := by
  obtain ⟨cs, rfl, hsz⟩ := okWide_struct Tryd.underlying48 hv
  have hC : Tryd.prog.cellsOf 48 = 3 := by kernel_rfl
  rw [hC] at hsz
  obtain ⟨fuel, hf⟩ := h
  obtain ⟨xs, k, hk, hxy, hcl, hxl, hfl⟩ := DataW.trod_struct Tryd.underlying48 hf
  have e0 : ∃ c0 c1 c2, cs = #[c0, c1, c2] := by
    obtain ⟨l⟩ := cs
    match l, hsz with
    | [c0, c1, c2], _ => exact ⟨c0, c1, c2, rfl⟩
  obtain ⟨c0, c1, c2, rfl⟩ := e0
  have e1 : ∃ y0 y1 y2, xs = [y0, y1, y2] := by
    match xs, hxl with
    | [y0, y1, y2], _ => exact ⟨y0, y1, y2, rfl⟩
  obtain ⟨y0, y1, y2, rfl⟩ := e1
  have c9 : Tryd.prog.cellsOf 9 = 1 := by kernel_rfl
  have g0 := hfl 0 _ rfl
  have g1 := hfl 1 _ rfl
  have g2 := hfl 2 _ rfl
  simp [c9, Value.cells] at g0 g1 g2
  obtain ⟨s0, q0, x0, _⟩ := DataW.trod_string Tryd.underlying9 g0
  obtain ⟨s1, q1, x1, _⟩ := DataW.trod_string Tryd.underlying9 g1
  obtain ⟨s2, q2, x2, _⟩ := DataW.trod_string Tryd.underlying9 g2
  simp only [List.cons.injEq, and_true] at q0 q1 q2
  subst q0 q1 q2
  have hd : d = .agg [y0.1, y1.1, y2.1] := by have := (Prod.mk.inj hxy).1; simpa using this
  refine ⟨s0.data.toList, s1.data.toList, s2.data.toList, by rw [str_of, str_of, str_of], ?_, ?_, ?_⟩
  · refine hN _ ?_
    rw [hd, x0, x1, x2]
    simp [DataW.weights, Tryd.underlying48, DataW.weightsEach]
  · refine hN _ ?_
    rw [hd, x0, x1, x2]
    simp [DataW.weights, Tryd.underlying48, DataW.weightsEach]
  · refine hN _ ?_
    rw [hd, x0, x1, x2]
    simp [DataW.weights, Tryd.underlying48, DataW.weightsEach]
end Go.Proofs.YtihfpoclflppnaaDoor
namespace Go.Proofs.YtihfpoclflppnaaDoor
open Go.RowKit

/-- the wrap that hands on both what is laid and the world's shape -/
theorem returns_laid {H : Type} {enc : TypeId × Value → H} {a : Assume} {C : Checked} {os : Os} {f : FuncId} {fn : Func} {s : ChangeSpec} {conds : List PathCond} {apart fresh handsOn again : Bool} {X : World → Array Value → Prop}
    (hX : ∀ (w w' : World) (args : Array Value), w.heap = w'.heap → X w args → X w' args)
    (own : ownKnob C.prog.godebug = none) (started : os.Started) (noInit : C.prog.inits.idxOf? f = none) (hfn : C.prog.funcs[f]? = some fn)
    (witness : ∃ (w : World) (tape : Tape) (i : Input), w.os = os ∧ (w.forCall tape i).Shaped C.prog ∧ i.vars = [] ∧ Input.okWide C.prog (w.forCall tape i) .any w.heap.size f i ∧
      ((s.pre enc C.prog fn conds apart (w.forCall tape i).memory i.args ∧ X (w.forCall tape i).memory i.args) ∧ sizedMet enc C.prog fn (OpenSpec.ofChange s) apart (w.forCall tape i).memory i.args) ∧ a.holds C.prog (lone (Frame.enter C.prog f i.args .normal) [] (w.forCall tape i)))
    (contract : ∀ (W : World) (base : Nat) (args : Array Value) (ds gs : List (DataW H)) (before : List MemPlace),
      (∀ (j : Nat) t v, fn.params[j]? = some t → args[j]? = some v → Value.okWide C.prog W .any base t v) →
      DataW.Whole enc C.prog fn.params.toList s.vars apart W args.toList ds gs before →
      conds.all (PathCond.test C.prog ⟨fn.params.toList, ds, s.plain.varTypes C.prog, gs⟩) = true →
      (DataW.weightsEach C.prog (fn.params.toList ++ s.plain.varTypes C.prog) (ds ++ gs)).all (· ≤ reachBytes) = true → X W args → W.ShapedOpen C.prog →
      a.holds C.prog (lone (Frame.enter C.prog f args .normal) [] W) →
      Calls C.prog f args W fun e W' => ∃ v, e = .returned v ∧ s.post enc C.prog fn apart fresh handsOn again W args v W') :
    ReturnsInHanded a C os f .any (fun w args => (s.pre enc C.prog fn conds apart w args ∧ X w args) ∧ sizedMet enc C.prog fn (OpenSpec.ofChange s) apart w args) (s.post enc C.prog fn apart fresh handsOn again) := by
  refine returnsInHanded_of_calls own started noInit witness ?_
  intro w tape i _ hsh _ hok hpre hholds
  obtain ⟨_, _, _, fn', hfn', _, _, _, _, hval⟩ := hok
  have e : fn' = fn := Option.some.inj (hfn'.symm.trans hfn)
  subst e
  obtain ⟨⟨⟨ds, gs, before, hw, hc⟩, hx⟩, hz⟩ := hpre
  have hw' := DataW.Whole.of_heap (w' := w.forCall tape i) (by rfl) hw
  refine (contract (w.forCall tape i) w.heap.size i.args ds gs before hval hw' hc (hz.weights hw) (hX _ _ _ (by rfl) hx) hsh hholds).mono fun e W' ⟨v, he, hp⟩ => ?_
  subst he
  exact ChangeSpec.post_blind hp
end Go.Proofs.YtihfpoclflppnaaDoor
namespace Go.Proofs.YtihfpoclflppnaaDoor
open Go.RowKit

/-- the actions, by their kinds -/
def acts : List (List UInt8) := [[98, 121, 112, 97, 115, 115], [109, 97, 107, 101, 45, 98, 117, 99, 107, 101, 116], [100, 114, 111, 112, 45, 98, 117, 99, 107, 101, 116], [118, 101, 114, 115, 105, 111, 110, 105, 110, 103], [100, 101, 102, 97, 117, 108, 116], [112, 111, 108, 105, 99, 121], [108, 105, 102, 101, 99, 121, 99, 108, 101], [112, 117, 116], [103, 101, 116], [100, 101, 108, 101, 116, 101], [114, 101, 116, 97, 105, 110], [104, 111, 108, 100], [108, 105, 115, 116], [98, 101, 103, 105, 110], [112, 97, 114, 116], [99, 111, 109, 112, 108, 101, 116, 101], [97, 98, 111, 114, 116], [115, 119, 101, 101, 112], [108, 105, 115, 116, 45, 98, 117, 99, 107, 101, 116, 115], [97, 117, 100, 105, 116]]
theorem acts_length : acts.length = 20 := rfl
def actL (z : Int) : List UInt8 := if 0 ≤ z ∧ z < 20 then nthT acts z.toNat else []
theorem actL_at (k : Nat) (h : k < 20) : actL (k : Int) = nthT acts k := by
  unfold actL; rw [if_pos ⟨by omega, by omega⟩, Int.toNat_natCast]
theorem actL_no (z : Int) (h : ¬ (0 ≤ z ∧ z < 20)) : actL z = [] := by unfold actL; rw [if_neg h]
theorem ret_ac {a b : List UInt8} (h : a = b) : Ending.returned (.string (str a)) = .returned (.string (str b)) := by rw [h]

set_option maxRecDepth 20000 in
set_option maxHeartbeats 4000000 in
theorem refAction8 (z : Int) (w : World) (hlo : -9223372036854775808 ≤ z) (hhi : z ≤ 9223372036854775807) :
    Calls Tryd.prog 17 #[.int .i64 z] w fun e w' => e = .returned (.string (str (actL z))) ∧ Below w.heap.size w w' := by
  by_cases hz : 0 ≤ z ∧ z < 20
  · obtain ⟨k, rfl⟩ : ∃ k : Nat, z = (k : Int) := ⟨z.toNat, by omega⟩
    have hk : k < 20 := by omega
    have h20 : (k : Int) < 20 := by omega
    have HA : Hid (actL (k : Int) = nthT acts k) := actL_at k hk
    have HV : Hid ((acts.map sv)[k]'(by rw [List.length_map, acts_length]; exact hk) = .string (str (nthT acts k))) := by
      unfold Hid; rw [List.getElem_map, nthT_eq acts k hk]; rfl
    clear hz hlo hhi
    go_enter Tryd.func17, Tryd.ntmps17
    go_wp2
    go_ret
    exact ⟨by rw [HA.out]; exact congrArg Ending.returned HV.out, (Below.refl _ _).alloc (Nat.le_refl _) _⟩
  · have HA : Hid (actL z = []) := actL_no z hz
    by_cases h0 : z < 0
    · clear hz
      go_enter Tryd.func17, Tryd.ntmps17
      go_wp2
      go_ret
      exact ⟨ret_ac (a := []) HA.out.symm, (Below.refl _ _).alloc (Nat.le_refl _) _⟩
    · have h20 : 20 ≤ z := by omega
      clear hz
      go_enter Tryd.func17, Tryd.ntmps17
      go_wp2
      go_ret
      exact ⟨ret_ac (a := []) HA.out.symm, (Below.refl _ _).alloc (Nat.le_refl _) _⟩
end Go.Proofs.YtihfpoclflppnaaDoor
