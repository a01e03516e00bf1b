/- What the world's shape says of the variable that the library's search reads; the wrap of the statements. · What the bound of the second form gives: lengths. · What the frame tells of headers and of a request that came in, and how long its texts may be. · What the document's days and Civil answer. · What the document's Day answers. · What the document's Pad answers: a number by so many digits. -/
import Derived.Test.YtgjmaeodgcigdaaGreatDoorB30
import Derived.Test.YtgjmaeodgcigdaaGreatDoorRows
import Derived.Stop.LaidErr
import Derived.Shelf.Vars
import Derived.Lib.LaidTab
import Derived.MakeChecks
import Derived.SizedLaws
import Derived.Test.YtgjmaeodgcigdaaGreatDoorB0
import Derived.ProofKit
import Derived.Test.YtgjmaeodgcigdaaGreatDoorB2
import Derived.Deep.SlicePairs
import Derived.Lib.SmallJoins
import Derived.Test.YtgjmaeodgcigdaaGreatDoorB24
import Derived.OwnWalk
import Derived.Laws.IdiomStrings
namespace Go.Proofs.YtgjmaeodgcigdaaGreatDoor
open Go.RowKit

abbrev laidS6 : List (String × DataW Unit) := [("unicode/utf8.acceptRanges", Rows.laid_unicode_utf8_acceptRanges), ("unicode/utf8.first", Rows.laid_unicode_utf8_first)]
theorem mx_of {W : World} (hsh : W.ShapedOpen Tryz.prog) : MxS W := cell_of_shapedOpen_int hsh (zero := #[.int .i64 0]) (of_decide_eq_true (by kernel_rfl)) (by kernel_rfl) rfl (by kernel_rfl) (by kernel_rfl) Tryz.underlying3

/-- the wrap that hands on both what is laid and the world's shape -/
theorem returns_laid {H : Type} {enc : TypeId × Value → H} {a : Assume} {C : Checked} {os : Os} {f : FuncId} {fn : Func} {s : ChangeSpec} {conds : List PathCond} {apart fresh handsOn again : Bool} {X : World → Array Value → Prop}
    (hX : ∀ (w w' : World) (args : Array Value), w.heap = w'.heap → X w args → X w' args)
    (own : ownKnob C.prog.godebug = none) (started : os.Started) (noInit : C.prog.inits.idxOf? f = none) (hfn : C.prog.funcs[f]? = some fn)
    (witness : ∃ (w : World) (tape : Tape) (i : Input), w.os = os ∧ (w.forCall tape i).Shaped C.prog ∧ i.vars = [] ∧ Input.okWide C.prog (w.forCall tape i) .any w.heap.size f i ∧
      ((s.pre enc C.prog fn conds apart (w.forCall tape i).memory i.args ∧ X (w.forCall tape i).memory i.args) ∧ sizedMet enc C.prog fn (OpenSpec.ofChange s) apart (w.forCall tape i).memory i.args) ∧ a.holds C.prog (lone (Frame.enter C.prog f i.args .normal) [] (w.forCall tape i)))
    (contract : ∀ (W : World) (base : Nat) (args : Array Value) (ds gs : List (DataW H)) (before : List MemPlace),
      (∀ (j : Nat) t v, fn.params[j]? = some t → args[j]? = some v → Value.okWide C.prog W .any base t v) →
      DataW.Whole enc C.prog fn.params.toList s.vars apart W args.toList ds gs before →
      conds.all (PathCond.test C.prog ⟨fn.params.toList, ds, s.plain.varTypes C.prog, gs⟩) = true →
      (DataW.weightsEach C.prog (fn.params.toList ++ s.plain.varTypes C.prog) (ds ++ gs)).all (· ≤ reachBytes) = true → X W args → W.ShapedOpen C.prog →
      a.holds C.prog (lone (Frame.enter C.prog f args .normal) [] W) →
      Calls C.prog f args W fun e W' => ∃ v, e = .returned v ∧ s.post enc C.prog fn apart fresh handsOn again W args v W') :
    ReturnsInHanded a C os f .any (fun w args => (s.pre enc C.prog fn conds apart w args ∧ X w args) ∧ sizedMet enc C.prog fn (OpenSpec.ofChange s) apart w args) (s.post enc C.prog fn apart fresh handsOn again) := by
  refine returnsInHanded_of_calls own started noInit witness ?_
  intro w tape i _ hsh _ hok hpre hholds
  obtain ⟨_, _, _, fn', hfn', _, _, _, _, hval⟩ := hok
  have e : fn' = fn := Option.some.inj (hfn'.symm.trans hfn)
  subst e
  obtain ⟨⟨⟨ds, gs, before, hw, hc⟩, hx⟩, hz⟩ := hpre
  have hw' := DataW.Whole.of_heap (w' := w.forCall tape i) (by rfl) hw
  refine (contract (w.forCall tape i) w.heap.size i.args ds gs before hval hw' hc (hz.weights hw) (hX _ _ _ (by rfl) hx) hsh hholds).mono fun e W' ⟨v, he, hp⟩ => ?_
  subst he
  exact ChangeSpec.post_blind hp
end Go.Proofs.YtgjmaeodgcigdaaGreatDoor
namespace Go.Proofs.YtgjmaeodgcigdaaGreatDoor
open Go.ChangeShapes

theorem bulk_pos {H : Type} (d : DataW H) : 1 ≤ Rows.uptoBulk d := by
  cases d with
  | lit l => cases l <;> simp only [Rows.uptoBulk] <;> omega
  | nil => simp only [Rows.uptoBulk]; omega
  | ptr d => simp only [Rows.uptoBulk]; omega
  | slice es sp => simp only [Rows.uptoBulk]; omega
  | agg ps => simp only [Rows.uptoBulk]; omega
  | iface t d => simp only [Rows.uptoBulk]; omega
  | map es => simp only [Rows.uptoBulk]; omega
  | held h => simp only [Rows.uptoBulk]; omega

theorem bulk_count {H : Type} : ∀ l : List (DataW H), l.length ≤ Rows.uptoBulkAll l
  | [] => Nat.zero_le _
  | d :: l => by
    have h1 := bulk_pos d
    have h2 := bulk_count l
    simp only [Rows.uptoBulkAll, List.length_cons]; omega

theorem bulk_slice {H : Type} (es sp : List (DataW H)) : es.length ≤ Rows.uptoBulk (.slice es sp) := by
  have := bulk_count es
  simp only [Rows.uptoBulk]; omega

theorem bulk_string {H : Type} (s : ByteArray) : s.size ≤ Rows.uptoBulk (DataW.lit (H := H) (.string s.data.toList)) := by
  have e : s.data.toList.length = s.size := by rw [Array.length_toList]; rfl
  simp only [Rows.uptoBulk]; omega

theorem bulk_all {H : Type} {l : List (DataW H)} (hk : Rows.uptoSmall H l = true) : Rows.uptoBulkAll l ≤ 1048576 := of_decide_eq_true hk
end Go.Proofs.YtgjmaeodgcigdaaGreatDoor
namespace Go.Proofs.YtgjmaeodgcigdaaGreatDoor
open Go.ChangeShapes Go.WideShapes

theorem weights_all {H : Type} {P : Program} {e : TypeId} {d : DataW H} : ∀ {l : List (DataW H)}, d ∈ l → ∀ n ∈ d.weights P e, n ∈ DataW.weightsAll P e l
  | [], h, _, _ => by cases h
  | x :: l, h, n, hn => by
    simp only [DataW.weightsAll, List.mem_append]
    rcases List.mem_cons.1 h with rfl | h
    · exact .inl hn
    · exact .inr (weights_all h n hn)
theorem bulk_mem {H : Type} {d : DataW H} : ∀ {l : List (DataW H)}, d ∈ l → Rows.uptoBulk d ≤ Rows.uptoBulkAll l
  | [], h => by cases h
  | x :: l, h => by
    simp only [Rows.uptoBulkAll]
    rcases List.mem_cons.1 h with rfl | h
    · omega
    · have := bulk_mem h
      omega
theorem cellsH2 : Tryz.prog.cellsOf 67 = 2 := by kernel_rfl
theorem cellsS1 : Tryz.prog.cellsOf 9 = 1 := by kernel_rfl
theorem bytesH : Tryz.prog.bytesOf 67 = 32 := by kernel_rfl
theorem bytesU : Tryz.prog.bytesOf 5 = 1 := by kernel_rfl

set_option maxRecDepth 100000 in
theorem open_hdr {H : Type} {enc : TypeId × Value → H} {W : World} {n : Nat} {cs : List Value} {d : DataW H} {pl : List MemPlace} (h : DataW.trod enc Tryz.prog W 0 (fun _ => true) true n 67 cs = some (d, pl)) :
    ∃ p : Pr, cs = [.string (str p.1), .string (str p.2)] ∧ (p.1.length ∈ d.weights Tryz.prog 67 ∧ p.2.length ∈ d.weights Tryz.prog 67) ∧ p.1.length ≤ Rows.uptoBulk d ∧ p.2.length ≤ Rows.uptoBulk d := by
  obtain ⟨xs, k, hk, hxy, hcl, hxl, hf⟩ := DataW.trod_struct Tryz.underlying67 h
  rw [cellsH2] at hcl
  match xs, hxl, cs, hcl with
  | [y0, y1], _, [v0, v1], _ =>
    have g0 := hf 0 _ rfl
    have g1 := hf 1 _ rfl
    simp [cellsS1] at g0 g1
    obtain ⟨s0, e0, x0, _⟩ := DataW.trod_string Tryz.underlying9 g0
    obtain ⟨s1, e1, x1, _⟩ := DataW.trod_string Tryz.underlying9 g1
    simp only [List.cons.injEq, and_true] at e0 e1
    subst e0 e1
    have hd : d = .agg [y0.1, y1.1] := by have := (Prod.mk.inj hxy).1; simpa using this
    refine ⟨(s0.data.toList, s1.data.toList), by rw [str_of, str_of], ⟨?_, ?_⟩, ?_, ?_⟩
    · rw [hd, x0, x1]
      simp [DataW.weights, Tryz.underlying67, DataW.weightsEach]
    · rw [hd, x0, x1]
      simp [DataW.weights, Tryz.underlying67, DataW.weightsEach]
    · rw [hd, x0, x1]; simp only [Rows.uptoBulk, Rows.uptoBulkAll]; omega
    · rw [hd, x0, x1]; simp only [Rows.uptoBulk, Rows.uptoBulkAll]; omega

set_option maxRecDepth 100000 in
theorem open_hdrs {H : Type} {enc : TypeId × Value → H} {W : World} {fuel : Nat} {a : Option Addr} {len cap : Nat} {x : DataW H × List MemPlace} (h : DataW.trod enc Tryz.prog W 0 (fun _ => true) true fuel 22 [.slice a len cap] = some x) :
    ∃ ps, IsP W a len cap ps ∧ (len = 0 ∨ ∃ k, len * 32 ≤ k ∧ k ∈ x.1.weights Tryz.prog 22) ∧ (∀ i, i < ps.length → (nthP ps i).1.length ∈ x.1.weights Tryz.prog 22 ∧ (nthP ps i).2.length ∈ x.1.weights Tryz.prog 22) ∧
      (∀ i, i < ps.length → (nthP ps i).1.length ≤ Rows.uptoBulk x.1 ∧ (nthP ps i).2.length ≤ Rows.uptoBulk x.1) := by
  rcases Deep.open_slice Tryz.underlying22 h with ⟨hcs, _⟩ | ⟨ad, l, c, m, n, D, Pl, hcs, _, hl, hm, hmm, hx, hel⟩
  · simp only [List.cons.injEq, and_true, Value.slice.injEq] at hcs
    obtain ⟨rfl, rfl, rfl⟩ := hcs
    exact ⟨[], ⟨rfl, Nat.le_refl _, Nat.zero_le _, fun _ => rfl, fun h => absurd h (Nat.lt_irrefl 0)⟩, .inl rfl, (fun i hi => absurd hi (Nat.not_lt_zero _)), fun i hi => absurd hi (Nat.not_lt_zero _)⟩
  · simp only [List.cons.injEq, and_true, Value.slice.injEq] at hcs
    obtain ⟨rfl, rfl, rfl⟩ := hcs
    have hmc : m = cap := by simpa using hmm
    subst hmc
    rw [cellsH2] at hel
    have each : ∀ i, i < len → ∃ q : Pr, W.cell? (ad.add (i * 2)) = some (.string (str q.1)) ∧ W.cell? (ad.add (i * 2 + 1)) = some (.string (str q.2)) ∧ (q.1.length ∈ x.1.weights Tryz.prog 22 ∧ q.2.length ∈ x.1.weights Tryz.prog 22) ∧ q.1.length ≤ Rows.uptoBulk x.1 ∧ q.2.length ≤ Rows.uptoBulk x.1 := by
      intro i hi
      obtain ⟨cs', h1, h2⟩ := hel i (by omega)
      obtain ⟨_, _, hcell⟩ := World.cells?_some h1
      obtain ⟨p, rfl, ⟨hb1, hb2⟩, hb3, hb4⟩ := open_hdr h2
      have e0 := hcell 0 (by omega)
      have e1 := hcell 1 (by omega)
      rw [Deep.add_add] at e0 e1
      have hmem : D i ∈ (List.range len).map D := List.mem_map.2 ⟨i, List.mem_range.2 hi, rfl⟩
      have hbk : Rows.uptoBulk (D i) ≤ Rows.uptoBulk x.1 := by
        have := bulk_mem hmem
        rw [hx]; simp only [Rows.uptoBulk]; omega
      refine ⟨p, by simpa using e0, by simpa using e1, ⟨?_, ?_⟩, by omega, by omega⟩
      · rw [hx]
        simp only [DataW.weights, Tryz.underlying22, List.mem_cons, List.mem_append]
        exact .inr (.inl (weights_all hmem _ hb1))
      · rw [hx]
        simp only [DataW.weights, Tryz.underlying22, List.mem_cons, List.mem_append]
        exact .inr (.inl (weights_all hmem _ hb2))
    haveI : Inhabited Pr := ⟨([], [])⟩
    obtain ⟨q, hq⟩ := Deep.choose_lt each
    have hn : ∀ i, i < len → nthP ((List.range len).map fun i => q i) i = q i := fun i hi => by
      rw [nthP_eq _ _ (by simpa using hi)]; simp
    refine ⟨(List.range len).map fun i => q i, ⟨by simp, hl, hm, fun e => (by cases e), fun hp => ?_⟩, .inr ?_, (fun i hi => ?_), fun i hi => ?_⟩
    · obtain ⟨b, off, spot⟩ := ad
      have hspot : spot = none := by simpa [Addr.add] using World.cell?_spot (hq 0 hp).1
      subst hspot
      refine ⟨b, off, rfl, fun i hi => ?_⟩
      obtain ⟨h0, h1, _⟩ := hq i hi
      rw [Addr.add_lit] at h0 h1
      rw [hn i hi, Nat.add_assoc]
      exact ⟨h0, h1⟩
    · rw [hx]
      simp only [DataW.weights, Tryz.underlying22, List.mem_cons, List.mem_append]
      exact ⟨_, by rw [bytesH, List.length_map, List.length_range]; exact Nat.mul_le_mul_right _ (Nat.le_add_right _ _), .inl rfl⟩
    · have hi' : i < len := by simpa using hi
      rw [hn i hi']
      exact (hq i hi').2.2.1
    · have hi' : i < len := by simpa using hi
      rw [hn i hi']
      exact (hq i hi').2.2.2
theorem open_bytes5 {H : Type} {enc : TypeId × Value → H} {W : World} {fuel : Nat} {cs : List Value} {x : DataW H × List MemPlace} (h : DataW.trod enc Tryz.prog W 0 (fun _ => true) true fuel 23 cs = some x) :
    ∃ a n cap l, cs = [.slice a n cap] ∧ IsB W a n cap l ∧ n ≤ Rows.uptoBulk x.1 ∧ (n = 0 ∨ ∃ k, n ≤ k ∧ k ∈ x.1.weights Tryz.prog 23) := by
  rcases open_ints Tryz.underlying23 Tryz.underlying5 (by kernel_rfl) h with ⟨hcs, _⟩ | ⟨y, l, c, zs, hcs, _, hl, hm, hz, hx, hcell, hwz⟩
  · exact ⟨none, 0, 0, [], hcs, isB_none W, Nat.zero_le _, .inl rfl⟩
  · have hz0 : zs.length = c := by simpa using hz
    have hrow : IsRow .u8 W (some y) l c zs := .inr ⟨_, rfl, hl, hm, hz0, hcell, hwz⟩
    obtain ⟨b, hb⟩ := hrow.bytes
    refine ⟨some y, l, c, b, hcs, hb, ?_, .inr ?_⟩
    · rw [hx]
      refine Nat.le_trans ?_ (bulk_slice _ _)
      simp only [lits, List.length_map, List.length_take]; omega
    · rw [hx]
      simp only [DataW.weights, Tryz.underlying23, List.mem_cons, List.mem_append]
      exact ⟨_, by rw [bytesU, Nat.mul_one]; simp only [lits, List.length_map, List.length_take]; omega, .inl rfl⟩

theorem w_str {H : Type} (P : Program) (t : TypeId) (s : ByteArray) : s.size ∈ (DataW.lit (H := H) (.string s.data.toList)).weights P t := by
  simp only [DataW.weights]
  rw [Array.length_toList]
  exact List.mem_singleton.2 rfl
/-- a request that came in -/
structure RqIn (W : World) (v : Value) (m p q : ByteArray) (ha : Option Addr) (hn hc : Nat) (hs : List Pr) (ba : Option Addr) (bn bc : Nat) (body : List UInt8) : Prop where
  val : v = .agg #[.string m, .string p, .string q, .slice ha hn hc, .slice ba bn bc]
  isP : IsP W ha hn hc hs
  isB : IsB W ba bn bc body

set_option maxRecDepth 100000 in
theorem open_rq {H : Type} {enc : TypeId × Value → H} {W : World} {r : Reach} {b0 : Nat} {v : Value} {d : DataW H} {pl : List MemPlace} (hv : Value.okWide Tryz.prog W r b0 25 v) (h : DataW.Trod enc Tryz.prog W 0 (fun _ => true) true 25 v d pl)
    (N : Nat) (hN : ∀ n ∈ d.weights Tryz.prog 25, n ≤ N) :
    ∃ m p q ha hn hc hs ba bn bc body, RqIn W v m p q ha hn hc hs ba bn bc body ∧ m.size ≤ N ∧ p.size ≤ N ∧ q.size ≤ N ∧ hn * 32 ≤ N ∧ bn ≤ N ∧ ∀ i, i < hs.length → (nthP hs i).1.length ≤ N ∧ (nthP hs i).2.length ≤ N := by
  obtain ⟨cs, rfl, hsz⟩ := okWide_struct Tryz.underlying25 hv
  have hC : Tryz.prog.cellsOf 25 = 5 := by kernel_rfl
  rw [hC] at hsz
  obtain ⟨fuel, hf⟩ := h
  obtain ⟨xs, k, hk, hxy, hcl, hxl, hfl⟩ := DataW.trod_struct Tryz.underlying25 hf
  have e0 : ∃ c0 c1 c2 c3 c4, cs = #[c0, c1, c2, c3, c4] := by
    obtain ⟨l⟩ := cs
    match l, hsz with
    | [c0, c1, c2, c3, c4], _ => exact ⟨c0, c1, c2, c3, c4, rfl⟩
  obtain ⟨c0, c1, c2, c3, c4, rfl⟩ := e0
  have e1 : ∃ y0 y1 y2 y3 y4, xs = [y0, y1, y2, y3, y4] := by
    match xs, hxl with
    | [y0, y1, y2, y3, y4], _ => exact ⟨y0, y1, y2, y3, y4, rfl⟩
  obtain ⟨y0, y1, y2, y3, y4, rfl⟩ := e1
  have cH : Tryz.prog.cellsOf 22 = 1 := by kernel_rfl
  have cB : Tryz.prog.cellsOf 23 = 1 := by kernel_rfl
  have g0 := hfl 0 _ rfl
  have g1 := hfl 1 _ rfl
  have g2 := hfl 2 _ rfl
  have g3 := hfl 3 _ rfl
  have g4 := hfl 4 _ rfl
  simp [cellsS1, cH, cB, Value.cells] at g0 g1 g2 g3 g4
  obtain ⟨s0, q0, x0, _⟩ := DataW.trod_string Tryz.underlying9 g0
  obtain ⟨s1, q1, x1, _⟩ := DataW.trod_string Tryz.underlying9 g1
  obtain ⟨s2, q2, x2, _⟩ := DataW.trod_string Tryz.underlying9 g2
  obtain ⟨a3, n3, k3, q3⟩ := Joins.slice_form Tryz.underlying22 g3
  obtain ⟨a4, n4, k4, b4, q4, hB4, _, w4⟩ := open_bytes5 g4
  simp only [List.cons.injEq, and_true] at q0 q1 q2 q3 q4
  subst q0 q1 q2 q3 q4
  obtain ⟨hs, hP, w3, w5, _⟩ := open_hdrs g3
  have hd : d = .agg [y0.1, y1.1, y2.1, y3.1, y4.1] := by have := (Prod.mk.inj hxy).1; simpa using this
  have hw : ∀ n, n ∈ y0.1.weights Tryz.prog 9 ∨ n ∈ y1.1.weights Tryz.prog 9 ∨ n ∈ y2.1.weights Tryz.prog 9 ∨ n ∈ y3.1.weights Tryz.prog 22 ∨ n ∈ y4.1.weights Tryz.prog 23 → n ≤ N := fun n h => hN n (by
    rw [hd]
    simp only [DataW.weights, Tryz.underlying25, DataW.weightsEach, List.map_cons, List.map_nil, List.mem_append]
    rcases h with h | h | h | h | h
    · exact .inl h
    · exact .inr (.inl h)
    · exact .inr (.inr (.inl h))
    · exact .inr (.inr (.inr (.inl h)))
    · exact .inr (.inr (.inr (.inr (.inl h)))))
  refine ⟨s0, s1, s2, a3, n3, k3, hs, a4, n4, k4, b4, ⟨rfl, hP, hB4⟩, ?_, ?_, ?_, ?_, ?_, ?_⟩
  · exact hw _ (.inl (by rw [x0]; exact w_str _ _ _))
  · exact hw _ (.inr (.inl (by rw [x1]; exact w_str _ _ _)))
  · exact hw _ (.inr (.inr (.inl (by rw [x2]; exact w_str _ _ _))))
  · rcases w3 with h | ⟨k, hk1, hk2⟩
    · omega
    · exact Nat.le_trans hk1 (hw _ (.inr (.inr (.inr (.inl hk2)))))
  · rcases w4 with h | ⟨k, hk1, hk2⟩
    · omega
    · exact Nat.le_trans hk1 (hw _ (.inr (.inr (.inr (.inr hk2)))))
  · exact fun i hi => ⟨hw _ (.inr (.inr (.inr (.inl (w5 i hi).1)))), hw _ (.inr (.inr (.inr (.inl (w5 i hi).2))))⟩
end Go.Proofs.YtgjmaeodgcigdaaGreatDoor
namespace Go.Proofs.YtgjmaeodgcigdaaGreatDoor
open Go.RowKit

set_option maxHeartbeats 400000 in
theorem refDays (y m : Nat) (w : World) (hy : y ≤ 10000) :
    Calls Tryz.prog 139 #[.int .i64 (y : Int), .int .i64 (m : Int)] w fun e w' => e = .returned (.int .i64 (dim y m : Int)) ∧ w' = w := by
  by_cases h2 : m = 2
  · subst h2
    have H : Hid (dim y 2 = 28 + lday y) := dim_feb y
    cases hl : leapY y with
    | true =>
      have H2 : Hid (lday y = 1) := by unfold Hid lday; rw [hl]; rfl
      go_enter Tryz.func139, Tryz.ntmps139
      go_wp2_with (go_at_call 166; refine (refLeap y _ hy).mono ?_; rintro e w' ⟨rfl, hww⟩; rw [hww, hl]; clear hww w')
      go_ret
      exact ⟨ret_i (by rw [H.out, H2.out]; rfl), rfl⟩
    | false =>
      have H2 : Hid (lday y = 0) := by unfold Hid lday; rw [hl]; rfl
      go_enter Tryz.func139, Tryz.ntmps139
      go_wp2_with (go_at_call 166; refine (refLeap y _ hy).mono ?_; rintro e w' ⟨rfl, hww⟩; rw [hww, hl]; clear hww w')
      go_ret
      exact ⟨ret_i (by rw [H.out, H2.out]; rfl), rfl⟩
  · by_cases h30 : m = 4 ∨ m = 6 ∨ m = 9 ∨ m = 11
    · have H : Hid (dim y m = 30) := dim_30 y m h30
      clear h2
      rcases h30 with rfl | rfl | rfl | rfl
      all_goals
        go_enter Tryz.func139, Tryz.ntmps139
        go_wp2
        go_ret
        exact ⟨ret_i (by rw [H.out]; rfl), rfl⟩
    · have H : Hid (dim y m = 31) := dim_31 y m (by omega)
      have e2 : ¬ (m : Int) = 2 := by omega
      have e4 : ¬ (m : Int) = 4 := by omega
      have e6 : ¬ (m : Int) = 6 := by omega
      have e9 : ¬ (m : Int) = 9 := by omega
      have e11 : ¬ (m : Int) = 11 := by omega
      clear h2 h30
      go_enter Tryz.func139, Tryz.ntmps139
      go_wp2
      go_ret
      exact ⟨ret_i (by rw [H.out]; rfl), rfl⟩

set_option maxHeartbeats 400000 in
theorem refCivil_out (day : Int) (w : World) (h : day < -719162 ∨ 2932896 < day) :
    Calls Tryz.prog 103 #[.int .i64 day] w fun e w' => e = .returned (.tuple #[.int .i64 0, .int .i64 0, .int .i64 0]) ∧ ∃ q, w' = w.drewN q := by
  by_cases h1 : day < -719162
  · clear h
    go_enter Tryz.func103, Tryz.ntmps103
    go_wp2
    go_ret3
    exact ⟨rfl, 0, rfl⟩
  · have h2 : 2932896 < day := by omega
    clear h
    go_enter Tryz.func103, Tryz.ntmps103
    go_wp2
    go_ret3
    exact ⟨rfl, 0, rfl⟩

set_option maxHeartbeats 1000000 in
theorem refCivil_in (n y m d : Nat) (w : World) (h : IsDate n y m d) :
    Calls Tryz.prog 103 #[.int .i64 ((n : Int) - 719162)] w fun e w' => e = .returned (.tuple #[.int .i64 (y : Int), .int .i64 (m : Int), .int .i64 (d : Int)]) ∧ ∃ q, w' = w.drewN q := by
  have hn : n ≤ 3652058 := h.le
  have H : Hid (IsDate n y m d) := h
  have y1 := h.y1
  have y2 := h.y2
  clear h
  go_enter Tryz.func103, Tryz.ntmps103
  go_wp2
  go_loopw [6, 7] (fun lo hi w' => ∃ a b q : Nat, 1 ≤ a ∧ a ≤ y ∧ y ≤ b ∧ b ≤ 9999 ∧ lo = .int .i64 (a : Int) ∧ hi = .int .i64 (b : Int) ∧ w' = w.drewN q) (fun lo hi _ => (intOf hi).toNat - (intOf lo).toNat)
  case atStart => exact ⟨1, 9999, 0, by omega, by omega, by omega, by omega, rfl, rfl, rfl⟩
  case round =>
    obtain ⟨a, b, q, a1, a2, b1, b2, rfl, rfl, rfl⟩ := hrel
    by_cases hab : a < b
    · obtain ⟨k, hk⟩ : ∃ k : Nat, k = (a + b + 1) / 2 := ⟨_, rfl⟩
      have hk' : ((a : Int) + (b : Int) + 1) / 2 = (k : Int) := by omega
      have k1 : a < k := by omega
      have k2 : k ≤ b := by omega
      clear hk
      by_cases hle : aheadY k ≤ n
      · have hy : k ≤ y := (year_le H.out (by omega)).1 hle
        go_wp2_with (go_at_call 138; (try rw [hk']); refine (refAhead k _ (by omega) (by omega)).mono ?_; rintro e w' ⟨rfl, hww⟩; rw [hww]; clear hww w')
        go_roundw
        case rel => exact ⟨k, b, _, by omega, by omega, by omega, by omega, by go_num, rfl, rfl⟩
        case measure => simp [intOf]; omega
      · have hy : ¬ k ≤ y := fun e => hle ((year_le H.out (by omega)).2 e)
        go_wp2_with (go_at_call 138; (try rw [hk']); refine (refAhead k _ (by omega) (by omega)).mono ?_; rintro e w' ⟨rfl, hww⟩; rw [hww]; clear hww w')
        go_roundw
        case rel => exact ⟨a, k - 1, _, by omega, by omega, by omega, by omega, rfl, by go_num, rfl⟩
        case measure => simp [intOf]; omega
    · have e1 : a = y := by omega
      subst e1
      have hah : aheadY a ≤ n := H.out.inYear.1
      have hah2 : (n : Int) - (aheadY a : Int) = ((n - aheadY a : Nat) : Int) := by omega
      go_wp2_with (go_at_call 138; refine (refAhead a _ (by omega) (by omega)).mono ?_; rintro e w' ⟨rfl, hww⟩; rw [hww]; clear hww w')
      go_loopw [5, 9] (fun nn mm w' => ∃ k j q : Nat, 1 ≤ j ∧ j ≤ m ∧ k ≤ 366 ∧ Hid (k + cumM a j + aheadY a = n) ∧ nn = .int .i64 (k : Int) ∧ mm = .int .i64 (j : Int) ∧ w' = w.drewN q) (fun nn _ _ => (intOf nn).toNat)
      case atStart => exact ⟨n - aheadY a, 1, _, by omega, H.out.m1, by have := H.out.inYear.2; have := lday_le a; omega, by unfold Hid; rw [cumM_one]; omega, by rw [← hah2], rfl, rfl⟩
      case round =>
        obtain ⟨k, j, q2, j1, j2, k2, he, rfl, rfl, rfl⟩ := hrel
        have hd28 := dim_pos a j
        have hd31 := dim_le a j
        have m2 := H.out.m2
        by_cases hj : j < m
        · have hge : dim a j ≤ k := by
            have h1 := cumM_lt a j m j1 hj
            have h2 := H.out.eq
            have h3 := H.out.d1
            have h4 := he.out
            omega
          have he2 : Hid (k - dim a j + cumM a (j + 1) + aheadY a = n) := by unfold Hid; rw [cumM_succ a j j1]; have := he.out; omega
          clear hah hah2
          go_wp2_with (go_at_call 139; refine (refDays a j _ (by omega)).mono ?_; rintro e w' ⟨rfl, hww⟩; rw [hww]; clear hww w')
          go_roundw
          case rel => exact ⟨k - dim a j, j + 1, _, by omega, by omega, by omega, he2, by go_num, by go_num, rfl⟩
          case measure => simp [intOf]; omega
        · have hjm : j = m := by omega
          subst hjm
          have hlt : k < dim a j := by
            have h2 := H.out.eq
            have h3 := H.out.d2
            have h4 := he.out
            omega
          have hd : Hid (k + 1 = d) := by
            have h2 := H.out.eq
            have h4 := he.out
            unfold Hid
            omega
          clear hah hah2
          go_wp2_with (go_at_call 139; refine (refDays a j _ (by omega)).mono ?_; rintro e w' ⟨rfl, hww⟩; rw [hww]; clear hww w')
          go_ret3
          exact ⟨ret3 rfl rfl (by rw [← hd.out]; omega), _, rfl⟩
end Go.Proofs.YtgjmaeodgcigdaaGreatDoor
namespace Go.Proofs.YtgjmaeodgcigdaaGreatDoor
open Go.RowKit

set_option maxHeartbeats 1000000 in
theorem refDay_out (y m d : Int) (w : World) (h : NoDate y m d) :
    Calls Tryz.prog 118 #[.int .i64 y, .int .i64 m, .int .i64 d] w fun e w' => e = .returned (.tuple #[.int .i64 0, .int .i64 6]) ∧ ∃ q, w' = w.drewN q := by
  have H : Hid (NoDate y m d) := h
  clear h
  by_cases c1 : y < 1
  · go_enter Tryz.func118, Tryz.ntmps118
    go_wp2
    go_ret2
    exact ⟨rfl, 0, rfl⟩
  by_cases c2 : 9999 < y
  · go_enter Tryz.func118, Tryz.ntmps118
    go_wp2
    go_ret2
    exact ⟨rfl, 0, rfl⟩
  by_cases c3 : m < 1
  · go_enter Tryz.func118, Tryz.ntmps118
    go_wp2
    go_ret2
    exact ⟨rfl, 0, rfl⟩
  by_cases c4 : 12 < m
  · go_enter Tryz.func118, Tryz.ntmps118
    go_wp2
    go_ret2
    exact ⟨rfl, 0, rfl⟩
  by_cases c5 : d < 1
  · go_enter Tryz.func118, Tryz.ntmps118
    go_wp2
    go_ret2
    exact ⟨rfl, 0, rfl⟩
  obtain ⟨Y, rfl⟩ : ∃ Y : Nat, y = Y := ⟨y.toNat, by omega⟩
  obtain ⟨M, rfl⟩ : ∃ M : Nat, m = M := ⟨m.toNat, by omega⟩
  have c6 : (dim Y M : Int) < d := by
    have := H.out
    unfold NoDate at this
    rw [Int.toNat_natCast, Int.toNat_natCast] at this
    omega
  go_enter Tryz.func118, Tryz.ntmps118
  go_wp2_with (go_at_call 139; refine (refDays Y M _ (by omega)).mono ?_; rintro e w' ⟨rfl, hww⟩; rw [hww]; clear hww w')
  go_ret2
  exact ⟨rfl, 0, rfl⟩

set_option maxHeartbeats 1000000 in
theorem refDay_in (n y m d : Nat) (w : World) (h : IsDate n y m d) :
    Calls Tryz.prog 118 #[.int .i64 (y : Int), .int .i64 (m : Int), .int .i64 (d : Int)] w fun e w' => e = .returned (.tuple #[.int .i64 ((n : Int) - 719162), .int .i64 0]) ∧ ∃ q, w' = w.drewN q := by
  have H : Hid (IsDate n y m d) := h
  have y1 := h.y1
  have y2 := h.y2
  have m1 := h.m1
  have m2 := h.m2
  have d1 := h.d1
  have d2 := h.d2
  have d3 := dim_le y m
  have a1 : aheadY y ≤ 3652058 := by have := h.inYear.1; have := h.le; omega
  clear h
  go_enter Tryz.func118, Tryz.ntmps118
  go_wp2_with (first | (go_at_call 139; refine (refDays y m _ (by omega)).mono ?_; rintro e w' ⟨rfl, hww⟩; rw [hww]; clear hww w') | (go_at_call 138; refine (refAhead y _ (by omega) (by omega)).mono ?_; rintro e w' ⟨rfl, hww⟩; rw [hww]; clear hww w'))
  go_loopw [8, 9] (fun nn kk w' => ∃ k q : Nat, 1 ≤ k ∧ k ≤ m ∧ cumM y k ≤ 366 ∧ nn = .int .i64 ((aheadY y + cumM y k : Nat) - 719162 : Int) ∧ kk = .int .i64 (k : Int) ∧ w' = w.drewN q) (fun _ kk _ => m - (intOf kk).toNat)
  case atStart => exact ⟨1, 0, by omega, by omega, by rw [cumM_one]; omega, by rw [cumM_one]; go_num, rfl, rfl⟩
  case round =>
    obtain ⟨k, q, k1, k2, hc, rfl, rfl, rfl⟩ := hrel
    by_cases hk : k < m
    · have hs := cumM_succ y k k1
      have hd31 := dim_le y k
      have hc' : cumM y (k + 1) ≤ 366 := by
        have h1 := cumM_mono y (k + 1) 13 (by omega) (by omega)
        rw [cumM_13] at h1
        have := lday_le y
        omega
      have Hs : Hid (cumM y (k + 1) = cumM y k + dim y k) := hs
      have Hc : Hid (cumM y (k + 1) ≤ 366) := hc'
      clear hs hc'
      go_wp2_with (go_at_call 139; refine (refDays y k _ (by omega)).mono ?_; rintro e w' ⟨rfl, hww⟩; rw [hww]; clear hww w')
      go_roundw
      case rel => exact ⟨k + 1, _, by omega, by omega, Hc.out, by rw [Hs.out]; go_num, by go_num, rfl⟩
      case measure => simp [intOf]; omega
    · have ek : k = m := by omega
      subst ek
      have he : Hid ((n : Int) + 1 = aheadY y + cumM y k + d) := by have := H.out.eq; unfold Hid; omega
      go_wp2
      go_ret2
      exact ⟨ret2 (by have := he.out; omega) rfl, _, rfl⟩
end Go.Proofs.YtgjmaeodgcigdaaGreatDoor
namespace Go.Proofs.YtgjmaeodgcigdaaGreatDoor
open Go.RowKit

theorem conv1 (w : World) (c : UInt8) : (convert 23 9 (.slice (some { block := w.heap.size, off := 0 }) 1 1)).run Tryz.prog (w.alloc (Obj.cells #[.int .u8 (c.toNat : Int)] 5)) = .ok (.string ⟨#[c]⟩) (w.alloc (Obj.cells #[.int .u8 (c.toNat : Int)] 5)) := by
  refine run_convert_bytes_back _ 23 9 5 ⟨w.heap.size, 0, none⟩ 1 [c] Tryz.underlying23 Tryz.underlying5 Tryz.underlying9 fun j hj => ?_
  have : j = 0 := by simpa using hj
  subst this
  simp only [World.cell?, Addr.add, if_true]
  rw [heap_alloc_new]
  rfl

set_option maxHeartbeats 400000 in
theorem refPadN (n k : Nat) (w : World) (hn : n ≤ 1000000) (hk : k ≤ 100) :
    Calls Tryz.prog 104 #[.int .i64 (n : Int), .int .i64 (k : Int)] w fun e w' => e = .returned (.string ⟨(dgs k n).toArray⟩) ∧ Below w.heap.size w w' := by
  go_enter Tryz.func104, Tryz.ntmps104
  go_wp2
  go_loopw [0, 5, 6] (fun nn s i wr => ∃ j q : Nat, j ≤ k ∧ Hid (q = n / 10 ^ j) ∧ q ≤ 1000000 ∧ nn = .int .i64 (q : Int) ∧ s = .string ⟨(dgs j n).toArray⟩ ∧ i = .int .i64 (j : Int) ∧ Below w.heap.size w wr) (fun _ _ i _ => k - (intOf i).toNat)
  case atStart => exact ⟨0, n, by omega, by simp [Hid], hn, rfl, rfl, rfl, Below.refl _ _⟩
  case round =>
    obtain ⟨j, q, hj, hq, hq2, rfl, rfl, rfl, hbel⟩ := hrel
    have HL : (dgs j n).length = j := dgs_length j n
    by_cases hlt : j < k
    · obtain ⟨c, hc⟩ : ∃ c, c = dgt q := ⟨_, rfl⟩
      have hc1 : 48 + (q : Int) % 10 = (c.toNat : Int) := by rw [hc, dgt_toNat]; omega
      have hc2 := wrap8_nat c.toNat c.toNat_lt
      have HS : Hid (dgs (j + 1) n = c :: dgs j n) := by unfold Hid; rw [dgs_cons, ← hq.out, hc]
      have Hq : Hid (q / 10 = n / 10 ^ (j + 1)) := by unfold Hid; rw [Nat.pow_succ, ← Nat.div_div_eq_div_mul, ← hq.out]
      have hcv := conv1 wr c
      clear hc
      go_wp2
      go_roundw
      case rel => exact ⟨j + 1, q / 10, by omega, Hq.out, by omega, by go_num, by rw [HS.out]; exact congrArg Value.string (ByteArray.mk_append_mk [c] (dgs j n)), by go_num, hbel.alloc hbel.size _⟩
      case measure => simp [intOf]; omega
    · go_wp2
      go_ret
      have : j = k := by omega
      subst this
      exact ⟨rfl, hbel⟩
end Go.Proofs.YtgjmaeodgcigdaaGreatDoor
