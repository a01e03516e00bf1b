/- What the statements of policy share: texts handed on, and how short they are where light says so. · What the frame tells of rules that came in, one or a slice of them, and how long their texts may be. -/
import Derived.Test.YtihfpoclflppnaaDoorB32
import Derived.Test.YtihfpoclflppnaaDoorP8e
import Derived.Test.YtihfpoclflppnaaDoorR8g
import Derived.Test.YtihfpoclflppnaaDoorR8h
import Derived.Test.YtihfpoclflppnaaDoorR8b
import Derived.Test.YtihfpoclflppnaaDoorOwnR
import Derived.Deep.SlicePairs
import Derived.SizedLaws
namespace Go.Proofs.YtihfpoclflppnaaDoor
open Go.RowKit

theorem bel2 {w x y : World} (T : Below w.heap.size w x) (t : Below x.heap.size x y) : Below w.heap.size w y := T.trans (t.mono T.size)
theorem isTx_new (w : World) (l : List (List UInt8)) : IsTx (w.alloc (.cells (l.map fun t => Value.string (str t)).toArray 9)) (some ⟨w.heap.size, 0, none⟩) l.length l.length l :=
  ⟨rfl, fun _ => ⟨w.heap.size, 0, rfl, fun i hi => by
    rw [Lib.cell_of_heap (w := w.alloc (.cells (l.map fun t => Value.string (str t)).toArray 9)) (b := w.heap.size) (heap_alloc_new w _) (0 + i), Nat.zero_add, List.getElem?_toArray, List.getElem?_map, List.getElem?_eq_getElem hi, nthT_eq l i hi]
    rfl⟩⟩
theorem reach_nil : ReachR [] := fun _ hi => absurd hi (Nat.not_lt_zero _)
theorem sumT_mem {l : List (List UInt8)} {t : List UInt8} (h : t ∈ l) : t.length ≤ sumT l := by
  induction l with
  | nil => cases h
  | cons a l ih =>
    simp only [sumT]
    rcases List.mem_cons.1 h with e | e
    · subst e; omega
    · have := ih e; omega
theorem sumR_mem {l : List Ru} {r : Ru} (h : r ∈ l) : lenR r ≤ sumR l := by
  induction l with
  | nil => cases h
  | cons a l ih =>
    simp only [sumR]
    rcases List.mem_cons.1 h with e | e
    · subst e; omega
    · have := ih e; omega
theorem light_len {l : List Ru} {m : List (List UInt8)} (h : lightL l m = true) : l.length ≤ 50 := by
  unfold lightL at h; exact (of_decide_eq_true h).2
theorem light_text {l : List Ru} {m : List (List UInt8)} (h : lightL l m = true) {t : List UInt8} (ht : t ∈ m) : t.length ≤ 2000 := by
  unfold lightL at h
  have := (of_decide_eq_true h).1
  have := sumT_mem ht
  omega
theorem light_rule {l : List Ru} {m : List (List UInt8)} (h : lightL l m = true) {r : Ru} (hr : r ∈ l) : r.who.length ≤ 2000 ∧ r.act.length ≤ 2000 ∧ r.res.length ≤ 2000 := by
  unfold lightL at h
  have := (of_decide_eq_true h).1
  have := sumR_mem hr
  unfold lenR at this
  omega
theorem light_small {l : List Ru} {m : List (List UInt8)} (h : lightL l m = true) : SmallR l := fun i hi => by
  have := light_rule h (r := nthR l i) (by rw [nthR_eq l i hi]; exact List.getElem_mem hi)
  omega

set_option maxRecDepth 20000 in
set_option maxHeartbeats 2000000 in
theorem walkMatches8 (p s : List UInt8) (w : World) (hm : MxS w) (zp : p.length ≤ 140737488351232) (zs : s.length ≤ 140737488351232) :
    Calls Tryd.prog 4 #[.string (str p), .string (str s)] w fun e w' => e = .returned (.bool true) ∧ Below w.heap.size w w' := by
  have HL := lawLight8 none 0 0 [] _ _ _ [p, s] (w.alloc (.cells #[.string (str p), .string (str s)] 9)) (isRs_nil _) (isTx_new w [p, s]) reach_nil (fun i hi => by
    obtain rfl | rfl : i = 0 ∨ i = 1 := by have : i < 2 := hi; omega
    · exact zp
    · exact zs) (by simp) (by omega)
  have T0 : Below w.heap.size w (w.alloc (.cells #[.string (str p), .string (str s)] 9)) := (Below.refl _ w).alloc (Nat.le_refl _) _
  change Calls Tryd.prog _ #[.slice none 0 0, .slice (some ⟨w.heap.size, 0, none⟩) 2 2] _ _ at HL
  cases hb : lightL [] [p, s] with
  | false =>
    rw [hb] at HL
    generalize str p = ps at *
    generalize str s = ss at *
    clear hb
    go_enter Tryd.func4, Tryd.ntmps4
    go_wp2_with fail
    refine HL.mono ?_
    rintro e x1 ⟨rfl, t1⟩
    have T1 := bel2 T0 t1
    go_wp2_with fail
    go_ret
    exact ⟨rfl, T1⟩
  | true =>
    rw [hb] at HL
    have y1 := light_text hb (t := p) (by simp)
    have y2 := light_text hb (t := s) (by simp)
    have M1 := fun W => codMatch8 p s W (by omega) (by omega)
    have M2 := fun W => refMatch8 p s W (by omega) (by omega)
    have HA := fun W (h : MxS W) => lawAlive8 W h
    have HM : Hid (∀ W, Below w.heap.size w W → MxS W) := fun W hW => hm.below hW hm.lt
    generalize matL p s = bb at *
    generalize str p = ps at *
    generalize str s = ss at *
    clear hb hm
    go_enter Tryd.func4, Tryd.ntmps4
    go_wp2_with fail
    refine HL.mono ?_
    rintro e x1 ⟨rfl, t1⟩
    have T1 := bel2 T0 t1
    go_wp2_with fail
    refine (M1 _).mono ?_
    rintro e x2 ⟨rfl, t2⟩
    have T2 := bel2 T1 t2
    go_wp2_with fail
    refine (M2 _).mono ?_
    rintro e x3 ⟨rfl, t3⟩
    have T3 := bel2 T2 t3
    have hbb : (bb == bb) = true := by cases bb <;> rfl
    go_wp2_with fail
    refine (HA _ (HM.out _ T3)).mono ?_
    rintro e x4 ⟨rfl, t4⟩
    have T4 := bel2 T3 t4
    go_wp2_with fail
    go_ret
    exact ⟨rfl, T4⟩
end Go.Proofs.YtihfpoclflppnaaDoor
namespace Go.Proofs.YtihfpoclflppnaaDoor
open Go.ChangeShapes Go.WideShapes

theorem weights_all8 {H : Type} {P : Program} {e : TypeId} {d : DataW H} : ∀ {l : List (DataW H)}, d ∈ l → ∀ n ∈ d.weights P e, n ∈ DataW.weightsAll P e l
  | [], h, _, _ => by cases h
  | x :: l, h, n, hn => by
    simp only [DataW.weightsAll, List.mem_append]
    rcases List.mem_cons.1 h with rfl | h
    · exact .inl hn
    · exact .inr (weights_all8 h n hn)

theorem cellsRu : Tryd.prog.cellsOf 38 = 4 := by kernel_rfl

set_option maxRecDepth 100000 in
theorem open_rule {H : Type} {enc : TypeId × Value → H} {W : World} {n : Nat} {cs : List Value} {d : DataW H} {pl : List MemPlace} (h : DataW.trod enc Tryd.prog W 0 (fun _ => true) true n 38 cs = some (d, pl)) :
    ∃ r : Ru, cs = ruc r ∧ r.who.length ∈ d.weights Tryd.prog 38 ∧ r.act.length ∈ d.weights Tryd.prog 38 ∧ r.res.length ∈ d.weights Tryd.prog 38 := by
  obtain ⟨xs, k, hk, hxy, hcl, hxl, hf⟩ := DataW.trod_struct Tryd.underlying38 h
  rw [cellsRu] at hcl
  match xs, hxl, cs, hcl with
  | [y0, y1, y2, y3], _, [v0, v1, v2, v3], _ =>
    have g0 := hf 0 _ rfl
    have g1 := hf 1 _ rfl
    have g2 := hf 2 _ rfl
    have g3 := hf 3 _ rfl
    have c9 : Tryd.prog.cellsOf 9 = 1 := by kernel_rfl
    have c4 : Tryd.prog.cellsOf 4 = 1 := by kernel_rfl
    simp [c9, c4] at g0 g1 g2 g3
    obtain ⟨b0, e0, x0⟩ := DataW.trod_bool Tryd.underlying4 g0
    obtain ⟨s1, e1, x1, _⟩ := DataW.trod_string Tryd.underlying9 g1
    obtain ⟨s2, e2, x2, _⟩ := DataW.trod_string Tryd.underlying9 g2
    obtain ⟨s3, e3, x3, _⟩ := DataW.trod_string Tryd.underlying9 g3
    simp only [List.cons.injEq, and_true] at e0 e1 e2 e3
    subst e0 e1 e2 e3
    have hd : d = .agg [y0.1, y1.1, y2.1, y3.1] := by have := (Prod.mk.inj hxy).1; simpa using this
    refine ⟨⟨b0, s1.data.toList, s2.data.toList, s3.data.toList⟩, by unfold ruc; rw [str_of, str_of, str_of], ?_, ?_, ?_⟩
    · rw [hd, x0, x1, x2, x3]
      simp [DataW.weights, Tryd.underlying38, DataW.weightsEach]
    · rw [hd, x0, x1, x2, x3]
      simp [DataW.weights, Tryd.underlying38, DataW.weightsEach]
    · rw [hd, x0, x1, x2, x3]
      simp [DataW.weights, Tryd.underlying38, DataW.weightsEach]

set_option maxRecDepth 100000 in
theorem open_rules {H : Type} {enc : TypeId × Value → H} {W : World} {fuel : Nat} {a : Option Addr} {len cap : Nat} {x : DataW H × List MemPlace} (h : DataW.trod enc Tryd.prog W 0 (fun _ => true) true fuel 22 [.slice a len cap] = some x) :
    ∃ rs, IsRs W a len cap rs ∧ (∀ i, i < rs.length → (nthR rs i).who.length ∈ x.1.weights Tryd.prog 22 ∧ (nthR rs i).act.length ∈ x.1.weights Tryd.prog 22 ∧ (nthR rs i).res.length ∈ x.1.weights Tryd.prog 22) := by
  rcases Deep.open_slice Tryd.underlying22 h with ⟨hcs, _⟩ | ⟨ad, l, c, m, n, D, Pl, hcs, _, hl, hm, hmm, hx, hel⟩
  · simp only [List.cons.injEq, and_true, Value.slice.injEq] at hcs
    obtain ⟨rfl, rfl, rfl⟩ := hcs
    exact ⟨[], isRs_nil W, fun i hi => absurd hi (Nat.not_lt_zero _)⟩
  · simp only [List.cons.injEq, and_true, Value.slice.injEq] at hcs
    obtain ⟨rfl, rfl, rfl⟩ := hcs
    have hmc : m = cap := by simpa using hmm
    subst hmc
    rw [cellsRu] at hel
    have each : ∀ i, i < len → ∃ r : Ru, (W.cell? (ad.add (i * 4)) = some (.bool r.deny) ∧ W.cell? (ad.add (i * 4 + 1)) = some (.string (str r.who)) ∧ W.cell? (ad.add (i * 4 + 2)) = some (.string (str r.act)) ∧ W.cell? (ad.add (i * 4 + 3)) = some (.string (str r.res))) ∧ r.who.length ∈ x.1.weights Tryd.prog 22 ∧ r.act.length ∈ x.1.weights Tryd.prog 22 ∧ r.res.length ∈ x.1.weights Tryd.prog 22 := by
      intro i hi
      obtain ⟨cs', h1, h2⟩ := hel i (by omega)
      obtain ⟨_, _, hcell⟩ := World.cells?_some h1
      obtain ⟨r, rfl, hb1, hb2, hb3⟩ := open_rule h2
      have e0 := hcell 0 (by omega)
      have e1 := hcell 1 (by omega)
      have e2 := hcell 2 (by omega)
      have e3 := hcell 3 (by omega)
      rw [Deep.add_add] at e0 e1 e2 e3
      have hmem : D i ∈ (List.range len).map D := List.mem_map.2 ⟨i, List.mem_range.2 hi, rfl⟩
      have up : ∀ q, q ∈ (D i).weights Tryd.prog 38 → q ∈ x.1.weights Tryd.prog 22 := fun q hq => by
        rw [hx]
        simp only [DataW.weights, Tryd.underlying22, List.mem_cons, List.mem_append]
        exact .inr (.inl (weights_all8 hmem _ hq))
      exact ⟨r, ⟨by simpa [ruc] using e0, by simpa [ruc] using e1, by simpa [ruc] using e2, by simpa [ruc] using e3⟩, up _ hb1, up _ hb2, up _ hb3⟩
    haveI : Inhabited Ru := ⟨⟨false, [], [], []⟩⟩
    obtain ⟨q, hq⟩ := Deep.choose_lt each
    have hn : ∀ i, i < len → nthR ((List.range len).map fun i => q i) i = q i := fun i hi => by
      rw [nthR_eq _ _ (by simpa using hi)]; simp
    refine ⟨(List.range len).map fun i => q i, ⟨by simp, hl, hm, fun e => (by cases e), fun hp => ?_⟩, fun i hi => ?_⟩
    · obtain ⟨b, off, spot⟩ := ad
      have hspot : spot = none := by simpa [Addr.add] using World.cell?_spot (hq 0 hp).1.1
      subst hspot
      refine ⟨b, off, rfl, fun i hi => ?_⟩
      obtain ⟨⟨h0, h1, h2, h3⟩, _⟩ := hq i hi
      rw [Addr.add_lit] at h0 h1 h2 h3
      rw [hn i hi]
      unfold RuAt
      rw [Nat.add_assoc, Nat.add_assoc, Nat.add_assoc]
      exact ⟨h0, h1, h2, h3⟩
    · have hi' : i < len := by simpa using hi
      rw [hn i hi']
      exact (hq i hi').2
end Go.Proofs.YtihfpoclflppnaaDoor
