/- What the frame tells of records that came in. -/
import Derived.Test.YtbclhaleibjkgaaB43
import Derived.Test.YtbclhaleibjkgaaB44
import Derived.Lib.SmallJoins
namespace Go.Proofs.Ytbclhaleibjkgaa
open Go.ChangeShapes Go.WideShapes

theorem cellsR14 : Try.prog.cellsOf 26 = 10 := by kernel_rfl
set_option maxRecDepth 100000 in
set_option maxHeartbeats 1000000 in
theorem open_rcc {H : Type} {enc : TypeId × Value → H} {W : World} {n : Nat} {cs : List Value} {d : DataW H} {pl : List MemPlace} (h : DataW.trod enc Try.prog W 0 (fun _ => true) true n 26 cs = some (d, pl)) (hN : ∀ n ∈ d.weights Try.prog 26, n ≤ 140737488351232) :
    ∃ q : Rq14, cs = rcc q.1 q.2 ∧ IsRec W q.1 q.2 ∧ RcZ q.1 := by
  obtain ⟨xs, k, hk, hxy, hcl, hxl, hf⟩ := DataW.trod_struct Try.underlying26 h
  rw [cellsR14] at hcl
  match xs, hxl, cs, hcl with
  | [y0, y1, y2, y3, y4, y5, y6, y7, y8, y9], _, [v0, v1, v2, v3, v4, v5, v6, v7, v8, v9], _ =>
    have g0 := hf 0 _ rfl
    have g1 := hf 1 _ rfl
    have g2 := hf 2 _ rfl
    have g3 := hf 3 _ rfl
    have g4 := hf 4 _ rfl
    have g5 := hf 5 _ rfl
    have g6 := hf 6 _ rfl
    have g7 := hf 7 _ rfl
    have g8 := hf 8 _ rfl
    have g9 := hf 9 _ rfl
    have cu : Try.prog.cellsOf 22 = 1 := by kernel_rfl
    have cs : Try.prog.cellsOf 9 = 1 := by kernel_rfl
    have ci : Try.prog.cellsOf 3 = 1 := by kernel_rfl
    have ce : Try.prog.cellsOf 23 = 1 := by kernel_rfl
    have cb : Try.prog.cellsOf 24 = 1 := by kernel_rfl
    simp [cu, cs, ci, ce, cb] at g0 g1 g2 g3 g4 g5 g6 g7 g8 g9
    obtain ⟨k0, e0, _, w0⟩ := DataW.trod_int Try.underlying22 g0
    obtain ⟨k1, e1, _, w1⟩ := DataW.trod_int Try.underlying22 g1
    obtain ⟨s2, e2, x2, _⟩ := DataW.trod_string Try.underlying9 g2
    obtain ⟨k3, e3, _, w3⟩ := DataW.trod_int Try.underlying3 g3
    obtain ⟨s4, e4, x4, _⟩ := DataW.trod_string Try.underlying9 g4
    obtain ⟨s5, e5, x5, _⟩ := DataW.trod_string Try.underlying9 g5
    obtain ⟨k6, e6, _, w6⟩ := DataW.trod_int Try.underlying22 g6
    obtain ⟨k7, e7, _, w7⟩ := DataW.trod_int Try.underlying23 g7
    simp only [List.cons.injEq, and_true] at e0 e1 e2 e3 e4 e5 e6 e7
    subst e0 e1 e2 e3 e4 e5 e6 e7
    obtain ⟨a8, n8, p8, rfl⟩ := slice_of14 Try.underlying24 g8
    obtain ⟨a9, n9, p9, rfl⟩ := slice_of14 Try.underlying24 g9
    have hd : d = .agg [y0.1, y1.1, y2.1, y3.1, y4.1, y5.1, y6.1, y7.1, y8.1, y9.1] := by have := (Prod.mk.inj hxy).1; simpa using this
    have hw8 : ∀ n ∈ y8.1.weights Try.prog 24, n ≤ 140737488351232 := fun n hn => hN n (by
      rw [hd]
      simp only [DataW.weights, Try.underlying26, DataW.weightsEach, List.map_cons, List.map_nil]
      simp [hn])
    have hw9 : ∀ n ∈ y9.1.weights Try.prog 24, n ≤ 140737488351232 := fun n hn => hN n (by
      rw [hd]
      simp only [DataW.weights, Try.underlying26, DataW.weightsEach, List.map_cons, List.map_nil]
      simp [hn])
    have hw2 : s2.size ≤ 140737488351232 := hN _ (by
      rw [hd, x2]
      simp [DataW.weights, Try.underlying26, DataW.weightsEach])
    have hw4 : s4.size ≤ 140737488351232 := hN _ (by
      rw [hd, x4]
      simp [DataW.weights, Try.underlying26, DataW.weightsEach])
    have hw5 : s5.size ≤ 140737488351232 := hN _ (by
      rw [hd, x5]
      simp [DataW.weights, Try.underlying26, DataW.weightsEach])
    obtain ⟨b8, hB8, hL8⟩ := open_bytes g8
    obtain ⟨b9, hB9, hL9⟩ := open_bytes g9
    have hl8 := hL8 _ hw8
    have hl9 := hL9 _ hw9
    obtain rfl := hB8.len_eq
    obtain rfl := hB9.len_eq
    have r0 : 0 ≤ k0 ∧ k0 ≤ 18446744073709551615 := by simpa [Lit.wf, IntKind.min, IntKind.max, IntKind.signed, IntKind.bits] using w0
    have r1 : 0 ≤ k1 ∧ k1 ≤ 18446744073709551615 := by simpa [Lit.wf, IntKind.min, IntKind.max, IntKind.signed, IntKind.bits] using w1
    have r6 : 0 ≤ k6 ∧ k6 ≤ 18446744073709551615 := by simpa [Lit.wf, IntKind.min, IntKind.max, IntKind.signed, IntKind.bits] using w6
    have r3 : -9223372036854775808 ≤ k3 ∧ k3 ≤ 9223372036854775807 := by simpa [Lit.wf, IntKind.min, IntKind.max, IntKind.signed, IntKind.bits] using w3
    have r7 : -9223372036854775808 ≤ k7 ∧ k7 ≤ 9223372036854775807 := by simpa [Lit.wf, IntKind.min, IntKind.max, IntKind.signed, IntKind.bits] using w7
    refine ⟨(⟨k0.toNat, k1.toNat, s2, k3, s4, s5, k6.toNat, k7, b8, b9⟩, ⟨a8, p8, a9, p9⟩), ?_, ⟨hB8, hB9, ⟨?_, ?_, ?_, r3.1, r3.2, r7.1, r7.2⟩⟩, ⟨hw2, hw4, hw5, hl8, hl9⟩⟩
    · unfold rcc
      simp only [Int.toNat_of_nonneg r0.1, Int.toNat_of_nonneg r1.1, Int.toNat_of_nonneg r6.1]
    · show k0.toNat < _; omega
    · show k1.toNat < _; omega
    · show k6.toNat < _; omega
set_option maxRecDepth 100000 in
theorem open_rc {H : Type} {enc : TypeId × Value → H} {W : World} {r : Reach} {b0 : Nat} {v : Value} {d : DataW H} {pl : List MemPlace} (hv : Value.okWide Try.prog W r b0 26 v) (h : DataW.Trod enc Try.prog W 0 (fun _ => true) true 26 v d pl) (hN : ∀ n ∈ d.weights Try.prog 26, n ≤ 140737488351232) :
    ∃ q : Rq14, v = .agg (rcc q.1 q.2).toArray ∧ IsRec W q.1 q.2 ∧ RcZ q.1 := by
  obtain ⟨cs, rfl, hsz⟩ := okWide_struct Try.underlying26 hv
  obtain ⟨fuel, hf⟩ := h
  obtain ⟨q, e, h1, h2⟩ := open_rcc hf hN
  refine ⟨q, ?_, h1, h2⟩
  rw [← e]; rfl
def rq0 : Rq14 := (rc0, ⟨none, 0, none, 0⟩)
set_option maxRecDepth 100000 in
theorem open_rcs {H : Type} {enc : TypeId × Value → H} {W : World} {fuel : Nat} {a : Option Addr} {len cap : Nat} {x : DataW H × List MemPlace} (h : DataW.trod enc Try.prog W 0 (fun _ => true) true fuel 36 [.slice a len cap] = some x) (hN : ∀ n ∈ x.1.weights Try.prog 36, n ≤ 140737488351232) :
    ∃ l, IsRl W a len l ∧ (∀ y ∈ l, RcZ y.1) ∧ len * 136 ≤ 140737488351232 ∧ len ≤ cap ∧ (a = none → len = 0 ∧ cap = 0) := by
  rcases Deep.open_slice Try.underlying36 h with ⟨hcs, _⟩ | ⟨ad, l, c, m, n, D, Pl, hcs, _, hl, hm, hmm, hx, hel⟩
  · simp only [List.cons.injEq, and_true, Value.slice.injEq] at hcs
    obtain ⟨rfl, rfl, rfl⟩ := hcs
    exact ⟨[], ⟨rfl, fun h => absurd h (Nat.lt_irrefl 0), fun x hx => by cases hx⟩, fun x hx => (by cases hx), by omega, Nat.zero_le _, fun _ => ⟨rfl, rfl⟩⟩
  · simp only [List.cons.injEq, and_true, Value.slice.injEq] at hcs
    obtain ⟨rfl, rfl, rfl⟩ := hcs
    have hmc : m = cap := by simpa using hmm
    subst hmc
    rw [cellsR14] at hel
    have each : ∀ i, i < len → ∃ q : Rq14, (∀ j, j < 10 → W.cell? (ad.add (i * 10 + j)) = (rcc q.1 q.2)[j]?) ∧ IsRec W q.1 q.2 ∧ RcZ q.1 := by
      intro i hi
      obtain ⟨cs', h1, h2⟩ := hel i (by omega)
      obtain ⟨_, _, hcell⟩ := World.cells?_some h1
      have hbi : ∀ n ∈ (D i).weights Try.prog 26, n ≤ 140737488351232 := fun n hn => hN n (by
        rw [hx]
        simp only [DataW.weights, Try.underlying36]
        exact List.mem_cons_of_mem _ (List.mem_append_left _ (weights_all_mem hn (List.mem_map.2 ⟨i, List.mem_range.2 hi, rfl⟩))))
      obtain ⟨o, rfl, hok⟩ := open_rcc h2 hbi
      refine ⟨o, fun j hj => ?_, hok⟩
      have e := hcell j (by omega)
      rw [Deep.add_add] at e
      simpa using e
    haveI : Inhabited Rq14 := ⟨rq0⟩
    obtain ⟨q, hq⟩ := Deep.choose_lt each
    refine ⟨(List.range len).map q, ⟨by simp, fun hp => ?_, fun y hy => ?_⟩, fun y hy => ?_, ?_, hl, fun e => by cases e⟩
    · obtain ⟨b, off, spot⟩ := ad
      have h00 : W.cell? (Addr.add ⟨b, off, spot⟩ (0 * 10 + 0)) = some (.int .u64 ((q 0).1.seq : Int)) := ((hq 0 hp).1 0 (by omega))
      have hspot : spot = none := by simpa [Addr.add] using World.cell?_spot h00
      subst hspot
      refine ⟨b, off, rfl, fun k x hx j v hv => ?_⟩
      obtain ⟨hk, rfl⟩ : k < len ∧ q k = x := by
        rw [List.getElem?_map] at hx
        rcases Nat.lt_or_ge k len with hk | hk
        · rw [List.getElem?_range hk] at hx; exact ⟨hk, Option.some.inj hx⟩
        · rw [List.getElem?_eq_none (by rw [List.length_range]; exact hk)] at hx; cases hx
      have hj : j < 10 := by have := (List.getElem?_eq_some_iff.1 hv).1; rw [rcc_len14] at this; exact this
      have e := (hq k hk).1 j hj
      rw [Addr.add_lit] at e
      rw [Nat.add_assoc, e]; exact hv
    · obtain ⟨i, hi, rfl⟩ := List.mem_map.1 hy
      exact (hq i (List.mem_range.1 hi)).2.1
    · obtain ⟨i, hi, rfl⟩ := List.mem_map.1 hy
      exact (hq i (List.mem_range.1 hi)).2.2
    · have hb1 : Try.prog.bytesOf 26 = 136 := by kernel_rfl
      rw [hx] at hN
      simp only [DataW.weights, Try.underlying36, hb1] at hN
      have := hN _ (List.mem_cons_self ..)
      simp only [List.length_map, List.length_range] at this
      have h5 : len * 136 ≤ (len + (m - len)) * 136 := Nat.mul_le_mul (by omega) (Nat.le_refl _)
      omega
end Go.Proofs.Ytbclhaleibjkgaa
