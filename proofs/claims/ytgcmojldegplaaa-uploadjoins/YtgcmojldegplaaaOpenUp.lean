/- What the frame tells of uploads, rows of parts and rows of numbers that came in. -/
import Derived.Test.YtgcmojldegplaaaRowC
import Derived.Test.YtgcmojldegplaaaOpenB
import Derived.Test.YtgcmojldegplaaaUp3
namespace Go.Proofs.Ytgcmojldegplaaa
open Go.ChangeShapes Go.WideShapes

/-- a part that came in -/
def PaIn (W : World) (q : Pq) : Prop := PaOK W q ∧ q.1.d.length ≤ 140737488351232
set_option maxRecDepth 100000 in
set_option maxHeartbeats 1000000 in
theorem open_pac {H : Type} {enc : TypeId × Value → H} {W : World} (n : Nat) (cs : List Value) (x : DataW H × List MemPlace) (h : DataW.trod enc Try.prog W 0 (fun _ => true) true n 43 cs = some x) (hN : ∀ m ∈ x.1.weights Try.prog 43, m ≤ 140737488351232) :
    ∃ q : Pq, cs = pac q ∧ PaIn W q := by
  obtain ⟨d, pl⟩ := x
  obtain ⟨xs, k, hk, hxy, hcl, hxl, hf⟩ := DataW.trod_struct Try.underlying43 h
  rw [show Try.prog.cellsOf 43 = 2 by kernel_rfl] at hcl
  match xs, hxl, cs, hcl with
  | [y0, y1], _, [v0, v1], _ =>
    have g0 := hf 0 _ rfl
    have g1 := hf 1 _ rfl
    have c_i : Try.prog.cellsOf 3 = 1 := by kernel_rfl
    have c_y : Try.prog.cellsOf 26 = 1 := by kernel_rfl
    simp [c_i] at g0
    simp [c_y] at g1
    have hd : d = .agg [y0.1, y1.1] := by have := (Prod.mk.inj hxy).1; simpa using this
    obtain ⟨x0, e0, _, r0⟩ := DataW.trod_int Try.underlying3 g0
    simp only [List.cons.injEq, and_true] at e0
    subst e0
    have i0 : -9223372036854775808 ≤ x0 ∧ x0 ≤ 9223372036854775807 := by simpa [Lit.wf, IntKind.min, IntKind.max, IntKind.signed, IntKind.bits] using r0
    obtain ⟨a1, m1, p1, rfl⟩ := slice_of14 Try.underlying26 g1
    have hw1 : ∀ n ∈ y1.1.weights Try.prog 26, n ≤ 140737488351232 := fun n hn => hN n (by
      rw [hd]
      simp only [DataW.weights, Try.underlying43, DataW.weightsEach, List.map_cons, List.map_nil]
      simp [hn])
    obtain ⟨b1, h1, hL1⟩ := open_bytes g1
    have n1 := hL1 _ hw1
    obtain rfl := h1.len_eq
    exact ⟨(⟨x0, b1⟩, ⟨a1, p1⟩), rfl, ⟨⟨i0.1, i0.2, h1⟩, n1⟩⟩
theorem open_pas {H : Type} {enc : TypeId × Value → H} {W : World} {fuel : Nat} {a : Option Addr} {len cap : Nat} {x : DataW H × List MemPlace} (h : DataW.trod enc Try.prog W 0 (fun _ => true) true fuel 23 [.slice a len cap] = some x) (hN : ∀ n ∈ x.1.weights Try.prog 23, n ≤ 140737488351232) :
    ∃ l, RowC 2 pac W a len l ∧ (∀ y ∈ l, PaIn W y) ∧ len ≤ 140737488351232 ∧ len ≤ cap ∧ (a = none → len = 0 ∧ cap = 0) := by
  obtain ⟨l, h1, h2, h3, h4, h5⟩ := open_row ((⟨0, []⟩, ⟨none, 0⟩) : Pq) 2 pac (PaIn W) 23 43 Try.underlying23 (by kernel_rfl) (by decide) (fun _ => rfl) open_pac h hN
  rw [show Try.prog.bytesOf 43 = 32 by kernel_rfl] at h3
  exact ⟨l, h1, h2, by omega, h4, h5⟩
/-- the rest of an upload that came in -/
structure UpIn (W : World) (q : UpH × (Option Addr × Nat × Nat × List Pq)) : Prop where
  ps : IsPs16 W q.2.1 q.2.2.1 q.2.2.2.1 q.2.2.2.2
  dl : ∀ p ∈ q.2.2.2.2, p.1.d.length ≤ 140737488351232
  len : q.2.2.1 ≤ 140737488351232
set_option maxRecDepth 100000 in
set_option maxHeartbeats 1000000 in
theorem open_upc {H : Type} {enc : TypeId × Value → H} {W : World} (n : Nat) (cs : List Value) (x : DataW H × List MemPlace) (h : DataW.trod enc Try.prog W 0 (fun _ => true) true n 25 cs = some x) (hN : ∀ m ∈ x.1.weights Try.prog 25, m ≤ 140737488351232) :
    ∃ q : UpH × (Option Addr × Nat × Nat × List Pq), cs = upc q.1 (.slice q.2.1 q.2.2.1 q.2.2.2.1) ∧ UpIn W q := by
  obtain ⟨d, pl⟩ := x
  obtain ⟨xs, k, hk, hxy, hcl, hxl, hf⟩ := DataW.trod_struct Try.underlying25 h
  rw [show Try.prog.cellsOf 25 = 5 by kernel_rfl] at hcl
  match xs, hxl, cs, hcl with
  | [y0, y1, y2, y3, y4], _, [v0, v1, v2, v3, v4], _ =>
    have g0 := hf 0 _ rfl
    have g1 := hf 1 _ rfl
    have g2 := hf 2 _ rfl
    have g3 := hf 3 _ rfl
    have g4 := hf 4 _ rfl
    have c_p : Try.prog.cellsOf 23 = 1 := by kernel_rfl
    have c_s : Try.prog.cellsOf 9 = 1 := by kernel_rfl
    have c_u : Try.prog.cellsOf 22 = 1 := by kernel_rfl
    simp [c_s] at g0
    simp [c_s] at g1
    simp [c_u] at g2
    simp [c_u] at g3
    simp [c_p] at g4
    have hd : d = .agg [y0.1, y1.1, y2.1, y3.1, y4.1] := by have := (Prod.mk.inj hxy).1; simpa using this
    obtain ⟨x0, e0, f0, _⟩ := DataW.trod_string Try.underlying9 g0
    simp only [List.cons.injEq, and_true] at e0
    subst e0
    have w0 : x0.size ≤ 140737488351232 := hN _ (by
      rw [hd, f0]
      simp [DataW.weights, Try.underlying25, DataW.weightsEach])
    obtain ⟨x1, e1, f1, _⟩ := DataW.trod_string Try.underlying9 g1
    simp only [List.cons.injEq, and_true] at e1
    subst e1
    have w1 : x1.size ≤ 140737488351232 := hN _ (by
      rw [hd, f1]
      simp [DataW.weights, Try.underlying25, DataW.weightsEach])
    obtain ⟨z2, e2, _, r2⟩ := DataW.trod_int Try.underlying22 g2
    simp only [List.cons.injEq, and_true] at e2
    subst e2
    have s2 : 0 ≤ z2 ∧ z2 ≤ 18446744073709551615 := by simpa [Lit.wf, IntKind.min, IntKind.max, IntKind.signed, IntKind.bits] using r2
    obtain ⟨x2, rfl⟩ : ∃ x : Nat, z2 = (x : Int) := ⟨z2.toNat, by omega⟩
    have l2 : x2 < 18446744073709551616 := by omega
    obtain ⟨z3, e3, _, r3⟩ := DataW.trod_int Try.underlying22 g3
    simp only [List.cons.injEq, and_true] at e3
    subst e3
    have s3 : 0 ≤ z3 ∧ z3 ≤ 18446744073709551615 := by simpa [Lit.wf, IntKind.min, IntKind.max, IntKind.signed, IntKind.bits] using r3
    obtain ⟨x3, rfl⟩ : ∃ x : Nat, z3 = (x : Int) := ⟨z3.toNat, by omega⟩
    have l3 : x3 < 18446744073709551616 := by omega
    obtain ⟨a4, m4, p4, rfl⟩ := slice_of14 Try.underlying23 g4
    have hw4 : ∀ n ∈ y4.1.weights Try.prog 23, n ≤ 140737488351232 := fun n hn => hN n (by
      rw [hd]
      simp only [DataW.weights, Try.underlying25, DataW.weightsEach, List.map_cons, List.map_nil]
      simp [hn])
    obtain ⟨l4, r4, ok4, n4, le4, ni4⟩ := open_pas g4 hw4
    exact ⟨(⟨x0, x1, x2, x3⟩, (a4, m4, p4, l4)), rfl, ⟨⟨r4, fun p hp => (ok4 p hp).1, le4, ni4⟩, fun p hp => (ok4 p hp).2, n4⟩⟩
theorem open_up {H : Type} {enc : TypeId × Value → H} {W : World} {r : Reach} {b0 : Nat} {v : Value} {d : DataW H} {pl : List MemPlace} (hv : Value.okWide Try.prog W r b0 25 v) (h : DataW.Trod enc Try.prog W 0 (fun _ => true) true 25 v d pl) (hN : ∀ n ∈ d.weights Try.prog 25, n ≤ 140737488351232) :
    ∃ q : UpH × (Option Addr × Nat × Nat × List Pq), v = .agg (upc q.1 (.slice q.2.1 q.2.2.1 q.2.2.2.1)).toArray ∧ UpIn W q := by
  obtain ⟨cs, rfl, hsz⟩ := okWide_struct Try.underlying25 hv
  obtain ⟨fuel, hf⟩ := h
  obtain ⟨q, e, h1⟩ := open_upc _ _ _ hf hN
  exact ⟨q, by rw [← e]; rfl, h1⟩
theorem open_nc {H : Type} {enc : TypeId × Value → H} {W : World} (n : Nat) (cs : List Value) (x : DataW H × List MemPlace) (h : DataW.trod enc Try.prog W 0 (fun _ => true) true n 3 cs = some x) (_ : ∀ m ∈ x.1.weights Try.prog 3, m ≤ 140737488351232) :
    ∃ q : Int, cs = [.int .i64 q] ∧ -9223372036854775808 ≤ q ∧ q ≤ 9223372036854775807 := by
  obtain ⟨d, pl⟩ := x
  obtain ⟨x0, e0, _, r0⟩ := DataW.trod_int Try.underlying3 h
  have i0 : -9223372036854775808 ≤ x0 ∧ x0 ≤ 9223372036854775807 := by simpa [Lit.wf, IntKind.min, IntKind.max, IntKind.signed, IntKind.bits] using r0
  exact ⟨x0, e0, i0⟩
theorem open_ns {H : Type} {enc : TypeId × Value → H} {W : World} {fuel : Nat} {a : Option Addr} {len cap : Nat} {x : DataW H × List MemPlace} (h : DataW.trod enc Try.prog W 0 (fun _ => true) true fuel 34 [.slice a len cap] = some x) (hN : ∀ n ∈ x.1.weights Try.prog 34, n ≤ 140737488351232) :
    ∃ l, IsN16 W a len cap l := by
  obtain ⟨l, h1, h2, _, h4, h5⟩ := open_row (0 : Int) 1 (fun z : Int => [Value.int .i64 z]) (fun z => -9223372036854775808 ≤ z ∧ z ≤ 9223372036854775807) 34 3 Try.underlying34 (by kernel_rfl) (by decide) (fun _ => rfl) open_nc h hN
  exact ⟨l, h1, h2, h4, h5⟩
end Go.Proofs.Ytgcmojldegplaaa
