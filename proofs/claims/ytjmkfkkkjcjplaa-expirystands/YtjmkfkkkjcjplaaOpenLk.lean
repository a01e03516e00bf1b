/- What the frame tells of retentions, versions, buckets and tries that came in. -/
import Derived.Test.YtjmkfkkkjcjplaaRowC
import Derived.Test.YtjmkfkkkjcjplaaLk3
namespace Go.Proofs.Ytjmkfkkkjcjplaa
open Go.ChangeShapes Go.WideShapes

set_option maxRecDepth 100000 in
set_option maxHeartbeats 1000000 in
theorem open_rtc {H : Type} {enc : TypeId × Value → H} {W : World} (n : Nat) (cs : List Value) (x : DataW H × List MemPlace) (h : DataW.trod enc Try.prog W 0 (fun _ => true) true n 35 cs = some x) (hN : ∀ m ∈ x.1.weights Try.prog 35, m ≤ 140737488351232) :
    ∃ q : Int × Nat, cs = rtc q.1 q.2 ∧ (-9223372036854775808 ≤ q.1 ∧ q.1 ≤ 9223372036854775807) ∧ q.2 < 18446744073709551616 := by
  obtain ⟨d, pl⟩ := x
  obtain ⟨xs, k, hk, hxy, hcl, hxl, hf⟩ := DataW.trod_struct Try.underlying35 h
  rw [show Try.prog.cellsOf 35 = 2 by kernel_rfl] at hcl
  match xs, hxl, cs, hcl with
  | [y0, y1], _, [v0, v1], _ =>
    have g0 := hf 0 _ rfl
    have g1 := hf 1 _ rfl
    have c_i : Try.prog.cellsOf 3 = 1 := by kernel_rfl
    have c_u : Try.prog.cellsOf 28 = 1 := by kernel_rfl
    simp [c_i] at g0
    simp [c_u] at g1
    obtain ⟨x0, e0, _, r0⟩ := DataW.trod_int Try.underlying3 g0
    simp only [List.cons.injEq, and_true] at e0
    subst e0
    have i0 : -9223372036854775808 ≤ x0 ∧ x0 ≤ 9223372036854775807 := by simpa [Lit.wf, IntKind.min, IntKind.max, IntKind.signed, IntKind.bits] using r0
    obtain ⟨z1, e1, _, r1⟩ := DataW.trod_int Try.underlying28 g1
    simp only [List.cons.injEq, and_true] at e1
    subst e1
    have s1 : 0 ≤ z1 ∧ z1 ≤ 18446744073709551615 := by simpa [Lit.wf, IntKind.min, IntKind.max, IntKind.signed, IntKind.bits] using r1
    obtain ⟨x1, rfl⟩ : ∃ x : Nat, z1 = (x : Int) := ⟨z1.toNat, by omega⟩
    have l1 : x1 < 18446744073709551616 := by omega
    exact ⟨(x0, x1), rfl, i0, l1⟩
/-- a version that came in -/
structure VsOK (W : World) (v : Vs) (q : VsA) : Prop where
  bkt : v.bkt.size ≤ 140737488351232
  key : v.key.size ≤ 140737488351232
  id : v.id < 18446744073709551616
  ord : v.ord < 18446744073709551616
  data : IsB W q.ad v.data.length q.cap v.data
  len : v.data.length ≤ 140737488351232
  rm : -9223372036854775808 ≤ v.rm ∧ v.rm ≤ 9223372036854775807
  ru : v.ru < 18446744073709551616
  time : v.time < 18446744073709551616
/-- a bucket that came in -/
structure BkOK (b : Bk) : Prop where
  name : b.name.size ≤ 140737488351232
  ver : -9223372036854775808 ≤ b.ver ∧ b.ver ≤ 9223372036854775807
  dflt : -9223372036854775808 ≤ b.dflt ∧ b.dflt ≤ 9223372036854775807
  days : -9223372036854775808 ≤ b.days ∧ b.days ≤ 9223372036854775807
  pol : b.pol.size ≤ 140737488351232
  exp : -9223372036854775808 ≤ b.exp ∧ b.exp ≤ 9223372036854775807
  nonc : -9223372036854775808 ≤ b.nonc ∧ b.nonc ≤ 9223372036854775807
set_option maxRecDepth 100000 in
set_option maxHeartbeats 1000000 in
theorem open_vsc {H : Type} {enc : TypeId × Value → H} {W : World} (n : Nat) (cs : List Value) (x : DataW H × List MemPlace) (h : DataW.trod enc Try.prog W 0 (fun _ => true) true n 37 cs = some x) (hN : ∀ m ∈ x.1.weights Try.prog 37, m ≤ 140737488351232) :
    ∃ q : Vs × VsA, cs = vsc q.1 q.2 ∧ VsOK W q.1 q.2 := by
  obtain ⟨d, pl⟩ := x
  obtain ⟨xs, k, hk, hxy, hcl, hxl, hf⟩ := DataW.trod_struct Try.underlying37 h
  rw [show Try.prog.cellsOf 37 = 10 by kernel_rfl] at hcl
  match xs, hxl, cs, hcl with
  | [y0, y1, y2, y3, y4, y5, y6, y7, y8], _, [v0, v1, v2, v3, v4, v5, v6, v7, v8, v9], _ =>
    have g0 := hf 0 _ rfl
    have g1 := hf 1 _ rfl
    have g2 := hf 2 _ rfl
    have g3 := hf 3 _ rfl
    have g4 := hf 4 _ rfl
    have g5 := hf 5 _ rfl
    have g6 := hf 6 _ rfl
    have g7 := hf 7 _ rfl
    have g8 := hf 8 _ rfl
    have c_R : Try.prog.cellsOf 35 = 2 := by kernel_rfl
    have c_b : Try.prog.cellsOf 4 = 1 := by kernel_rfl
    have c_s : Try.prog.cellsOf 9 = 1 := by kernel_rfl
    have c_u : Try.prog.cellsOf 28 = 1 := by kernel_rfl
    have c_y : Try.prog.cellsOf 33 = 1 := by kernel_rfl
    simp [c_s] at g0
    simp [c_s] at g1
    simp [c_u] at g2
    simp [c_u] at g3
    simp [c_b] at g4
    simp [c_y] at g5
    simp [c_R] at g6
    simp [c_b] at g7
    simp [c_u] at g8
    have hd : d = .agg [y0.1, y1.1, y2.1, y3.1, y4.1, y5.1, y6.1, y7.1, y8.1] := by have := (Prod.mk.inj hxy).1; simpa using this
    obtain ⟨x0, e0, f0, _⟩ := DataW.trod_string Try.underlying9 g0
    simp only [List.cons.injEq, and_true] at e0
    subst e0
    have w0 : x0.size ≤ 140737488351232 := hN _ (by
      rw [hd, f0]
      simp [DataW.weights, Try.underlying37, DataW.weightsEach])
    obtain ⟨x1, e1, f1, _⟩ := DataW.trod_string Try.underlying9 g1
    simp only [List.cons.injEq, and_true] at e1
    subst e1
    have w1 : x1.size ≤ 140737488351232 := hN _ (by
      rw [hd, f1]
      simp [DataW.weights, Try.underlying37, DataW.weightsEach])
    obtain ⟨z2, e2, _, r2⟩ := DataW.trod_int Try.underlying28 g2
    simp only [List.cons.injEq, and_true] at e2
    subst e2
    have s2 : 0 ≤ z2 ∧ z2 ≤ 18446744073709551615 := by simpa [Lit.wf, IntKind.min, IntKind.max, IntKind.signed, IntKind.bits] using r2
    obtain ⟨x2, rfl⟩ : ∃ x : Nat, z2 = (x : Int) := ⟨z2.toNat, by omega⟩
    have l2 : x2 < 18446744073709551616 := by omega
    obtain ⟨z3, e3, _, r3⟩ := DataW.trod_int Try.underlying28 g3
    simp only [List.cons.injEq, and_true] at e3
    subst e3
    have s3 : 0 ≤ z3 ∧ z3 ≤ 18446744073709551615 := by simpa [Lit.wf, IntKind.min, IntKind.max, IntKind.signed, IntKind.bits] using r3
    obtain ⟨x3, rfl⟩ : ∃ x : Nat, z3 = (x : Int) := ⟨z3.toNat, by omega⟩
    have l3 : x3 < 18446744073709551616 := by omega
    obtain ⟨x4, e4, _⟩ := DataW.trod_bool Try.underlying4 g4
    simp only [List.cons.injEq, and_true] at e4
    subst e4
    obtain ⟨a5, m5, p5, rfl⟩ := slice_of14 Try.underlying33 g5
    have hw5 : ∀ n ∈ y5.1.weights Try.prog 33, n ≤ 140737488351232 := fun n hn => hN n (by
      rw [hd]
      simp only [DataW.weights, Try.underlying37, DataW.weightsEach, List.map_cons, List.map_nil]
      simp [hn])
    obtain ⟨b5, h5, hL5⟩ := open_bytes g5
    have n5 := hL5 _ hw5
    obtain rfl := h5.len_eq
    have hw6 : ∀ n ∈ y6.1.weights Try.prog 35, n ≤ 140737488351232 := fun n hn => hN n (by
      rw [hd]
      simp only [DataW.weights, Try.underlying37, DataW.weightsEach, List.map_cons, List.map_nil]
      simp [hn])
    obtain ⟨⟨m6, u6⟩, e6, i6, l6⟩ := open_rtc _ _ _ g6 hw6
    simp only [rtc, List.cons.injEq, and_true] at e6
    obtain ⟨rfl, rfl⟩ := e6
    obtain ⟨x7, e7, _⟩ := DataW.trod_bool Try.underlying4 g7
    simp only [List.cons.injEq, and_true] at e7
    subst e7
    obtain ⟨z8, e8, _, r8⟩ := DataW.trod_int Try.underlying28 g8
    simp only [List.cons.injEq, and_true] at e8
    subst e8
    have s8 : 0 ≤ z8 ∧ z8 ≤ 18446744073709551615 := by simpa [Lit.wf, IntKind.min, IntKind.max, IntKind.signed, IntKind.bits] using r8
    obtain ⟨x8, rfl⟩ : ∃ x : Nat, z8 = (x : Int) := ⟨z8.toNat, by omega⟩
    have l8 : x8 < 18446744073709551616 := by omega
    exact ⟨(⟨x0, x1, x2, x3, x4, b5, m6, u6, x7, x8⟩, ⟨a5, p5⟩), rfl, ⟨w0, w1, l2, l3, h5, n5, i6, l6, l8⟩⟩
set_option maxRecDepth 100000 in
set_option maxHeartbeats 1000000 in
theorem open_bkc {H : Type} {enc : TypeId × Value → H} {W : World} (n : Nat) (cs : List Value) (x : DataW H × List MemPlace) (h : DataW.trod enc Try.prog W 0 (fun _ => true) true n 27 cs = some x) (hN : ∀ m ∈ x.1.weights Try.prog 27, m ≤ 140737488351232) :
    ∃ q : Bk, cs = bkc q ∧ BkOK q := by
  obtain ⟨d, pl⟩ := x
  obtain ⟨xs, k, hk, hxy, hcl, hxl, hf⟩ := DataW.trod_struct Try.underlying27 h
  rw [show Try.prog.cellsOf 27 = 9 by kernel_rfl] at hcl
  match xs, hxl, cs, hcl with
  | [y0, y1, y2, y3, y4, y5, y6, y7, y8], _, [v0, v1, v2, v3, v4, v5, v6, v7, v8], _ =>
    have g0 := hf 0 _ rfl
    have g1 := hf 1 _ rfl
    have g2 := hf 2 _ rfl
    have g3 := hf 3 _ rfl
    have g4 := hf 4 _ rfl
    have g5 := hf 5 _ rfl
    have g6 := hf 6 _ rfl
    have g7 := hf 7 _ rfl
    have g8 := hf 8 _ rfl
    have c_b : Try.prog.cellsOf 4 = 1 := by kernel_rfl
    have c_i : Try.prog.cellsOf 3 = 1 := by kernel_rfl
    have c_s : Try.prog.cellsOf 9 = 1 := by kernel_rfl
    simp [c_s] at g0
    simp [c_i] at g1
    simp [c_b] at g2
    simp [c_b] at g3
    simp [c_i] at g4
    simp [c_i] at g5
    simp [c_s] at g6
    simp [c_i] at g7
    simp [c_i] at g8
    have hd : d = .agg [y0.1, y1.1, y2.1, y3.1, y4.1, y5.1, y6.1, y7.1, y8.1] := by have := (Prod.mk.inj hxy).1; simpa using this
    obtain ⟨x0, e0, f0, _⟩ := DataW.trod_string Try.underlying9 g0
    simp only [List.cons.injEq, and_true] at e0
    subst e0
    have w0 : x0.size ≤ 140737488351232 := hN _ (by
      rw [hd, f0]
      simp [DataW.weights, Try.underlying27, DataW.weightsEach])
    obtain ⟨x1, e1, _, r1⟩ := DataW.trod_int Try.underlying3 g1
    simp only [List.cons.injEq, and_true] at e1
    subst e1
    have i1 : -9223372036854775808 ≤ x1 ∧ x1 ≤ 9223372036854775807 := by simpa [Lit.wf, IntKind.min, IntKind.max, IntKind.signed, IntKind.bits] using r1
    obtain ⟨x2, e2, _⟩ := DataW.trod_bool Try.underlying4 g2
    simp only [List.cons.injEq, and_true] at e2
    subst e2
    obtain ⟨x3, e3, _⟩ := DataW.trod_bool Try.underlying4 g3
    simp only [List.cons.injEq, and_true] at e3
    subst e3
    obtain ⟨x4, e4, _, r4⟩ := DataW.trod_int Try.underlying3 g4
    simp only [List.cons.injEq, and_true] at e4
    subst e4
    have i4 : -9223372036854775808 ≤ x4 ∧ x4 ≤ 9223372036854775807 := by simpa [Lit.wf, IntKind.min, IntKind.max, IntKind.signed, IntKind.bits] using r4
    obtain ⟨x5, e5, _, r5⟩ := DataW.trod_int Try.underlying3 g5
    simp only [List.cons.injEq, and_true] at e5
    subst e5
    have i5 : -9223372036854775808 ≤ x5 ∧ x5 ≤ 9223372036854775807 := by simpa [Lit.wf, IntKind.min, IntKind.max, IntKind.signed, IntKind.bits] using r5
    obtain ⟨x6, e6, f6, _⟩ := DataW.trod_string Try.underlying9 g6
    simp only [List.cons.injEq, and_true] at e6
    subst e6
    have w6 : x6.size ≤ 140737488351232 := hN _ (by
      rw [hd, f6]
      simp [DataW.weights, Try.underlying27, DataW.weightsEach])
    obtain ⟨x7, e7, _, r7⟩ := DataW.trod_int Try.underlying3 g7
    simp only [List.cons.injEq, and_true] at e7
    subst e7
    have i7 : -9223372036854775808 ≤ x7 ∧ x7 ≤ 9223372036854775807 := by simpa [Lit.wf, IntKind.min, IntKind.max, IntKind.signed, IntKind.bits] using r7
    obtain ⟨x8, e8, _, r8⟩ := DataW.trod_int Try.underlying3 g8
    simp only [List.cons.injEq, and_true] at e8
    subst e8
    have i8 : -9223372036854775808 ≤ x8 ∧ x8 ≤ 9223372036854775807 := by simpa [Lit.wf, IntKind.min, IntKind.max, IntKind.signed, IntKind.bits] using r8
    exact ⟨⟨x0, x1, x2, x3, x4, x5, x6, x7, x8⟩, rfl, ⟨w0, i1, i4, i5, w6, i7, i8⟩⟩
theorem open_rt {H : Type} {enc : TypeId × Value → H} {W : World} {r : Reach} {b0 : Nat} {v : Value} {d : DataW H} {pl : List MemPlace} (hv : Value.okWide Try.prog W r b0 35 v) (h : DataW.Trod enc Try.prog W 0 (fun _ => true) true 35 v d pl) (hN : ∀ n ∈ d.weights Try.prog 35, n ≤ 140737488351232) :
    ∃ q : Int × Nat, v = .agg (rtc q.1 q.2).toArray ∧ (-9223372036854775808 ≤ q.1 ∧ q.1 ≤ 9223372036854775807) ∧ q.2 < 18446744073709551616 := by
  obtain ⟨cs, rfl, hsz⟩ := okWide_struct Try.underlying35 hv
  obtain ⟨fuel, hf⟩ := h
  obtain ⟨q, e, h1⟩ := open_rtc _ _ _ hf hN
  exact ⟨q, by rw [← e]; rfl, h1⟩
theorem open_vs {H : Type} {enc : TypeId × Value → H} {W : World} {r : Reach} {b0 : Nat} {v : Value} {d : DataW H} {pl : List MemPlace} (hv : Value.okWide Try.prog W r b0 37 v) (h : DataW.Trod enc Try.prog W 0 (fun _ => true) true 37 v d pl) (hN : ∀ n ∈ d.weights Try.prog 37, n ≤ 140737488351232) :
    ∃ q : Vs × VsA, v = .agg (vsc q.1 q.2).toArray ∧ VsOK W q.1 q.2 := by
  obtain ⟨cs, rfl, hsz⟩ := okWide_struct Try.underlying37 hv
  obtain ⟨fuel, hf⟩ := h
  obtain ⟨q, e, h1⟩ := open_vsc _ _ _ hf hN
  exact ⟨q, by rw [← e]; rfl, h1⟩
theorem open_bk {H : Type} {enc : TypeId × Value → H} {W : World} {r : Reach} {b0 : Nat} {v : Value} {d : DataW H} {pl : List MemPlace} (hv : Value.okWide Try.prog W r b0 27 v) (h : DataW.Trod enc Try.prog W 0 (fun _ => true) true 27 v d pl) (hN : ∀ n ∈ d.weights Try.prog 27, n ≤ 140737488351232) :
    ∃ q : Bk, v = .agg (bkc q).toArray ∧ BkOK q := by
  obtain ⟨cs, rfl, hsz⟩ := okWide_struct Try.underlying27 hv
  obtain ⟨fuel, hf⟩ := h
  obtain ⟨q, e, h1⟩ := open_bkc _ _ _ hf hN
  exact ⟨q, by rw [← e]; rfl, h1⟩
end Go.Proofs.Ytjmkfkkkjcjplaa
