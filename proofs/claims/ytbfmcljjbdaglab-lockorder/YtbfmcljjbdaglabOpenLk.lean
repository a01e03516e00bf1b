/- What the frame tells of retentions, versions, buckets and tries that came in. -/
import Derived.Test.YtbfmcljjbdaglabRowC
import Derived.Test.YtbfmcljjbdaglabLk3
namespace Go.Proofs.Ytbfmcljjbdaglab
open Go.ChangeShapes Go.WideShapes

set_option maxRecDepth 100000 in
set_option maxHeartbeats 1000000 in
theorem open_rtc {H : Type} {enc : TypeId × Value → H} {W : World} (n : Nat) (cs : List Value) (x : DataW H × List MemPlace) (h : DataW.trod enc Try.prog W 0 (fun _ => true) true n 24 cs = some x) (hN : ∀ m ∈ x.1.weights Try.prog 24, m ≤ 140737488351232) :
    ∃ q : Int × Nat, cs = rtc q.1 q.2 ∧ (-9223372036854775808 ≤ q.1 ∧ q.1 ≤ 9223372036854775807) ∧ q.2 < 18446744073709551616 := by
  obtain ⟨d, pl⟩ := x
  obtain ⟨xs, k, hk, hxy, hcl, hxl, hf⟩ := DataW.trod_struct Try.underlying24 h
  rw [show Try.prog.cellsOf 24 = 2 by kernel_rfl] at hcl
  match xs, hxl, cs, hcl with
  | [y0, y1], _, [v0, v1], _ =>
    have g0 := hf 0 _ rfl
    have g1 := hf 1 _ rfl
    have c_i : Try.prog.cellsOf 3 = 1 := by kernel_rfl
    have c_u : Try.prog.cellsOf 22 = 1 := by kernel_rfl
    simp [c_i] at g0
    simp [c_u] at g1
    obtain ⟨x0, e0, _, r0⟩ := DataW.trod_int Try.underlying3 g0
    simp only [List.cons.injEq, and_true] at e0
    subst e0
    have i0 : -9223372036854775808 ≤ x0 ∧ x0 ≤ 9223372036854775807 := by simpa [Lit.wf, IntKind.min, IntKind.max, IntKind.signed, IntKind.bits] using r0
    obtain ⟨z1, e1, _, r1⟩ := DataW.trod_int Try.underlying22 g1
    simp only [List.cons.injEq, and_true] at e1
    subst e1
    have s1 : 0 ≤ z1 ∧ z1 ≤ 18446744073709551615 := by simpa [Lit.wf, IntKind.min, IntKind.max, IntKind.signed, IntKind.bits] using r1
    obtain ⟨x1, rfl⟩ : ∃ x : Nat, z1 = (x : Int) := ⟨z1.toNat, by omega⟩
    have l1 : x1 < 18446744073709551616 := by omega
    exact ⟨(x0, x1), rfl, i0, l1⟩
/-- a version that came in -/
structure VsOK (W : World) (v : Vs) (q : VsA) : Prop where
  bkt : v.bkt.size ≤ 140737488351232
  key : v.key.size ≤ 140737488351232
  id : v.id < 18446744073709551616
  ord : v.ord < 18446744073709551616
  data : IsB W q.ad v.data.length q.cap v.data
  len : v.data.length ≤ 140737488351232
  rm : -9223372036854775808 ≤ v.rm ∧ v.rm ≤ 9223372036854775807
  ru : v.ru < 18446744073709551616
  time : v.time < 18446744073709551616
/-- a bucket that came in -/
structure BkOK (b : Bk) : Prop where
  name : b.name.size ≤ 140737488351232
  ver : -9223372036854775808 ≤ b.ver ∧ b.ver ≤ 9223372036854775807
  dflt : -9223372036854775808 ≤ b.dflt ∧ b.dflt ≤ 9223372036854775807
  days : -9223372036854775808 ≤ b.days ∧ b.days ≤ 9223372036854775807
  pol : b.pol.size ≤ 140737488351232
  exp : -9223372036854775808 ≤ b.exp ∧ b.exp ≤ 9223372036854775807
  nonc : -9223372036854775808 ≤ b.nonc ∧ b.nonc ≤ 9223372036854775807
theorem open_rt {H : Type} {enc : TypeId × Value → H} {W : World} {r : Reach} {b0 : Nat} {v : Value} {d : DataW H} {pl : List MemPlace} (hv : Value.okWide Try.prog W r b0 24 v) (h : DataW.Trod enc Try.prog W 0 (fun _ => true) true 24 v d pl) (hN : ∀ n ∈ d.weights Try.prog 24, n ≤ 140737488351232) :
    ∃ q : Int × Nat, v = .agg (rtc q.1 q.2).toArray ∧ (-9223372036854775808 ≤ q.1 ∧ q.1 ≤ 9223372036854775807) ∧ q.2 < 18446744073709551616 := by
  obtain ⟨cs, rfl, hsz⟩ := okWide_struct Try.underlying24 hv
  obtain ⟨fuel, hf⟩ := h
  obtain ⟨q, e, h1⟩ := open_rtc _ _ _ hf hN
  exact ⟨q, by rw [← e]; rfl, h1⟩
end Go.Proofs.Ytbfmcljjbdaglab
