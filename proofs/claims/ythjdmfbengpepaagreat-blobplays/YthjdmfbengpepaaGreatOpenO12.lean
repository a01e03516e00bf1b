/- What the frame tells of a script of stage 12 that came in. -/
import Derived.Test.YthjdmfbengpepaaGreatBlH
import Derived.Test.YthjdmfbengpepaaGreatB45
namespace Go.Proofs.YthjdmfbengpepaaGreat
open Go.ChangeShapes Go.WideShapes

theorem cellsO12 : Tryz.prog.cellsOf 39 = 3 := by kernel_rfl
set_option maxRecDepth 20000 in
theorem open_o12 {H : Type} {enc : TypeId × Value → H} {W : World} {n : Nat} {cs : List Value} {x : DataW H × List MemPlace} (h : DataW.trod enc Tryz.prog W 0 (fun _ => true) true n 39 cs = some x) :
    ∃ q : Oq2, cs = oqc2 q ∧ -9223372036854775808 ≤ q.n ∧ q.n ≤ 9223372036854775807 := by
  obtain ⟨xs, k, hk, hxy, hcl, hxl, hf⟩ := DataW.trod_struct Tryz.underlying39 h
  rw [cellsO12] at hcl
  match xs, hxl, cs, hcl with
  | [y0, y1, y2], _, [v0, v1, v2], _ =>
    have g0 := hf 0 _ rfl
    have g1 := hf 1 _ rfl
    have g2 := hf 2 _ rfl
    have c1 : Tryz.prog.cellsOf 4 = 1 := by kernel_rfl
    have c3 : Tryz.prog.cellsOf 3 = 1 := by kernel_rfl
    have c8 : Tryz.prog.cellsOf 5 = 1 := by kernel_rfl
    simp [c1, c3, c8] at g0 g1 g2
    obtain ⟨k0, e0, _⟩ := DataW.trod_bool Tryz.underlying4 g0
    obtain ⟨k1, e1, _, hw1⟩ := DataW.trod_int Tryz.underlying3 g1
    obtain ⟨k2, e2, _, hw2⟩ := DataW.trod_int Tryz.underlying5 g2
    simp only [List.cons.injEq, and_true] at e0 e1 e2
    subst e0 e1 e2
    have r1 : -9223372036854775808 ≤ k1 ∧ k1 ≤ 9223372036854775807 := by simpa [Lit.wf, IntKind.min, IntKind.max, IntKind.signed, IntKind.bits] using hw1
    have r2 : 0 ≤ k2 ∧ k2 ≤ 255 := by simpa [Lit.wf, IntKind.min, IntKind.max, IntKind.signed, IntKind.bits] using hw2
    have hu2 : ((UInt8.ofNat k2.toNat).toNat : Int) = k2 := by simp only [UInt8.toNat_ofNat']; omega
    refine ⟨⟨k0, k1, UInt8.ofNat k2.toNat⟩, ?_, r1.1, r1.2⟩
    unfold oqc2
    simp only [hu2]
theorem open_os12 {H : Type} {enc : TypeId × Value → H} {W : World} {fuel : Nat} {a : Option Addr} {len cap : Nat} {x : DataW H × List MemPlace} (h : DataW.trod enc Tryz.prog W 0 (fun _ => true) true fuel 22 [.slice a len cap] = some x) (hN : ∀ n ∈ x.1.weights Tryz.prog 22, n ≤ 140737488351232) :
    ∃ os, IsO12 W a len cap os := by
  rcases Deep.open_slice Tryz.underlying22 h with ⟨hcs, _⟩ | ⟨ad, l, c, m, n, D, Pl, hcs, _, hl, hm, hmm, hx, hel⟩
  · simp only [List.cons.injEq, and_true, Value.slice.injEq] at hcs
    obtain ⟨rfl, rfl, rfl⟩ := hcs
    exact ⟨[], rfl, Nat.zero_le _, fun h => absurd h (Nat.lt_irrefl 0), fun i hi => absurd hi (Nat.not_lt_zero _)⟩
  · simp only [List.cons.injEq, and_true, Value.slice.injEq] at hcs
    obtain ⟨rfl, rfl, rfl⟩ := hcs
    have hmc : m = cap := by simpa using hmm
    subst hmc
    rw [cellsO12] at hel
    have each : ∀ i, i < len → ∃ q : Oq2, (∀ j, j < 3 → W.cell? (ad.add (i * 3 + j)) = (oqc2 q)[j]?) ∧ -9223372036854775808 ≤ q.n ∧ q.n ≤ 9223372036854775807 := by
      intro i hi
      obtain ⟨cs', h1, h2⟩ := hel i (by omega)
      obtain ⟨_, _, hcell⟩ := World.cells?_some h1
      obtain ⟨o, rfl, hok⟩ := open_o12 h2
      refine ⟨o, fun j hj => ?_, hok⟩
      have e := hcell j (by omega)
      rw [Deep.add_add] at e
      simpa using e
    haveI : Inhabited Oq2 := ⟨oq2⟩
    obtain ⟨q, hq⟩ := Deep.choose_lt each
    have hn : ∀ i, i < len → ((List.range len).map q).getD i oq2 = q i := fun i hi => by simp [hi]
    refine ⟨(List.range len).map q, by simp, ?_, fun hp => ?_, fun i hi => by rw [hn i hi]; exact (hq i hi).2⟩
    rotate_left
    · obtain ⟨b, off, spot⟩ := ad
      have h00 : W.cell? (Addr.add ⟨b, off, spot⟩ (0 * 3 + 0)) = some (.bool (q 0).drop) := ((hq 0 hp).1 0 (by omega))
      have hspot : spot = none := by simpa [Addr.add] using World.cell?_spot h00
      subst hspot
      refine ⟨b, off, rfl, cell_lt h00, fun i hi j hj => ?_⟩
      have e := (hq i hi).1 j hj
      rw [Addr.add_lit] at e
      rw [hn i hi, Nat.add_assoc]
      exact e
    · have hb1 : 1 ≤ Tryz.prog.bytesOf 39 := of_decide_eq_true (by kernel_rfl)
      rw [hx] at hN
      simp only [DataW.weights, Tryz.underlying22] at hN
      have := hN _ (List.mem_cons_self ..)
      simp only [List.length_map, List.length_range] at this
      have h5 : len * 1 ≤ (len + (m - len)) * Tryz.prog.bytesOf 39 := Nat.mul_le_mul (by omega) hb1
      omega
end Go.Proofs.YthjdmfbengpepaaGreat
