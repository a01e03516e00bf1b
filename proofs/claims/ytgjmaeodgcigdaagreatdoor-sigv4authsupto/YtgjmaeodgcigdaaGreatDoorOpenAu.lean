/- What the frame tells of an authorization that came in. -/
import Derived.Test.YtgjmaeodgcigdaaGreatDoorOpenTs
namespace Go.Proofs.YtgjmaeodgcigdaaGreatDoor
open Go.ChangeShapes Go.WideShapes

/-- an authorization that came in -/
structure AuIn (W : World) (v : Value) (xa xd : ByteArray) (ta : Option Addr) (tn tc : Nat) (ts : List (List UInt8)) (xg : ByteArray) : Prop where
  val : v = .agg #[.string xa, .string xd, .slice ta tn tc, .string xg]
  isT : IsT W ta tn tc ts
theorem bulk_str {H : Type} (s : ByteArray) : s.size ≤ Rows.uptoBulk (DataW.lit (H := H) (.string s.data.toList)) := by
  have h : s.data.toList.length ≤ Rows.uptoBulk (DataW.lit (H := H) (.string s.data.toList)) := by
    simp only [Rows.uptoBulk]; omega
  have e : s.data.toList.length = s.size := by rw [Array.length_toList]; rfl
  omega
set_option maxRecDepth 100000 in
theorem open_au {H : Type} {enc : TypeId × Value → H} {W : World} {r : Reach} {b0 : Nat} {v : Value} {d : DataW H} {pl : List MemPlace} (hv : Value.okWide Tryz.prog W r b0 45 v) (h : DataW.Trod enc Tryz.prog W 0 (fun _ => true) true 45 v d pl) :
    ∃ xa xd ta tn tc ts xg, AuIn W v xa xd ta tn tc ts xg ∧ xa.size ≤ Rows.uptoBulk d ∧ xd.size ≤ Rows.uptoBulk d ∧ (∀ i, i < ts.length → (nthT ts i).length ≤ Rows.uptoBulk d) ∧ xg.size ≤ Rows.uptoBulk d := by
  obtain ⟨cs, rfl, hsz⟩ := okWide_struct Tryz.underlying45 hv
  have hC : Tryz.prog.cellsOf 45 = 4 := by kernel_rfl
  rw [hC] at hsz
  obtain ⟨fuel, hf⟩ := h
  obtain ⟨xs, k, hk, hxy, hcl, hxl, hfl⟩ := DataW.trod_struct Tryz.underlying45 hf
  have e0 : ∃ c0 c1 c2 c3, cs = #[c0, c1, c2, c3] := by
    obtain ⟨l⟩ := cs
    match l, hsz with
    | [c0, c1, c2, c3], _ => exact ⟨c0, c1, c2, c3, rfl⟩
  obtain ⟨c0, c1, c2, c3, rfl⟩ := e0
  have e1 : ∃ y0 y1 y2 y3, xs = [y0, y1, y2, y3] := by
    match xs, hxl with
    | [y0, y1, y2, y3], _ => exact ⟨y0, y1, y2, y3, rfl⟩
  obtain ⟨y0, y1, y2, y3, rfl⟩ := e1
  have cT : Tryz.prog.cellsOf 26 = 1 := by kernel_rfl
  have g0 := hfl 0 _ rfl
  have g1 := hfl 1 _ rfl
  have g2 := hfl 2 _ rfl
  have g3 := hfl 3 _ rfl
  simp [cellsS1, cT, Value.cells] at g0 g1 g2 g3
  obtain ⟨s0, q0, x0, _⟩ := DataW.trod_string Tryz.underlying9 g0
  obtain ⟨s1, q1, x1, _⟩ := DataW.trod_string Tryz.underlying9 g1
  obtain ⟨a2, n2, k2, q2⟩ := Joins.slice_form Tryz.underlying26 g2
  obtain ⟨s3, q3, x3, _⟩ := DataW.trod_string Tryz.underlying9 g3
  simp only [List.cons.injEq, and_true] at q0 q1 q2 q3
  subst q0 q1 q2 q3
  obtain ⟨ts, hT, _, w2⟩ := open_texts g2
  have hd : d = .agg [y0.1, y1.1, y2.1, y3.1] := by have := (Prod.mk.inj hxy).1; simpa using this
  have hw : Rows.uptoBulk y0.1 ≤ Rows.uptoBulk d ∧ Rows.uptoBulk y1.1 ≤ Rows.uptoBulk d ∧ Rows.uptoBulk y2.1 ≤ Rows.uptoBulk d ∧ Rows.uptoBulk y3.1 ≤ Rows.uptoBulk d := by
    rw [hd]
    simp only [Rows.uptoBulk, Rows.uptoBulkAll]
    omega
  have b0 : s0.size ≤ Rows.uptoBulk y0.1 := by rw [x0]; exact bulk_str s0
  have b1 : s1.size ≤ Rows.uptoBulk y1.1 := by rw [x1]; exact bulk_str s1
  have b3 : s3.size ≤ Rows.uptoBulk y3.1 := by rw [x3]; exact bulk_str s3
  exact ⟨s0, s1, a2, n2, k2, ts, s3, ⟨rfl, hT⟩, by omega, by omega, fun i hi => Nat.le_trans (w2 i hi) hw.2.2.1, by omega⟩
end Go.Proofs.YtgjmaeodgcigdaaGreatDoor
