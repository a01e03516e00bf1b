/- BlobNils. -/
import Derived.Test.YthjdmfbengpepaaGreatB45
import Derived.Test.YthjdmfbengpepaaGreatSpA
namespace Go.Proofs.YthjdmfbengpepaaGreat
open Go.RowKit

set_option maxRecDepth 20000 in
set_option maxHeartbeats 2000000 in
theorem nils12 {JA : World → Nat → Nat → Nat → Jl → Prop} {TA SA : World → Nat → Nat → Nat → Nat → Tl → Jl → Prop} (ok : JrnOK JA TA) (so : SpcOK JA SA) (bo : BlbOK SA) (ba : Option Addr) (bl bc : Nat) (r : Rf) (q : RfA) (w : World) (h : IsRf w r q) :
    Calls Tryz.prog 6 #[.slice ba bl bc, .agg (rfc r q).toArray] w fun e w' => e = .returned (.bool true) ∧ Below w.heap.size w w' := by
  have hY : Below w.heap.size w (w.alloc (.cells (rfc r q).toArray 46)) := (Below.refl _ w).alloc (Nat.le_refl _) _
  have kb := Blk.new w 46 (rfc r q)
  have HBY := mkHid hY
  have HRt := refRight12 r q _ (h.below hY)
  have HRr : Hid (∀ W, Below w.heap.size w W → IsRf W r q) := fun W hW => h.below hW
  have HAl : ∀ W, Calls Tryz.prog 7 #[] W fun e w' => e = .returned (.bool true) ∧ Below W.heap.size W w' := fun W => lawAlive12 ok so bo W
  have HKb := mkHid kb
  clear h hY
  cases hrt : rightL r with
  | true =>
    rw [hrt] at HRt
    obtain ⟨rl, rs, rz⟩ := r
    obtain ⟨qa, qc, qb, qd⟩ := q
    simp only [rfc] at *
    have c0 := kb.cell 0
    have c1 := kb.cell 1
    have c2 := kb.cell 2
    simp only [List.getElem?_cons_zero, List.getElem?_cons_succ] at c0 c1 c2
    clear kb hrt
    go_enter Tryz.func6, Tryz.ntmps6
    go_wp2_with fail
    refine HRt.mono ?_
    rintro e y1 ⟨rfl, hb1⟩
    have HB1 := mkHid (HBY.out.trans (hb1.mono HBY.out.size))
    clear hb1 HRt
    go_wp2_with fail
    refine (HAl _).mono ?_
    rintro e y2 ⟨rfl, hb2⟩
    have HB2 := mkHid (HB1.out.trans (hb2.mono HB1.out.size))
    go_wp2_with fail
    go_ret
    exact ⟨rfl, HB2.out⟩
  | false =>
    rw [hrt] at HRt
    have HGe : Hid (∀ t j, getE t j r = 1) := fun t j => by unfold getE; rw [if_pos hrt]
    have HDe : Hid (∀ t j, dropE t j r = 1) := fun t j => by unfold dropE; rw [hrt]; rfl
    by_cases hlg : r.sum.length ≤ 10000 ∧ r.secs.length ≤ 1000
    · obtain ⟨hl1, hl2⟩ := hlg
      have HGt : Hid (∀ W S J P, SA W S J P w.heap.size as0 aj0 → Below w.heap.size w W → Calls Tryz.prog 22 #[.func (.func 23) #[.pointer (some ⟨S, 0, none⟩)] #[], .agg (rfc r q).toArray] W fun e w' => (∃ v, e = .returned (.tuple #[v, .int .i64 1]) ∧ IsV w' v (getB as0 aj0 r)) ∧ SA w' S J P w.heap.size as0 aj0 ∧ KS w.heap.size W w') := fun W S J P hS hW => by
        have := bo.get W S J P w.heap.size 0 as0 aj0 r q hS fit_0 (by omega) (by omega) (fun V hV => HRr.out V (hW.trans hV.b))
        rw [HGe.out] at this
        exact this
      have HDr : Hid (∀ W S J P, SA W S J P w.heap.size as0 aj0 → Below w.heap.size w W → Calls Tryz.prog 12 #[.pointer (some ⟨S, 0, none⟩), .agg (rfc r q).toArray] W fun e w' => e = .returned (.int .i64 1) ∧ SA w' S J P w.heap.size (dropT as0 aj0 r) aj0 ∧ KS w.heap.size W w') := fun W S J P hS hW => by
        have := bo.drop W S J P w.heap.size 0 as0 aj0 r q hS fit_0 (by omega) (by omega) (fun V hV => HRr.out V (hW.trans hV.b))
        rw [HDe.out] at this
        exact this
      have HOw : Hid (∀ W, Calls Tryz.prog 13 #[.agg (rfc r q).toArray] W fun e w' => e = .returned (.agg (rfc r q).toArray) ∧ Below W.heap.size W w') := fun W => lawOwn12 r q W
      have HDn : Hid (∀ W, Calls Tryz.prog 12 #[.pointer none, .agg (rfc r q).toArray] W fun e w' => e = .returned (.int .i64 2) ∧ Below W.heap.size W w') := fun W => bo.dropNil W r q
      have HSb : ∀ W, Calls Tryz.prog 32 #[.slice none 0 0, .int .i64 0, .int .i64 0] W fun e w' => e = .returned (.bool true) ∧ Below W.heap.size W w' := fun W => bits11 ok so none 0 0 [] 0 0 W (isB_none _) (by omega) (by omega) (by omega) (by omega)
      obtain ⟨rl, rs, rz⟩ := r
      obtain ⟨qa, qc, qb, qd⟩ := q
      change rs.length ≤ 10000 at hl1
      change rz.length ≤ 1000 at hl2
      have hl1' : ¬ (10000 : Int) < (rs.length : Int) := by omega
      have hl2' : ¬ (1000 : Int) < (rz.length : Int) := by omega
      simp only [rfc] at *
      have c0 := kb.cell 0
      have c1 := kb.cell 1
      have c2 := kb.cell 2
      simp only [List.getElem?_cons_zero, List.getElem?_cons_succ] at c0 c1 c2
      clear kb hrt
      go_enter Tryz.func6, Tryz.ntmps6
      go_wp2_with fail
      refine HRt.mono ?_
      rintro e y1 ⟨rfl, hb1⟩
      have HB1 := mkHid (HBY.out.trans (hb1.mono HBY.out.size))
      have HK1 := mkHid (HKb.out.on hb1)
      have d1 : y1.cell? ⟨w.heap.size, 1, none⟩ = some (.slice qa rs.length qc) := HK1.out.cell 1
      have d2 : y1.cell? ⟨w.heap.size, 2, none⟩ = some (.slice qb rz.length qd) := HK1.out.cell 2
      clear hb1 HRt c0 c1 c2 HKb
      go_wp2_with fail
      refine (lawFresh12 ok so y1 w.heap.size HB1.out.size).mono ?_
      rintro e y2 ⟨⟨J, S, P, rfl, hS2⟩, hk2⟩
      have HB2 := mkHid (HB1.out.trans hk2.out.b)
      have HK2 := mkHid (hk2.out.o.blk HK1.out (by decide))
      clear hk2 d1 d2 HK1
      go_wp2_with fail
      refine (bo.putNil y2 ba bl bc).mono ?_
      rintro e y3 ⟨rfl, hb3⟩
      have hA3 : Below y3.heap.size y3 (y3.alloc (.cells #[.int .i64 0, .slice none 0 0, .slice none 0 0] 44)) := (Below.refl _ y3).alloc (Nat.le_refl _) _
      have hb4 := hb3.trans (hA3.mono hb3.size)
      have HS3 := mkHid (so.keep hS2.out (KeepT.of_below hb4))
      have HB3 := mkHid (HB2.out.trans (hb4.mono HB2.out.size))
      have HK3 := mkHid (HK2.out.on hb4)
      have e0 := HK3.out.cell 0
      have e1 := HK3.out.cell 1
      have e2 := HK3.out.cell 2
      simp only [List.getElem?_cons_zero, List.getElem?_cons_succ] at e0 e1 e2
      clear hb3 hA3 hb4 hS2 HK2
      have hmf : ∀ (fn : Fn) (first cap : Array Value) (w : World), (Instr.makeFunc fn first cap).run Tryz.prog w = .ok (.func fn first cap) w := fun _ _ _ _ => rfl
      go_wp2_with fail
      generalize y3.alloc (.cells #[.int .i64 0, .slice none 0 0, .slice none 0 0] 44) = Y3 at *
      refine (HOw.out _).mono ?_
      rintro e y5 ⟨rfl, hb5⟩
      have HS5 := mkHid (so.keep HS3.out (KeepT.of_below hb5))
      have HB5 := mkHid (HB3.out.trans (hb5.mono HB3.out.size))
      have HK5 := mkHid (HK3.out.on hb5)
      clear hb5 e0 e1 e2 HS3 HK3
      go_wp2_with fail
      refine (HGt.out _ S J P HS5.out HB5.out).mono ?_
      rintro e y6 ⟨⟨v6, rfl, hv6⟩, hS6, hk6⟩
      obtain ⟨va, vc, rfl, _⟩ := hv6
      have HS6 := mkHid hS6
      have HB6 := mkHid (HB5.out.trans hk6.b)
      have HK6 := mkHid (hk6.o.blk HK5.out (by decide))
      have e0 := HK6.out.cell 0
      have e1 := HK6.out.cell 1
      have e2 := HK6.out.cell 2
      simp only [List.getElem?_cons_zero, List.getElem?_cons_succ] at e0 e1 e2
      clear hS6 hk6 HS5 HK5 HB5
      go_wp2_with fail
      refine (HOw.out _).mono ?_
      rintro e y7 ⟨rfl, hb7⟩
      have HS7 := mkHid (so.keep HS6.out (KeepT.of_below hb7))
      have HB7 := mkHid (HB6.out.trans (hb7.mono HB6.out.size))
      have HK7 := mkHid (HK6.out.on hb7)
      clear hb7 e0 e1 e2 HS6 HK6
      go_wp2_with fail
      refine (HDn.out _).mono ?_
      rintro e y8 ⟨rfl, hb8⟩
      have HS8 := mkHid (so.keep HS7.out (KeepT.of_below hb8))
      have HB8 := mkHid (HB7.out.trans (hb8.mono HB7.out.size))
      have HK8 := mkHid (HK7.out.on hb8)
      have e0 := HK8.out.cell 0
      have e1 := HK8.out.cell 1
      have e2 := HK8.out.cell 2
      simp only [List.getElem?_cons_zero, List.getElem?_cons_succ] at e0 e1 e2
      clear hb8 HS7 HK7
      go_wp2_with fail
      refine (HOw.out _).mono ?_
      rintro e y9 ⟨rfl, hb9⟩
      have HS9 := mkHid (so.keep HS8.out (KeepT.of_below hb9))
      have HB9 := mkHid (HB8.out.trans (hb9.mono HB8.out.size))
      clear hb9 e0 e1 e2 HS8 HK8
      go_wp2_with fail
      refine (HDr.out _ S J P HS9.out HB9.out).mono ?_
      rintro e y10 ⟨rfl, hS10, hk10⟩
      have HB10 := mkHid (HB9.out.trans hk10.b)
      clear hS10 hk10 HS9
      go_wp2_with fail
      refine (HSb _).mono ?_
      rintro e y11 ⟨rfl, hb11⟩
      have HB11 := mkHid (HB10.out.trans (hb11.mono HB10.out.size))
      clear hb11
      go_wp2_with fail
      refine (HAl _).mono ?_
      rintro e y12 ⟨rfl, hb12⟩
      have HB12 := mkHid (HB11.out.trans (hb12.mono HB11.out.size))
      go_wp2_with fail
      go_ret
      exact ⟨rfl, HB12.out⟩
    · obtain ⟨rl, rs, rz⟩ := r
      obtain ⟨qa, qc, qb, qd⟩ := q
      change ¬ (rs.length ≤ 10000 ∧ rz.length ≤ 1000) at hlg
      simp only [rfc] at *
      have c0 := kb.cell 0
      have c1 := kb.cell 1
      have c2 := kb.cell 2
      simp only [List.getElem?_cons_zero, List.getElem?_cons_succ] at c0 c1 c2
      clear kb hrt HGe HDe
      by_cases h1 : (10000 : Int) < (rs.length : Int)
      · clear hlg
        go_enter Tryz.func6, Tryz.ntmps6
        go_wp2_with fail
        refine HRt.mono ?_
        rintro e y1 ⟨rfl, hb1⟩
        have HB1 := mkHid (HBY.out.trans (hb1.mono HBY.out.size))
        have HK1 := mkHid (HKb.out.on hb1)
        have d1 : y1.cell? ⟨w.heap.size, 1, none⟩ = some (.slice qa rs.length qc) := HK1.out.cell 1
        clear hb1 HRt
        go_wp2_with fail
        refine (HAl _).mono ?_
        rintro e y2 ⟨rfl, hb2⟩
        have HB2 := mkHid (HB1.out.trans (hb2.mono HB1.out.size))
        go_wp2_with fail
        go_ret
        exact ⟨rfl, HB2.out⟩
      · have h2 : (1000 : Int) < (rz.length : Int) := by omega
        clear hlg
        go_enter Tryz.func6, Tryz.ntmps6
        go_wp2_with fail
        refine HRt.mono ?_
        rintro e y1 ⟨rfl, hb1⟩
        have HB1 := mkHid (HBY.out.trans (hb1.mono HBY.out.size))
        have HK1 := mkHid (HKb.out.on hb1)
        have d1 : y1.cell? ⟨w.heap.size, 1, none⟩ = some (.slice qa rs.length qc) := HK1.out.cell 1
        have d2 : y1.cell? ⟨w.heap.size, 2, none⟩ = some (.slice qb rz.length qd) := HK1.out.cell 2
        clear hb1 HRt
        go_wp2_with fail
        refine (HAl _).mono ?_
        rintro e y2 ⟨rfl, hb2⟩
        have HB2 := mkHid (HB1.out.trans (hb2.mono HB1.out.size))
        go_wp2_with fail
        go_ret
        exact ⟨rfl, HB2.out⟩
end Go.Proofs.YthjdmfbengpepaaGreat
