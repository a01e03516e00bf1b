/- SpaceOnce, over any space that keeps the document. -/
import Derived.Test.YtdeoankmmolebaaGreatSpO
import Derived.Test.YtdeoankmmolebaaGreatB45
namespace Go.Proofs.YtdeoankmmolebaaGreat
open Go.RowKit

theorem KeepT.grownZ {w w' : World} {base : Nat} {v : Value} {l : List Int} (ho : OwnZ w base v l) (hg : w.grownBy w' v.ownBlock) : KeepT [3] w w' :=
  ⟨hg.size, fun k o hk hno => by
    refine (hg.block k (Array.getElem?_eq_some_iff.1 hk).1 (fun eb => ?_)).trans hk
    rcases ho.2 with ⟨rfl, _⟩ | ⟨g, cap, cur, rfl, _, hgb, _⟩
    · simp [Value.ownBlock] at eb
    · have hkg : k = g := by simpa [Value.ownBlock] using eb
      subst hkg
      have : o = .cells cur 3 (0, 0) := Option.some.inj (hk.symm.trans hgb)
      exact hno _ _ _ this (by decide)⟩
theorem own_bel {w w' : World} {base : Nat} {v : Value} {l : List Int} (h : OwnZ w base v l) (hb : Below w.heap.size w w') : OwnZ w' base v l := own_keepO (us := [3]) (KeepO.of_below hb) h (by decide)
theorem OwnZ.is' {w : World} {base n cap : Nat} {a : Option Addr} {l : List Int} (h : OwnZ w base (.slice a n cap) l) : IsZ w a l.length l := by
  obtain ⟨a', c', e, hI⟩ := h.isZ
  injection e with e1 e2 e3
  subst e1
  exact hI
/-- how the statement stands on its way -/
structure OnceAt (SA : World → Nat → Nat → Nat → Nat → Tl → Jl → Prop) (w wr : World) (S J P : Nat) (v : Value) (t : Tl) (L : List Int) : Prop where
  sa : SA wr S J P w.heap.size t aj0
  outs : Outs t L
  own : OwnZ wr w.heap.size v L
  bel : Below w.heap.size w wr
theorem Outs.le {t : Tl} {L : List Int} (h : Outs t L) : L.length ≤ 13 := by have := h.all; omega
set_option maxRecDepth 20000 in
set_option maxHeartbeats 4000000 in
theorem once11 {JA : World → Nat → Nat → Nat → Jl → Prop} {TA SA : World → Nat → Nat → Nat → Nat → Tl → Jl → Prop} (ok : JrnOK JA TA) (so : SpcOK JA SA) (kz : ∀ {w w' : World} {S J P base : Nat} {t : Tl} {j : Jl}, SA w S J P base t j → KeepT [3] w w' → SA w' S J P base t j) (a : Option Addr) (len cap : Nat) (os : List Sq) (w : World) (h : IsSs w a len cap os) :
    Calls Tryz.prog 5 #[.slice a len cap] w fun e w' => e = .returned (.bool true) ∧ Below w.heap.size w w' := by
  have HX := mkHid h
  have hmax : (len : Int) ≤ 140737488351232 := by have := h.max; omega
  clear h
  have HN : Calls Tryz.prog 12 #[.int .i64 64] w fun e w' => (∃ P, e = .returned (.tuple #[.pointer (some ⟨P, 0, none⟩), .int .i64 0]) ∧ IsD0 w' P w.heap.size (Pl.new 64)) ∧ Below w.heap.size w w' := by
    refine (codNew (fun _ => False) 64 w w.heap.size (Nat.le_refl _) (fun _ h => h.elim)).mono ?_
    rintro e w' ⟨h1, h2⟩
    rw [if_pos (by omega)] at h1
    exact ⟨h1, h2⟩
  have HAl := lawAlive11 ok so
  go_enter Tryz.func5, Tryz.ntmps5
  go_wp2_with fail
  refine HN.mono ?_
  rintro e x1 ⟨⟨P, rfl, hI1⟩, hb1⟩
  have HB1 := mkHid hb1
  have HM := jMount ok hI1 (few_mnew 64 (by omega) (by omega)) (by omega) aj_mount.1
  rw [aj_mount.2.1, aj_mount.2.2] at HM
  clear HN hI1 hb1
  go_wp2_with fail
  refine HM.mono ?_
  rintro e x2 ⟨⟨J, rfl, hJ2⟩, hk2⟩
  have HB2 := mkHid (HB1.out.trans hk2.b)
  have HO := so.open_ x2 J P w.heap.size 0 aj0 hJ2 fit_0
  clear HM hJ2 hk2
  by_cases h200 : 200 < len
  · have h200' : (200 : Int) < (len : Int) := by omega
    clear HO
    go_wp2_with fail
    refine (HAl x2).mono ?_
    rintro e x3 ⟨rfl, hb3⟩
    have HB3 := mkHid (HB2.out.trans (hb3.mono HB2.out.size))
    go_wp2_with fail
    go_ret
    exact ⟨rfl, HB3.out⟩
  · have h200' : ¬ (200 : Int) < (len : Int) := by omega
    go_wp2_with fail
    refine HO.mono ?_
    rintro e x3 ⟨⟨S, rfl, hS3⟩, hk3⟩
    have HB3 := mkHid (HB2.out.trans hk3.b)
    have HS3 := mkHid hS3
    clear HO hS3 hk3
    go_wp2_with fail
    go_loopw [9, 10] (fun o i wr => ∃ (k : Nat) (t : Tl) (L : List Int), k ≤ len ∧ i = .int .i64 (k : Int) ∧ Hid (OnceAt SA w wr S J P o t L)) (fun _ i _ => len - (Go.RowKit.intOf i).toNat)
    case atStart => exact ⟨0, as0, [], Nat.zero_le _, rfl, ⟨HS3.out, outs0, OwnZ.nil _ _, HB3.out⟩⟩
    case round =>
      obtain ⟨k, t, L, hk, rfl, HA⟩ := hrel
      obtain ⟨ow, ocap, hov, _⟩ := HA.out.own.isZ
      have hL13 : L.length ≤ 13 := HA.out.outs.le
      have HL13 : Hid (L.length ≤ 4096) := by unfold Hid; omega
      by_cases hlt : k < len
      · have hlt' : (k : Int) < (len : Int) := by omega
        obtain ⟨b, off, rfl, hbl, hc⟩ := HX.out.cells (by omega)
        have HC : Hid (∀ W, Below w.heap.size w W → W.cell? ⟨b, off + k * 3, none⟩ = some (.int .i64 (os.getD k sq0).kind) ∧ W.cell? ⟨b, off + k * 3 + 1, none⟩ = some (.int .i64 (os.getD k sq0).at_)) := fun W hW => ⟨(hW.cell (p := ⟨b, off + k * 3, none⟩) hbl).trans (hc k hlt 0 (by omega)), (hW.cell (p := ⟨b, off + k * 3 + 1, none⟩) hbl).trans (hc k hlt 1 (by omega))⟩
        have HOk := mkHid (HX.out.ok k hlt)
        clear hc
        generalize os.getD k sq0 = o at *
        obtain ⟨kind, at', by'⟩ := o
        obtain ⟨c0, c1⟩ := HC.out wr HA.out.bel
        change wr.cell? _ = some (.int .i64 kind) at c0
        change wr.cell? _ = some (.int .i64 at') at c1
        by_cases hkd : kind = 1
        · subst hkd
          have HTk := so.take wr S J P w.heap.size 0 t aj0 HA.out.sa HA.out.outs.fit
          by_cases hfull : L.length < 13
          · obtain ⟨e0, x, eV, hx0, hx1, hxn, hO⟩ := HA.out.outs.take hfull
            rw [e0, eV] at HTk
            have hfull' : (L.length : Int) < 13 := by omega
            clear e0 eV
            subst hov
            go_wp2_with fail
            refine HTk.mono ?_
            rintro e y1 ⟨rfl, hS1, hk1⟩
            have HZ : Hid (OwnZ y1 w.heap.size (.slice ow L.length ocap) L) := own_keepO hk1.o HA.out.own (by decide)
            have HB : Hid (Below w.heap.size w y1) := HA.out.bel.trans hk1.b
            clear hk1 HTk
            have HHa := lawHas ow L.length ocap L (x : Int) y1 HZ.out.is' (by omega)
            rw [decide_eq_false hxn] at HHa
            have HS1 := mkHid hS1
            have HO2 := mkHid hO
            clear hO hxn HA hS1
            go_wp2_with fail
            refine HHa.mono ?_
            rintro e y2 ⟨rfl, hy2⟩
            obtain rfl := hy2.symm
            clear hy2 HHa
            have HOa : Hid (OwnZ (y1.alloc (.cells #[.int .i64 (x : Int)] 3)) w.heap.size (.slice ow L.length ocap) L) := World.ownsRow.alloc HZ.out _
            have HBa : Hid (Below w.heap.size w (y1.alloc (.cells #[.int .i64 (x : Int)] 3))) := HB.out.alloc HB.out.size _
            have HOf : Hid (∀ j, (Value.slice ow L.length ocap).ownBlock = some j → w.heap.size ≤ j) := fun j hj => (World.ownsRow.lt HZ.out j hj).1
            have HBz : Hid (w.heap.size ≤ y1.heap.size) := HB.out.size
            have HSx : Hid (SA (y1.alloc (.cells #[.int .i64 (x : Int)] 3)) S J P w.heap.size (tkT t aj0) aj0) := so.keep HS1.out (KeepT.of_below ((Below.refl _ y1).alloc (Nat.le_refl _) _))
            go_wp2_with (at_builtin; refine list_appZ _ rfl (.tmp 91) (.tmp 93) rfl w.heap.size (.slice ow L.length ocap) L rfl HOa.out y1.heap.size (x : Int) rfl (heap_alloc_new y1 _) HL13.out (by rw [World.size_alloc]; have := HBz.out; omega) ?_; intro v' x3 ho3 hg3; have HO3 := mkHid ho3; have HB3' : Hid (Below w.heap.size w x3) := HBa.out.grown hg3 HBa.out.size HOf.out; have HS3' : Hid (SA x3 S J P w.heap.size (tkT t aj0) aj0) := kz HSx.out (KeepT.grownZ HOa.out hg3); clear ho3 hg3)
            go_roundw
            case rel => exact ⟨k + 1, tkT t aj0, L ++ [(x : Int)], by omega, by go_num, ⟨HS3'.out, HO2.out, HO3.out, HB3'.out⟩⟩
            case measure => simp [Go.RowKit.intOf]; omega
          · obtain ⟨e0, eT⟩ := HA.out.outs.full hfull
            rw [e0, eT] at HTk
            have hfull' : ¬ (L.length : Int) < 13 := by omega
            clear e0 eT
            subst hov
            go_wp2_with fail
            refine HTk.mono ?_
            rintro e y1 ⟨rfl, hS1, hk1⟩
            have HA1 : Hid (OnceAt SA w y1 S J P (.slice ow L.length ocap) t L) := ⟨hS1, HA.out.outs, own_keepO hk1.o HA.out.own (by decide), HA.out.bel.trans hk1.b⟩
            clear hk1 HTk hS1 HA
            go_wp2_with fail
            go_roundw
            case rel => exact ⟨k + 1, t, L, by omega, by go_num, HA1⟩
            case measure => simp [Go.RowKit.intOf]; omega
        · have HGv := so.give wr S J P w.heap.size 0 t aj0 at' HA.out.sa HA.out.outs.fit HOk.out.at0 HOk.out.at1
          subst hov
          by_cases hmem : at' ∈ L
          · obtain ⟨e0, hO⟩ := HA.out.outs.give hmem
            rw [e0] at HGv
            go_wp2_with fail
            refine HGv.mono ?_
            rintro e y1 ⟨rfl, hS1, hk1⟩
            have HZ : Hid (OwnZ y1 w.heap.size (.slice ow L.length ocap) L) := own_keepO hk1.o HA.out.own (by decide)
            have HB : Hid (Below w.heap.size w y1) := HA.out.bel.trans hk1.b
            have HHa := lawHas ow L.length ocap L at' y1 HZ.out.is' (by omega)
            rw [decide_eq_true hmem] at HHa
            obtain ⟨d0, d1⟩ := HC.out y1 HB.out
            change y1.cell? _ = some (.int .i64 at') at d1
            have HS1 := mkHid hS1
            have HO2 := mkHid hO
            clear hO hmem HA hS1 HGv c0 c1 d0 hk1
            go_wp2_with fail
            refine HHa.mono ?_
            rintro e y2 ⟨rfl, hy2⟩
            obtain rfl := hy2.symm
            clear hy2 HHa
            have HLs := lawLess ow L.length ocap L at' y1 HZ.out.is' (by omega)
            go_wp2_with fail
            refine HLs.mono ?_
            rintro e y3 ⟨⟨v3, rfl, ho3⟩, hb3⟩
            have HA1 : Hid (OnceAt SA w y3 S J P v3 (gvT t aj0 at') (lessL L at')) := ⟨so.keep HS1.out (KeepT.of_below hb3), HO2.out, own_base ho3 HB.out.size, HB.out.trans (hb3.mono HB.out.size)⟩
            clear ho3 hb3 HLs HO2 HS1 HZ HB d1
            go_wp2_with fail
            go_roundw
            case rel => exact ⟨k + 1, _, _, by omega, by go_num, HA1⟩
            case measure => simp [Go.RowKit.intOf]; omega
          · obtain ⟨e0, eT, eL⟩ := HA.out.outs.no hmem
            rw [e0, eT] at HGv
            go_wp2_with fail
            refine HGv.mono ?_
            rintro e y1 ⟨rfl, hS1, hk1⟩
            have HZ : Hid (OwnZ y1 w.heap.size (.slice ow L.length ocap) L) := own_keepO hk1.o HA.out.own (by decide)
            have HB : Hid (Below w.heap.size w y1) := HA.out.bel.trans hk1.b
            have HHa := lawHas ow L.length ocap L at' y1 HZ.out.is' (by omega)
            rw [decide_eq_false hmem] at HHa
            obtain ⟨d0, d1⟩ := HC.out y1 HB.out
            change y1.cell? _ = some (.int .i64 at') at d1
            have HS1 := mkHid hS1
            have HO2 := mkHid HA.out.outs
            have HEL := mkHid eL
            clear hmem HA hS1 HGv c0 c1 d0 hk1 e0 eT eL
            go_wp2_with fail
            refine HHa.mono ?_
            rintro e y2 ⟨rfl, hy2⟩
            obtain rfl := hy2.symm
            clear hy2 HHa
            have HLs := lawLess ow L.length ocap L at' y1 HZ.out.is' (by omega)
            rw [HEL.out] at HLs
            go_wp2_with fail
            refine HLs.mono ?_
            rintro e y3 ⟨⟨v3, rfl, ho3⟩, hb3⟩
            have HA1 : Hid (OnceAt SA w y3 S J P v3 t L) := ⟨so.keep HS1.out (KeepT.of_below hb3), HO2.out, own_base ho3 HB.out.size, HB.out.trans (hb3.mono HB.out.size)⟩
            clear ho3 hb3 HLs HO2 HS1 HZ HB d1
            go_wp2_with fail
            go_roundw
            case rel => exact ⟨k + 1, _, _, by omega, by go_num, HA1⟩
            case measure => simp [Go.RowKit.intOf]; omega
      · have hlt' : ¬ (k : Int) < (len : Int) := by omega
        have HFr := so.free wr S J P w.heap.size 0 t aj0 HA.out.sa HA.out.outs.fit
        have hal := HA.out.outs.all
        have e1 : freeL (mapL t aj0) (aj0.p.n - 51) = 13 - L.length := by
          have : aj0.p.n - 51 = 13 := rfl
          rw [this]; omega
        rw [e1] at HFr
        have HB := mkHid HA.out.bel
        subst hov
        have e2 : ((13 - L.length : Nat) : Int) = 13 - (L.length : Int) := by omega
        rw [e2] at HFr
        clear e1 e2 hal
        go_wp2_with fail
        refine HFr.mono ?_
        rintro e y1 ⟨rfl, hS1, hk1⟩
        have HB1 : Hid (Below w.heap.size w y1) := HB.out.trans hk1.b
        clear hS1 hk1 HFr
        go_wp2_with fail
        refine (HAl y1).mono ?_
        rintro e y2 ⟨rfl, hb2⟩
        have HB2 : Hid (Below w.heap.size w y2) := HB1.out.trans (hb2.mono HB1.out.size)
        clear hb2
        go_wp2_with fail
        go_ret
        exact ⟨rfl, HB2.out⟩
end Go.Proofs.YtdeoankmmolebaaGreat
