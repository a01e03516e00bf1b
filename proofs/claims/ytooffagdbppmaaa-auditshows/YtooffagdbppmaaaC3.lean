/- The document's Read. · AuditReads: the walk. -/
import Derived.Test.YtooffagdbppmaaaAu14
import Derived.Test.YtooffagdbppmaaaC2
import Derived.Test.YtooffagdbppmaaaC0
namespace Go.Proofs.Ytooffagdbppmaaa
open Go.RowKit

def recD14 (b : List UInt8) : Rc := ⟨(ra1 b).1, (ra2 b).1, ⟨(ra3 b).1.toArray⟩, ((ra4 b).1 : Int), ⟨(ra5 b).1.toArray⟩, ⟨(ra6 b).1.toArray⟩, (ra7 b).1, ((ra8 b).1 : Int), (ra9 b).1, (ra10 b).1⟩
theorem readD_eq14 (b : List UInt8) : readRc b = if (ra10 b).2.2 = true ∨ (ra10 b).2.1 ≠ [] ∨ 1000 < (ra4 b).1 ∨ 9999 < (ra8 b).1 then none else if rightRc (recD14 b) = true then some (recD14 b) else none := by
  unfold readRc
  by_cases hd : doneN (ra10 b).2.1 (ra10 b).2.2 = 0
  · obtain ⟨d1, d2⟩ := doneN_zero14.1 hd
    by_cases h4 : 1000 < (ra4 b).1
    · refine (if_neg ?_).trans (if_pos (.inr (.inr (.inl h4)))).symm
      rintro ⟨_, hr⟩
      have := (of_decide_eq_true hr).2.1
      change toldN (ra4 b).1 ≤ 19 at this
      unfold toldN at this; omega
    · by_cases h8 : 9999 < (ra8 b).1
      · refine (if_neg ?_).trans (if_pos (.inr (.inr (.inr h8)))).symm
        rintro ⟨_, hr⟩
        have := (of_decide_eq_true hr).2.2.2.1
        change toldN (ra8 b).1 ≤ 9999 at this
        unfold toldN at this; omega
      · have e : recR b = recD14 b := by
          unfold recR recD14 toldN
          rw [show min (ra4 b).1 2147483647 = (ra4 b).1 by omega, show min (ra8 b).1 2147483647 = (ra8 b).1 by omega]
        rw [if_neg (show ¬ ((ra10 b).2.2 = true ∨ (ra10 b).2.1 ≠ [] ∨ 1000 < (ra4 b).1 ∨ 9999 < (ra8 b).1) from fun h => by
          rcases h with h | h | h | h
          · rw [d1] at h; cases h
          · exact h d2
          · exact h4 h
          · exact h8 h), e]
        by_cases hr : rightRc (recD14 b) = true
        · rw [if_pos ⟨hd, hr⟩, if_pos hr]
        · rw [if_neg (fun h => hr h.2), if_neg hr]
  · rw [if_neg (fun h => hd h.1), if_pos]
    by_cases h1 : (ra10 b).2.2 = true
    · exact .inl h1
    · refine .inr (.inl (fun h2 => hd (doneN_zero14.2 ⟨by simpa using h1, h2⟩)))
/-- how it stands on its way -/
structure DxAt (w W : World) (a : Option Addr) (len cap : Nat) (b : List UInt8) (k : Nat) (bad : Bool) (cs : List Value) : Prop where
  x : Blk W (w.heap.size + 1) 60 (xcell a len cap k bad)
  k : k ≤ len
  r : Blk W (w.heap.size + 1 + 1) 26 cs
  res : Blk W w.heap.size 26 [.int .u64 0, .int .u64 0, .string { data := #[] }, .int .i64 0, .string { data := #[] }, .string { data := #[] }, .int .u64 0, .int .i64 0, .slice none 0 0, .slice none 0 0]
  bel : Below w.heap.size w W
theorem DxAt.isX {w W : World} {a : Option Addr} {len cap : Nat} {b : List UInt8} {k : Nat} {bad : Bool} {cs : List Value} (h : DxAt w W a len cap b k bad cs) (hB : IsB w a len cap b) : IsX W (w.heap.size + 1) a len cap b k bad :=
  ⟨h.x, hB.below h.bel rfl, fun hp z hz => by
    obtain ⟨g, off, e, hc⟩ := hB.cells hp
    have := cell_lt (hc 0 hp)
    rw [e] at hz
    obtain rfl := Option.some.inj hz
    show g ≠ _
    change g < _ at this
    omega, h.k⟩
theorem DxAt.call {w W W' : World} {a : Option Addr} {len cap : Nat} {b : List UInt8} {k k' : Nat} {bad bad' : Bool} {cs : List Value} (h : DxAt w W a len cap b k bad cs) (hx : IsX W' (w.heap.size + 1) a len cap b k' bad') (hg : W.grownBy W' (some (w.heap.size + 1))) : DxAt w W' a len cap b k' bad' cs ∧ KeepT [60] W W' := by
  have hk : KeepT [60] W W' := gr_keepT14 h.x hg
  exact ⟨⟨hx.1, hx.2.2.2, hk.blk h.r (by decide), hk.blk h.res (by decide), h.bel.grown hg h.bel.size (fun k e => by have := Option.some.inj e; omega)⟩, hk⟩
theorem DxAt.set {w W : World} {a : Option Addr} {len cap : Nat} {b : List UInt8} {k : Nat} {bad : Bool} {cs : List Value} (h : DxAt w W a len cap b k bad cs) (j : Nat) (v : Value) : DxAt w (W.setCell ⟨w.heap.size + 1 + 1, j, none⟩ v) a len cap b k bad (cs.set j v) ∧ KeepT [26] W (W.setCell ⟨w.heap.size + 1 + 1, j, none⟩ v) :=
  ⟨⟨h.x.other _ _ (by show w.heap.size + 1 ≠ w.heap.size + 1 + 1; omega), h.k, h.r.set j v, h.res.other _ _ (by show w.heap.size ≠ w.heap.size + 1 + 1; omega), h.bel.setCell (p := ⟨w.heap.size + 1 + 1, j, none⟩) (by show w.heap.size ≤ w.heap.size + 1 + 1; omega) v⟩, (KeepT.refl _ W).set h.r (by decide) j v⟩
attribute [local go_sem] undef
set_option maxRecDepth 20000 in
set_option maxHeartbeats 4000000 in
theorem refRead14 (a : Option Addr) (len cap : Nat) (b : List UInt8) (w : World) (h : IsB w a len cap b) (hl : len ≤ 100000) :
    Calls Try.prog 19 #[.slice a len cap] w fun e w' => RdP14 b e w' ∧ Below w.heap.size w w' := by
  have HQ := mkHid (readD_eq14 b)
  have HRN : Hid ((ra4 b).1 ≤ 1000 → (ra8 b).1 ≤ 9999 → RcN (recD14 b)) := fun h4 h8 => by
    have hh := rd_rcN14 b
    exact ⟨hh.seq, hh.clk, hh.ver, by show (_ : Int) ≤ ((ra4 b).1 : Int); omega, by show ((ra4 b).1 : Int) ≤ _; omega, by show (_ : Int) ≤ ((ra8 b).1 : Int); omega, by show ((ra8 b).1 : Int) ≤ _; omega⟩
  have HRt := fun q W => refRight14 (recD14 b) q W
  have HRc : Hid (∀ q, rcc (recD14 b) q = [.int .u64 ((ra1 b).1 : Int), .int .u64 ((ra2 b).1 : Int), .string ⟨(ra3 b).1.toArray⟩, .int .i64 ((ra4 b).1 : Int), .string ⟨(ra5 b).1.toArray⟩, .string ⟨(ra6 b).1.toArray⟩, .int .u64 ((ra7 b).1 : Int), .int .i64 ((ra8 b).1 : Int), .slice q.a (ra9 b).1.length q.c, .slice q.b (ra10 b).1.length q.d]) := fun q => rfl
  have HSp : Hid ((recD14 b).sum = (ra9 b).1 ∧ (recD14 b).prev = (ra10 b).1) := ⟨rfl, rfl⟩
  have HNo := mkHid (fun W (h : readRc b = none) => rd_no14 (w' := W) h)
  have HYe := mkHid (fun W q (h : readRc b = some (recD14 b)) (hr : IsRec W (recD14 b) q) => rd_yes14 h hr)
  have HLn := mkHid h.len_eq
  generalize hRR : recD14 b = RR at *
  have HI := mkHid h
  clear h hRR
  go_enter Try.func19, Try.ntmps19
  go_upto_region 3 with fail
  have H0 : Hid (DxAt w (((w.alloc (.cells #[.int .u64 0, .int .u64 0, .string { data := #[] }, .int .i64 0, .string { data := #[] }, .string { data := #[] }, .int .u64 0, .int .i64 0, .slice none 0 0, .slice none 0 0] 26)).alloc (.cells #[.slice a len cap, .int .i64 0, .bool false] 60)).alloc (.cells #[.int .u64 0, .int .u64 0, .string { data := #[] }, .int .i64 0, .string { data := #[] }, .string { data := #[] }, .int .u64 0, .int .i64 0, .slice none 0 0, .slice none 0 0] 26)) a len cap b 0 false [.int .u64 0, .int .u64 0, .string { data := #[] }, .int .i64 0, .string { data := #[] }, .string { data := #[] }, .int .u64 0, .int .i64 0, .slice none 0 0, .slice none 0 0]) :=
    ⟨(Blk.newAt (w.alloc (.cells #[.int .u64 0, .int .u64 0, .string { data := #[] }, .int .i64 0, .string { data := #[] }, .string { data := #[] }, .int .u64 0, .int .i64 0, .slice none 0 0, .slice none 0 0] 26)) (w.heap.size + 1) 60 _ [.slice a len cap, .int .i64 0, .bool false] (World.size_alloc _ _) rfl).alloc _, Nat.zero_le _, Blk.newAt _ (w.heap.size + 1 + 1) 26 _ [.int .u64 0, .int .u64 0, .string { data := #[] }, .int .i64 0, .string { data := #[] }, .string { data := #[] }, .int .u64 0, .int .i64 0, .slice none 0 0, .slice none 0 0] (by rw [World.size_alloc, World.size_alloc]) rfl, ((Blk.new w 26 [.int .u64 0, .int .u64 0, .string { data := #[] }, .int .i64 0, .string { data := #[] }, .string { data := #[] }, .int .u64 0, .int .i64 0, .slice none 0 0, .slice none 0 0]).alloc _).alloc _, (((Below.refl _ w).alloc (Nat.le_refl _) _).alloc (by simp) _).alloc (by simp; omega) _⟩
  generalize World.alloc _ _ = y0 at *
  have hC1 := xUint (w.heap.size + 1) a len cap b 0 false y0 (H0.out.isX HI.out)
  rw [show rdUint (b.drop 0) false = ra1 b from rfl] at hC1
  go_wp2_with fail
  refine hC1.mono ?_
  rintro e x1 ⟨rfl, ⟨k1, hx1, he1⟩, hg1⟩
  obtain ⟨h1, hk1⟩ := H0.out.call hx1 hg1
  have G1 := mkHid h1
  have E1 := mkHid he1
  clear h1 hk1 hx1 hg1 hC1 he1 H0
  have z1 : x1.cell? ⟨w.heap.size + 1 + 1, 0, none⟩ = some (.int .u64 0) := G1.out.r.cell 0
  have f1 := G1.out.r.frozen 0
  obtain ⟨hs1, ht1⟩ := G1.out.set 0 (.int .u64 ((ra1 b).1 : Int))
  simp only [List.set_cons_zero] at hs1
  have H1 := mkHid hs1
  clear hs1 ht1 G1
  go_upto_region 4 with fail
  clear z1 f1
  generalize x1.setCell ⟨w.heap.size + 1 + 1, 0, none⟩ (.int .u64 ((ra1 b).1 : Int)) = y1 at *
  have hC2 := xUint (w.heap.size + 1) a len cap b k1 (ra1 b).2.2 y1 (H1.out.isX HI.out)
  rw [← E1.out, show rdUint (ra1 b).2.1 (ra1 b).2.2 = ra2 b from rfl] at hC2
  go_wp2_with fail
  refine hC2.mono ?_
  rintro e x2 ⟨rfl, ⟨k2, hx2, he2⟩, hg2⟩
  obtain ⟨h2, hk2⟩ := H1.out.call hx2 hg2
  have G2 := mkHid h2
  have E2 := mkHid he2
  clear h2 hk2 hx2 hg2 hC2 he2 H1 E1
  have z2 : x2.cell? ⟨w.heap.size + 1 + 1, 1, none⟩ = some (.int .u64 0) := G2.out.r.cell 1
  have f2 := G2.out.r.frozen 1
  obtain ⟨hs2, ht2⟩ := G2.out.set 1 (.int .u64 ((ra2 b).1 : Int))
  simp only [List.set_cons_succ, List.set_cons_zero] at hs2
  have H2 := mkHid hs2
  clear hs2 ht2 G2
  go_upto_region 5 with fail
  clear z2 f2
  generalize x2.setCell ⟨w.heap.size + 1 + 1, 1, none⟩ (.int .u64 ((ra2 b).1 : Int)) = y2 at *
  have hC3 := xText (w.heap.size + 1) a len cap b k2 (ra2 b).2.2 y2 (H2.out.isX HI.out) (by omega)
  rw [← E2.out, show rdSome 115 (ra2 b).2.1 (ra2 b).2.2 = ra3 b from rfl] at hC3
  go_wp2_with fail
  refine hC3.mono ?_
  rintro e x3 ⟨rfl, ⟨k3, hx3, he3⟩, hg3⟩
  obtain ⟨h3, hk3⟩ := H2.out.call hx3 hg3
  have G3 := mkHid h3
  have E3 := mkHid he3
  clear h3 hk3 hx3 hg3 hC3 he3 H2 E2
  have z3 : x3.cell? ⟨w.heap.size + 1 + 1, 2, none⟩ = some (.string { data := #[] }) := G3.out.r.cell 2
  have f3 := G3.out.r.frozen 2
  obtain ⟨hs3, ht3⟩ := G3.out.set 2 (.string ⟨(ra3 b).1.toArray⟩)
  simp only [List.set_cons_succ, List.set_cons_zero] at hs3
  have H3 := mkHid hs3
  clear hs3 ht3 G3
  go_upto_region 6 with fail
  clear z3 f3
  generalize x3.setCell ⟨w.heap.size + 1 + 1, 2, none⟩ (.string ⟨(ra3 b).1.toArray⟩) = y3 at *
  have hC4 := xUint (w.heap.size + 1) a len cap b k3 (ra3 b).2.2 y3 (H3.out.isX HI.out)
  rw [← E3.out, show rdUint (ra3 b).2.1 (ra3 b).2.2 = ra4 b from rfl] at hC4
  go_wp2_with fail
  refine hC4.mono ?_
  rintro e x4 ⟨rfl, ⟨k4, hx4, he4⟩, hg4⟩
  obtain ⟨h4, hk4⟩ := H3.out.call hx4 hg4
  have G4 := mkHid h4
  have E4 := mkHid he4
  clear h4 hk4 hx4 hg4 hC4 he4 H3 E3
  go_upto_region 7 with fail
  have hC5 := xText (w.heap.size + 1) a len cap b k4 (ra4 b).2.2 x4 (G4.out.isX HI.out) (by omega)
  rw [← E4.out, show rdSome 115 (ra4 b).2.1 (ra4 b).2.2 = ra5 b from rfl] at hC5
  go_wp2_with fail
  refine hC5.mono ?_
  rintro e x5 ⟨rfl, ⟨k5, hx5, he5⟩, hg5⟩
  obtain ⟨h5, hk5⟩ := G4.out.call hx5 hg5
  have G5 := mkHid h5
  have E5 := mkHid he5
  clear h5 hk5 hx5 hg5 hC5 he5 G4 E4
  have z5 : x5.cell? ⟨w.heap.size + 1 + 1, 4, none⟩ = some (.string { data := #[] }) := G5.out.r.cell 4
  have f5 := G5.out.r.frozen 4
  obtain ⟨hs5, ht5⟩ := G5.out.set 4 (.string ⟨(ra5 b).1.toArray⟩)
  simp only [List.set_cons_succ, List.set_cons_zero] at hs5
  have H5 := mkHid hs5
  clear hs5 ht5 G5
  go_upto_region 8 with fail
  clear z5 f5
  generalize x5.setCell ⟨w.heap.size + 1 + 1, 4, none⟩ (.string ⟨(ra5 b).1.toArray⟩) = y5 at *
  have hC6 := xText (w.heap.size + 1) a len cap b k5 (ra5 b).2.2 y5 (H5.out.isX HI.out) (by omega)
  rw [← E5.out, show rdSome 115 (ra5 b).2.1 (ra5 b).2.2 = ra6 b from rfl] at hC6
  go_wp2_with fail
  refine hC6.mono ?_
  rintro e x6 ⟨rfl, ⟨k6, hx6, he6⟩, hg6⟩
  obtain ⟨h6, hk6⟩ := H5.out.call hx6 hg6
  have G6 := mkHid h6
  have E6 := mkHid he6
  clear h6 hk6 hx6 hg6 hC6 he6 H5 E5
  have z6 : x6.cell? ⟨w.heap.size + 1 + 1, 5, none⟩ = some (.string { data := #[] }) := G6.out.r.cell 5
  have f6 := G6.out.r.frozen 5
  obtain ⟨hs6, ht6⟩ := G6.out.set 5 (.string ⟨(ra6 b).1.toArray⟩)
  simp only [List.set_cons_succ, List.set_cons_zero] at hs6
  have H6 := mkHid hs6
  clear hs6 ht6 G6
  go_upto_region 9 with fail
  clear z6 f6
  generalize x6.setCell ⟨w.heap.size + 1 + 1, 5, none⟩ (.string ⟨(ra6 b).1.toArray⟩) = y6 at *
  have hC7 := xUint (w.heap.size + 1) a len cap b k6 (ra6 b).2.2 y6 (H6.out.isX HI.out)
  rw [← E6.out, show rdUint (ra6 b).2.1 (ra6 b).2.2 = ra7 b from rfl] at hC7
  go_wp2_with fail
  refine hC7.mono ?_
  rintro e x7 ⟨rfl, ⟨k7, hx7, he7⟩, hg7⟩
  obtain ⟨h7, hk7⟩ := H6.out.call hx7 hg7
  have G7 := mkHid h7
  have E7 := mkHid he7
  clear h7 hk7 hx7 hg7 hC7 he7 H6 E6
  have z7 : x7.cell? ⟨w.heap.size + 1 + 1, 6, none⟩ = some (.int .u64 0) := G7.out.r.cell 6
  have f7 := G7.out.r.frozen 6
  obtain ⟨hs7, ht7⟩ := G7.out.set 6 (.int .u64 ((ra7 b).1 : Int))
  simp only [List.set_cons_succ, List.set_cons_zero] at hs7
  have H7 := mkHid hs7
  clear hs7 ht7 G7
  go_upto_region 10 with fail
  clear z7 f7
  generalize x7.setCell ⟨w.heap.size + 1 + 1, 6, none⟩ (.int .u64 ((ra7 b).1 : Int)) = y7 at *
  have hC8 := xUint (w.heap.size + 1) a len cap b k7 (ra7 b).2.2 y7 (H7.out.isX HI.out)
  rw [← E7.out, show rdUint (ra7 b).2.1 (ra7 b).2.2 = ra8 b from rfl] at hC8
  go_wp2_with fail
  refine hC8.mono ?_
  rintro e x8 ⟨rfl, ⟨k8, hx8, he8⟩, hg8⟩
  obtain ⟨h8, hk8⟩ := H7.out.call hx8 hg8
  have G8 := mkHid h8
  have E8 := mkHid he8
  clear h8 hk8 hx8 hg8 hC8 he8 H7 E7
  go_upto_region 11 with fail
  have hC9 := xBytes (w.heap.size + 1) a len cap b k8 (ra8 b).2.2 x8 (G8.out.isX HI.out) (by omega)
  rw [← E8.out, show rdSome 98 (ra8 b).2.1 (ra8 b).2.2 = ra9 b from rfl] at hC9
  go_wp2_with fail
  refine hC9.mono ?_
  rintro e x9 ⟨v9, rfl, ho9, ⟨k9, hx9, he9⟩, hg9⟩
  obtain ⟨h9, hk9⟩ := G8.out.call hx9 hg9
  have G9 := mkHid h9
  have E9 := mkHid he9
  have HO9 := mkHid (ho9.base G8.out.bel.size)
  obtain ⟨a9, c9, hv9, _⟩ := HO9.out.isB
  subst hv9
  clear ho9
  clear h9 hk9 hx9 hg9 hC9 he9 G8 E8
  have z9 : x9.cell? ⟨w.heap.size + 1 + 1, 8, none⟩ = some (.slice none 0 0) := G9.out.r.cell 8
  have f9 := G9.out.r.frozen 8
  obtain ⟨hs9, ht9⟩ := G9.out.set 8 (.slice a9 (ra9 b).1.length c9)
  simp only [List.set_cons_succ, List.set_cons_zero] at hs9
  have H9 := mkHid hs9
  have HP8 := mkHid (own_keepR14 HO9.out ht9)
  clear HO9
  clear hs9 ht9 G9
  go_upto_region 12 with fail
  clear z9 f9
  generalize x9.setCell ⟨w.heap.size + 1 + 1, 8, none⟩ (.slice a9 (ra9 b).1.length c9) = y9 at *
  have hC10 := xBytes (w.heap.size + 1) a len cap b k9 (ra9 b).2.2 y9 (H9.out.isX HI.out) (by omega)
  rw [← E9.out, show rdSome 98 (ra9 b).2.1 (ra9 b).2.2 = ra10 b from rfl] at hC10
  go_wp2_with fail
  refine hC10.mono ?_
  rintro e x10 ⟨v10, rfl, ho10, ⟨k10, hx10, he10⟩, hg10⟩
  obtain ⟨h10, hk10⟩ := H9.out.call hx10 hg10
  have G10 := mkHid h10
  have E10 := mkHid he10
  have HO10 := mkHid (ho10.base H9.out.bel.size)
  obtain ⟨a10, c10, hv10, _⟩ := HO10.out.isB
  subst hv10
  have HP9 : Hid (OwnB x10 w.heap.size (.slice a9 (ra9 b).1.length c9) (ra9 b).1) := own_keep hk10 HP8.out (by decide)
  clear HP8
  clear ho10
  clear h10 hk10 hx10 hg10 hC10 he10 H9 E9
  have z10 : x10.cell? ⟨w.heap.size + 1 + 1, 9, none⟩ = some (.slice none 0 0) := G10.out.r.cell 9
  have f10 := G10.out.r.frozen 9
  obtain ⟨hs10, ht10⟩ := G10.out.set 9 (.slice a10 (ra10 b).1.length c10)
  simp only [List.set_cons_succ, List.set_cons_zero] at hs10
  have H10 := mkHid hs10
  have HQ9 := mkHid (own_keepR14 HP9.out ht10)
  have HQ10 := mkHid (own_keepR14 HO10.out ht10)
  clear HP9 HO10
  clear hs10 ht10 G10
  go_upto_region 13 with fail
  clear z10 f10
  generalize x10.setCell ⟨w.heap.size + 1 + 1, 9, none⟩ (.slice a10 (ra10 b).1.length c10) = y10 at *
  have HRc2 := mkHid (HRc.out ⟨a9, c9, a10, c10⟩)
  have HRt2 := fun W => HRt ⟨a9, c9, a10, c10⟩ W
  rw [HRc2.out] at HRt2
  have HIs : Hid ((ra4 b).1 ≤ 1000 → (ra8 b).1 ≤ 9999 → ∀ W, KeepT [26] y10 W → IsRec W RR ⟨a9, c9, a10, c10⟩) := fun h4 h8 W hW => by
    refine ⟨?_, ?_, HRN.out h4 h8⟩
    · rw [HSp.out.1]; exact IsV.toB (own_keepR14 HQ9.out hW).isV
    · rw [HSp.out.2]; exact IsV.toB (own_keepR14 HQ10.out hW).isV
  have HYe2 := mkHid (fun W => HYe.out W ⟨a9, c9, a10, c10⟩)
  rw [HRc2.out] at HYe2
  have HEn : Hid ((ra10 b).2.1 ≠ [] ↔ k10 < len) := by
    unfold Hid; rw [E10.out, ne_eq, List.drop_eq_nil_iff, HLn.out]; omega
  clear HRc HRc2 HRt HYe HSp HQ9 HQ10 HRN E10 HLn
  have d1 : y10.cell? ⟨w.heap.size + 1, 1, none⟩ = some (.int .i64 (k10 : Int)) := H10.out.x.cell 1
  have d2 : y10.cell? ⟨w.heap.size + 1, 2, none⟩ = some (.bool (ra10 b).2.2) := H10.out.x.cell 2
  generalize (ra9 b).1.length = sl at *
  generalize (ra10 b).1.length = pl at *
  generalize (ra1 b).1 = s1 at *
  generalize (ra2 b).1 = s2 at *
  generalize (⟨(ra3 b).1.toArray⟩ : ByteArray) = s3 at *
  generalize (ra4 b).1 = s4 at *
  generalize (⟨(ra5 b).1.toArray⟩ : ByteArray) = s5 at *
  generalize (⟨(ra6 b).1.toArray⟩ : ByteArray) = s6 at *
  generalize (ra7 b).1 = s7 at *
  generalize (ra8 b).1 = s8 at *
  generalize (ra10 b).2.2 = BD at *
  generalize (ra10 b).2.1 = RS at *
  have HR0 := mkHid H10.out.res
  have HB0 := mkHid H10.out.bel
  cases BD with
  | true =>
    have HNn := mkHid (HQ.out.trans (if_pos (.inl rfl)))
    clear HQ HYe2 HRt2 H10 d1
    go_wp2_with (first | (refine wpList_store_row rfl 26 _ _ rfl w.heap.size #[.int .u64 0, .int .u64 0, .string { data := #[] }, .int .i64 0, .string { data := #[] }, .string { data := #[] }, .int .u64 0, .int .i64 0, .slice none 0 0, .slice none 0 0] rfl rfl _ _ HR0.out (by kernel_rfl) rfl (one14 _ _ _ _ _ _ _ _ _ _ _ _ _ _) ?_))
    have hbr := bel_row HB0.out (Nat.le_refl _) #[.int .u64 0, .int .u64 0, .string { data := #[] }, .int .i64 0, .string { data := #[] }, .string { data := #[] }, .int .u64 0, .int .i64 0, .slice none 0 0, .slice none 0 0]
    refine bodyPost_ret (results_cellrow_tmp (P := Try.prog) rfl _ _ w.heap.size 26 #[.int .u64 0, .int .u64 0, .string { data := #[] }, .int .i64 0, .string { data := #[] }, .string { data := #[] }, .int .u64 0, .int .i64 0, .slice none 0 0, .slice none 0 0] (0, 0) _ rfl (HR0.out.row [_, _, _, _, _, _, _, _, _, _]) Try.underlying26 rfl (by kernel_rfl)) rfl ⟨?_, hbr⟩
    exact HNo.out _ HNn.out
  | false =>
  by_cases hk : k10 < len
  · have HNn := mkHid (HQ.out.trans (if_pos (.inr (.inl (HEn.out.2 hk)))))
    have hk' : (k10 : Int) < (len : Int) := by omega
    clear HQ HYe2 HRt2 H10
    go_wp2_with (first | (refine wpList_store_row rfl 26 _ _ rfl w.heap.size #[.int .u64 0, .int .u64 0, .string { data := #[] }, .int .i64 0, .string { data := #[] }, .string { data := #[] }, .int .u64 0, .int .i64 0, .slice none 0 0, .slice none 0 0] rfl rfl _ _ HR0.out (by kernel_rfl) rfl (one14 _ _ _ _ _ _ _ _ _ _ _ _ _ _) ?_))
    have hbr := bel_row HB0.out (Nat.le_refl _) #[.int .u64 0, .int .u64 0, .string { data := #[] }, .int .i64 0, .string { data := #[] }, .string { data := #[] }, .int .u64 0, .int .i64 0, .slice none 0 0, .slice none 0 0]
    refine bodyPost_ret (results_cellrow_tmp (P := Try.prog) rfl _ _ w.heap.size 26 #[.int .u64 0, .int .u64 0, .string { data := #[] }, .int .i64 0, .string { data := #[] }, .string { data := #[] }, .int .u64 0, .int .i64 0, .slice none 0 0, .slice none 0 0] (0, 0) _ rfl (HR0.out.row [_, _, _, _, _, _, _, _, _, _]) Try.underlying26 rfl (by kernel_rfl)) rfl ⟨?_, hbr⟩
    exact HNo.out _ HNn.out
  have hk' : ¬ (k10 : Int) < (len : Int) := by omega
  by_cases h4 : 1000 < s4
  · have HNn := mkHid (HQ.out.trans (if_pos (.inr (.inr (.inl h4)))))
    have h4' : (1000 : Int) < (s4 : Int) := by omega
    clear HQ HYe2 HRt2 H10
    go_wp2_with (first | (refine wpList_store_row rfl 26 _ _ rfl w.heap.size #[.int .u64 0, .int .u64 0, .string { data := #[] }, .int .i64 0, .string { data := #[] }, .string { data := #[] }, .int .u64 0, .int .i64 0, .slice none 0 0, .slice none 0 0] rfl rfl _ _ HR0.out (by kernel_rfl) rfl (one14 _ _ _ _ _ _ _ _ _ _ _ _ _ _) ?_))
    have hbr := bel_row HB0.out (Nat.le_refl _) #[.int .u64 0, .int .u64 0, .string { data := #[] }, .int .i64 0, .string { data := #[] }, .string { data := #[] }, .int .u64 0, .int .i64 0, .slice none 0 0, .slice none 0 0]
    refine bodyPost_ret (results_cellrow_tmp (P := Try.prog) rfl _ _ w.heap.size 26 #[.int .u64 0, .int .u64 0, .string { data := #[] }, .int .i64 0, .string { data := #[] }, .string { data := #[] }, .int .u64 0, .int .i64 0, .slice none 0 0, .slice none 0 0] (0, 0) _ rfl (HR0.out.row [_, _, _, _, _, _, _, _, _, _]) Try.underlying26 rfl (by kernel_rfl)) rfl ⟨?_, hbr⟩
    exact HNo.out _ HNn.out
  have h4' : ¬ (1000 : Int) < (s4 : Int) := by omega
  by_cases h8 : 9999 < s8
  · have HNn := mkHid (HQ.out.trans (if_pos (.inr (.inr (.inr h8)))))
    have h8' : (9999 : Int) < (s8 : Int) := by omega
    clear HQ HYe2 HRt2 H10
    go_wp2_with (first | (refine wpList_store_row rfl 26 _ _ rfl w.heap.size #[.int .u64 0, .int .u64 0, .string { data := #[] }, .int .i64 0, .string { data := #[] }, .string { data := #[] }, .int .u64 0, .int .i64 0, .slice none 0 0, .slice none 0 0] rfl rfl _ _ HR0.out (by kernel_rfl) rfl (one14 _ _ _ _ _ _ _ _ _ _ _ _ _ _) ?_))
    have hbr := bel_row HB0.out (Nat.le_refl _) #[.int .u64 0, .int .u64 0, .string { data := #[] }, .int .i64 0, .string { data := #[] }, .string { data := #[] }, .int .u64 0, .int .i64 0, .slice none 0 0, .slice none 0 0]
    refine bodyPost_ret (results_cellrow_tmp (P := Try.prog) rfl _ _ w.heap.size 26 #[.int .u64 0, .int .u64 0, .string { data := #[] }, .int .i64 0, .string { data := #[] }, .string { data := #[] }, .int .u64 0, .int .i64 0, .slice none 0 0, .slice none 0 0] (0, 0) _ rfl (HR0.out.row [_, _, _, _, _, _, _, _, _, _]) Try.underlying26 rfl (by kernel_rfl)) rfl ⟨?_, hbr⟩
    exact HNo.out _ HNn.out
  have h8' : ¬ (9999 : Int) < (s8 : Int) := by omega
  have HQ2 := mkHid (HQ.out.trans (if_neg (show ¬ (false = true ∨ RS ≠ [] ∨ 1000 < s4 ∨ 9999 < s8) from fun h => by
    rcases h with h | h | h | h
    · cases h
    · exact hk (HEn.out.1 h)
    · exact h4 h
    · exact h8 h)))
  have HIs2 := mkHid (HIs.out (by omega) (by omega))
  have hw4 : IntKind.i64.wrap (s4 : Int) = (s4 : Int) := by rw [IntKind.wrap_i64]; omega
  have hw8 : IntKind.i64.wrap (s8 : Int) = (s8 : Int) := by rw [IntKind.wrap_i64]; omega
  have u3 : y10.cell? ⟨w.heap.size + 1 + 1, 3, none⟩ = some (.int .i64 0) := H10.out.r.cell 3
  have v3 := H10.out.r.frozen 3
  clear HQ HIs HEn h4 h8 hk
  go_upto_region 16 with fail
  obtain ⟨hs11, ht11⟩ := H10.out.set 3 (.int .i64 (s4 : Int))
  simp only [List.set_cons_succ, List.set_cons_zero] at hs11
  have H11 := mkHid hs11
  have HT11 := mkHid ht11
  clear hs11 ht11 H10 u3 v3 d1 d2 hk' h4' h8' HR0 HB0
  generalize y10.setCell ⟨w.heap.size + 1 + 1, 3, none⟩ (.int .i64 (s4 : Int)) = y11 at *
  have u7 : y11.cell? ⟨w.heap.size + 1 + 1, 7, none⟩ = some (.int .i64 0) := H11.out.r.cell 7
  have v7 := H11.out.r.frozen 7
  go_upto_region 17 with fail
  obtain ⟨hs12, ht12⟩ := H11.out.set 7 (.int .i64 (s8 : Int))
  simp only [List.set_cons_succ, List.set_cons_zero] at hs12
  have H12 := mkHid hs12
  have HT12 := mkHid (HT11.out.trans ht12)
  clear hs12 ht12 H11 HT11 u7 v7 hw4 hw8
  generalize y11.setCell ⟨w.heap.size + 1 + 1, 7, none⟩ (.int .i64 (s8 : Int)) = y12 at *
  go_wp2_with (first | (refine wpList_load_row rfl 26 _ rfl _ rfl _ _ _ _ H12.out.r Try.underlying26 rfl (by kernel_rfl) ?_))
  refine (HRt2 y12).mono ?_
  rintro e z2 ⟨rfl, hb2⟩
  have HK2 := mkHid (H12.out.r.on hb2)
  have HR0 := mkHid (H12.out.res.on hb2)
  have HB0 := mkHid (H12.out.bel.trans (hb2.mono H12.out.bel.size))
  have HT2 := mkHid (HT12.out.trans (KeepT.of_below hb2))
  clear hb2 H12 HT12 HRt2
  cases hrt : rightRc RR with
  | false =>
    have HNn := mkHid (HQ2.out.trans (if_neg (by rw [hrt]; simp)))
    clear HQ2 hrt HYe2 HIs2
    go_wp2_with (first | (refine wpList_store_row rfl 26 _ _ rfl w.heap.size #[.int .u64 0, .int .u64 0, .string { data := #[] }, .int .i64 0, .string { data := #[] }, .string { data := #[] }, .int .u64 0, .int .i64 0, .slice none 0 0, .slice none 0 0] rfl rfl _ _ HR0.out (by kernel_rfl) rfl (one14 _ _ _ _ _ _ _ _ _ _ _ _ _ _) ?_))
    have hbr := bel_row HB0.out (Nat.le_refl _) #[.int .u64 0, .int .u64 0, .string { data := #[] }, .int .i64 0, .string { data := #[] }, .string { data := #[] }, .int .u64 0, .int .i64 0, .slice none 0 0, .slice none 0 0]
    refine bodyPost_ret (results_cellrow_tmp (P := Try.prog) rfl _ _ w.heap.size 26 #[.int .u64 0, .int .u64 0, .string { data := #[] }, .int .i64 0, .string { data := #[] }, .string { data := #[] }, .int .u64 0, .int .i64 0, .slice none 0 0, .slice none 0 0] (0, 0) _ rfl (HR0.out.row [_, _, _, _, _, _, _, _, _, _]) Try.underlying26 rfl (by kernel_rfl)) rfl ⟨?_, hbr⟩
    exact HNo.out _ HNn.out
  | true =>
    have HOk := mkHid (HQ2.out.trans (if_pos hrt))
    clear HQ2 hrt HNo
    go_wp2_with (first | (refine wpList_load_row rfl 26 _ rfl _ rfl _ _ _ _ HK2.out Try.underlying26 rfl (by kernel_rfl) ?_) | (refine wpList_store_row rfl 26 _ _ rfl w.heap.size #[.int .u64 (s1 : Int), .int .u64 (s2 : Int), .string s3, .int .i64 (s4 : Int), .string s5, .string s6, .int .u64 (s7 : Int), .int .i64 (s8 : Int), .slice a9 sl c9, .slice a10 pl c10] rfl rfl _ _ HR0.out (by kernel_rfl) rfl (one14 _ _ _ _ _ _ _ _ _ _ _ _ _ _) ?_))
    have hbr := bel_row HB0.out (Nat.le_refl _) #[.int .u64 (s1 : Int), .int .u64 (s2 : Int), .string s3, .int .i64 (s4 : Int), .string s5, .string s6, .int .u64 (s7 : Int), .int .i64 (s8 : Int), .slice a9 sl c9, .slice a10 pl c10]
    refine bodyPost_ret (results_cellrow_tmp (P := Try.prog) rfl _ _ w.heap.size 26 #[.int .u64 (s1 : Int), .int .u64 (s2 : Int), .string s3, .int .i64 (s4 : Int), .string s5, .string s6, .int .u64 (s7 : Int), .int .i64 (s8 : Int), .slice a9 sl c9, .slice a10 pl c10] (0, 0) _ rfl (HR0.out.row [_, _, _, _, _, _, _, _, _, _]) Try.underlying26 rfl (by kernel_rfl)) rfl ⟨?_, hbr⟩
    exact HYe2.out _ HOk.out (HIs2.out _ (HT2.out.row14 HR0.out (by decide) _))
end Go.Proofs.Ytooffagdbppmaaa
namespace Go.Proofs.Ytooffagdbppmaaa
open Go.RowKit

theorem same_self14 (r : Rc) : sameRc r r = true := (sameRc_iff r r).2 rfl
attribute [local go_sem] undef
set_option maxRecDepth 20000 in
set_option maxHeartbeats 2000000 in
theorem reads14 (a : Option Addr) (len cap : Nat) (b : List UInt8) (w : World) (h : IsB w a len cap b) (hl : len ≤ 140737488351232) :
    Calls Try.prog 4 #[.slice a len cap] w fun e w' => e = .returned (.bool true) ∧ Below w.heap.size w w' := by
  have HI := mkHid h
  clear h
  by_cases hbig : 10000 < len
  · have hbig' : (10000 : Int) < (len : Int) := by omega
    go_enter Try.func4, Try.ntmps4
    go_wp2_with fail
    refine (lawAlive14 w).mono ?_
    rintro e y1 ⟨rfl, hb1⟩
    have HB1 := mkHid hb1
    clear hb1
    go_wp2_with fail
    go_ret
    exact ⟨rfl, HB1.out⟩
  · have hbig' : ¬ (10000 : Int) < (len : Int) := by omega
    have HC := codRead14 a len cap b w HI.out (by omega)
    have HD := fun W (hW : Below w.heap.size w W) => refRead14 a len cap b W (HI.out.below hW rfl) (by omega)
    unfold RdP14 at HC HD
    clear HI hbig hl
    generalize rdE14 b = E at *
    generalize rdR14 b = x at *
    have HS := fun q p W => refSame14 x x q p W
    rw [same_self14] at HS
    obtain ⟨xseq, xclk, xwho, xkind, xbkt, xkey, xver, xerr, xsum, xprev⟩ := x
    simp only [rcc] at HC HD HS
    go_enter Try.func4, Try.ntmps4
    go_wp2_with fail
    refine HC.mono ?_
    rintro e y1 ⟨⟨⟨pa, pc, pb, pd⟩, rfl, hr1⟩, hb1⟩
    have hbA : Below y1.heap.size y1 (y1.alloc (.cells #[.int .u64 (xseq : Int), .int .u64 (xclk : Int), .string xwho, .int .i64 xkind, .string xbkt, .string xkey, .int .u64 (xver : Int), .int .i64 xerr, .slice pa xsum.length pc, .slice pb xprev.length pd] 26)) := (Below.refl _ y1).alloc (Nat.le_refl _) _
    have HKA := mkHid (Blk.new y1 26 [.int .u64 (xseq : Int), .int .u64 (xclk : Int), .string xwho, .int .i64 xkind, .string xbkt, .string xkey, .int .u64 (xver : Int), .int .i64 xerr, .slice pa xsum.length pc, .slice pb xprev.length pd])
    have HR1 := mkHid (hr1.below hbA)
    have HB1 := mkHid (hb1.trans (hbA.mono hb1.size))
    clear hbA hr1 hb1 HC
    go_wp2_with fail
    generalize y1.alloc (.cells #[.int .u64 (xseq : Int), .int .u64 (xclk : Int), .string xwho, .int .i64 xkind, .string xbkt, .string xkey, .int .u64 (xver : Int), .int .i64 xerr, .slice pa xsum.length pc, .slice pb xprev.length pd] 26) = Y1 at *
    generalize y1.heap.size = P at *
    refine (HD Y1 HB1.out).mono ?_
    rintro e y2 ⟨⟨⟨qa, qc, qb, qd⟩, rfl, hr2⟩, hb2⟩
    have hbA : Below y2.heap.size y2 (y2.alloc (.cells #[.int .u64 (xseq : Int), .int .u64 (xclk : Int), .string xwho, .int .i64 xkind, .string xbkt, .string xkey, .int .u64 (xver : Int), .int .i64 xerr, .slice qa xsum.length qc, .slice qb xprev.length qd] 26)) := (Below.refl _ y2).alloc (Nat.le_refl _) _
    have HK2 := mkHid ((HKA.out.on hb2).on hbA)
    have HK3 := mkHid (Blk.new y2 26 [.int .u64 (xseq : Int), .int .u64 (xclk : Int), .string xwho, .int .i64 xkind, .string xbkt, .string xkey, .int .u64 (xver : Int), .int .i64 xerr, .slice qa xsum.length qc, .slice qb xprev.length qd])
    have HR2 := mkHid ((HR1.out.below hb2).below hbA)
    have HR3 := mkHid (hr2.below hbA)
    have HB2 := mkHid ((HB1.out.trans (hb2.mono HB1.out.size)).trans (hbA.mono (HB1.out.trans (hb2.mono HB1.out.size)).size))
    clear hbA hr2 hb2 HD HKA HR1 HB1
    go_upto_region 5 with fail
    generalize y2.alloc (.cells #[.int .u64 (xseq : Int), .int .u64 (xclk : Int), .string xwho, .int .i64 xkind, .string xbkt, .string xkey, .int .u64 (xver : Int), .int .i64 xerr, .slice qa xsum.length qc, .slice qb xprev.length qd] 26) = Y2 at *
    generalize y2.heap.size = P2 at *
    have c0 : Y2.cell? ⟨P, 0, none⟩ = some (.int .u64 (xseq : Int)) := HK2.out.cell 0
    have c1 : Y2.cell? ⟨P, 1, none⟩ = some (.int .u64 (xclk : Int)) := HK2.out.cell 1
    have c2 : Y2.cell? ⟨P, 2, none⟩ = some (.string xwho) := HK2.out.cell 2
    have c3 : Y2.cell? ⟨P, 3, none⟩ = some (.int .i64 xkind) := HK2.out.cell 3
    have c4 : Y2.cell? ⟨P, 4, none⟩ = some (.string xbkt) := HK2.out.cell 4
    have c5 : Y2.cell? ⟨P, 5, none⟩ = some (.string xkey) := HK2.out.cell 5
    have c6 : Y2.cell? ⟨P, 6, none⟩ = some (.int .u64 (xver : Int)) := HK2.out.cell 6
    have c7 : Y2.cell? ⟨P, 7, none⟩ = some (.int .i64 xerr) := HK2.out.cell 7
    have c8 : Y2.cell? ⟨P, 8, none⟩ = some (.slice pa xsum.length pc) := HK2.out.cell 8
    have c9 : Y2.cell? ⟨P, 9, none⟩ = some (.slice pb xprev.length pd) := HK2.out.cell 9
    have d0 : Y2.cell? ⟨P2, 0, none⟩ = some (.int .u64 (xseq : Int)) := HK3.out.cell 0
    have d1 : Y2.cell? ⟨P2, 1, none⟩ = some (.int .u64 (xclk : Int)) := HK3.out.cell 1
    have d2 : Y2.cell? ⟨P2, 2, none⟩ = some (.string xwho) := HK3.out.cell 2
    have d3 : Y2.cell? ⟨P2, 3, none⟩ = some (.int .i64 xkind) := HK3.out.cell 3
    have d4 : Y2.cell? ⟨P2, 4, none⟩ = some (.string xbkt) := HK3.out.cell 4
    have d5 : Y2.cell? ⟨P2, 5, none⟩ = some (.string xkey) := HK3.out.cell 5
    have d6 : Y2.cell? ⟨P2, 6, none⟩ = some (.int .u64 (xver : Int)) := HK3.out.cell 6
    have d7 : Y2.cell? ⟨P2, 7, none⟩ = some (.int .i64 xerr) := HK3.out.cell 7
    have d8 : Y2.cell? ⟨P2, 8, none⟩ = some (.slice qa xsum.length qc) := HK3.out.cell 8
    have d9 : Y2.cell? ⟨P2, 9, none⟩ = some (.slice qb xprev.length qd) := HK3.out.cell 9
    go_wp2_with fail
    refine (HS ⟨pa, pc, pb, pd⟩ ⟨qa, qc, qb, qd⟩ Y2 HR2.out HR3.out).mono ?_
    rintro e y3 ⟨rfl, hb3⟩
    have HB3 := mkHid (HB2.out.trans (hb3.mono HB2.out.size))
    clear hb3 HS HK2 HK3 HR2 HR3 HB2 c0 c1 c2 c3 c4 c5 c6 c7 c8 c9 d0 d1 d2 d3 d4 d5 d6 d7 d8 d9
    go_wp2_with fail
    refine (lawAlive14 y3).mono ?_
    rintro e y4 ⟨rfl, hb4⟩
    have HB4 := mkHid (HB3.out.trans (hb4.mono HB3.out.size))
    clear hb4 HB3
    go_wp2_with fail
    go_ret
    exact ⟨rfl, HB4.out⟩
end Go.Proofs.Ytooffagdbppmaaa
