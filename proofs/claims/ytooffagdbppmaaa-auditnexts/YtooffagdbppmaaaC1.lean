/- The document's Read. · AuditReads: the walk. · Rows of records that the call made: appends, cuts; a row that came in as a source. -/
import Derived.Test.YtooffagdbppmaaaC0
import Derived.Test.YtooffagdbppmaaaB36
import Derived.Deep.CutBlock
import Derived.Laws.AppendOwnNone
namespace Go.Proofs.Ytooffagdbppmaaa
open Go.RowKit

def recD14 (b : List UInt8) : Rc := ⟨(ra1 b).1, (ra2 b).1, ⟨(ra3 b).1.toArray⟩, ((ra4 b).1 : Int), ⟨(ra5 b).1.toArray⟩, ⟨(ra6 b).1.toArray⟩, (ra7 b).1, ((ra8 b).1 : Int), (ra9 b).1, (ra10 b).1⟩
theorem readD_eq14 (b : List UInt8) : readRc b = if (ra10 b).2.2 = true ∨ (ra10 b).2.1 ≠ [] ∨ 1000 < (ra4 b).1 ∨ 9999 < (ra8 b).1 then none else if rightRc (recD14 b) = true then some (recD14 b) else none := by
  unfold readRc
  by_cases hd : doneN (ra10 b).2.1 (ra10 b).2.2 = 0
  · obtain ⟨d1, d2⟩ := doneN_zero14.1 hd
    by_cases h4 : 1000 < (ra4 b).1
    · refine (if_neg ?_).trans (if_pos (.inr (.inr (.inl h4)))).symm
      rintro ⟨_, hr⟩
      have := (of_decide_eq_true hr).2.1
      change toldN (ra4 b).1 ≤ 19 at this
      unfold toldN at this; omega
    · by_cases h8 : 9999 < (ra8 b).1
      · refine (if_neg ?_).trans (if_pos (.inr (.inr (.inr h8)))).symm
        rintro ⟨_, hr⟩
        have := (of_decide_eq_true hr).2.2.2.1
        change toldN (ra8 b).1 ≤ 9999 at this
        unfold toldN at this; omega
      · have e : recR b = recD14 b := by
          unfold recR recD14 toldN
          rw [show min (ra4 b).1 2147483647 = (ra4 b).1 by omega, show min (ra8 b).1 2147483647 = (ra8 b).1 by omega]
        rw [if_neg (show ¬ ((ra10 b).2.2 = true ∨ (ra10 b).2.1 ≠ [] ∨ 1000 < (ra4 b).1 ∨ 9999 < (ra8 b).1) from fun h => by
          rcases h with h | h | h | h
          · rw [d1] at h; cases h
          · exact h d2
          · exact h4 h
          · exact h8 h), e]
        by_cases hr : rightRc (recD14 b) = true
        · rw [if_pos ⟨hd, hr⟩, if_pos hr]
        · rw [if_neg (fun h => hr h.2), if_neg hr]
  · rw [if_neg (fun h => hd h.1), if_pos]
    by_cases h1 : (ra10 b).2.2 = true
    · exact .inl h1
    · refine .inr (.inl (fun h2 => hd (doneN_zero14.2 ⟨by simpa using h1, h2⟩)))
/-- how it stands on its way -/
structure DxAt (w W : World) (a : Option Addr) (len cap : Nat) (b : List UInt8) (k : Nat) (bad : Bool) (cs : List Value) : Prop where
  x : Blk W (w.heap.size + 1) 60 (xcell a len cap k bad)
  k : k ≤ len
  r : Blk W (w.heap.size + 1 + 1) 26 cs
  res : Blk W w.heap.size 26 [.int .u64 0, .int .u64 0, .string { data := #[] }, .int .i64 0, .string { data := #[] }, .string { data := #[] }, .int .u64 0, .int .i64 0, .slice none 0 0, .slice none 0 0]
  bel : Below w.heap.size w W
theorem DxAt.isX {w W : World} {a : Option Addr} {len cap : Nat} {b : List UInt8} {k : Nat} {bad : Bool} {cs : List Value} (h : DxAt w W a len cap b k bad cs) (hB : IsB w a len cap b) : IsX W (w.heap.size + 1) a len cap b k bad :=
  ⟨h.x, hB.below h.bel rfl, fun hp z hz => by
    obtain ⟨g, off, e, hc⟩ := hB.cells hp
    have := cell_lt (hc 0 hp)
    rw [e] at hz
    obtain rfl := Option.some.inj hz
    show g ≠ _
    change g < _ at this
    omega, h.k⟩
theorem DxAt.call {w W W' : World} {a : Option Addr} {len cap : Nat} {b : List UInt8} {k k' : Nat} {bad bad' : Bool} {cs : List Value} (h : DxAt w W a len cap b k bad cs) (hx : IsX W' (w.heap.size + 1) a len cap b k' bad') (hg : W.grownBy W' (some (w.heap.size + 1))) : DxAt w W' a len cap b k' bad' cs ∧ KeepT [60] W W' := by
  have hk : KeepT [60] W W' := gr_keepT14 h.x hg
  exact ⟨⟨hx.1, hx.2.2.2, hk.blk h.r (by decide), hk.blk h.res (by decide), h.bel.grown hg h.bel.size (fun k e => by have := Option.some.inj e; omega)⟩, hk⟩
theorem DxAt.set {w W : World} {a : Option Addr} {len cap : Nat} {b : List UInt8} {k : Nat} {bad : Bool} {cs : List Value} (h : DxAt w W a len cap b k bad cs) (j : Nat) (v : Value) : DxAt w (W.setCell ⟨w.heap.size + 1 + 1, j, none⟩ v) a len cap b k bad (cs.set j v) ∧ KeepT [26] W (W.setCell ⟨w.heap.size + 1 + 1, j, none⟩ v) :=
  ⟨⟨h.x.other _ _ (by show w.heap.size + 1 ≠ w.heap.size + 1 + 1; omega), h.k, h.r.set j v, h.res.other _ _ (by show w.heap.size ≠ w.heap.size + 1 + 1; omega), h.bel.setCell (p := ⟨w.heap.size + 1 + 1, j, none⟩) (by show w.heap.size ≤ w.heap.size + 1 + 1; omega) v⟩, (KeepT.refl _ W).set h.r (by decide) j v⟩
attribute [local go_sem] undef
set_option maxRecDepth 20000 in
set_option maxHeartbeats 4000000 in
theorem refRead14 (a : Option Addr) (len cap : Nat) (b : List UInt8) (w : World) (h : IsB w a len cap b) (hl : len ≤ 100000) :
    Calls Try.prog 19 #[.slice a len cap] w fun e w' => RdP14 b e w' ∧ Below w.heap.size w w' := by
  have HQ := mkHid (readD_eq14 b)
  have HRN : Hid ((ra4 b).1 ≤ 1000 → (ra8 b).1 ≤ 9999 → RcN (recD14 b)) := fun h4 h8 => by
    have hh := rd_rcN14 b
    exact ⟨hh.seq, hh.clk, hh.ver, by show (_ : Int) ≤ ((ra4 b).1 : Int); omega, by show ((ra4 b).1 : Int) ≤ _; omega, by show (_ : Int) ≤ ((ra8 b).1 : Int); omega, by show ((ra8 b).1 : Int) ≤ _; omega⟩
  have HRt := fun q W => refRight14 (recD14 b) q W
  have HRc : Hid (∀ q, rcc (recD14 b) q = [.int .u64 ((ra1 b).1 : Int), .int .u64 ((ra2 b).1 : Int), .string ⟨(ra3 b).1.toArray⟩, .int .i64 ((ra4 b).1 : Int), .string ⟨(ra5 b).1.toArray⟩, .string ⟨(ra6 b).1.toArray⟩, .int .u64 ((ra7 b).1 : Int), .int .i64 ((ra8 b).1 : Int), .slice q.a (ra9 b).1.length q.c, .slice q.b (ra10 b).1.length q.d]) := fun q => rfl
  have HSp : Hid ((recD14 b).sum = (ra9 b).1 ∧ (recD14 b).prev = (ra10 b).1) := ⟨rfl, rfl⟩
  have HNo := mkHid (fun W (h : readRc b = none) => rd_no14 (w' := W) h)
  have HYe := mkHid (fun W q (h : readRc b = some (recD14 b)) (hr : IsRec W (recD14 b) q) => rd_yes14 h hr)
  have HLn := mkHid h.len_eq
  generalize hRR : recD14 b = RR at *
  have HI := mkHid h
  clear h hRR
  go_enter Try.func19, Try.ntmps19
  go_upto_region 3 with fail
  have H0 : Hid (DxAt w (((w.alloc (.cells #[.int .u64 0, .int .u64 0, .string { data := #[] }, .int .i64 0, .string { data := #[] }, .string { data := #[] }, .int .u64 0, .int .i64 0, .slice none 0 0, .slice none 0 0] 26)).alloc (.cells #[.slice a len cap, .int .i64 0, .bool false] 60)).alloc (.cells #[.int .u64 0, .int .u64 0, .string { data := #[] }, .int .i64 0, .string { data := #[] }, .string { data := #[] }, .int .u64 0, .int .i64 0, .slice none 0 0, .slice none 0 0] 26)) a len cap b 0 false [.int .u64 0, .int .u64 0, .string { data := #[] }, .int .i64 0, .string { data := #[] }, .string { data := #[] }, .int .u64 0, .int .i64 0, .slice none 0 0, .slice none 0 0]) :=
    ⟨(Blk.newAt (w.alloc (.cells #[.int .u64 0, .int .u64 0, .string { data := #[] }, .int .i64 0, .string { data := #[] }, .string { data := #[] }, .int .u64 0, .int .i64 0, .slice none 0 0, .slice none 0 0] 26)) (w.heap.size + 1) 60 _ [.slice a len cap, .int .i64 0, .bool false] (World.size_alloc _ _) rfl).alloc _, Nat.zero_le _, Blk.newAt _ (w.heap.size + 1 + 1) 26 _ [.int .u64 0, .int .u64 0, .string { data := #[] }, .int .i64 0, .string { data := #[] }, .string { data := #[] }, .int .u64 0, .int .i64 0, .slice none 0 0, .slice none 0 0] (by rw [World.size_alloc, World.size_alloc]) rfl, ((Blk.new w 26 [.int .u64 0, .int .u64 0, .string { data := #[] }, .int .i64 0, .string { data := #[] }, .string { data := #[] }, .int .u64 0, .int .i64 0, .slice none 0 0, .slice none 0 0]).alloc _).alloc _, (((Below.refl _ w).alloc (Nat.le_refl _) _).alloc (by simp) _).alloc (by simp; omega) _⟩
  generalize World.alloc _ _ = y0 at *
  have hC1 := xUint (w.heap.size + 1) a len cap b 0 false y0 (H0.out.isX HI.out)
  rw [show rdUint (b.drop 0) false = ra1 b from rfl] at hC1
  go_wp2_with fail
  refine hC1.mono ?_
  rintro e x1 ⟨rfl, ⟨k1, hx1, he1⟩, hg1⟩
  obtain ⟨h1, hk1⟩ := H0.out.call hx1 hg1
  have G1 := mkHid h1
  have E1 := mkHid he1
  clear h1 hk1 hx1 hg1 hC1 he1 H0
  have z1 : x1.cell? ⟨w.heap.size + 1 + 1, 0, none⟩ = some (.int .u64 0) := G1.out.r.cell 0
  have f1 := G1.out.r.frozen 0
  obtain ⟨hs1, ht1⟩ := G1.out.set 0 (.int .u64 ((ra1 b).1 : Int))
  simp only [List.set_cons_zero] at hs1
  have H1 := mkHid hs1
  clear hs1 ht1 G1
  go_upto_region 4 with fail
  clear z1 f1
  generalize x1.setCell ⟨w.heap.size + 1 + 1, 0, none⟩ (.int .u64 ((ra1 b).1 : Int)) = y1 at *
  have hC2 := xUint (w.heap.size + 1) a len cap b k1 (ra1 b).2.2 y1 (H1.out.isX HI.out)
  rw [← E1.out, show rdUint (ra1 b).2.1 (ra1 b).2.2 = ra2 b from rfl] at hC2
  go_wp2_with fail
  refine hC2.mono ?_
  rintro e x2 ⟨rfl, ⟨k2, hx2, he2⟩, hg2⟩
  obtain ⟨h2, hk2⟩ := H1.out.call hx2 hg2
  have G2 := mkHid h2
  have E2 := mkHid he2
  clear h2 hk2 hx2 hg2 hC2 he2 H1 E1
  have z2 : x2.cell? ⟨w.heap.size + 1 + 1, 1, none⟩ = some (.int .u64 0) := G2.out.r.cell 1
  have f2 := G2.out.r.frozen 1
  obtain ⟨hs2, ht2⟩ := G2.out.set 1 (.int .u64 ((ra2 b).1 : Int))
  simp only [List.set_cons_succ, List.set_cons_zero] at hs2
  have H2 := mkHid hs2
  clear hs2 ht2 G2
  go_upto_region 5 with fail
  clear z2 f2
  generalize x2.setCell ⟨w.heap.size + 1 + 1, 1, none⟩ (.int .u64 ((ra2 b).1 : Int)) = y2 at *
  have hC3 := xText (w.heap.size + 1) a len cap b k2 (ra2 b).2.2 y2 (H2.out.isX HI.out) (by omega)
  rw [← E2.out, show rdSome 115 (ra2 b).2.1 (ra2 b).2.2 = ra3 b from rfl] at hC3
  go_wp2_with fail
  refine hC3.mono ?_
  rintro e x3 ⟨rfl, ⟨k3, hx3, he3⟩, hg3⟩
  obtain ⟨h3, hk3⟩ := H2.out.call hx3 hg3
  have G3 := mkHid h3
  have E3 := mkHid he3
  clear h3 hk3 hx3 hg3 hC3 he3 H2 E2
  have z3 : x3.cell? ⟨w.heap.size + 1 + 1, 2, none⟩ = some (.string { data := #[] }) := G3.out.r.cell 2
  have f3 := G3.out.r.frozen 2
  obtain ⟨hs3, ht3⟩ := G3.out.set 2 (.string ⟨(ra3 b).1.toArray⟩)
  simp only [List.set_cons_succ, List.set_cons_zero] at hs3
  have H3 := mkHid hs3
  clear hs3 ht3 G3
  go_upto_region 6 with fail
  clear z3 f3
  generalize x3.setCell ⟨w.heap.size + 1 + 1, 2, none⟩ (.string ⟨(ra3 b).1.toArray⟩) = y3 at *
  have hC4 := xUint (w.heap.size + 1) a len cap b k3 (ra3 b).2.2 y3 (H3.out.isX HI.out)
  rw [← E3.out, show rdUint (ra3 b).2.1 (ra3 b).2.2 = ra4 b from rfl] at hC4
  go_wp2_with fail
  refine hC4.mono ?_
  rintro e x4 ⟨rfl, ⟨k4, hx4, he4⟩, hg4⟩
  obtain ⟨h4, hk4⟩ := H3.out.call hx4 hg4
  have G4 := mkHid h4
  have E4 := mkHid he4
  clear h4 hk4 hx4 hg4 hC4 he4 H3 E3
  go_upto_region 7 with fail
  have hC5 := xText (w.heap.size + 1) a len cap b k4 (ra4 b).2.2 x4 (G4.out.isX HI.out) (by omega)
  rw [← E4.out, show rdSome 115 (ra4 b).2.1 (ra4 b).2.2 = ra5 b from rfl] at hC5
  go_wp2_with fail
  refine hC5.mono ?_
  rintro e x5 ⟨rfl, ⟨k5, hx5, he5⟩, hg5⟩
  obtain ⟨h5, hk5⟩ := G4.out.call hx5 hg5
  have G5 := mkHid h5
  have E5 := mkHid he5
  clear h5 hk5 hx5 hg5 hC5 he5 G4 E4
  have z5 : x5.cell? ⟨w.heap.size + 1 + 1, 4, none⟩ = some (.string { data := #[] }) := G5.out.r.cell 4
  have f5 := G5.out.r.frozen 4
  obtain ⟨hs5, ht5⟩ := G5.out.set 4 (.string ⟨(ra5 b).1.toArray⟩)
  simp only [List.set_cons_succ, List.set_cons_zero] at hs5
  have H5 := mkHid hs5
  clear hs5 ht5 G5
  go_upto_region 8 with fail
  clear z5 f5
  generalize x5.setCell ⟨w.heap.size + 1 + 1, 4, none⟩ (.string ⟨(ra5 b).1.toArray⟩) = y5 at *
  have hC6 := xText (w.heap.size + 1) a len cap b k5 (ra5 b).2.2 y5 (H5.out.isX HI.out) (by omega)
  rw [← E5.out, show rdSome 115 (ra5 b).2.1 (ra5 b).2.2 = ra6 b from rfl] at hC6
  go_wp2_with fail
  refine hC6.mono ?_
  rintro e x6 ⟨rfl, ⟨k6, hx6, he6⟩, hg6⟩
  obtain ⟨h6, hk6⟩ := H5.out.call hx6 hg6
  have G6 := mkHid h6
  have E6 := mkHid he6
  clear h6 hk6 hx6 hg6 hC6 he6 H5 E5
  have z6 : x6.cell? ⟨w.heap.size + 1 + 1, 5, none⟩ = some (.string { data := #[] }) := G6.out.r.cell 5
  have f6 := G6.out.r.frozen 5
  obtain ⟨hs6, ht6⟩ := G6.out.set 5 (.string ⟨(ra6 b).1.toArray⟩)
  simp only [List.set_cons_succ, List.set_cons_zero] at hs6
  have H6 := mkHid hs6
  clear hs6 ht6 G6
  go_upto_region 9 with fail
  clear z6 f6
  generalize x6.setCell ⟨w.heap.size + 1 + 1, 5, none⟩ (.string ⟨(ra6 b).1.toArray⟩) = y6 at *
  have hC7 := xUint (w.heap.size + 1) a len cap b k6 (ra6 b).2.2 y6 (H6.out.isX HI.out)
  rw [← E6.out, show rdUint (ra6 b).2.1 (ra6 b).2.2 = ra7 b from rfl] at hC7
  go_wp2_with fail
  refine hC7.mono ?_
  rintro e x7 ⟨rfl, ⟨k7, hx7, he7⟩, hg7⟩
  obtain ⟨h7, hk7⟩ := H6.out.call hx7 hg7
  have G7 := mkHid h7
  have E7 := mkHid he7
  clear h7 hk7 hx7 hg7 hC7 he7 H6 E6
  have z7 : x7.cell? ⟨w.heap.size + 1 + 1, 6, none⟩ = some (.int .u64 0) := G7.out.r.cell 6
  have f7 := G7.out.r.frozen 6
  obtain ⟨hs7, ht7⟩ := G7.out.set 6 (.int .u64 ((ra7 b).1 : Int))
  simp only [List.set_cons_succ, List.set_cons_zero] at hs7
  have H7 := mkHid hs7
  clear hs7 ht7 G7
  go_upto_region 10 with fail
  clear z7 f7
  generalize x7.setCell ⟨w.heap.size + 1 + 1, 6, none⟩ (.int .u64 ((ra7 b).1 : Int)) = y7 at *
  have hC8 := xUint (w.heap.size + 1) a len cap b k7 (ra7 b).2.2 y7 (H7.out.isX HI.out)
  rw [← E7.out, show rdUint (ra7 b).2.1 (ra7 b).2.2 = ra8 b from rfl] at hC8
  go_wp2_with fail
  refine hC8.mono ?_
  rintro e x8 ⟨rfl, ⟨k8, hx8, he8⟩, hg8⟩
  obtain ⟨h8, hk8⟩ := H7.out.call hx8 hg8
  have G8 := mkHid h8
  have E8 := mkHid he8
  clear h8 hk8 hx8 hg8 hC8 he8 H7 E7
  go_upto_region 11 with fail
  have hC9 := xBytes (w.heap.size + 1) a len cap b k8 (ra8 b).2.2 x8 (G8.out.isX HI.out) (by omega)
  rw [← E8.out, show rdSome 98 (ra8 b).2.1 (ra8 b).2.2 = ra9 b from rfl] at hC9
  go_wp2_with fail
  refine hC9.mono ?_
  rintro e x9 ⟨v9, rfl, ho9, ⟨k9, hx9, he9⟩, hg9⟩
  obtain ⟨h9, hk9⟩ := G8.out.call hx9 hg9
  have G9 := mkHid h9
  have E9 := mkHid he9
  have HO9 := mkHid (ho9.base G8.out.bel.size)
  obtain ⟨a9, c9, hv9, _⟩ := HO9.out.isB
  subst hv9
  clear ho9
  clear h9 hk9 hx9 hg9 hC9 he9 G8 E8
  have z9 : x9.cell? ⟨w.heap.size + 1 + 1, 8, none⟩ = some (.slice none 0 0) := G9.out.r.cell 8
  have f9 := G9.out.r.frozen 8
  obtain ⟨hs9, ht9⟩ := G9.out.set 8 (.slice a9 (ra9 b).1.length c9)
  simp only [List.set_cons_succ, List.set_cons_zero] at hs9
  have H9 := mkHid hs9
  have HP8 := mkHid (own_keepR14 HO9.out ht9)
  clear HO9
  clear hs9 ht9 G9
  go_upto_region 12 with fail
  clear z9 f9
  generalize x9.setCell ⟨w.heap.size + 1 + 1, 8, none⟩ (.slice a9 (ra9 b).1.length c9) = y9 at *
  have hC10 := xBytes (w.heap.size + 1) a len cap b k9 (ra9 b).2.2 y9 (H9.out.isX HI.out) (by omega)
  rw [← E9.out, show rdSome 98 (ra9 b).2.1 (ra9 b).2.2 = ra10 b from rfl] at hC10
  go_wp2_with fail
  refine hC10.mono ?_
  rintro e x10 ⟨v10, rfl, ho10, ⟨k10, hx10, he10⟩, hg10⟩
  obtain ⟨h10, hk10⟩ := H9.out.call hx10 hg10
  have G10 := mkHid h10
  have E10 := mkHid he10
  have HO10 := mkHid (ho10.base H9.out.bel.size)
  obtain ⟨a10, c10, hv10, _⟩ := HO10.out.isB
  subst hv10
  have HP9 : Hid (OwnB x10 w.heap.size (.slice a9 (ra9 b).1.length c9) (ra9 b).1) := own_keep hk10 HP8.out (by decide)
  clear HP8
  clear ho10
  clear h10 hk10 hx10 hg10 hC10 he10 H9 E9
  have z10 : x10.cell? ⟨w.heap.size + 1 + 1, 9, none⟩ = some (.slice none 0 0) := G10.out.r.cell 9
  have f10 := G10.out.r.frozen 9
  obtain ⟨hs10, ht10⟩ := G10.out.set 9 (.slice a10 (ra10 b).1.length c10)
  simp only [List.set_cons_succ, List.set_cons_zero] at hs10
  have H10 := mkHid hs10
  have HQ9 := mkHid (own_keepR14 HP9.out ht10)
  have HQ10 := mkHid (own_keepR14 HO10.out ht10)
  clear HP9 HO10
  clear hs10 ht10 G10
  go_upto_region 13 with fail
  clear z10 f10
  generalize x10.setCell ⟨w.heap.size + 1 + 1, 9, none⟩ (.slice a10 (ra10 b).1.length c10) = y10 at *
  have HRc2 := mkHid (HRc.out ⟨a9, c9, a10, c10⟩)
  have HRt2 := fun W => HRt ⟨a9, c9, a10, c10⟩ W
  rw [HRc2.out] at HRt2
  have HIs : Hid ((ra4 b).1 ≤ 1000 → (ra8 b).1 ≤ 9999 → ∀ W, KeepT [26] y10 W → IsRec W RR ⟨a9, c9, a10, c10⟩) := fun h4 h8 W hW => by
    refine ⟨?_, ?_, HRN.out h4 h8⟩
    · rw [HSp.out.1]; exact IsV.toB (own_keepR14 HQ9.out hW).isV
    · rw [HSp.out.2]; exact IsV.toB (own_keepR14 HQ10.out hW).isV
  have HYe2 := mkHid (fun W => HYe.out W ⟨a9, c9, a10, c10⟩)
  rw [HRc2.out] at HYe2
  have HEn : Hid ((ra10 b).2.1 ≠ [] ↔ k10 < len) := by
    unfold Hid; rw [E10.out, ne_eq, List.drop_eq_nil_iff, HLn.out]; omega
  clear HRc HRc2 HRt HYe HSp HQ9 HQ10 HRN E10 HLn
  have d1 : y10.cell? ⟨w.heap.size + 1, 1, none⟩ = some (.int .i64 (k10 : Int)) := H10.out.x.cell 1
  have d2 : y10.cell? ⟨w.heap.size + 1, 2, none⟩ = some (.bool (ra10 b).2.2) := H10.out.x.cell 2
  generalize (ra9 b).1.length = sl at *
  generalize (ra10 b).1.length = pl at *
  generalize (ra1 b).1 = s1 at *
  generalize (ra2 b).1 = s2 at *
  generalize (⟨(ra3 b).1.toArray⟩ : ByteArray) = s3 at *
  generalize (ra4 b).1 = s4 at *
  generalize (⟨(ra5 b).1.toArray⟩ : ByteArray) = s5 at *
  generalize (⟨(ra6 b).1.toArray⟩ : ByteArray) = s6 at *
  generalize (ra7 b).1 = s7 at *
  generalize (ra8 b).1 = s8 at *
  generalize (ra10 b).2.2 = BD at *
  generalize (ra10 b).2.1 = RS at *
  have HR0 := mkHid H10.out.res
  have HB0 := mkHid H10.out.bel
  cases BD with
  | true =>
    have HNn := mkHid (HQ.out.trans (if_pos (.inl rfl)))
    clear HQ HYe2 HRt2 H10 d1
    go_wp2_with (first | (refine wpList_store_row rfl 26 _ _ rfl w.heap.size #[.int .u64 0, .int .u64 0, .string { data := #[] }, .int .i64 0, .string { data := #[] }, .string { data := #[] }, .int .u64 0, .int .i64 0, .slice none 0 0, .slice none 0 0] rfl rfl _ _ HR0.out (by kernel_rfl) rfl (one14 _ _ _ _ _ _ _ _ _ _ _ _ _ _) ?_))
    have hbr := bel_row HB0.out (Nat.le_refl _) #[.int .u64 0, .int .u64 0, .string { data := #[] }, .int .i64 0, .string { data := #[] }, .string { data := #[] }, .int .u64 0, .int .i64 0, .slice none 0 0, .slice none 0 0]
    refine bodyPost_ret (results_cellrow_tmp (P := Try.prog) rfl _ _ w.heap.size 26 #[.int .u64 0, .int .u64 0, .string { data := #[] }, .int .i64 0, .string { data := #[] }, .string { data := #[] }, .int .u64 0, .int .i64 0, .slice none 0 0, .slice none 0 0] (0, 0) _ rfl (HR0.out.row [_, _, _, _, _, _, _, _, _, _]) Try.underlying26 rfl (by kernel_rfl)) rfl ⟨?_, hbr⟩
    exact HNo.out _ HNn.out
  | false =>
  by_cases hk : k10 < len
  · have HNn := mkHid (HQ.out.trans (if_pos (.inr (.inl (HEn.out.2 hk)))))
    have hk' : (k10 : Int) < (len : Int) := by omega
    clear HQ HYe2 HRt2 H10
    go_wp2_with (first | (refine wpList_store_row rfl 26 _ _ rfl w.heap.size #[.int .u64 0, .int .u64 0, .string { data := #[] }, .int .i64 0, .string { data := #[] }, .string { data := #[] }, .int .u64 0, .int .i64 0, .slice none 0 0, .slice none 0 0] rfl rfl _ _ HR0.out (by kernel_rfl) rfl (one14 _ _ _ _ _ _ _ _ _ _ _ _ _ _) ?_))
    have hbr := bel_row HB0.out (Nat.le_refl _) #[.int .u64 0, .int .u64 0, .string { data := #[] }, .int .i64 0, .string { data := #[] }, .string { data := #[] }, .int .u64 0, .int .i64 0, .slice none 0 0, .slice none 0 0]
    refine bodyPost_ret (results_cellrow_tmp (P := Try.prog) rfl _ _ w.heap.size 26 #[.int .u64 0, .int .u64 0, .string { data := #[] }, .int .i64 0, .string { data := #[] }, .string { data := #[] }, .int .u64 0, .int .i64 0, .slice none 0 0, .slice none 0 0] (0, 0) _ rfl (HR0.out.row [_, _, _, _, _, _, _, _, _, _]) Try.underlying26 rfl (by kernel_rfl)) rfl ⟨?_, hbr⟩
    exact HNo.out _ HNn.out
  have hk' : ¬ (k10 : Int) < (len : Int) := by omega
  by_cases h4 : 1000 < s4
  · have HNn := mkHid (HQ.out.trans (if_pos (.inr (.inr (.inl h4)))))
    have h4' : (1000 : Int) < (s4 : Int) := by omega
    clear HQ HYe2 HRt2 H10
    go_wp2_with (first | (refine wpList_store_row rfl 26 _ _ rfl w.heap.size #[.int .u64 0, .int .u64 0, .string { data := #[] }, .int .i64 0, .string { data := #[] }, .string { data := #[] }, .int .u64 0, .int .i64 0, .slice none 0 0, .slice none 0 0] rfl rfl _ _ HR0.out (by kernel_rfl) rfl (one14 _ _ _ _ _ _ _ _ _ _ _ _ _ _) ?_))
    have hbr := bel_row HB0.out (Nat.le_refl _) #[.int .u64 0, .int .u64 0, .string { data := #[] }, .int .i64 0, .string { data := #[] }, .string { data := #[] }, .int .u64 0, .int .i64 0, .slice none 0 0, .slice none 0 0]
    refine bodyPost_ret (results_cellrow_tmp (P := Try.prog) rfl _ _ w.heap.size 26 #[.int .u64 0, .int .u64 0, .string { data := #[] }, .int .i64 0, .string { data := #[] }, .string { data := #[] }, .int .u64 0, .int .i64 0, .slice none 0 0, .slice none 0 0] (0, 0) _ rfl (HR0.out.row [_, _, _, _, _, _, _, _, _, _]) Try.underlying26 rfl (by kernel_rfl)) rfl ⟨?_, hbr⟩
    exact HNo.out _ HNn.out
  have h4' : ¬ (1000 : Int) < (s4 : Int) := by omega
  by_cases h8 : 9999 < s8
  · have HNn := mkHid (HQ.out.trans (if_pos (.inr (.inr (.inr h8)))))
    have h8' : (9999 : Int) < (s8 : Int) := by omega
    clear HQ HYe2 HRt2 H10
    go_wp2_with (first | (refine wpList_store_row rfl 26 _ _ rfl w.heap.size #[.int .u64 0, .int .u64 0, .string { data := #[] }, .int .i64 0, .string { data := #[] }, .string { data := #[] }, .int .u64 0, .int .i64 0, .slice none 0 0, .slice none 0 0] rfl rfl _ _ HR0.out (by kernel_rfl) rfl (one14 _ _ _ _ _ _ _ _ _ _ _ _ _ _) ?_))
    have hbr := bel_row HB0.out (Nat.le_refl _) #[.int .u64 0, .int .u64 0, .string { data := #[] }, .int .i64 0, .string { data := #[] }, .string { data := #[] }, .int .u64 0, .int .i64 0, .slice none 0 0, .slice none 0 0]
    refine bodyPost_ret (results_cellrow_tmp (P := Try.prog) rfl _ _ w.heap.size 26 #[.int .u64 0, .int .u64 0, .string { data := #[] }, .int .i64 0, .string { data := #[] }, .string { data := #[] }, .int .u64 0, .int .i64 0, .slice none 0 0, .slice none 0 0] (0, 0) _ rfl (HR0.out.row [_, _, _, _, _, _, _, _, _, _]) Try.underlying26 rfl (by kernel_rfl)) rfl ⟨?_, hbr⟩
    exact HNo.out _ HNn.out
  have h8' : ¬ (9999 : Int) < (s8 : Int) := by omega
  have HQ2 := mkHid (HQ.out.trans (if_neg (show ¬ (false = true ∨ RS ≠ [] ∨ 1000 < s4 ∨ 9999 < s8) from fun h => by
    rcases h with h | h | h | h
    · cases h
    · exact hk (HEn.out.1 h)
    · exact h4 h
    · exact h8 h)))
  have HIs2 := mkHid (HIs.out (by omega) (by omega))
  have hw4 : IntKind.i64.wrap (s4 : Int) = (s4 : Int) := by rw [IntKind.wrap_i64]; omega
  have hw8 : IntKind.i64.wrap (s8 : Int) = (s8 : Int) := by rw [IntKind.wrap_i64]; omega
  have u3 : y10.cell? ⟨w.heap.size + 1 + 1, 3, none⟩ = some (.int .i64 0) := H10.out.r.cell 3
  have v3 := H10.out.r.frozen 3
  clear HQ HIs HEn h4 h8 hk
  go_upto_region 16 with fail
  obtain ⟨hs11, ht11⟩ := H10.out.set 3 (.int .i64 (s4 : Int))
  simp only [List.set_cons_succ, List.set_cons_zero] at hs11
  have H11 := mkHid hs11
  have HT11 := mkHid ht11
  clear hs11 ht11 H10 u3 v3 d1 d2 hk' h4' h8' HR0 HB0
  generalize y10.setCell ⟨w.heap.size + 1 + 1, 3, none⟩ (.int .i64 (s4 : Int)) = y11 at *
  have u7 : y11.cell? ⟨w.heap.size + 1 + 1, 7, none⟩ = some (.int .i64 0) := H11.out.r.cell 7
  have v7 := H11.out.r.frozen 7
  go_upto_region 17 with fail
  obtain ⟨hs12, ht12⟩ := H11.out.set 7 (.int .i64 (s8 : Int))
  simp only [List.set_cons_succ, List.set_cons_zero] at hs12
  have H12 := mkHid hs12
  have HT12 := mkHid (HT11.out.trans ht12)
  clear hs12 ht12 H11 HT11 u7 v7 hw4 hw8
  generalize y11.setCell ⟨w.heap.size + 1 + 1, 7, none⟩ (.int .i64 (s8 : Int)) = y12 at *
  go_wp2_with (first | (refine wpList_load_row rfl 26 _ rfl _ rfl _ _ _ _ H12.out.r Try.underlying26 rfl (by kernel_rfl) ?_))
  refine (HRt2 y12).mono ?_
  rintro e z2 ⟨rfl, hb2⟩
  have HK2 := mkHid (H12.out.r.on hb2)
  have HR0 := mkHid (H12.out.res.on hb2)
  have HB0 := mkHid (H12.out.bel.trans (hb2.mono H12.out.bel.size))
  have HT2 := mkHid (HT12.out.trans (KeepT.of_below hb2))
  clear hb2 H12 HT12 HRt2
  cases hrt : rightRc RR with
  | false =>
    have HNn := mkHid (HQ2.out.trans (if_neg (by rw [hrt]; simp)))
    clear HQ2 hrt HYe2 HIs2
    go_wp2_with (first | (refine wpList_store_row rfl 26 _ _ rfl w.heap.size #[.int .u64 0, .int .u64 0, .string { data := #[] }, .int .i64 0, .string { data := #[] }, .string { data := #[] }, .int .u64 0, .int .i64 0, .slice none 0 0, .slice none 0 0] rfl rfl _ _ HR0.out (by kernel_rfl) rfl (one14 _ _ _ _ _ _ _ _ _ _ _ _ _ _) ?_))
    have hbr := bel_row HB0.out (Nat.le_refl _) #[.int .u64 0, .int .u64 0, .string { data := #[] }, .int .i64 0, .string { data := #[] }, .string { data := #[] }, .int .u64 0, .int .i64 0, .slice none 0 0, .slice none 0 0]
    refine bodyPost_ret (results_cellrow_tmp (P := Try.prog) rfl _ _ w.heap.size 26 #[.int .u64 0, .int .u64 0, .string { data := #[] }, .int .i64 0, .string { data := #[] }, .string { data := #[] }, .int .u64 0, .int .i64 0, .slice none 0 0, .slice none 0 0] (0, 0) _ rfl (HR0.out.row [_, _, _, _, _, _, _, _, _, _]) Try.underlying26 rfl (by kernel_rfl)) rfl ⟨?_, hbr⟩
    exact HNo.out _ HNn.out
  | true =>
    have HOk := mkHid (HQ2.out.trans (if_pos hrt))
    clear HQ2 hrt HNo
    go_wp2_with (first | (refine wpList_load_row rfl 26 _ rfl _ rfl _ _ _ _ HK2.out Try.underlying26 rfl (by kernel_rfl) ?_) | (refine wpList_store_row rfl 26 _ _ rfl w.heap.size #[.int .u64 (s1 : Int), .int .u64 (s2 : Int), .string s3, .int .i64 (s4 : Int), .string s5, .string s6, .int .u64 (s7 : Int), .int .i64 (s8 : Int), .slice a9 sl c9, .slice a10 pl c10] rfl rfl _ _ HR0.out (by kernel_rfl) rfl (one14 _ _ _ _ _ _ _ _ _ _ _ _ _ _) ?_))
    have hbr := bel_row HB0.out (Nat.le_refl _) #[.int .u64 (s1 : Int), .int .u64 (s2 : Int), .string s3, .int .i64 (s4 : Int), .string s5, .string s6, .int .u64 (s7 : Int), .int .i64 (s8 : Int), .slice a9 sl c9, .slice a10 pl c10]
    refine bodyPost_ret (results_cellrow_tmp (P := Try.prog) rfl _ _ w.heap.size 26 #[.int .u64 (s1 : Int), .int .u64 (s2 : Int), .string s3, .int .i64 (s4 : Int), .string s5, .string s6, .int .u64 (s7 : Int), .int .i64 (s8 : Int), .slice a9 sl c9, .slice a10 pl c10] (0, 0) _ rfl (HR0.out.row [_, _, _, _, _, _, _, _, _, _]) Try.underlying26 rfl (by kernel_rfl)) rfl ⟨?_, hbr⟩
    exact HYe2.out _ HOk.out (HIs2.out _ (HT2.out.row14 HR0.out (by decide) _))
end Go.Proofs.Ytooffagdbppmaaa
namespace Go.Proofs.Ytooffagdbppmaaa
open Go.RowKit

theorem same_self14 (r : Rc) : sameRc r r = true := (sameRc_iff r r).2 rfl
attribute [local go_sem] undef
set_option maxRecDepth 20000 in
set_option maxHeartbeats 2000000 in
theorem reads14 (a : Option Addr) (len cap : Nat) (b : List UInt8) (w : World) (h : IsB w a len cap b) (hl : len ≤ 140737488351232) :
    Calls Try.prog 4 #[.slice a len cap] w fun e w' => e = .returned (.bool true) ∧ Below w.heap.size w w' := by
  have HI := mkHid h
  clear h
  by_cases hbig : 10000 < len
  · have hbig' : (10000 : Int) < (len : Int) := by omega
    go_enter Try.func4, Try.ntmps4
    go_wp2_with fail
    refine (lawAlive14 w).mono ?_
    rintro e y1 ⟨rfl, hb1⟩
    have HB1 := mkHid hb1
    clear hb1
    go_wp2_with fail
    go_ret
    exact ⟨rfl, HB1.out⟩
  · have hbig' : ¬ (10000 : Int) < (len : Int) := by omega
    have HC := codRead14 a len cap b w HI.out (by omega)
    have HD := fun W (hW : Below w.heap.size w W) => refRead14 a len cap b W (HI.out.below hW rfl) (by omega)
    unfold RdP14 at HC HD
    clear HI hbig hl
    generalize rdE14 b = E at *
    generalize rdR14 b = x at *
    have HS := fun q p W => refSame14 x x q p W
    rw [same_self14] at HS
    obtain ⟨xseq, xclk, xwho, xkind, xbkt, xkey, xver, xerr, xsum, xprev⟩ := x
    simp only [rcc] at HC HD HS
    go_enter Try.func4, Try.ntmps4
    go_wp2_with fail
    refine HC.mono ?_
    rintro e y1 ⟨⟨⟨pa, pc, pb, pd⟩, rfl, hr1⟩, hb1⟩
    have hbA : Below y1.heap.size y1 (y1.alloc (.cells #[.int .u64 (xseq : Int), .int .u64 (xclk : Int), .string xwho, .int .i64 xkind, .string xbkt, .string xkey, .int .u64 (xver : Int), .int .i64 xerr, .slice pa xsum.length pc, .slice pb xprev.length pd] 26)) := (Below.refl _ y1).alloc (Nat.le_refl _) _
    have HKA := mkHid (Blk.new y1 26 [.int .u64 (xseq : Int), .int .u64 (xclk : Int), .string xwho, .int .i64 xkind, .string xbkt, .string xkey, .int .u64 (xver : Int), .int .i64 xerr, .slice pa xsum.length pc, .slice pb xprev.length pd])
    have HR1 := mkHid (hr1.below hbA)
    have HB1 := mkHid (hb1.trans (hbA.mono hb1.size))
    clear hbA hr1 hb1 HC
    go_wp2_with fail
    generalize y1.alloc (.cells #[.int .u64 (xseq : Int), .int .u64 (xclk : Int), .string xwho, .int .i64 xkind, .string xbkt, .string xkey, .int .u64 (xver : Int), .int .i64 xerr, .slice pa xsum.length pc, .slice pb xprev.length pd] 26) = Y1 at *
    generalize y1.heap.size = P at *
    refine (HD Y1 HB1.out).mono ?_
    rintro e y2 ⟨⟨⟨qa, qc, qb, qd⟩, rfl, hr2⟩, hb2⟩
    have hbA : Below y2.heap.size y2 (y2.alloc (.cells #[.int .u64 (xseq : Int), .int .u64 (xclk : Int), .string xwho, .int .i64 xkind, .string xbkt, .string xkey, .int .u64 (xver : Int), .int .i64 xerr, .slice qa xsum.length qc, .slice qb xprev.length qd] 26)) := (Below.refl _ y2).alloc (Nat.le_refl _) _
    have HK2 := mkHid ((HKA.out.on hb2).on hbA)
    have HK3 := mkHid (Blk.new y2 26 [.int .u64 (xseq : Int), .int .u64 (xclk : Int), .string xwho, .int .i64 xkind, .string xbkt, .string xkey, .int .u64 (xver : Int), .int .i64 xerr, .slice qa xsum.length qc, .slice qb xprev.length qd])
    have HR2 := mkHid ((HR1.out.below hb2).below hbA)
    have HR3 := mkHid (hr2.below hbA)
    have HB2 := mkHid ((HB1.out.trans (hb2.mono HB1.out.size)).trans (hbA.mono (HB1.out.trans (hb2.mono HB1.out.size)).size))
    clear hbA hr2 hb2 HD HKA HR1 HB1
    go_upto_region 5 with fail
    generalize y2.alloc (.cells #[.int .u64 (xseq : Int), .int .u64 (xclk : Int), .string xwho, .int .i64 xkind, .string xbkt, .string xkey, .int .u64 (xver : Int), .int .i64 xerr, .slice qa xsum.length qc, .slice qb xprev.length qd] 26) = Y2 at *
    generalize y2.heap.size = P2 at *
    have c0 : Y2.cell? ⟨P, 0, none⟩ = some (.int .u64 (xseq : Int)) := HK2.out.cell 0
    have c1 : Y2.cell? ⟨P, 1, none⟩ = some (.int .u64 (xclk : Int)) := HK2.out.cell 1
    have c2 : Y2.cell? ⟨P, 2, none⟩ = some (.string xwho) := HK2.out.cell 2
    have c3 : Y2.cell? ⟨P, 3, none⟩ = some (.int .i64 xkind) := HK2.out.cell 3
    have c4 : Y2.cell? ⟨P, 4, none⟩ = some (.string xbkt) := HK2.out.cell 4
    have c5 : Y2.cell? ⟨P, 5, none⟩ = some (.string xkey) := HK2.out.cell 5
    have c6 : Y2.cell? ⟨P, 6, none⟩ = some (.int .u64 (xver : Int)) := HK2.out.cell 6
    have c7 : Y2.cell? ⟨P, 7, none⟩ = some (.int .i64 xerr) := HK2.out.cell 7
    have c8 : Y2.cell? ⟨P, 8, none⟩ = some (.slice pa xsum.length pc) := HK2.out.cell 8
    have c9 : Y2.cell? ⟨P, 9, none⟩ = some (.slice pb xprev.length pd) := HK2.out.cell 9
    have d0 : Y2.cell? ⟨P2, 0, none⟩ = some (.int .u64 (xseq : Int)) := HK3.out.cell 0
    have d1 : Y2.cell? ⟨P2, 1, none⟩ = some (.int .u64 (xclk : Int)) := HK3.out.cell 1
    have d2 : Y2.cell? ⟨P2, 2, none⟩ = some (.string xwho) := HK3.out.cell 2
    have d3 : Y2.cell? ⟨P2, 3, none⟩ = some (.int .i64 xkind) := HK3.out.cell 3
    have d4 : Y2.cell? ⟨P2, 4, none⟩ = some (.string xbkt) := HK3.out.cell 4
    have d5 : Y2.cell? ⟨P2, 5, none⟩ = some (.string xkey) := HK3.out.cell 5
    have d6 : Y2.cell? ⟨P2, 6, none⟩ = some (.int .u64 (xver : Int)) := HK3.out.cell 6
    have d7 : Y2.cell? ⟨P2, 7, none⟩ = some (.int .i64 xerr) := HK3.out.cell 7
    have d8 : Y2.cell? ⟨P2, 8, none⟩ = some (.slice qa xsum.length qc) := HK3.out.cell 8
    have d9 : Y2.cell? ⟨P2, 9, none⟩ = some (.slice qb xprev.length qd) := HK3.out.cell 9
    go_wp2_with fail
    refine (HS ⟨pa, pc, pb, pd⟩ ⟨qa, qc, qb, qd⟩ Y2 HR2.out HR3.out).mono ?_
    rintro e y3 ⟨rfl, hb3⟩
    have HB3 := mkHid (HB2.out.trans (hb3.mono HB2.out.size))
    clear hb3 HS HK2 HK3 HR2 HR3 HB2 c0 c1 c2 c3 c4 c5 c6 c7 c8 c9 d0 d1 d2 d3 d4 d5 d6 d7 d8 d9
    go_wp2_with fail
    refine (lawAlive14 y3).mono ?_
    rintro e y4 ⟨rfl, hb4⟩
    have HB4 := mkHid (HB3.out.trans (hb4.mono HB3.out.size))
    clear hb4 HB3
    go_wp2_with fail
    go_ret
    exact ⟨rfl, HB4.out⟩
end Go.Proofs.Ytooffagdbppmaaa
namespace Go.Proofs.Ytooffagdbppmaaa
open Go.RowKit

def rcs : List Rq14 → List Value
  | [] => []
  | x :: l => rcc x.1 x.2 ++ rcs l
theorem rcc_lenP (x : Rq14) : (rcc x.1 x.2).length = 10 := rfl
theorem rcs_length (l : List Rq14) : (rcs l).length = l.length * 10 := by
  induction l with
  | nil => rfl
  | cons x l ih => rw [rcs, List.length_append, ih, rcc_lenP, List.length_cons]; omega
theorem rcs_append (l m : List Rq14) : rcs (l ++ m) = rcs l ++ rcs m := by
  induction l with
  | nil => rfl
  | cons x l ih => rw [List.cons_append, rcs, rcs, ih, List.append_assoc]
theorem rcs_take (l : List Rq14) (k : Nat) : rcs (l.take k) = (rcs l).take (k * 10) := by
  induction k generalizing l with
  | zero => rfl
  | succ k ih =>
    cases l with
    | nil => rfl
    | cons x l =>
      rw [List.take_succ_cons, rcs, rcs, ih, List.take_append, rcc_lenP, List.take_of_length_le (l := rcc x.1 x.2) (by rw [rcc_lenP]; omega), show (k + 1) * 10 - 10 = k * 10 by omega]
theorem rcs_drop (l : List Rq14) (k : Nat) : rcs (l.drop k) = (rcs l).drop (k * 10) := by
  induction k generalizing l with
  | zero => rfl
  | succ k ih =>
    cases l with
    | nil => rfl
    | cons x l =>
      rw [List.drop_succ_cons, rcs, ih, List.drop_append, rcc_lenP, List.drop_of_length_le (l := rcc x.1 x.2) (by rw [rcc_lenP]; omega), List.nil_append, show (k + 1) * 10 - 10 = k * 10 by omega]
theorem rcs_at (l : List Rq14) (k j : Nat) (hk : k < l.length) (hj : j < 10) : (rcs l)[k * 10 + j]? = (rcc (l[k]).1 (l[k]).2)[j]? := by
  have e : (rcs l)[k * 10 + j]? = ((rcs l).drop (k * 10))[j]? := by rw [List.getElem?_drop]
  rw [e, ← rcs_drop, List.drop_eq_getElem_cons hk, rcs, List.getElem?_append_left (by rw [rcc_lenP]; exact hj)]
theorem rcs_one (l : List Rq14) : ∀ u ∈ rcs l, u.oneCell' = true := by
  induction l with
  | nil => intro u hu; cases hu
  | cons x l ih =>
    intro u hu
    rw [rcs] at hu
    rcases List.mem_append.1 hu with hu | hu
    · unfold rcc at hu
      simp only [List.mem_cons, List.not_mem_nil, or_false] at hu
      rcases hu with rfl | rfl | rfl | rfl | rfl | rfl | rfl | rfl | rfl | rfl <;> rfl
    · exact ih u hu
def OwnRc (w : World) (base : Nat) (v : Value) (l : List Rq14) : Prop := w.ownsRow base 26 10 v l.length (rcs l)
theorem OwnRc.nil (w : World) (base : Nat) : OwnRc w base (.slice none 0 0) [] := World.ownsRow_nil _ _ _ _
theorem OwnRc.empty (w : World) (base : Nat) (hb : base ≤ w.heap.size) : OwnRc (w.alloc (.cells #[] 26)) base (.slice (some ⟨w.heap.size, 0, none⟩) 0 0) [] :=
  World.ownsRow_made w #[] 0 hb (Nat.zero_le _) rfl
theorem OwnRc.on {w w' : World} {base : Nat} {v : Value} {l : List Rq14} (h : OwnRc w base v l) (hb : Below w.heap.size w w') : OwnRc w' base v l := own_keepO (us := [26]) (KeepO.of_below hb) h (by decide)
theorem OwnRc.form {w : World} {base : Nat} {v : Value} {l : List Rq14} (h : OwnRc w base v l) : ∃ a cap, v = .slice a l.length cap ∧ l.length ≤ cap ∧ (a = none ∨ ∃ g, a = some ⟨g, 0, none⟩) ∧
    (0 < l.length → ∃ g, a = some ⟨g, 0, none⟩ ∧ base ≤ g ∧ g < w.heap.size ∧ ∀ k (hk : k < l.length), ∀ j, j < 10 → w.cell? ⟨g, k * 10 + j, none⟩ = (rcc (l[k]).1 (l[k]).2)[j]?) := by
  obtain ⟨h1, h2⟩ := h
  rcases h2 with ⟨rfl, h0⟩ | ⟨g, cap, cur, rfl, hb, hg, hle, hmax, hsz, htk⟩
  · have : l = [] := List.eq_nil_of_length_eq_zero h0
    subst this
    exact ⟨none, 0, rfl, Nat.le_refl _, .inl rfl, fun h => absurd h (Nat.lt_irrefl 0)⟩
  · refine ⟨_, cap, rfl, hle, .inr ⟨g, rfl⟩, fun hp => ⟨g, rfl, hb, (Array.getElem?_eq_some_iff.1 hg).1, fun k hk j hj => ?_⟩⟩
    have hown : w.ownsRow base 26 10 (.slice (some ⟨g, 0, none⟩) l.length cap) l.length (rcs l) := ⟨h1, .inr ⟨g, cap, cur, rfl, hb, hg, hle, hmax, hsz, htk⟩⟩
    rw [World.ownsRow.cellAt hown (k * 10 + j) (by omega), rcs_at l k j hk hj]
theorem OwnRc.at_ {w : World} {base n cap : Nat} {a : Option Addr} {ls : List Rq14} (h : OwnRc w base (.slice a n cap) ls) (k : Nat) (hk : k < ls.length) : ∃ g, a = some ⟨g, 0, none⟩ ∧ base ≤ g ∧ g < w.heap.size ∧ ∀ j, j < 10 → w.cell? ⟨g, k * 10 + j, none⟩ = (rcc (ls[k]).1 (ls[k]).2)[j]? := by
  obtain ⟨a', c', e, _, _, hr⟩ := h.form
  injection e with e1 e2 e3
  obtain ⟨g, e4, h1, h2, h3⟩ := hr (by omega)
  exact ⟨g, e1.trans e4, h1, h2, fun j hj => h3 k hk j hj⟩
theorem KeepT.grownRc {w w' : World} {base : Nat} {v : Value} {l : List Rq14} (ho : OwnRc w base v l) (hg : w.grownBy w' v.ownBlock) : KeepT [26] w w' :=
  ⟨hg.size, fun k o hk hno => by
    refine (hg.block k (Array.getElem?_eq_some_iff.1 hk).1 (fun eb => ?_)).trans hk
    rcases ho.2 with ⟨rfl, _⟩ | ⟨g, cap, cur, rfl, _, hgb, _⟩
    · simp [Value.ownBlock] at eb
    · have hkg : k = g := by simpa [Value.ownBlock] using eb
      subst hkg
      have : o = .cells cur 26 (0, 0) := Option.some.inj (hk.symm.trans hgb)
      exact hno _ _ _ this (by decide)⟩
/-- refs that can be appended -/
structure SrcRc (w : World) (sa : Option Addr) (m c : Nat) (l : List Rq14) : Prop where
  len : l.length = m
  nil : sa = none → m = 0 ∧ c = 0
  cells : ∀ ad, sa = some ad → ∀ j u, (rcs l)[j]? = some u → w.cell? (ad.add j) = some u
def cutRc (a : Option Addr) (cap k : Nat) : Option Addr := if cap = k then a else a.map (·.add (k * 10))
theorem OwnRc.src {w : World} {base : Nat} {a : Option Addr} {n cap : Nat} {ls : List Rq14} (h : OwnRc w base (.slice a n cap) ls) (hn : n = ls.length) (k : Nat) (hk : k ≤ n) :
    SrcRc w a k cap (ls.take k) ∧ SrcRc w (cutRc a cap k) (n - k) (cap - k) (ls.drop k) := by
  subst hn
  rcases h.2 with ⟨h1, h2⟩ | ⟨g, cap', cur, h3, h4, h5, hle, h7⟩
  · injection h1 with e1 e2 e3
    subst e1 e3
    have hk0 : k = 0 := by omega
    subst hk0
    have hl : ls = [] := List.eq_nil_of_length_eq_zero e2
    subst hl
    exact ⟨⟨rfl, fun _ => ⟨rfl, rfl⟩, fun ad e => by cases e⟩, ⟨rfl, fun _ => ⟨rfl, rfl⟩, fun ad e => by cases e⟩⟩
  · injection h3 with e1 e2 e3
    subst e1 e3
    refine ⟨⟨by rw [List.length_take]; omega, (fun e => by cases e), fun ad e j u hu => ?_⟩, ⟨by rw [List.length_drop], fun e => ?_, fun ad e j u hu => ?_⟩⟩
    · obtain rfl := Option.some.inj e
      rw [rcs_take] at hu
      have hj : j < k * 10 := by
        have := (List.getElem?_eq_some_iff.1 hu).1
        rw [List.length_take] at this; omega
      rw [List.getElem?_take_of_lt hj] at hu
      exact World.ownsRow.cells h (g := g) rfl j u hu
    · unfold cutRc at e
      split at e
      · cases e
      · cases e
    · rw [rcs_drop, List.getElem?_drop] at hu
      unfold cutRc at e
      split at e
      · rename_i hc
        have := (List.getElem?_eq_some_iff.1 hu).1
        rw [rcs_length] at this
        omega
      · have e2 := Option.some.inj e
        rw [← e2]
        show w.cell? (((⟨g, 0, none⟩ : Addr).add (k * 10)).add j) = some u
        rw [Addr.add_lit, Addr.add_lit]
        have := World.ownsRow.cells h (g := g) rfl (k * 10 + j) u hu
        rw [Addr.add_lit] at this
        rw [show 0 + k * 10 + j = 0 + (k * 10 + j) by omega]
        exact this
theorem SrcRc.below {w w' : World} {sa : Option Addr} {m c : Nat} {l : List Rq14} (h : SrcRc w sa m c l) (hb : Below w.heap.size w w') : SrcRc w' sa m c l :=
  ⟨h.len, h.nil, fun ad e j u hu => by have := h.cells ad e j u hu; exact (hb.cell (cell_lt this)).trans this⟩
def rcZ : Value := .agg #[.int .u64 0, .int .u64 0, .string { data := #[] }, .int .i64 0, .string { data := #[] }, .string { data := #[] }, .int .u64 0, .int .i64 0, .slice none 0 0, .slice none 0 0]
theorem infoRc : (Try.prog.info? 26).map (fun i => (i.zero, i.size, i.bytes)) = some (some rcZ, 10, 136) := by kernel_rfl
/-- append(l, r) -/
theorem list_appRc {ops : Array Oper} {rest : List Oper} {o : Oper} {a : Act} {Q : Exit → Act → World → Prop} (w : World) (hgd : o.guard = none) (s x : Operand)
    (ho : o.op = .call { callee := .builtin .append, args := #[s, x], argTypes := #[36, 36] }) (base : Nat)
    (v : Value) (l : List Rq14) (hs : a.eval s = v) (hown : OwnRc w base v l) (B : Nat) (g : Rq14) (hx : a.eval x = .slice (some ⟨B, 0, none⟩) 1 1)
    (hb : w.heap[B]? = some (.cells (rcc g.1 g.2).toArray 26 (0, 0))) (hle : (l.length + 1) * 136 ≤ 140737488355328) (hbase : base ≤ w.heap.size)
    (h : ∀ v' w', OwnRc w' base v' (l ++ [g]) → w.grownBy w' v.ownBlock → wpList Try.prog ops Q rest (a.put o.dst v') w') :
    wpList Try.prog ops Q (o :: rest) a w := by
  obtain ⟨i0, hi, hz0, hz1, hz2⟩ := info_parts infoRc
  refine wpList_append_own w hgd s x 36 ho base 26 i0 rcZ 10 136 Try.underlying36 hi hz0 hz1 hz2 rfl (by omega) v l.length (rcs l) hs hown ⟨B, 0, none⟩ 1 1 (rcc g.1 g.2) hx rfl
    (fun j u hu => World.news_of_block hb j u (by simpa using hu)) (fun u hu => rcs_one [g] u (by rw [rcs, rcs, List.append_nil]; exact hu)) (by unfold maxLen; omega) (by omega) hbase ?_
  intro v' w' h1 h2 _
  exact h v' w' (by unfold OwnRc; rw [rcs_append, List.length_append, rcs, rcs, List.append_nil]; exact h1) h2
/-- append(l, news...) -/
theorem step_appRcs {ops : Array Oper} {o : Oper} {a : Act} {K : Act → World → Prop} {Q : Exit → Act → World → Prop} {E : Prop} (w : World) (hgd : o.guard = none) (s x : Operand)
    (ho : o.op = .call { callee := .builtin .append, args := #[s, x], argTypes := #[36, 36] }) (base : Nat)
    (v : Value) (l : List Rq14) (hs : a.eval s = v) (hown : OwnRc w base v l) (sa : Option Addr) (m c : Nat) (news : List Rq14) (hx : a.eval x = .slice sa m c) (hsrc : SrcRc w sa m c news)
    (hbytes : (l.length + m) * 136 ≤ 140737488355328) (hbase : base ≤ w.heap.size) (d : Tmp) (hd : o.dst = some d)
    (h : ∀ v' w', OwnRc w' base v' (l ++ news) → w.grownBy w' v.ownBlock → K (a.put (some d) v') w') :
    if Region.wanted o (yielded ops a.tmps) = true then Oper.wp Try.prog o a w K Q else E := by
  have hw : Region.wanted o (yielded ops a.tmps) = true := by simp [Region.wanted, hgd]
  rw [if_pos hw]
  obtain ⟨i0, hi, hz0, hz1, hz2⟩ := info_parts infoRc
  cases sa with
  | none =>
    obtain ⟨hm, hc⟩ := hsrc.nil rfl
    have hn : news = [] := List.eq_nil_of_length_eq_zero (by rw [hsrc.len, hm])
    subst hn hm hc
    have hrun := run_append_owned_none (P := Try.prog) (w := w) base 36 o.type 26 i0 10 Try.underlying36 hi v l.length (rcs l) hown
    rw [← hd] at h
    unfold Oper.wp
    simp [execOp, ho, resolve, invoke, builtin, hs, hx, hrun, Result.andThen]
    exact h v w (by rw [List.append_nil]; exact hown) (World.grownBy.refl _ _)
  | some ad =>
    refine wp_append_own w s x 36 ho base 26 i0 rcZ 10 136 Try.underlying36 hi hz0 hz1 hz2 rfl (by omega) v l.length (rcs l) hs hown ad m c (rcs news) hx (by rw [rcs_length, hsrc.len]) (hsrc.cells ad rfl) (rcs_one news) (by unfold maxLen; omega) (by omega) hbase ?_
    intro v' w' h1 h2 _
    rw [hd]
    exact h v' w' (by unfold OwnRc; rw [rcs_append, List.length_append, hsrc.len]; exact h1) h2
/-- the two cuts, as the walk mercs them -/
theorem slRh (a : Option Addr) (n cap k : Nat) (hk : k ≤ cap) (ha : a = none ∨ ∃ g, a = some ⟨g, 0, none⟩) (w : World) : (Instr.slice 36 (.slice a n cap) none (some (.int .i64 (k : Int))) none).run Try.prog w = .ok (.slice a k cap) w := by
  have he : Try.prog.elem 36 = 26 := by kernel_rfl
  have hz : (sizeOf 26).run Try.prog w = .ok 10 w := by
    obtain ⟨i0, hi, hz0, hz1, hz2⟩ := info_parts infoRc
    simp [sizeOf, typeInfo, hi, hz1]
  rw [run_slice_h w 36 _ n cap (by rw [he]; exact Try.underlying36) .i64 (k : Int) (by omega) (by omega), he, hz]
  simp only [Result.andThen, sliced, Int.toNat_natCast, Nat.zero_mul, Nat.sub_zero]
  rcases ha with rfl | ⟨g, rfl⟩
  · split <;> rfl
  · split <;> simp [Addr.add_lit]
theorem slRl (a : Option Addr) (n cap k : Nat) (hk : k ≤ n) (w : World) : (Instr.slice 36 (.slice a n cap) (some (.int .i64 (k : Int))) none none).run Try.prog w = .ok (.slice (cutRc a cap k) (n - k) (cap - k)) w := by
  have he : Try.prog.elem 36 = 26 := by kernel_rfl
  have hz : (sizeOf 26).run Try.prog w = .ok 10 w := by
    obtain ⟨i0, hi, hz0, hz1, hz2⟩ := info_parts infoRc
    simp [sizeOf, typeInfo, hi, hz1]
  rw [run_slice_l w 36 _ n cap (by rw [he]; exact Try.underlying36) .i64 (k : Int) (by omega) (by omega), he, hz]
  simp only [Result.andThen, sliced, Int.toNat_natCast, cutRc]
theorem IsRl.src {w : World} {a : Option Addr} {n cap : Nat} {l : List Rq14} (h : IsRl w a n l) (ha : a = none → n = 0 ∧ cap = 0) : SrcRc w a n cap l :=
  ⟨h.len, ha, fun ad e j u hu => by
    have hj := (List.getElem?_eq_some_iff.1 hu).1
    rw [rcs_length] at hj
    have hp : 0 < n := by have := h.len; omega
    obtain ⟨g, off, e2, hc⟩ := h.cells hp
    rw [e] at e2
    obtain rfl := Option.some.inj e2
    have hk : j / 10 < l.length := by omega
    have hjj : j = j / 10 * 10 + j % 10 := by omega
    rw [hjj, rcs_at l (j / 10) (j % 10) hk (Nat.mod_lt _ (by decide))] at hu
    have := hc (j / 10) _ (List.getElem?_eq_getElem hk) (j % 10) u hu
    rw [Addr.add_lit]
    rw [show off + j = off + j / 10 * 10 + j % 10 by omega]
    exact this⟩
theorem Blk.srcRc {w : World} {B : Nat} {x : Rq14} (h : Blk w B 26 (rcc x.1 x.2)) : SrcRc w (some ⟨B, 0, none⟩) 1 1 [x] :=
  ⟨rfl, (fun e => by cases e), fun ad e j u hu => by
    obtain rfl := Option.some.inj e
    rw [rcs, rcs, List.append_nil] at hu
    rw [Addr.add_lit, h.cell, Nat.zero_add]
    exact hu⟩
theorem OwnRc.isRl {w : World} {base : Nat} {a : Option Addr} {n cap : Nat} {l : List Rq14} (h : OwnRc w base (.slice a n cap) l) (hr : ∀ x ∈ l, IsRec w x.1 x.2) : IsRl w a n l := by
  obtain ⟨a', c', e, _, _, hc⟩ := h.form
  injection e with e1 e2 e3
  subst e1 e2 e3
  refine ⟨rfl, fun hp => ?_, hr⟩
  obtain ⟨g, e4, _, _, h3⟩ := hc hp
  refine ⟨g, 0, e4, fun k x hx j v hv => ?_⟩
  have hj : j < 10 := by have := (List.getElem?_eq_some_iff.1 hv).1; rw [rcc_len14] at this; exact this
  obtain ⟨hk, rfl⟩ := List.getElem?_eq_some_iff.1 hx
  rw [Nat.zero_add, h3 k hk j hj]
  exact hv
end Go.Proofs.Ytooffagdbppmaaa
