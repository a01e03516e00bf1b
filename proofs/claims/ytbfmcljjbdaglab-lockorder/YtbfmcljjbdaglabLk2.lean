/- What the program and the document say of a version that is to be deleted, and of a retention that is to be set. -/
import Derived.Test.YtbfmcljjbdaglabLk1
namespace Go.Proofs.Ytbfmcljjbdaglab
open Go.RowKit

def maySetK (m : Int) (u : Nat) (n : Int) (v t : Nat) (b : Bool) : Int := if rightK n v t then (if standsK m u t b && !coversK n v m u then 37 else 0) else 40
def mayDelK (h : Bool) (m : Int) (u t : Nat) (b : Bool) : Int := if h then 38 else if standsK m u t b then 37 else 0
attribute [local go_sem] undef
theorem codStands (m : Int) (u t : Nat) (b : Bool) (w : World) :
    Calls Try.prog 8 #[.agg #[.int .i64 m, .int .u64 (u : Int)], .int .u64 (t : Int), .bool b] w fun e w' => e = .returned (.bool (standsK m u t b)) ∧ Below w.heap.size w w' := by
  have hY : Below w.heap.size w (w.alloc (.cells #[.int .i64 m, .int .u64 (u : Int)] 24)) := (Below.refl _ w).alloc (Nat.le_refl _) _
  have kb := Blk.new w 24 [.int .i64 m, .int .u64 (u : Int)]
  have HA := codActive m u t
  have HY := codYields m b
  unfold standsK
  generalize activeK m u t = A at *
  generalize (b && m != 2) = Y at *
  cases A
  · go_enter Try.func8, Try.ntmps8
    go_wp2_with fail
    refine (HA _).mono ?_
    rintro e y1 ⟨rfl, hb⟩
    go_wp2_with fail
    go_ret
    exact ⟨rfl, hY.trans (hb.mono hY.size)⟩
  · go_enter Try.func8, Try.ntmps8
    go_wp2_with fail
    refine (HA _).mono ?_
    rintro e y1 ⟨rfl, hb⟩
    have c0 := (kb.on hb).cell 0
    have hb1 := hY.trans (hb.mono hY.size)
    clear hb hY kb
    simp only [List.getElem?_cons_zero] at c0
    go_wp2_with fail
    refine (HY _).mono ?_
    rintro e y2 ⟨rfl, rfl⟩
    go_wp2_with fail
    go_ret
    exact ⟨rfl, hb1⟩
def twoW (w : World) (m : Int) (u : Nat) (n : Int) (v : Nat) : World := (w.alloc (.cells #[.int .i64 m, .int .u64 (u : Int)] 24)).alloc (.cells #[.int .i64 n, .int .u64 (v : Int)] 24)
/-- two retentions in a world -/
structure TwoR (w y : World) (m : Int) (u : Nat) (n : Int) (v : Nat) : Prop where
  a : Blk y w.heap.size 24 [.int .i64 m, .int .u64 (u : Int)]
  b : Blk y (w.heap.size + 1) 24 [.int .i64 n, .int .u64 (v : Int)]
  bel : Below w.heap.size w y
theorem TwoR.new (w : World) (m : Int) (u : Nat) (n : Int) (v : Nat) : TwoR w ((w.alloc (.cells #[.int .i64 m, .int .u64 (u : Int)] 24)).alloc (.cells #[.int .i64 n, .int .u64 (v : Int)] 24)) m u n v :=
  ⟨(Blk.new w 24 [.int .i64 m, .int .u64 (u : Int)]).alloc _, Blk.newAt _ _ _ _ [.int .i64 n, .int .u64 (v : Int)] (World.size_alloc _ _) rfl, two_below w _ _⟩
theorem TwoR.on {w y y' : World} {m : Int} {u : Nat} {n : Int} {v : Nat} (h : TwoR w y m u n v) (hb : Below y.heap.size y y') : TwoR w y' m u n v :=
  ⟨h.a.on hb, h.b.on hb, h.bel.trans (hb.mono h.bel.size)⟩
set_option maxHeartbeats 1000000 in
theorem codMaySet (m : Int) (u : Nat) (n : Int) (v t : Nat) (b : Bool) (w : World) :
    Calls Try.prog 6 #[.agg #[.int .i64 m, .int .u64 (u : Int)], .agg #[.int .i64 n, .int .u64 (v : Int)], .int .u64 (t : Int), .bool b] w fun e w' => e = .returned (.int .i64 (maySetK m u n v t b)) ∧ Below w.heap.size w w' := by
  have hT := mkHid (TwoR.new w m u n v)
  have HR := codRight n v t
  have HS := codStands m u t b
  have HC := codCovers n v m u
  unfold maySetK
  generalize rightK n v t = R at *
  generalize standsK m u t b = S at *
  generalize coversK n v m u = C at *
  cases R
  · clear HS HC
    go_enter Try.func6, Try.ntmps6
    go_wp2_with fail
    generalize World.alloc _ _ = y at *
    refine (HR _).mono ?_
    rintro e y1 ⟨rfl, hb⟩
    have h1 := mkHid (hT.out.on hb)
    clear hb
    go_wp2_with fail
    go_ret
    exact ⟨rfl, h1.out.bel⟩
  cases S
  · clear HC
    go_enter Try.func6, Try.ntmps6
    go_wp2_with fail
    generalize World.alloc _ _ = y at *
    refine (HR _).mono ?_
    rintro e y1 ⟨rfl, hb⟩
    have h1 := mkHid (hT.out.on hb)
    have c0 := h1.out.a.cell 0
    have c1 := h1.out.a.cell 1
    clear hb hT HR
    simp only [List.getElem?_cons_zero, List.getElem?_cons_succ] at c0 c1
    go_wp2_with fail
    refine (HS _).mono ?_
    rintro e y2 ⟨rfl, hb⟩
    have h2 := mkHid (h1.out.on hb)
    clear hb h1 c0 c1
    go_wp2_with fail
    go_ret
    exact ⟨rfl, h2.out.bel⟩
  go_enter Try.func6, Try.ntmps6
  go_wp2_with fail
  generalize World.alloc _ _ = y at *
  refine (HR _).mono ?_
  rintro e y1 ⟨rfl, hb⟩
  have h1 := mkHid (hT.out.on hb)
  have c0 := h1.out.a.cell 0
  have c1 := h1.out.a.cell 1
  clear hb hT HR
  simp only [List.getElem?_cons_zero, List.getElem?_cons_succ] at c0 c1
  go_wp2_with fail
  refine (HS _).mono ?_
  rintro e y2 ⟨rfl, hb⟩
  have h2 := mkHid (h1.out.on hb)
  have c0 := h2.out.a.cell 0
  have c1 := h2.out.a.cell 1
  have d0 := h2.out.b.cell 0
  have d1 := h2.out.b.cell 1
  clear hb h1 HS
  simp only [List.getElem?_cons_zero, List.getElem?_cons_succ] at c0 c1 d0 d1
  go_wp2_with fail
  refine (HC _).mono ?_
  rintro e y3 ⟨rfl, hb⟩
  have h3 := mkHid (h2.out.on hb)
  have c0 := h3.out.a.cell 0
  clear hb h2 HC d0 d1 c1
  simp only [List.getElem?_cons_zero] at c0
  cases C
  · go_wp2_with fail
    all_goals go_ret
    all_goals exact ⟨ret_i (by simp_all), h3.out.bel⟩
  · go_wp2_with fail
    go_ret
    exact ⟨rfl, h3.out.bel⟩
end Go.Proofs.Ytbfmcljjbdaglab
