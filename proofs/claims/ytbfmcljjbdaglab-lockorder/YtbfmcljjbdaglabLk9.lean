/- The walk of LockOrder. -/
import Derived.Test.YtbfmcljjbdaglabLk5
import Derived.Deep.Cut
namespace Go.Proofs.Ytbfmcljjbdaglab
open Go.RowKit

structure ThA (w y : World) (m : Int) (u : Nat) (n : Int) (v : Nat) (o : Int) (p : Nat) : Prop where
  a : Blk y w.heap.size 24 [.int .i64 m, .int .u64 (u : Int)]
  b : Blk y (w.heap.size + 1) 24 [.int .i64 n, .int .u64 (v : Int)]
  c : Blk y (w.heap.size + 1 + 1) 24 [.int .i64 o, .int .u64 (p : Int)]
  bel : Below w.heap.size w y
theorem ThA.on {w y y' : World} {m : Int} {u : Nat} {n : Int} {v : Nat} {o : Int} {p : Nat} (h : ThA w y m u n v o p) (hb : Below y.heap.size y y') : ThA w y' m u n v o p := ⟨h.a.on hb, h.b.on hb, h.c.on hb, h.bel.trans (hb.mono h.bel.size)⟩
theorem ThA.cells {w y : World} {m : Int} {u : Nat} {n : Int} {v : Nat} {o : Int} {p : Nat} (h : ThA w y m u n v o p) :
    y.cell? ⟨w.heap.size, 0, none⟩ = some (.int .i64 m) ∧ y.cell? ⟨w.heap.size, 1, none⟩ = some (.int .u64 (u : Int)) ∧ y.cell? ⟨w.heap.size + 1, 0, none⟩ = some (.int .i64 n) ∧ y.cell? ⟨w.heap.size + 1, 1, none⟩ = some (.int .u64 (v : Int)) ∧ y.cell? ⟨w.heap.size + 1 + 1, 0, none⟩ = some (.int .i64 o) ∧ y.cell? ⟨w.heap.size + 1 + 1, 1, none⟩ = some (.int .u64 (p : Int)) :=
  ⟨h.a.cell 0, h.a.cell 1, h.b.cell 0, h.b.cell 1, h.c.cell 0, h.c.cell 1⟩
theorem cov_self (m : Int) (u : Nat) : coversK m u m u = true := by unfold coversK; simp
theorem cov_trans {m : Int} {u : Nat} {n : Int} {v : Nat} {o : Int} {p : Nat} (h1 : coversK m u n v = true) (h2 : coversK n v o p = true) (h3 : n ≠ 0) : coversK m u o p = true := by
  unfold coversK at *; simp at *; omega
theorem cov_both {m : Int} {u : Nat} {n : Int} {v : Nat} (hm : 0 ≤ m) (hn : 0 ≤ n) (h1 : coversK m u n v = true) (h2 : coversK n v m u = true) : (m = n ∧ u = v) ∨ (m = 0 ∧ n = 0) := by
  unfold coversK at *; simp at *; omega
attribute [local go_sem] undef
set_option maxRecDepth 20000 in
set_option maxHeartbeats 4000000 in
theorem order15 (m : Int) (u : Nat) (n : Int) (v : Nat) (o : Int) (p : Nat) (w : World) :
    Calls Try.prog 3 #[.agg #[.int .i64 m, .int .u64 (u : Int)], .agg #[.int .i64 n, .int .u64 (v : Int)], .agg #[.int .i64 o, .int .u64 (p : Int)]] w fun e w' => e = .returned (.bool true) ∧ Below w.heap.size w w' := by
  have hT : Hid (ThA w (((w.alloc (.cells #[.int .i64 m, .int .u64 (u : Int)] 24)).alloc (.cells #[.int .i64 n, .int .u64 (v : Int)] 24)).alloc (.cells #[.int .i64 o, .int .u64 (p : Int)] 24)) m u n v o p) :=
    ⟨((Blk.new w 24 [.int .i64 m, .int .u64 (u : Int)]).alloc _).alloc _, (Blk.newAt _ _ _ _ [.int .i64 n, .int .u64 (v : Int)] (World.size_alloc _ _) rfl).alloc _, Blk.newAt _ _ _ _ [.int .i64 o, .int .u64 (p : Int)] (by rw [World.size_alloc, World.size_alloc]) rfl, (two_below w _ _).alloc (two_below w _ _).size _⟩
  have CAA := codCovers m u m u
  have CAB := codCovers m u n v
  have CBC := codCovers n v o p
  have CAC := codCovers m u o p
  have CBA := codCovers n v m u
  rw [cov_self] at CAA
  have FT := mkHid (@cov_trans m u n v o p)
  have FB := mkHid (@cov_both m u n v)
  generalize coversK m u n v = AB at *
  generalize coversK n v o p = BC at *
  generalize coversK m u o p = AC at *
  generalize coversK n v m u = BA at *
  by_cases hm : m < 0
  · clear FT FB CAA CAB CBC CAC CBA
    go_enter Try.func3, Try.ntmps3
    go_upto_region 1 with fail
    generalize World.alloc _ _ = y at *
    obtain ⟨a0, a1, b0, b1, c0, c1⟩ := hT.out.cells
    go_wp2_with fail
    refine (lawAlive15 _).mono ?_
    rintro e y1 ⟨rfl, hb⟩
    have h1 := mkHid (hT.out.on hb)
    clear hb a0 a1 b0 b1 c0 c1 hT
    go_wp2_with fail
    go_ret
    exact ⟨rfl, h1.out.bel⟩
  by_cases hn : n < 0
  · clear FT FB CAA CAB CBC CAC CBA
    go_enter Try.func3, Try.ntmps3
    go_upto_region 1 with fail
    generalize World.alloc _ _ = y at *
    obtain ⟨a0, a1, b0, b1, c0, c1⟩ := hT.out.cells
    go_wp2_with fail
    refine (lawAlive15 _).mono ?_
    rintro e y1 ⟨rfl, hb⟩
    have h1 := mkHid (hT.out.on hb)
    clear hb a0 a1 b0 b1 c0 c1 hT
    go_wp2_with fail
    go_ret
    exact ⟨rfl, h1.out.bel⟩
  by_cases ho : o < 0
  · clear FT FB CAA CAB CBC CAC CBA
    go_enter Try.func3, Try.ntmps3
    go_upto_region 1 with fail
    generalize World.alloc _ _ = y at *
    obtain ⟨a0, a1, b0, b1, c0, c1⟩ := hT.out.cells
    go_wp2_with fail
    refine (lawAlive15 _).mono ?_
    rintro e y1 ⟨rfl, hb⟩
    have h1 := mkHid (hT.out.on hb)
    clear hb a0 a1 b0 b1 c0 c1 hT
    go_wp2_with fail
    go_ret
    exact ⟨rfl, h1.out.bel⟩
  have FB2 := mkHid (FB.out (by omega) (by omega))
  clear FB
  have wm : decide (m < 0) = false := decide_eq_false hm
  have wn : decide (n < 0) = false := decide_eq_false hn
  have wo : decide (o < 0) = false := decide_eq_false ho
  cases AB
  · clear FT FB2 CBC CAC CBA
    go_enter Try.func3, Try.ntmps3
    go_upto_region 1 with fail
    generalize World.alloc _ _ = y at *
    obtain ⟨a0, a1, b0, b1, c0, c1⟩ := hT.out.cells
    go_wp2_with fail
    refine (CAA _).mono ?_
    rintro e y1 ⟨rfl, hb⟩
    have h1 := mkHid (hT.out.on hb)
    clear hb a0 a1 b0 b1 c0 c1 hT
    obtain ⟨a0, a1, b0, b1, c0, c1⟩ := h1.out.cells
    go_wp2_with fail
    refine (CAB _).mono ?_
    rintro e y2 ⟨rfl, hb⟩
    have h2 := mkHid (h1.out.on hb)
    clear hb a0 a1 b0 b1 c0 c1 h1
    obtain ⟨a0, a1, b0, b1, c0, c1⟩ := h2.out.cells
    go_wp2_with fail
    refine (CAB _).mono ?_
    rintro e y3 ⟨rfl, hb⟩
    have h3 := mkHid (h2.out.on hb)
    clear hb a0 a1 b0 b1 c0 c1 h2
    obtain ⟨a0, a1, b0, b1, c0, c1⟩ := h3.out.cells
    go_wp2_with fail
    refine (lawAlive15 _).mono ?_
    rintro e y4 ⟨rfl, hb⟩
    have h4 := mkHid (h3.out.on hb)
    clear hb a0 a1 b0 b1 c0 c1 h3
    go_wp2_with fail
    go_ret
    exact ⟨rfl, h4.out.bel⟩
  cases BC
  · clear FT CAC
    cases BA
    · clear FB2
      go_enter Try.func3, Try.ntmps3
      go_upto_region 1 with fail
      generalize World.alloc _ _ = y at *
      obtain ⟨a0, a1, b0, b1, c0, c1⟩ := hT.out.cells
      go_wp2_with fail
      refine (CAA _).mono ?_
      rintro e y1 ⟨rfl, hb⟩
      have h1 := mkHid (hT.out.on hb)
      clear hb a0 a1 b0 b1 c0 c1 hT
      obtain ⟨a0, a1, b0, b1, c0, c1⟩ := h1.out.cells
      go_wp2_with fail
      refine (CAB _).mono ?_
      rintro e y2 ⟨rfl, hb⟩
      have h2 := mkHid (h1.out.on hb)
      clear hb a0 a1 b0 b1 c0 c1 h1
      obtain ⟨a0, a1, b0, b1, c0, c1⟩ := h2.out.cells
      go_wp2_with fail
      refine (CBC _).mono ?_
      rintro e y3 ⟨rfl, hb⟩
      have h3 := mkHid (h2.out.on hb)
      clear hb a0 a1 b0 b1 c0 c1 h2
      obtain ⟨a0, a1, b0, b1, c0, c1⟩ := h3.out.cells
      go_wp2_with fail
      refine (CAB _).mono ?_
      rintro e y4 ⟨rfl, hb⟩
      have h4 := mkHid (h3.out.on hb)
      clear hb a0 a1 b0 b1 c0 c1 h3
      obtain ⟨a0, a1, b0, b1, c0, c1⟩ := h4.out.cells
      go_wp2_with fail
      refine (CBA _).mono ?_
      rintro e y5 ⟨rfl, hb⟩
      have h5 := mkHid (h4.out.on hb)
      clear hb a0 a1 b0 b1 c0 c1 h4
      obtain ⟨a0, a1, b0, b1, c0, c1⟩ := h5.out.cells
      go_wp2_with fail
      refine (lawAlive15 _).mono ?_
      rintro e y6 ⟨rfl, hb⟩
      have h6 := mkHid (h5.out.on hb)
      clear hb a0 a1 b0 b1 c0 c1 h5
      go_wp2_with fail
      go_ret
      exact ⟨rfl, h6.out.bel⟩
    rcases FB2.out rfl rfl with ⟨rfl, rfl⟩ | ⟨e1, e2⟩
    · clear FB2
      go_enter Try.func3, Try.ntmps3
      go_upto_region 1 with fail
      generalize World.alloc _ _ = y at *
      obtain ⟨a0, a1, b0, b1, c0, c1⟩ := hT.out.cells
      go_wp2_with fail
      refine (CAA _).mono ?_
      rintro e y1 ⟨rfl, hb⟩
      have h1 := mkHid (hT.out.on hb)
      clear hb a0 a1 b0 b1 c0 c1 hT
      obtain ⟨a0, a1, b0, b1, c0, c1⟩ := h1.out.cells
      go_wp2_with fail
      refine (CAB _).mono ?_
      rintro e y2 ⟨rfl, hb⟩
      have h2 := mkHid (h1.out.on hb)
      clear hb a0 a1 b0 b1 c0 c1 h1
      obtain ⟨a0, a1, b0, b1, c0, c1⟩ := h2.out.cells
      go_wp2_with fail
      refine (CBC _).mono ?_
      rintro e y3 ⟨rfl, hb⟩
      have h3 := mkHid (h2.out.on hb)
      clear hb a0 a1 b0 b1 c0 c1 h2
      obtain ⟨a0, a1, b0, b1, c0, c1⟩ := h3.out.cells
      go_wp2_with fail
      refine (CAB _).mono ?_
      rintro e y4 ⟨rfl, hb⟩
      have h4 := mkHid (h3.out.on hb)
      clear hb a0 a1 b0 b1 c0 c1 h3
      obtain ⟨a0, a1, b0, b1, c0, c1⟩ := h4.out.cells
      go_wp2_with fail
      refine (CBA _).mono ?_
      rintro e y5 ⟨rfl, hb⟩
      have h5 := mkHid (h4.out.on hb)
      clear hb a0 a1 b0 b1 c0 c1 h4
      obtain ⟨a0, a1, b0, b1, c0, c1⟩ := h5.out.cells
      go_wp2_with fail
      refine (lawAlive15 _).mono ?_
      rintro e y6 ⟨rfl, hb⟩
      have h6 := mkHid (h5.out.on hb)
      clear hb a0 a1 b0 b1 c0 c1 h5
      go_wp2_with fail
      go_ret
      exact ⟨rfl, h6.out.bel⟩
    · clear FB2
      subst e1
      try subst e2
      try clear e2
      go_enter Try.func3, Try.ntmps3
      go_upto_region 1 with fail
      generalize World.alloc _ _ = y at *
      obtain ⟨a0, a1, b0, b1, c0, c1⟩ := hT.out.cells
      go_wp2_with fail
      refine (CAA _).mono ?_
      rintro e y1 ⟨rfl, hb⟩
      have h1 := mkHid (hT.out.on hb)
      clear hb a0 a1 b0 b1 c0 c1 hT
      obtain ⟨a0, a1, b0, b1, c0, c1⟩ := h1.out.cells
      go_wp2_with fail
      refine (CAB _).mono ?_
      rintro e y2 ⟨rfl, hb⟩
      have h2 := mkHid (h1.out.on hb)
      clear hb a0 a1 b0 b1 c0 c1 h1
      obtain ⟨a0, a1, b0, b1, c0, c1⟩ := h2.out.cells
      go_wp2_with fail
      refine (CBC _).mono ?_
      rintro e y3 ⟨rfl, hb⟩
      have h3 := mkHid (h2.out.on hb)
      clear hb a0 a1 b0 b1 c0 c1 h2
      obtain ⟨a0, a1, b0, b1, c0, c1⟩ := h3.out.cells
      go_wp2_with fail
      refine (CAB _).mono ?_
      rintro e y4 ⟨rfl, hb⟩
      have h4 := mkHid (h3.out.on hb)
      clear hb a0 a1 b0 b1 c0 c1 h3
      obtain ⟨a0, a1, b0, b1, c0, c1⟩ := h4.out.cells
      go_wp2_with fail
      refine (CBA _).mono ?_
      rintro e y5 ⟨rfl, hb⟩
      have h5 := mkHid (h4.out.on hb)
      clear hb a0 a1 b0 b1 c0 c1 h4
      obtain ⟨a0, a1, b0, b1, c0, c1⟩ := h5.out.cells
      by_cases huv : u = v
      · subst huv
        go_wp2_with fail
        refine (lawAlive15 _).mono ?_
        rintro e y6 ⟨rfl, hb⟩
        have h6 := mkHid (h5.out.on hb)
        clear hb a0 a1 b0 b1 c0 c1 h5
        go_wp2_with fail
        go_ret
        exact ⟨rfl, h6.out.bel⟩
      · have huv' : ¬ (u : Int) = (v : Int) := by omega
        go_wp2_with fail
        refine (lawAlive15 _).mono ?_
        rintro e y6 ⟨rfl, hb⟩
        have h6 := mkHid (h5.out.on hb)
        clear hb a0 a1 b0 b1 c0 c1 h5
        go_wp2_with fail
        go_ret
        exact ⟨rfl, h6.out.bel⟩
  by_cases hn0 : n = 0
  · subst hn0
    clear FT CAC
    cases BA
    · clear FB2
      go_enter Try.func3, Try.ntmps3
      go_upto_region 1 with fail
      generalize World.alloc _ _ = y at *
      obtain ⟨a0, a1, b0, b1, c0, c1⟩ := hT.out.cells
      go_wp2_with fail
      refine (CAA _).mono ?_
      rintro e y1 ⟨rfl, hb⟩
      have h1 := mkHid (hT.out.on hb)
      clear hb a0 a1 b0 b1 c0 c1 hT
      obtain ⟨a0, a1, b0, b1, c0, c1⟩ := h1.out.cells
      go_wp2_with fail
      refine (CAB _).mono ?_
      rintro e y2 ⟨rfl, hb⟩
      have h2 := mkHid (h1.out.on hb)
      clear hb a0 a1 b0 b1 c0 c1 h1
      obtain ⟨a0, a1, b0, b1, c0, c1⟩ := h2.out.cells
      go_wp2_with fail
      refine (CBC _).mono ?_
      rintro e y3 ⟨rfl, hb⟩
      have h3 := mkHid (h2.out.on hb)
      clear hb a0 a1 b0 b1 c0 c1 h2
      obtain ⟨a0, a1, b0, b1, c0, c1⟩ := h3.out.cells
      go_wp2_with fail
      refine (CAB _).mono ?_
      rintro e y4 ⟨rfl, hb⟩
      have h4 := mkHid (h3.out.on hb)
      clear hb a0 a1 b0 b1 c0 c1 h3
      obtain ⟨a0, a1, b0, b1, c0, c1⟩ := h4.out.cells
      go_wp2_with fail
      refine (CBA _).mono ?_
      rintro e y5 ⟨rfl, hb⟩
      have h5 := mkHid (h4.out.on hb)
      clear hb a0 a1 b0 b1 c0 c1 h4
      obtain ⟨a0, a1, b0, b1, c0, c1⟩ := h5.out.cells
      go_wp2_with fail
      refine (lawAlive15 _).mono ?_
      rintro e y6 ⟨rfl, hb⟩
      have h6 := mkHid (h5.out.on hb)
      clear hb a0 a1 b0 b1 c0 c1 h5
      go_wp2_with fail
      go_ret
      exact ⟨rfl, h6.out.bel⟩
    rcases FB2.out rfl rfl with ⟨rfl, rfl⟩ | ⟨e1, e2⟩
    · clear FB2
      go_enter Try.func3, Try.ntmps3
      go_upto_region 1 with fail
      generalize World.alloc _ _ = y at *
      obtain ⟨a0, a1, b0, b1, c0, c1⟩ := hT.out.cells
      go_wp2_with fail
      refine (CAA _).mono ?_
      rintro e y1 ⟨rfl, hb⟩
      have h1 := mkHid (hT.out.on hb)
      clear hb a0 a1 b0 b1 c0 c1 hT
      obtain ⟨a0, a1, b0, b1, c0, c1⟩ := h1.out.cells
      go_wp2_with fail
      refine (CAB _).mono ?_
      rintro e y2 ⟨rfl, hb⟩
      have h2 := mkHid (h1.out.on hb)
      clear hb a0 a1 b0 b1 c0 c1 h1
      obtain ⟨a0, a1, b0, b1, c0, c1⟩ := h2.out.cells
      go_wp2_with fail
      refine (CBC _).mono ?_
      rintro e y3 ⟨rfl, hb⟩
      have h3 := mkHid (h2.out.on hb)
      clear hb a0 a1 b0 b1 c0 c1 h2
      obtain ⟨a0, a1, b0, b1, c0, c1⟩ := h3.out.cells
      go_wp2_with fail
      refine (CAB _).mono ?_
      rintro e y4 ⟨rfl, hb⟩
      have h4 := mkHid (h3.out.on hb)
      clear hb a0 a1 b0 b1 c0 c1 h3
      obtain ⟨a0, a1, b0, b1, c0, c1⟩ := h4.out.cells
      go_wp2_with fail
      refine (CBA _).mono ?_
      rintro e y5 ⟨rfl, hb⟩
      have h5 := mkHid (h4.out.on hb)
      clear hb a0 a1 b0 b1 c0 c1 h4
      obtain ⟨a0, a1, b0, b1, c0, c1⟩ := h5.out.cells
      go_wp2_with fail
      refine (lawAlive15 _).mono ?_
      rintro e y6 ⟨rfl, hb⟩
      have h6 := mkHid (h5.out.on hb)
      clear hb a0 a1 b0 b1 c0 c1 h5
      go_wp2_with fail
      go_ret
      exact ⟨rfl, h6.out.bel⟩
    · clear FB2
      subst e1
      try subst e2
      try clear e2
      go_enter Try.func3, Try.ntmps3
      go_upto_region 1 with fail
      generalize World.alloc _ _ = y at *
      obtain ⟨a0, a1, b0, b1, c0, c1⟩ := hT.out.cells
      go_wp2_with fail
      refine (CAA _).mono ?_
      rintro e y1 ⟨rfl, hb⟩
      have h1 := mkHid (hT.out.on hb)
      clear hb a0 a1 b0 b1 c0 c1 hT
      obtain ⟨a0, a1, b0, b1, c0, c1⟩ := h1.out.cells
      go_wp2_with fail
      refine (CAB _).mono ?_
      rintro e y2 ⟨rfl, hb⟩
      have h2 := mkHid (h1.out.on hb)
      clear hb a0 a1 b0 b1 c0 c1 h1
      obtain ⟨a0, a1, b0, b1, c0, c1⟩ := h2.out.cells
      go_wp2_with fail
      refine (CBC _).mono ?_
      rintro e y3 ⟨rfl, hb⟩
      have h3 := mkHid (h2.out.on hb)
      clear hb a0 a1 b0 b1 c0 c1 h2
      obtain ⟨a0, a1, b0, b1, c0, c1⟩ := h3.out.cells
      go_wp2_with fail
      refine (CAB _).mono ?_
      rintro e y4 ⟨rfl, hb⟩
      have h4 := mkHid (h3.out.on hb)
      clear hb a0 a1 b0 b1 c0 c1 h3
      obtain ⟨a0, a1, b0, b1, c0, c1⟩ := h4.out.cells
      go_wp2_with fail
      refine (CBA _).mono ?_
      rintro e y5 ⟨rfl, hb⟩
      have h5 := mkHid (h4.out.on hb)
      clear hb a0 a1 b0 b1 c0 c1 h4
      obtain ⟨a0, a1, b0, b1, c0, c1⟩ := h5.out.cells
      by_cases huv : u = v
      · subst huv
        go_wp2_with fail
        refine (lawAlive15 _).mono ?_
        rintro e y6 ⟨rfl, hb⟩
        have h6 := mkHid (h5.out.on hb)
        clear hb a0 a1 b0 b1 c0 c1 h5
        go_wp2_with fail
        go_ret
        exact ⟨rfl, h6.out.bel⟩
      · have huv' : ¬ (u : Int) = (v : Int) := by omega
        go_wp2_with fail
        refine (lawAlive15 _).mono ?_
        rintro e y6 ⟨rfl, hb⟩
        have h6 := mkHid (h5.out.on hb)
        clear hb a0 a1 b0 b1 c0 c1 h5
        go_wp2_with fail
        go_ret
        exact ⟨rfl, h6.out.bel⟩
  have hAC := FT.out rfl rfl hn0
  subst hAC
  clear FT
  cases BA
  · clear FB2
    go_enter Try.func3, Try.ntmps3
    go_upto_region 1 with fail
    generalize World.alloc _ _ = y at *
    obtain ⟨a0, a1, b0, b1, c0, c1⟩ := hT.out.cells
    go_wp2_with fail
    refine (CAA _).mono ?_
    rintro e y1 ⟨rfl, hb⟩
    have h1 := mkHid (hT.out.on hb)
    clear hb a0 a1 b0 b1 c0 c1 hT
    obtain ⟨a0, a1, b0, b1, c0, c1⟩ := h1.out.cells
    go_wp2_with fail
    refine (CAB _).mono ?_
    rintro e y2 ⟨rfl, hb⟩
    have h2 := mkHid (h1.out.on hb)
    clear hb a0 a1 b0 b1 c0 c1 h1
    obtain ⟨a0, a1, b0, b1, c0, c1⟩ := h2.out.cells
    go_wp2_with fail
    refine (CBC _).mono ?_
    rintro e y3 ⟨rfl, hb⟩
    have h3 := mkHid (h2.out.on hb)
    clear hb a0 a1 b0 b1 c0 c1 h2
    obtain ⟨a0, a1, b0, b1, c0, c1⟩ := h3.out.cells
    go_wp2_with fail
    refine (CAC _).mono ?_
    rintro e y4 ⟨rfl, hb⟩
    have h4 := mkHid (h3.out.on hb)
    clear hb a0 a1 b0 b1 c0 c1 h3
    obtain ⟨a0, a1, b0, b1, c0, c1⟩ := h4.out.cells
    go_wp2_with fail
    refine (CAB _).mono ?_
    rintro e y5 ⟨rfl, hb⟩
    have h5 := mkHid (h4.out.on hb)
    clear hb a0 a1 b0 b1 c0 c1 h4
    obtain ⟨a0, a1, b0, b1, c0, c1⟩ := h5.out.cells
    go_wp2_with fail
    refine (CBA _).mono ?_
    rintro e y6 ⟨rfl, hb⟩
    have h6 := mkHid (h5.out.on hb)
    clear hb a0 a1 b0 b1 c0 c1 h5
    obtain ⟨a0, a1, b0, b1, c0, c1⟩ := h6.out.cells
    go_wp2_with fail
    refine (lawAlive15 _).mono ?_
    rintro e y7 ⟨rfl, hb⟩
    have h7 := mkHid (h6.out.on hb)
    clear hb a0 a1 b0 b1 c0 c1 h6
    go_wp2_with fail
    go_ret
    exact ⟨rfl, h7.out.bel⟩
  rcases FB2.out rfl rfl with ⟨rfl, rfl⟩ | ⟨e1, e2⟩
  · clear FB2
    go_enter Try.func3, Try.ntmps3
    go_upto_region 1 with fail
    generalize World.alloc _ _ = y at *
    obtain ⟨a0, a1, b0, b1, c0, c1⟩ := hT.out.cells
    go_wp2_with fail
    refine (CAA _).mono ?_
    rintro e y1 ⟨rfl, hb⟩
    have h1 := mkHid (hT.out.on hb)
    clear hb a0 a1 b0 b1 c0 c1 hT
    obtain ⟨a0, a1, b0, b1, c0, c1⟩ := h1.out.cells
    go_wp2_with fail
    refine (CAB _).mono ?_
    rintro e y2 ⟨rfl, hb⟩
    have h2 := mkHid (h1.out.on hb)
    clear hb a0 a1 b0 b1 c0 c1 h1
    obtain ⟨a0, a1, b0, b1, c0, c1⟩ := h2.out.cells
    go_wp2_with fail
    refine (CBC _).mono ?_
    rintro e y3 ⟨rfl, hb⟩
    have h3 := mkHid (h2.out.on hb)
    clear hb a0 a1 b0 b1 c0 c1 h2
    obtain ⟨a0, a1, b0, b1, c0, c1⟩ := h3.out.cells
    go_wp2_with fail
    refine (CAC _).mono ?_
    rintro e y4 ⟨rfl, hb⟩
    have h4 := mkHid (h3.out.on hb)
    clear hb a0 a1 b0 b1 c0 c1 h3
    obtain ⟨a0, a1, b0, b1, c0, c1⟩ := h4.out.cells
    go_wp2_with fail
    refine (CAB _).mono ?_
    rintro e y5 ⟨rfl, hb⟩
    have h5 := mkHid (h4.out.on hb)
    clear hb a0 a1 b0 b1 c0 c1 h4
    obtain ⟨a0, a1, b0, b1, c0, c1⟩ := h5.out.cells
    go_wp2_with fail
    refine (CBA _).mono ?_
    rintro e y6 ⟨rfl, hb⟩
    have h6 := mkHid (h5.out.on hb)
    clear hb a0 a1 b0 b1 c0 c1 h5
    obtain ⟨a0, a1, b0, b1, c0, c1⟩ := h6.out.cells
    go_wp2_with fail
    refine (lawAlive15 _).mono ?_
    rintro e y7 ⟨rfl, hb⟩
    have h7 := mkHid (h6.out.on hb)
    clear hb a0 a1 b0 b1 c0 c1 h6
    go_wp2_with fail
    go_ret
    exact ⟨rfl, h7.out.bel⟩
  · exact absurd e2 hn0
end Go.Proofs.Ytbfmcljjbdaglab
