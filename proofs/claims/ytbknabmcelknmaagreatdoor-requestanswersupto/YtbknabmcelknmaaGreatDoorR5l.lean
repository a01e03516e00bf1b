/- request: the doors by which it leaves. -/
import Derived.Test.YtbknabmcelknmaaGreatDoorJ23
import Derived.Test.YtbknabmcelknmaaGreatDoorR5f
namespace Go.Proofs.YtbknabmcelknmaaGreatDoor
open Go.RowKit

theorem results_cells {P : Program} {fn : Func} {p u : Tmp} {ty tu : TypeId} (h : fn.results = #[.cell p ty, .cell u tu]) (tmps : Array Value) (w : World) (g g2 : Nat) (x v : Value)
    (hp : tmps.getD p undef = .pointer (some ⟨g, 0, none⟩)) (hl : (loadVar ty ⟨g, 0, none⟩).run P w = .ok x w)
    (hp2 : tmps.getD u undef = .pointer (some ⟨g2, 0, none⟩)) (hl2 : (loadVar tu ⟨g2, 0, none⟩).run P w = .ok v w) :
    (results fn tmps).run P w = .ok (.tuple #[x, v]) w := by
  have q1 : tmps[p]?.getD undef = .pointer (some ⟨g, 0, none⟩) := by simpa using hp
  have q2 : tmps[u]?.getD undef = .pointer (some ⟨g2, 0, none⟩) := by simpa using hp2
  simp only [results, h]
  simp [Sem.run_bind, Result.andThen, q1, q2, asAddr, hl, hl2]

theorem load_rq (w : World) (g : Nat) (c0 c1 c2 c3 c4 : Value) (h : Blk w g 25 [c0, c1, c2, c3, c4]) : (loadVar 25 ⟨g, 0, none⟩).run Tryz.prog w = .ok (.agg #[c0, c1, c2, c3, c4]) w :=
  run_loadVar_row w g 25 25 #[c0, c1, c2, c3, c4] (0, 0) _ h Tryz.underlying25 rfl (by kernel_rfl)
theorem load_er (w : World) (g : Nat) (v : Value) (h : Blk w g 26 [v]) : (loadVar 26 ⟨g, 0, none⟩).run Tryz.prog w = .ok v w := by
  have hc : w.cell? ⟨g, 0, none⟩ = some v := h.cell 0
  simp [loadVar, go_sem, hc]

theorem doorPanic (tmps : Array Value) (k : Int) (w1 : World) (N B : Nat) (c0 c1 c2 c3 c4 v : Value) (R : Ending → World → Prop)
    (h2 : tmps.getD 2 undef = .pointer (some ⟨N, 0, none⟩)) (h3 : tmps.getD 3 undef = .pointer (some ⟨N + 1, 0, none⟩))
    (KQ : Blk w1 N 25 [c0, c1, c2, c3, c4]) (KE : Blk w1 (N + 1) 26 [v]) (hBN : B ≤ N)
    (hR : ∀ w'', Below B w1 w'' → R (.returned (.tuple #[.agg #[.string ⟨#[]⟩, .string ⟨#[]⟩, .string ⟨#[]⟩, .slice none 0 0, .slice none 0 0], .int .i64 k])) w'') :
    bodyPostD Tryz.prog Tryz.f24 R (.panic [{ v := .iface 26 (.int .i64 k), recovered := false }]) { tmps := tmps, defers := [{ target := .fn (.func 45) #[.pointer (some ⟨N, 0, none⟩), .pointer (some ⟨N + 1, 0, none⟩)], args := #[] }] } w1 := by
  refine leaves_cons (f := 45) (args := #[.pointer (some ⟨N, 0, none⟩), .pointer (some ⟨N + 1, 0, none⟩)]) (by simp) (by simp [go_sem]) ?_
  refine (catchPanic N (N + 1) B k [] w1 c0 c1 c2 c3 c4 v KQ KE (by omega) hBN (by omega)).mono ?_
  rintro e u' w'' ⟨rfl, rfl, hZ, hK, hb⟩
  exact ⟨_, results_cells (P := Tryz.prog) rfl tmps w'' N (N + 1) _ _ h2 (load_rq w'' N _ _ _ _ _ hZ) h3 (load_er w'' (N + 1) _ hK), hR w'' hb⟩

theorem doorRet (tmps : Array Value) (k : Value) (w1 : World) (N : Nat) (c0 c1 c2 c3 c4 : Value) (R : Ending → World → Prop)
    (h2 : tmps.getD 2 undef = .pointer (some ⟨N, 0, none⟩)) (h3 : tmps.getD 3 undef = .pointer (some ⟨N + 1, 0, none⟩))
    (KQ : Blk w1 N 25 [c0, c1, c2, c3, c4]) (KE : Blk w1 (N + 1) 26 [k])
    (hR : R (.returned (.tuple #[.agg #[c0, c1, c2, c3, c4], k])) w1) :
    bodyPostD Tryz.prog Tryz.f24 R .ret { tmps := tmps, defers := [{ target := .fn (.func 45) #[.pointer (some ⟨N, 0, none⟩), .pointer (some ⟨N + 1, 0, none⟩)], args := #[] }] } w1 := by
  refine leaves_cons (f := 45) (args := #[.pointer (some ⟨N, 0, none⟩), .pointer (some ⟨N + 1, 0, none⟩)]) (by simp) (by simp [go_sem]) ?_
  refine (catchIdle N (N + 1) w1).mono ?_
  rintro e u' w'' ⟨rfl, rfl, rfl⟩
  exact ⟨_, results_cells (P := Tryz.prog) rfl tmps w'' N (N + 1) _ _ h2 (load_rq w'' N _ _ _ _ _ KQ) h3 (load_er w'' (N + 1) _ KE), hR⟩

theorem gTab : Tryz.prog.globalNamed "internal/strconv.uint64pow10" = some 2 := by kernel_rfl
theorem Env.moved {B : Nat} {w w' : World} (h : Env w) (hb : Moved B w w') (hB : 9 ≤ B) : Env w' := by
  obtain ⟨h1, ⟨a, b, h2⟩, ⟨c, d, h3⟩, h4⟩ := h
  refine ⟨h1.moved hb (by omega), ⟨a, b, (hb.cell ⟨0, 0, none⟩ (cell_lt h2) (by show 0 ≠ B; omega)).trans h2⟩, ⟨c, d, (hb.cell ⟨1, 0, none⟩ (cell_lt h3) (by show 1 ≠ B; omega)).trans h3⟩, ?_⟩
  have hc := h4.cell gTab 0 (by decide)
  have hz : 2 < w.heap.size := cell_lt hc
  have hbl : w'.heap[2]? = w.heap[2]? := hb.block 2 hz (by omega)
  unfold Lib.TabIs World.var? at *
  rw [gTab] at h4 ⊢
  simpa [hbl] using h4
/-- what request hands out -/
def RqOut (o : Int × Rq) (N : Nat) (x : Ending) (w' : World) : Prop := ∃ v bv, x = .returned (.tuple #[.agg #[.string (str o.2.m), .string (str o.2.p), .string (str o.2.q), v, bv], .int .i64 o.1]) ∧ OwnP 73 w' N v o.2.hs ∧ IsV w' bv o.2.b ∧ ∀ b off n cap, bv = .slice (some ⟨b, off, none⟩) n cap → N ≤ b
theorem rqOut_no {o : Int × Rq} {k : Int} (h : o = (k, Rq.none)) (N : Nat) (w' : World) : RqOut o N (.returned (.tuple #[.agg #[.string ⟨#[]⟩, .string ⟨#[]⟩, .string ⟨#[]⟩, .slice none 0 0, .slice none 0 0], .int .i64 k])) w' := by
  rw [h]; exact ⟨.slice none 0 0, .slice none 0 0, rfl, OwnP.nil _ _ _, IsV.nil _, fun b off n cap e => by cases e⟩
theorem read_no1 {l : List UInt8} (h : lineL l = none) : readC l = (10, Rq.none) := by unfold readC; rw [h]
theorem read_no2 {l f s : List UInt8} (h : lineL l = some (f, s)) (h1 : firstC f = false) : readC l = (10, Rq.none) := by unfold readC; rw [h]; simp only [h1, if_true]
theorem read_no3 {l f s : List UInt8} (h : lineL l = some (f, s)) (h1 : firstC f = true) (h2 : hdsL [] s = none) : readC l = (11, Rq.none) := by unfold readC; rw [h]; simp only [h1, h2, Bool.true_eq_false, if_false]
theorem read_no4 {l f s b : List UInt8} {hs : List Pr} (h : lineL l = some (f, s)) (h1 : firstC f = true) (h2 : hdsL [] s = some (hs, b)) (h3 : partC (tgtC f) = false) : readC l = (13, Rq.none) := by unfold readC; rw [h]; simp only [h1, h2, h3, Bool.true_eq_false, if_false, if_true]
theorem read_no5 {l f s b : List UInt8} {hs : List Pr} (h : lineL l = some (f, s)) (h1 : firstC f = true) (h2 : hdsL [] s = some (hs, b)) (h3 : partC (tgtC f) = true) (h4 : lenC hs b = false) : readC l = (12, Rq.none) := by unfold readC; rw [h]; simp only [h1, h2, h3, h4, Bool.true_eq_false, if_false, if_true]
theorem read_yes {l f s b : List UInt8} {hs : List Pr} (h : lineL l = some (f, s)) (h1 : firstC f = true) (h2 : hdsL [] s = some (hs, b)) (h3 : partC (tgtC f) = true) (h4 : lenC hs b = true) : readC l = (0, ⟨headL 32 f, headL 63 (tgtC f), tailL 63 (tgtC f), hs, b⟩) := by unfold readC; rw [h]; simp only [h1, h2, h3, h4, Bool.true_eq_false, if_false]
end Go.Proofs.YtbknabmcelknmaaGreatDoor
