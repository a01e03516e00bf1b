/- request: lengths that are told. request: what is recovered. -/
import Derived.Test.YtbknabmcelknmaaGreatDoorR5i
import Derived.Defers
import Derived.Recover
import Derived.Laws.Pointers
namespace Go.Proofs.YtbknabmcelknmaaGreatDoor
open Go.RowKit Go.Shelf Go.Lib

theorem len_none {hs : List Pr} {b : List UInt8} (h : findL hs ctl = none) : lenC hs b = decide (b = []) := by unfold lenC; rw [h]
theorem len_some {hs : List Pr} {b c : List UInt8} (h : findL hs ctl = some c) : lenC hs b = decide (numC c 4096 = some b.length) := by unfold lenC; rw [h]
theorem IsP.small {w : World} {a : Option Addr} {n cap : Nat} {l : List Pr} (h : IsP w a n cap l) (o : Obj) : IsP (w.alloc o) a n cap l := h.below ((Below.refl _ w).alloc (Nat.le_refl _) _) rfl

set_option maxRecDepth 20000 in
set_option maxHeartbeats 2000000 in
theorem codLength (m p q : Value) (a : Option Addr) (n cap : Nat) (hs : List Pr) (ba : Option Addr) (bn bc : Nat) (b : List UInt8) (w : World) (h : IsP w a n cap hs) (hbl : b.length = bn) (hbn : bn ≤ 1000000) (hsh : ∀ x ∈ hs, x.2.length ≤ 1000000) (hE : Env w) :
    Calls Tryz.prog 49 #[.agg #[m, p, q, .slice a n cap, .slice ba bn bc]] w fun x w' => x = (if lenC hs b = true then .returned (.tuple #[]) else refused 12) ∧ Below w.heap.size w w' := by
  have T0 : Below w.heap.size w (w.alloc (.cells #[m, p, q, .slice a n cap, .slice ba bn bc] 25)) := (Below.refl _ w).alloc (Nat.le_refl _) _
  have K0 := Blk.newAt w w.heap.size 25 _ [m, p, q, .slice a n cap, .slice ba bn bc] rfl rfl
  have HG0 := codGet m p q (.slice ba bn bc) a n cap hs ctl (w.alloc (.cells #[m, p, q, .slice a n cap, .slice ba bn bc] 25)) (h.small _)
  have hctl : str ctl = ⟨#[99, 111, 110, 116, 101, 110, 116, 45, 108, 101, 110, 103, 116, 104]⟩ := rfl
  rw [hctl] at HG0
  have hE0 := hE.below T0
  cases hf : findL hs ctl with
  | none =>
    rw [hf] at HG0
    have HG : Calls Tryz.prog 18 #[.agg #[m, p, q, .slice a n cap, .slice ba bn bc], .string ⟨#[99, 111, 110, 116, 101, 110, 116, 45, 108, 101, 110, 103, 116, 104]⟩] (w.alloc (.cells #[m, p, q, .slice a n cap, .slice ba bn bc] 25)) fun e w' => e = .returned (.tuple #[.string ⟨#[]⟩, .bool false]) ∧ Below (w.alloc (.cells #[m, p, q, .slice a n cap, .slice ba bn bc] 25)).heap.size (w.alloc (.cells #[m, p, q, .slice a n cap, .slice ba bn bc] 25)) w' := HG0
    clear HG0 hctl h hsh
    rw [len_none hf]
    by_cases hb : b = []
    · have hz : (bn : Int) = 0 := by rw [← hbl, hb]; rfl
      have hz2 : ((bn : Int) == 0) = true := by rw [beq_iff_eq]; exact hz
      rw [decide_eq_true hb, if_pos rfl]
      go_enter Tryz.func49, Tryz.ntmps49
      go_wp2_with (first | (go_at_call 18; refine HG.mono ?_; rintro x w1 ⟨rfl, hb1⟩; have hbA := T0.trans (hb1.mono (by simp)); have kb : w1.cell? ⟨w.heap.size, 4, none⟩ = some (.slice ba bn bc) := (K0.on hb1).cell 4) | (go_at_call 67; refine (codNeed _ 12 _).mono ?_; rintro x w9 ⟨hx, hww⟩; rw [hww]; clear hww w9; first | (obtain rfl : x = .returned (.tuple #[]) := hx) | (obtain rfl : x = .panicked [{ v := .iface 26 (.int .i64 12), recovered := false }] := hx)))
      first | go_end0 | refine bodyPost_ret (results_none rfl _ _ _) rfl ?_
      exact ⟨rfl, hbA⟩
    · have hz : ¬ (bn : Int) = 0 := by intro e; apply hb; apply List.eq_nil_of_length_eq_zero; omega
      have hz2 : ((bn : Int) == 0) = false := by rw [beq_eq_false_iff_ne]; exact hz
      rw [decide_eq_false hb, if_neg (by decide)]
      unfold refused
      go_enter Tryz.func49, Tryz.ntmps49
      go_wp2_with (first | (go_at_call 18; refine HG.mono ?_; rintro x w1 ⟨rfl, hb1⟩; have hbA := T0.trans (hb1.mono (by simp)); have kb : w1.cell? ⟨w.heap.size, 4, none⟩ = some (.slice ba bn bc) := (K0.on hb1).cell 4) | (go_at_call 67; refine (codNeed _ 12 _).mono ?_; rintro x w9 ⟨hx, hww⟩; rw [hww]; clear hww w9; first | (obtain rfl : x = .returned (.tuple #[]) := hx) | (obtain rfl : x = .panicked [{ v := .iface 26 (.int .i64 12), recovered := false }] := hx)))
      refine bp_panic ?_
      exact ⟨rfl, hbA⟩
  | some c =>
    rw [hf] at HG0
    have hcl : c.length ≤ 1000000 := by
      unfold findL at hf
      obtain ⟨x, hx, rfl⟩ := Option.map_eq_some_iff.1 hf
      exact hsh x (List.mem_of_find?_eq_some hx)
    have HG : Calls Tryz.prog 18 #[.agg #[m, p, q, .slice a n cap, .slice ba bn bc], .string ⟨#[99, 111, 110, 116, 101, 110, 116, 45, 108, 101, 110, 103, 116, 104]⟩] (w.alloc (.cells #[m, p, q, .slice a n cap, .slice ba bn bc] 25)) fun e w' => e = .returned (.tuple #[.string (str c), .bool true]) ∧ Below (w.alloc (.cells #[m, p, q, .slice a n cap, .slice ba bn bc] 25)).heap.size (w.alloc (.cells #[m, p, q, .slice a n cap, .slice ba bn bc] 25)) w' := HG0
    have HNu : ∀ w1, Below (w.alloc (.cells #[m, p, q, .slice a n cap, .slice ba bn bc] 25)).heap.size (w.alloc (.cells #[m, p, q, .slice a n cap, .slice ba bn bc] 25)) w1 → Calls Tryz.prog 20 #[.string (str c), .int .u64 4096] w1 fun e w' => e = .returned (.tuple #[.int .u64 (numCV c 4096 : Int), .int .i64 (numCE c 4096)]) ∧ Below w1.heap.size w1 w' := fun w1 hb1 => codNumber c 4096 w1 (by omega) (hE0.below hb1)
    clear HG0 hctl h hsh hE hE0
    rw [len_some hf]
    cases hn : numC c 4096 with
    | none =>
      obtain ⟨e1, e2⟩ := num_none hn
      rw [e1, e2] at HNu
      rw [decide_eq_false (by simp), if_neg (by decide)]
      unfold refused
      go_enter Tryz.func49, Tryz.ntmps49
      go_wp2_with (first | (go_at_call 18; refine HG.mono ?_; rintro x w1 ⟨rfl, hb1⟩; have hbA := T0.trans (hb1.mono (by simp)); have kb : w1.cell? ⟨w.heap.size, 4, none⟩ = some (.slice ba bn bc) := (K0.on hb1).cell 4) | (go_at_call 20; refine (HNu _ hb1).mono ?_; rintro x w2 ⟨rfl, hb2⟩; have hbB := hbA.trans (hb2.mono hbA.size); have kc : w2.cell? ⟨w.heap.size, 4, none⟩ = some (.slice ba bn bc) := ((K0.on hb1).on hb2).cell 4) | (go_at_call 67; refine (codNeed _ 12 _).mono ?_; rintro x w9 ⟨hx, hww⟩; rw [hww]; clear hww w9; first | (obtain rfl : x = .returned (.tuple #[]) := hx) | (obtain rfl : x = .panicked [{ v := .iface 26 (.int .i64 12), recovered := false }] := hx)))
      refine bp_panic ?_
      exact ⟨rfl, hbB⟩
    | some u =>
      obtain ⟨e1, e2⟩ := num_some hn
      rw [e1, e2] at HNu
      by_cases hub : u = b.length
      · have hub' : (u : Int) = (bn : Int) := by omega
        rw [decide_eq_true (by rw [hub]), if_pos rfl]
        go_enter Tryz.func49, Tryz.ntmps49
        go_wp2_with (first | (go_at_call 18; refine HG.mono ?_; rintro x w1 ⟨rfl, hb1⟩; have hbA := T0.trans (hb1.mono (by simp)); have kb : w1.cell? ⟨w.heap.size, 4, none⟩ = some (.slice ba bn bc) := (K0.on hb1).cell 4) | (go_at_call 20; refine (HNu _ hb1).mono ?_; rintro x w2 ⟨rfl, hb2⟩; have hbB := hbA.trans (hb2.mono hbA.size); have kc : w2.cell? ⟨w.heap.size, 4, none⟩ = some (.slice ba bn bc) := ((K0.on hb1).on hb2).cell 4) | (go_at_call 67; refine (codNeed _ 12 _).mono ?_; rintro x w9 ⟨hx, hww⟩; rw [hww]; clear hww w9; first | (obtain rfl : x = .returned (.tuple #[]) := hx) | (obtain rfl : x = .panicked [{ v := .iface 26 (.int .i64 12), recovered := false }] := hx)))
        go_end0
        exact ⟨rfl, hbB⟩
      · have hub' : ¬ (u : Int) = (bn : Int) := by omega
        have hub2 : ((u : Int) == (bn : Int)) = false := by rw [beq_eq_false_iff_ne]; exact hub'
        rw [decide_eq_false (by simpa using hub), if_neg (by decide)]
        unfold refused
        go_enter Tryz.func49, Tryz.ntmps49
        go_wp2_with (first | (go_at_call 18; refine HG.mono ?_; rintro x w1 ⟨rfl, hb1⟩; have hbA := T0.trans (hb1.mono (by simp)); have kb : w1.cell? ⟨w.heap.size, 4, none⟩ = some (.slice ba bn bc) := (K0.on hb1).cell 4) | (go_at_call 20; refine (HNu _ hb1).mono ?_; rintro x w2 ⟨rfl, hb2⟩; have hbB := hbA.trans (hb2.mono hbA.size); have kc : w2.cell? ⟨w.heap.size, 4, none⟩ = some (.slice ba bn bc) := ((K0.on hb1).on hb2).cell 4) | (go_at_call 67; refine (codNeed _ 12 _).mono ?_; rintro x w9 ⟨hx, hww⟩; rw [hww]; clear hww w9; first | (obtain rfl : x = .returned (.tuple #[]) := hx) | (obtain rfl : x = .panicked [{ v := .iface 26 (.int .i64 12), recovered := false }] := hx)))
        refine bp_panic ?_
        exact ⟨rfl, hbB⟩
end Go.Proofs.YtbknabmcelknmaaGreatDoor
namespace Go.Proofs.YtbknabmcelknmaaGreatDoor
open Go.RowKit

theorem catchIdle (Q E : Nat) (w : World) :
    CallsD Tryz.prog 45 #[.pointer (some ⟨Q, 0, none⟩), .pointer (some ⟨E, 0, none⟩)] .returning w fun e u' w' => e = .returned (.tuple #[]) ∧ u' = .returning ∧ w' = w := by
  refine callsD_of_wpS Tryz.func45 rfl fun c₀ cs hu => ?_
  apply wpS_seq
  apply wpS_region
  simp [wpOpsS, go_sem, recoverD, hu, Tryz.ntmps45, Exit.thenS]
  apply wpS_seq
  apply wpS_region
  simp [wpOpsS, go_sem, Exit.thenS]
  refine wpS_cond (t := false) (by simp [Act.eval, Array.replicate]) ?_
  simp only [Bool.false_eq_true, if_false]
  refine wpS_of_wp (wp_skip ?_)
  cases c₀
  simp_all [bodyPostS, results, Tryz.results45]

theorem Blk.drew1 {w : World} {B t : Nat} {cs : List Value} (h : Blk w B t cs) : Blk w.drew B t cs := h
def rqZero : List Value := [.string ⟨#[]⟩, .string ⟨#[]⟩, .string ⟨#[]⟩, .slice none 0 0, .slice none 0 0]
set_option maxRecDepth 20000 in
set_option maxHeartbeats 2000000 in
theorem catchPanic (Q E n : Nat) (k : Int) (older : List PanicEntry) (w : World) (c0 c1 c2 c3 c4 v : Value) (hQ : Blk w Q 25 [c0, c1, c2, c3, c4]) (hE : Blk w E 26 [v]) (hne : Q ≠ E) (hnQ : n ≤ Q) (hnE : n ≤ E) :
    CallsD Tryz.prog 45 #[.pointer (some ⟨Q, 0, none⟩), .pointer (some ⟨E, 0, none⟩)] (.panicking ({ v := .iface 26 (.int .i64 k), recovered := false } :: older)) w fun e u' w' =>
      e = .returned (.tuple #[]) ∧ u' = .panicking ({ v := .iface 26 (.int .i64 k), recovered := true } :: older) ∧ (Blk w' Q 25 rqZero ∧ Blk w' E 26 [.int .i64 k] ∧ Below n w w') := by
  have q0 : w.cell? ⟨Q, 0, none⟩ = some c0 := hQ.cell 0
  have q1 : w.cell? ⟨Q, 1, none⟩ = some c1 := hQ.cell 1
  have q2 : w.cell? ⟨Q, 2, none⟩ = some c2 := hQ.cell 2
  have q3 : w.cell? ⟨Q, 3, none⟩ = some c3 := hQ.cell 3
  have q4 : w.cell? ⟨Q, 4, none⟩ = some c4 := hQ.cell 4
  have f0 := hQ.frozen 0
  have f1 := hQ.frozen 1
  have f2 := hQ.frozen 2
  have f3 := hQ.frozen 3
  have f4 := hQ.frozen 4
  have e0 : w.cell? ⟨E, 0, none⟩ = some v := hE.cell 0
  have fe := hE.frozen 0
  have hne' : E ≠ Q := Ne.symm hne
  have hta : ∀ W, (Instr.typeAssert (.iface 26 (.int .i64 k)) 20 26 false).run Tryz.prog W = .ok (.int .i64 k) W := fun W => by first | kernel_rfl | rfl | simp [go_sem, Instr.typeAssert]
  refine callsD_of_wpS Tryz.func45 rfl fun c₀ cs hu => ?_
  apply wpS_seq
  apply wpS_region
  simp [wpOpsS, go_sem, recoverD, hu, Tryz.ntmps45, Exit.thenS]
  apply wpS_seq
  apply wpS_region
  simp [wpOpsS, go_sem, Exit.thenS]
  refine wpS_cond (t := true) (by simp [Act.eval, Array.replicate]) ?_
  simp only [if_true]
  refine wpS_of_wp ?_
  refine (show Code.wp Tryz.prog _ _ { tmps := #[.pointer (some ⟨Q, 0, none⟩), .pointer (some ⟨E, 0, none⟩), .iface 26 (.int .i64 k), .iface 26 (.int .i64 k), .iface 26 (.int .i64 k), .bool true, undef, undef, undef], defers := [] } w from ?_)
  go_region
  refine ⟨rfl, _, rfl, _, results_none rfl _ _ _, rfl, rfl, ?_, ?_, ?_⟩
  · exact ((((((hQ.set 0 (.string ⟨#[]⟩)).set 1 (.string ⟨#[]⟩)).set 2 (.string ⟨#[]⟩)).set 3 (.slice none 0 0)).set 4 (.slice none 0 0)).other ⟨E, 0, none⟩ (.int .i64 k) hne).drew1
  · exact ((((((hE.other ⟨Q, 0, none⟩ (.string ⟨#[]⟩) hne').other ⟨Q, 1, none⟩ (.string ⟨#[]⟩) hne').other ⟨Q, 2, none⟩ (.string ⟨#[]⟩) hne').other ⟨Q, 3, none⟩ (.slice none 0 0) hne').other ⟨Q, 4, none⟩ (.slice none 0 0) hne').set 0 (.int .i64 k)).drew1
  · exact (((((((Below.refl n w).setCell (p := ⟨Q, 0, none⟩) hnQ _).setCell (p := ⟨Q, 1, none⟩) hnQ _).setCell (p := ⟨Q, 2, none⟩) hnQ _).setCell (p := ⟨Q, 3, none⟩) hnQ _).setCell (p := ⟨Q, 4, none⟩) hnQ _).setCell (p := ⟨E, 0, none⟩) hnE _).drew

end Go.Proofs.YtbknabmcelknmaaGreatDoor
