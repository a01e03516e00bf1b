/- request: Parse. -/
import Derived.Test.YtbknabmcelknmaaGreatDoorR5m
import Derived.Laws.IdiomStrings
namespace Go.Proofs.YtbknabmcelknmaaGreatDoor
open Go.RowKit

theorem rqOut_big {b : List UInt8} (h : 4096 < b.length) (N : Nat) (w' : World) : RqOut (parseC b) N (.returned (.tuple #[.agg #[.string ⟨#[]⟩, .string ⟨#[]⟩, .string ⟨#[]⟩, .slice none 0 0, .slice none 0 0], .int .i64 3])) w' :=
  rqOut_no (by unfold parseC; rw [if_pos h]) N w'
theorem parse_read {b : List UInt8} (h : ¬ 4096 < b.length) : parseC b = readC b := by unfold parseC; rw [if_neg h]

theorem conv_isB (w : World) (a : Option Addr) (len cap : Nat) (l : List UInt8) (hb : IsB w a len cap l) : (convert 22 9 (.slice a len cap)).run Tryz.prog w = .ok (.string (str l)) w := by
  have hlen := hb.len_eq
  subst hlen
  by_cases hl : 0 < l.length
  · obtain ⟨b, off, rfl, hc⟩ := hb.cells hl
    refine run_convert_bytes_back w 22 9 5 ⟨b, off, none⟩ cap l Tryz.underlying22 Tryz.underlying5 Tryz.underlying9 fun j hj => ?_
    rw [Addr.add_lit, hc j hj, nth_eq l j hj]
  · have : l = [] := List.eq_nil_of_length_eq_zero (by omega)
    subst this
    cases a with
    | none => exact run_convert_bytes_nil w 22 5 Tryz.underlying22 Tryz.underlying5 _ _ _ Tryz.underlying9
    | some x => exact run_convert_bytes_back w 22 9 5 x cap [] Tryz.underlying22 Tryz.underlying5 Tryz.underlying9 fun j hj => absurd hj (Nat.not_lt_zero _)

set_option maxRecDepth 20000 in
set_option maxHeartbeats 2000000 in
theorem codParse (a : Option Addr) (n cap : Nat) (b : List UInt8) (w : World) (h : IsB w a n cap b) (hEnv : Env w) (hg : 9 ≤ w.heap.size) :
    Calls Tryz.prog 9 #[.slice a n cap] w fun x w' => RqOut (parseC b) w.heap.size x w' ∧ Below w.heap.size w w' := by
  have hlen := h.len_eq
  have A0 : Below w.heap.size w (w.alloc (.cells #[.string ⟨#[]⟩, .string ⟨#[]⟩, .string ⟨#[]⟩, .slice none 0 0, .slice none 0 0] 25)) := (Below.refl _ w).alloc (Nat.le_refl _) _
  have K0 : Blk (w.alloc (.cells #[.string ⟨#[]⟩, .string ⟨#[]⟩, .string ⟨#[]⟩, .slice none 0 0, .slice none 0 0] 25)) w.heap.size 25 [.string ⟨#[]⟩, .string ⟨#[]⟩, .string ⟨#[]⟩, .slice none 0 0, .slice none 0 0] := Blk.newAt w w.heap.size 25 _ [.string ⟨#[]⟩, .string ⟨#[]⟩, .string ⟨#[]⟩, .slice none 0 0, .slice none 0 0] rfl rfl
  by_cases hb : 4096 < b.length
  · have hb' : (4096 : Int) < (n : Int) := by omega
    have HO := rqOut_big hb w.heap.size
    go_enter Tryz.func9, Tryz.ntmps9
    go_wp2
    refine bodyPost_ret (results_cellrow_tmp (P := Tryz.prog) rfl _ _ w.heap.size 25 #[.string ⟨#[]⟩, .string ⟨#[]⟩, .string ⟨#[]⟩, .slice none 0 0, .slice none 0 0] (0, 0) _ rfl K0 Tryz.underlying25 rfl (by kernel_rfl)) rfl ⟨?_, A0⟩
    exact HO _
  · have hb' : ¬ (4096 : Int) < (n : Int) := by omega
    rw [parse_read hb]
    have hcv := conv_isB (w.alloc (.cells #[.string ⟨#[]⟩, .string ⟨#[]⟩, .string ⟨#[]⟩, .slice none 0 0, .slice none 0 0] 25)) a n cap b (h.below A0 rfl)
    have A1 : Below w.heap.size w ((w.alloc (.cells #[.string ⟨#[]⟩, .string ⟨#[]⟩, .string ⟨#[]⟩, .slice none 0 0, .slice none 0 0] 25)).alloc (.cells #[.string (str b)] 57)) := A0.alloc (by simp) _
    have K1 : Blk ((w.alloc (.cells #[.string ⟨#[]⟩, .string ⟨#[]⟩, .string ⟨#[]⟩, .slice none 0 0, .slice none 0 0] 25)).alloc (.cells #[.string (str b)] 57)) w.heap.size 25 [.string ⟨#[]⟩, .string ⟨#[]⟩, .string ⟨#[]⟩, .slice none 0 0, .slice none 0 0] := K0.alloc _
    have KR : Blk ((w.alloc (.cells #[.string ⟨#[]⟩, .string ⟨#[]⟩, .string ⟨#[]⟩, .slice none 0 0, .slice none 0 0] 25)).alloc (.cells #[.string (str b)] 57)) (w.heap.size + 1) 57 [.string (str b)] := Blk.newAt _ (w.heap.size + 1) 57 _ [.string (str b)] (by simp) rfl
    have HR := codRequest (w.heap.size + 1) b ((w.alloc (.cells #[.string ⟨#[]⟩, .string ⟨#[]⟩, .string ⟨#[]⟩, .slice none 0 0, .slice none 0 0] 25)).alloc (.cells #[.string (str b)] 57)) KR (hEnv.below A1) (by omega) (by omega)
    go_enter Tryz.func9, Tryz.ntmps9
    go_wp2_with (go_at_call 24; refine HR.mono ?_; rintro x w2 ⟨⟨v, bv, rfl, hown, hIV, hbb⟩, hb2⟩; obtain ⟨va, vc, rfl, hisP⟩ := hown.isP; obtain ⟨ba, bc, rfl, hIB⟩ := hIV; have K2 := K1.below hb2 (Nat.lt_succ_self _); have c0 : w2.cell? ⟨w.heap.size, 0, none⟩ = some (.string ⟨#[]⟩) := K2.cell 0; have d0 := K2.frozen 0; have c1 : w2.cell? ⟨w.heap.size, 1, none⟩ = some (.string ⟨#[]⟩) := K2.cell 1; have d1 := K2.frozen 1; have c2 : w2.cell? ⟨w.heap.size, 2, none⟩ = some (.string ⟨#[]⟩) := K2.cell 2; have d2 := K2.frozen 2; have c3 : w2.cell? ⟨w.heap.size, 3, none⟩ = some (.slice none 0 0) := K2.cell 3; have d3 := K2.frozen 3; have c4 : w2.cell? ⟨w.heap.size, 4, none⟩ = some (.slice none 0 0) := K2.cell 4; have d4 := K2.frozen 4)
    have B2 : Below w.heap.size w w2 := A1.trans (hb2.mono (by omega))
    have K3 := (((((K2.set 0 (.string (str (readC b).2.m))).set 1 (.string (str (readC b).2.p))).set 2 (.string (str (readC b).2.q))).set 3 (.slice va (readC b).2.hs.length vc)).set 4 (.slice ba (readC b).2.b.length bc))
    refine bodyPost_ret (results_cellrow_tmp (P := Tryz.prog) rfl _ _ w.heap.size 25 #[(.string (str (readC b).2.m)), (.string (str (readC b).2.p)), (.string (str (readC b).2.q)), (.slice va (readC b).2.hs.length vc), (.slice ba (readC b).2.b.length bc)] (0, 0) _ rfl K3 Tryz.underlying25 rfl (by kernel_rfl)) rfl ⟨?_, (((((B2.setCell (p := ⟨w.heap.size, 0, none⟩) (Nat.le_refl _) (.string (str (readC b).2.m))).setCell (p := ⟨w.heap.size, 1, none⟩) (Nat.le_refl _) (.string (str (readC b).2.p))).setCell (p := ⟨w.heap.size, 2, none⟩) (Nat.le_refl _) (.string (str (readC b).2.q))).setCell (p := ⟨w.heap.size, 3, none⟩) (Nat.le_refl _) (.slice va (readC b).2.hs.length vc)).setCell (p := ⟨w.heap.size, 4, none⟩) (Nat.le_refl _) (.slice ba (readC b).2.b.length bc))⟩
    exact ⟨_, _, rfl, ((((((hown.moved (Moved.setAny w.heap.size _ 0 (.string (str (readC b).2.m))) (by omega)).moved (Moved.setAny w.heap.size _ 1 (.string (str (readC b).2.p))) (by omega)).moved (Moved.setAny w.heap.size _ 2 (.string (str (readC b).2.q))) (by omega)).moved (Moved.setAny w.heap.size _ 3 (.slice va (readC b).2.hs.length vc)) (by omega)).moved (Moved.setAny w.heap.size _ 4 (.slice ba (readC b).2.b.length bc)) (by omega))).base (by omega), IsB.isV ((((((hIB.moved (Moved.setAny w.heap.size _ 0 (.string (str (readC b).2.m))) (fun b off e => by have := hbb b off _ _ (by rw [e]); omega)).moved (Moved.setAny w.heap.size _ 1 (.string (str (readC b).2.p))) (fun b off e => by have := hbb b off _ _ (by rw [e]); omega)).moved (Moved.setAny w.heap.size _ 2 (.string (str (readC b).2.q))) (fun b off e => by have := hbb b off _ _ (by rw [e]); omega)).moved (Moved.setAny w.heap.size _ 3 (.slice va (readC b).2.hs.length vc)) (fun b off e => by have := hbb b off _ _ (by rw [e]); omega)).moved (Moved.setAny w.heap.size _ 4 (.slice ba (readC b).2.b.length bc)) (fun b off e => by have := hbb b off _ _ (by rw [e]); omega))), fun b off n2 cap2 e => by have := hbb b off n2 cap2 e; omega⟩
end Go.Proofs.YtbknabmcelknmaaGreatDoor
