/- request: Parse. The statements' own example. -/
import Derived.Test.YtbknabmcelknmaaGreatDoorR5m
import Derived.Laws.IdiomStrings
import Derived.Lib.SlBytesConst
namespace Go.Proofs.YtbknabmcelknmaaGreatDoor
open Go.RowKit

theorem rqOut_big {b : List UInt8} (h : 4096 < b.length) (N : Nat) (w' : World) : RqOut (parseC b) N (.returned (.tuple #[.agg #[.string ⟨#[]⟩, .string ⟨#[]⟩, .string ⟨#[]⟩, .slice none 0 0, .slice none 0 0], .int .i64 3])) w' :=
  rqOut_no (by unfold parseC; rw [if_pos h]) N w'
theorem parse_read {b : List UInt8} (h : ¬ 4096 < b.length) : parseC b = readC b := by unfold parseC; rw [if_neg h]

theorem conv_isB (w : World) (a : Option Addr) (len cap : Nat) (l : List UInt8) (hb : IsB w a len cap l) : (convert 22 9 (.slice a len cap)).run Tryz.prog w = .ok (.string (str l)) w := by
  have hlen := hb.len_eq
  subst hlen
  by_cases hl : 0 < l.length
  · obtain ⟨b, off, rfl, hc⟩ := hb.cells hl
    refine run_convert_bytes_back w 22 9 5 ⟨b, off, none⟩ cap l Tryz.underlying22 Tryz.underlying5 Tryz.underlying9 fun j hj => ?_
    rw [Addr.add_lit, hc j hj, nth_eq l j hj]
  · have : l = [] := List.eq_nil_of_length_eq_zero (by omega)
    subst this
    cases a with
    | none => exact run_convert_bytes_nil w 22 5 Tryz.underlying22 Tryz.underlying5 _ _ _ Tryz.underlying9
    | some x => exact run_convert_bytes_back w 22 9 5 x cap [] Tryz.underlying22 Tryz.underlying5 Tryz.underlying9 fun j hj => absurd hj (Nat.not_lt_zero _)

set_option maxRecDepth 20000 in
set_option maxHeartbeats 2000000 in
theorem codParse (a : Option Addr) (n cap : Nat) (b : List UInt8) (w : World) (h : IsB w a n cap b) (hEnv : Env w) (hg : 9 ≤ w.heap.size) :
    Calls Tryz.prog 9 #[.slice a n cap] w fun x w' => RqOut (parseC b) w.heap.size x w' ∧ Below w.heap.size w w' := by
  have hlen := h.len_eq
  have A0 : Below w.heap.size w (w.alloc (.cells #[.string ⟨#[]⟩, .string ⟨#[]⟩, .string ⟨#[]⟩, .slice none 0 0, .slice none 0 0] 25)) := (Below.refl _ w).alloc (Nat.le_refl _) _
  have K0 : Blk (w.alloc (.cells #[.string ⟨#[]⟩, .string ⟨#[]⟩, .string ⟨#[]⟩, .slice none 0 0, .slice none 0 0] 25)) w.heap.size 25 [.string ⟨#[]⟩, .string ⟨#[]⟩, .string ⟨#[]⟩, .slice none 0 0, .slice none 0 0] := Blk.newAt w w.heap.size 25 _ [.string ⟨#[]⟩, .string ⟨#[]⟩, .string ⟨#[]⟩, .slice none 0 0, .slice none 0 0] rfl rfl
  by_cases hb : 4096 < b.length
  · have hb' : (4096 : Int) < (n : Int) := by omega
    have HO := rqOut_big hb w.heap.size
    go_enter Tryz.func9, Tryz.ntmps9
    go_wp2
    refine bodyPost_ret (results_cellrow_tmp (P := Tryz.prog) rfl _ _ w.heap.size 25 #[.string ⟨#[]⟩, .string ⟨#[]⟩, .string ⟨#[]⟩, .slice none 0 0, .slice none 0 0] (0, 0) _ rfl K0 Tryz.underlying25 rfl (by kernel_rfl)) rfl ⟨?_, A0⟩
    exact HO _
  · have hb' : ¬ (4096 : Int) < (n : Int) := by omega
    rw [parse_read hb]
    have hcv := conv_isB (w.alloc (.cells #[.string ⟨#[]⟩, .string ⟨#[]⟩, .string ⟨#[]⟩, .slice none 0 0, .slice none 0 0] 25)) a n cap b (h.below A0 rfl)
    have A1 : Below w.heap.size w ((w.alloc (.cells #[.string ⟨#[]⟩, .string ⟨#[]⟩, .string ⟨#[]⟩, .slice none 0 0, .slice none 0 0] 25)).alloc (.cells #[.string (str b)] 57)) := A0.alloc (by simp) _
    have K1 : Blk ((w.alloc (.cells #[.string ⟨#[]⟩, .string ⟨#[]⟩, .string ⟨#[]⟩, .slice none 0 0, .slice none 0 0] 25)).alloc (.cells #[.string (str b)] 57)) w.heap.size 25 [.string ⟨#[]⟩, .string ⟨#[]⟩, .string ⟨#[]⟩, .slice none 0 0, .slice none 0 0] := K0.alloc _
    have KR : Blk ((w.alloc (.cells #[.string ⟨#[]⟩, .string ⟨#[]⟩, .string ⟨#[]⟩, .slice none 0 0, .slice none 0 0] 25)).alloc (.cells #[.string (str b)] 57)) (w.heap.size + 1) 57 [.string (str b)] := Blk.newAt _ (w.heap.size + 1) 57 _ [.string (str b)] (by simp) rfl
    have HR := codRequest (w.heap.size + 1) b ((w.alloc (.cells #[.string ⟨#[]⟩, .string ⟨#[]⟩, .string ⟨#[]⟩, .slice none 0 0, .slice none 0 0] 25)).alloc (.cells #[.string (str b)] 57)) KR (hEnv.below A1) (by omega) (by omega)
    go_enter Tryz.func9, Tryz.ntmps9
    go_wp2_with (go_at_call 24; refine HR.mono ?_; rintro x w2 ⟨⟨v, bv, rfl, hown, hIV, hbb⟩, hb2⟩; obtain ⟨va, vc, rfl, hisP⟩ := hown.isP; obtain ⟨ba, bc, rfl, hIB⟩ := hIV; have K2 := K1.below hb2 (Nat.lt_succ_self _); have c0 : w2.cell? ⟨w.heap.size, 0, none⟩ = some (.string ⟨#[]⟩) := K2.cell 0; have d0 := K2.frozen 0; have c1 : w2.cell? ⟨w.heap.size, 1, none⟩ = some (.string ⟨#[]⟩) := K2.cell 1; have d1 := K2.frozen 1; have c2 : w2.cell? ⟨w.heap.size, 2, none⟩ = some (.string ⟨#[]⟩) := K2.cell 2; have d2 := K2.frozen 2; have c3 : w2.cell? ⟨w.heap.size, 3, none⟩ = some (.slice none 0 0) := K2.cell 3; have d3 := K2.frozen 3; have c4 : w2.cell? ⟨w.heap.size, 4, none⟩ = some (.slice none 0 0) := K2.cell 4; have d4 := K2.frozen 4)
    have B2 : Below w.heap.size w w2 := A1.trans (hb2.mono (by omega))
    have K3 := (((((K2.set 0 (.string (str (readC b).2.m))).set 1 (.string (str (readC b).2.p))).set 2 (.string (str (readC b).2.q))).set 3 (.slice va (readC b).2.hs.length vc)).set 4 (.slice ba (readC b).2.b.length bc))
    refine bodyPost_ret (results_cellrow_tmp (P := Tryz.prog) rfl _ _ w.heap.size 25 #[(.string (str (readC b).2.m)), (.string (str (readC b).2.p)), (.string (str (readC b).2.q)), (.slice va (readC b).2.hs.length vc), (.slice ba (readC b).2.b.length bc)] (0, 0) _ rfl K3 Tryz.underlying25 rfl (by kernel_rfl)) rfl ⟨?_, (((((B2.setCell (p := ⟨w.heap.size, 0, none⟩) (Nat.le_refl _) (.string (str (readC b).2.m))).setCell (p := ⟨w.heap.size, 1, none⟩) (Nat.le_refl _) (.string (str (readC b).2.p))).setCell (p := ⟨w.heap.size, 2, none⟩) (Nat.le_refl _) (.string (str (readC b).2.q))).setCell (p := ⟨w.heap.size, 3, none⟩) (Nat.le_refl _) (.slice va (readC b).2.hs.length vc)).setCell (p := ⟨w.heap.size, 4, none⟩) (Nat.le_refl _) (.slice ba (readC b).2.b.length bc))⟩
    exact ⟨_, _, rfl, ((((((hown.moved (Moved.setAny w.heap.size _ 0 (.string (str (readC b).2.m))) (by omega)).moved (Moved.setAny w.heap.size _ 1 (.string (str (readC b).2.p))) (by omega)).moved (Moved.setAny w.heap.size _ 2 (.string (str (readC b).2.q))) (by omega)).moved (Moved.setAny w.heap.size _ 3 (.slice va (readC b).2.hs.length vc)) (by omega)).moved (Moved.setAny w.heap.size _ 4 (.slice ba (readC b).2.b.length bc)) (by omega))).base (by omega), IsB.isV ((((((hIB.moved (Moved.setAny w.heap.size _ 0 (.string (str (readC b).2.m))) (fun b off e => by have := hbb b off _ _ (by rw [e]); omega)).moved (Moved.setAny w.heap.size _ 1 (.string (str (readC b).2.p))) (fun b off e => by have := hbb b off _ _ (by rw [e]); omega)).moved (Moved.setAny w.heap.size _ 2 (.string (str (readC b).2.q))) (fun b off e => by have := hbb b off _ _ (by rw [e]); omega)).moved (Moved.setAny w.heap.size _ 3 (.slice va (readC b).2.hs.length vc)) (fun b off e => by have := hbb b off _ _ (by rw [e]); omega)).moved (Moved.setAny w.heap.size _ 4 (.slice ba (readC b).2.b.length bc)) (fun b off e => by have := hbb b off _ _ (by rw [e]); omega))), fun b off n2 cap2 e => by have := hbb b off n2 cap2 e; omega⟩
end Go.Proofs.YtbknabmcelknmaaGreatDoor
namespace Go.Proofs.YtbknabmcelknmaaGreatDoor
open Go.RowKit

def exB : List UInt8 := [71, 69, 84, 32, 47, 98, 47, 107, 63, 120, 61, 49, 32, 72, 84, 84, 80, 47, 49, 46, 49, 13, 10, 72, 111, 115, 116, 58, 32, 97, 13, 10, 13, 10]
set_option maxRecDepth 20000 in
theorem ex_parse : parseC exB = (0, ⟨[71, 69, 84], [47, 98, 47, 107], [120, 61, 49], [([104, 111, 115, 116], [97])], []⟩) := by kernel_rfl
theorem ex_find : findL [([104, 111, 115, 116], [97])] [104, 111, 115, 116] = some [97] := by rfl

theorem isB_marked (w : World) (l : List UInt8) (fr : Nat × Nat) (hm : l.length ≤ maxLen) : IsB (w.alloc (.cells (bv l).toArray 5 fr)) (some ⟨w.heap.size, 0, none⟩) l.length l.length l :=
  ⟨rfl, Nat.le_refl _, hm, (fun e => by cases e), fun _ => ⟨w.heap.size, 0, rfl, fun i hi => by
    have h := bv_at l i hi
    have hh : (w.alloc (.cells (bv l).toArray 5 fr)).heap[w.heap.size]? = some (.cells (bv l).toArray 5 fr) := by
      show (w.heap.push _)[w.heap.size]? = _
      simp
    rw [Nat.zero_add]
    unfold World.cell?
    dsimp only
    rw [hh]
    simpa using h⟩⟩

set_option maxRecDepth 20000 in
set_option maxHeartbeats 2000000 in
theorem lawAlive (w : World) (hEnv : Env w) (hg : 9 ≤ w.heap.size) : Calls Tryz.prog 13 #[] w fun e w' => e = .returned (.bool true) ∧ Below w.heap.size w w' := by
  have A0 : Below w.heap.size w (w.alloc (.cells #[.int .u8 71, .int .u8 69, .int .u8 84, .int .u8 32, .int .u8 47, .int .u8 98, .int .u8 47, .int .u8 107, .int .u8 63, .int .u8 120, .int .u8 61, .int .u8 49, .int .u8 32, .int .u8 72, .int .u8 84, .int .u8 84, .int .u8 80, .int .u8 47, .int .u8 49, .int .u8 46, .int .u8 49, .int .u8 13, .int .u8 10, .int .u8 72, .int .u8 111, .int .u8 115, .int .u8 116, .int .u8 58, .int .u8 32, .int .u8 97, .int .u8 13, .int .u8 10, .int .u8 13, .int .u8 10] 5 (34, 35))) := (Below.refl _ w).alloc (Nat.le_refl _) _
  have hI : IsB (w.alloc (.cells #[.int .u8 71, .int .u8 69, .int .u8 84, .int .u8 32, .int .u8 47, .int .u8 98, .int .u8 47, .int .u8 107, .int .u8 63, .int .u8 120, .int .u8 61, .int .u8 49, .int .u8 32, .int .u8 72, .int .u8 84, .int .u8 84, .int .u8 80, .int .u8 47, .int .u8 49, .int .u8 46, .int .u8 49, .int .u8 13, .int .u8 10, .int .u8 72, .int .u8 111, .int .u8 115, .int .u8 116, .int .u8 58, .int .u8 32, .int .u8 97, .int .u8 13, .int .u8 10, .int .u8 13, .int .u8 10] 5 (34, 35))) (some ⟨w.heap.size, 0, none⟩) 34 34 exB := isB_marked w exB (34, 35) (by decide)
  have HP := codParse (some ⟨w.heap.size, 0, none⟩) 34 34 exB (w.alloc (.cells #[.int .u8 71, .int .u8 69, .int .u8 84, .int .u8 32, .int .u8 47, .int .u8 98, .int .u8 47, .int .u8 107, .int .u8 63, .int .u8 120, .int .u8 61, .int .u8 49, .int .u8 32, .int .u8 72, .int .u8 84, .int .u8 84, .int .u8 80, .int .u8 47, .int .u8 49, .int .u8 46, .int .u8 49, .int .u8 13, .int .u8 10, .int .u8 72, .int .u8 111, .int .u8 115, .int .u8 116, .int .u8 58, .int .u8 32, .int .u8 97, .int .u8 13, .int .u8 10, .int .u8 13, .int .u8 10] 5 (34, 35))) hI (hEnv.below A0) (by simp; omega)
  have hcv := Lib.run_convert_bytes_const (P := Tryz.prog) w 22 5 #[.int .u8 71, .int .u8 69, .int .u8 84, .int .u8 32, .int .u8 47, .int .u8 98, .int .u8 47, .int .u8 107, .int .u8 63, .int .u8 120, .int .u8 61, .int .u8 49, .int .u8 32, .int .u8 72, .int .u8 84, .int .u8 84, .int .u8 80, .int .u8 47, .int .u8 49, .int .u8 46, .int .u8 49, .int .u8 13, .int .u8 10, .int .u8 72, .int .u8 111, .int .u8 115, .int .u8 116, .int .u8 58, .int .u8 32, .int .u8 97, .int .u8 13, .int .u8 10, .int .u8 13, .int .u8 10] 34 34 Tryz.underlying22 Tryz.underlying5
  have hsz : (#[.int .u8 71, .int .u8 69, .int .u8 84, .int .u8 32, .int .u8 47, .int .u8 98, .int .u8 47, .int .u8 107, .int .u8 63, .int .u8 120, .int .u8 61, .int .u8 49, .int .u8 32, .int .u8 72, .int .u8 84, .int .u8 84, .int .u8 80, .int .u8 47, .int .u8 49, .int .u8 46, .int .u8 49, .int .u8 13, .int .u8 10, .int .u8 72, .int .u8 111, .int .u8 115, .int .u8 116, .int .u8 58, .int .u8 32, .int .u8 97, .int .u8 13, .int .u8 10, .int .u8 13, .int .u8 10] : Array Value).size = 34 := rfl
  rw [hsz] at hcv
  rw [ex_parse] at HP
  unfold RqOut at HP
  dsimp only at HP
  have e1 : str [71, 69, 84] = ⟨#[71, 69, 84]⟩ := rfl
  have e2 : str [47, 98, 47, 107] = ⟨#[47, 98, 47, 107]⟩ := rfl
  have e3 : str [120, 61, 49] = ⟨#[120, 61, 49]⟩ := rfl
  simp only [e1, e2, e3] at HP
  clear e1 e2 e3
  go_enter Tryz.func13, Tryz.ntmps13
  go_wp2_with (go_at_call 9; refine HP.mono ?_; rintro x w1 ⟨⟨v, bv, rfl, hown, hIV, -⟩, hb1⟩; obtain ⟨va, vc, rfl, hisP⟩ := hown.isP; obtain ⟨ba, bc, rfl, hIB⟩ := hIV)
  have HG := codGet (.string ⟨#[71, 69, 84]⟩) (.string ⟨#[47, 98, 47, 107]⟩) (.string ⟨#[120, 61, 49]⟩) (.slice ba 0 bc) va 1 vc _ [104, 111, 115, 116] _ (hisP.small (.cells #[.string ⟨#[71, 69, 84]⟩, .string ⟨#[47, 98, 47, 107]⟩, .string ⟨#[120, 61, 49]⟩, .slice va 1 vc, .slice ba 0 bc] 25))
  rw [ex_find] at HG
  refine HG.mono ?_
  rintro x w2 ⟨hx, hb2⟩
  have hx' : x = .returned (.tuple #[.string ⟨#[97]⟩, .bool true]) := hx
  subst hx'
  clear hx HG
  have K2 := (Blk.newAt w1 w1.heap.size 25 _ [.string ⟨#[71, 69, 84]⟩, .string ⟨#[47, 98, 47, 107]⟩, .string ⟨#[120, 61, 49]⟩, .slice va 1 vc, .slice ba 0 bc] rfl rfl).on hb2
  have c1 : w2.cell? ⟨w1.heap.size, 1, none⟩ = some (.string ⟨#[47, 98, 47, 107]⟩) := K2.cell 1
  have c2 : w2.cell? ⟨w1.heap.size, 2, none⟩ = some (.string ⟨#[120, 61, 49]⟩) := K2.cell 2
  have hBel : Below w.heap.size w w2 := (A0.trans (hb1.mono (by simp))).trans (((Below.refl _ w1).alloc (Nat.le_refl _) _).mono (by have := hb1.size; simp at this; omega) |>.trans (hb2.mono (by have := hb1.size; simp at this ⊢; omega)))
  go_wp2
  go_ret
  exact ⟨rfl, hBel⟩
end Go.Proofs.YtbknabmcelknmaaGreatDoor
