/- The statements' own example. -/
import Derived.Test.YtbknabmcelknmaaGreatDoorR5p
import Derived.Lib.SlBytesConst
namespace Go.Proofs.YtbknabmcelknmaaGreatDoor
open Go.RowKit

def exB : List UInt8 := [71, 69, 84, 32, 47, 98, 47, 107, 63, 120, 61, 49, 32, 72, 84, 84, 80, 47, 49, 46, 49, 13, 10, 72, 111, 115, 116, 58, 32, 97, 13, 10, 13, 10]
set_option maxRecDepth 20000 in
theorem ex_parse : parseC exB = (0, ⟨[71, 69, 84], [47, 98, 47, 107], [120, 61, 49], [([104, 111, 115, 116], [97])], []⟩) := by kernel_rfl
theorem ex_find : findL [([104, 111, 115, 116], [97])] [104, 111, 115, 116] = some [97] := by rfl

theorem isB_marked (w : World) (l : List UInt8) (fr : Nat × Nat) (hm : l.length ≤ maxLen) : IsB (w.alloc (.cells (bv l).toArray 5 fr)) (some ⟨w.heap.size, 0, none⟩) l.length l.length l :=
  ⟨rfl, Nat.le_refl _, hm, (fun e => by cases e), fun _ => ⟨w.heap.size, 0, rfl, fun i hi => by
    have h := bv_at l i hi
    have hh : (w.alloc (.cells (bv l).toArray 5 fr)).heap[w.heap.size]? = some (.cells (bv l).toArray 5 fr) := by
      show (w.heap.push _)[w.heap.size]? = _
      simp
    rw [Nat.zero_add]
    unfold World.cell?
    dsimp only
    rw [hh]
    simpa using h⟩⟩

set_option maxRecDepth 20000 in
set_option maxHeartbeats 2000000 in
theorem lawAlive (w : World) (hEnv : Env w) (hg : 9 ≤ w.heap.size) : Calls Tryz.prog 13 #[] w fun e w' => e = .returned (.bool true) ∧ Below w.heap.size w w' := by
  have A0 : Below w.heap.size w (w.alloc (.cells #[.int .u8 71, .int .u8 69, .int .u8 84, .int .u8 32, .int .u8 47, .int .u8 98, .int .u8 47, .int .u8 107, .int .u8 63, .int .u8 120, .int .u8 61, .int .u8 49, .int .u8 32, .int .u8 72, .int .u8 84, .int .u8 84, .int .u8 80, .int .u8 47, .int .u8 49, .int .u8 46, .int .u8 49, .int .u8 13, .int .u8 10, .int .u8 72, .int .u8 111, .int .u8 115, .int .u8 116, .int .u8 58, .int .u8 32, .int .u8 97, .int .u8 13, .int .u8 10, .int .u8 13, .int .u8 10] 5 (34, 35))) := (Below.refl _ w).alloc (Nat.le_refl _) _
  have hI : IsB (w.alloc (.cells #[.int .u8 71, .int .u8 69, .int .u8 84, .int .u8 32, .int .u8 47, .int .u8 98, .int .u8 47, .int .u8 107, .int .u8 63, .int .u8 120, .int .u8 61, .int .u8 49, .int .u8 32, .int .u8 72, .int .u8 84, .int .u8 84, .int .u8 80, .int .u8 47, .int .u8 49, .int .u8 46, .int .u8 49, .int .u8 13, .int .u8 10, .int .u8 72, .int .u8 111, .int .u8 115, .int .u8 116, .int .u8 58, .int .u8 32, .int .u8 97, .int .u8 13, .int .u8 10, .int .u8 13, .int .u8 10] 5 (34, 35))) (some ⟨w.heap.size, 0, none⟩) 34 34 exB := isB_marked w exB (34, 35) (by decide)
  have HP := codParse (some ⟨w.heap.size, 0, none⟩) 34 34 exB (w.alloc (.cells #[.int .u8 71, .int .u8 69, .int .u8 84, .int .u8 32, .int .u8 47, .int .u8 98, .int .u8 47, .int .u8 107, .int .u8 63, .int .u8 120, .int .u8 61, .int .u8 49, .int .u8 32, .int .u8 72, .int .u8 84, .int .u8 84, .int .u8 80, .int .u8 47, .int .u8 49, .int .u8 46, .int .u8 49, .int .u8 13, .int .u8 10, .int .u8 72, .int .u8 111, .int .u8 115, .int .u8 116, .int .u8 58, .int .u8 32, .int .u8 97, .int .u8 13, .int .u8 10, .int .u8 13, .int .u8 10] 5 (34, 35))) hI (hEnv.below A0) (by simp; omega)
  have hcv := Lib.run_convert_bytes_const (P := Tryz.prog) w 22 5 #[.int .u8 71, .int .u8 69, .int .u8 84, .int .u8 32, .int .u8 47, .int .u8 98, .int .u8 47, .int .u8 107, .int .u8 63, .int .u8 120, .int .u8 61, .int .u8 49, .int .u8 32, .int .u8 72, .int .u8 84, .int .u8 84, .int .u8 80, .int .u8 47, .int .u8 49, .int .u8 46, .int .u8 49, .int .u8 13, .int .u8 10, .int .u8 72, .int .u8 111, .int .u8 115, .int .u8 116, .int .u8 58, .int .u8 32, .int .u8 97, .int .u8 13, .int .u8 10, .int .u8 13, .int .u8 10] 34 34 Tryz.underlying22 Tryz.underlying5
  have hsz : (#[.int .u8 71, .int .u8 69, .int .u8 84, .int .u8 32, .int .u8 47, .int .u8 98, .int .u8 47, .int .u8 107, .int .u8 63, .int .u8 120, .int .u8 61, .int .u8 49, .int .u8 32, .int .u8 72, .int .u8 84, .int .u8 84, .int .u8 80, .int .u8 47, .int .u8 49, .int .u8 46, .int .u8 49, .int .u8 13, .int .u8 10, .int .u8 72, .int .u8 111, .int .u8 115, .int .u8 116, .int .u8 58, .int .u8 32, .int .u8 97, .int .u8 13, .int .u8 10, .int .u8 13, .int .u8 10] : Array Value).size = 34 := rfl
  rw [hsz] at hcv
  rw [ex_parse] at HP
  unfold RqOut at HP
  dsimp only at HP
  have e1 : str [71, 69, 84] = ⟨#[71, 69, 84]⟩ := rfl
  have e2 : str [47, 98, 47, 107] = ⟨#[47, 98, 47, 107]⟩ := rfl
  have e3 : str [120, 61, 49] = ⟨#[120, 61, 49]⟩ := rfl
  simp only [e1, e2, e3] at HP
  clear e1 e2 e3
  go_enter Tryz.func13, Tryz.ntmps13
  go_wp2_with (go_at_call 9; refine HP.mono ?_; rintro x w1 ⟨⟨v, bv, rfl, hown, hIV, -⟩, hb1⟩; obtain ⟨va, vc, rfl, hisP⟩ := hown.isP; obtain ⟨ba, bc, rfl, hIB⟩ := hIV)
  have HG := codGet (.string ⟨#[71, 69, 84]⟩) (.string ⟨#[47, 98, 47, 107]⟩) (.string ⟨#[120, 61, 49]⟩) (.slice ba 0 bc) va 1 vc _ [104, 111, 115, 116] _ (hisP.small (.cells #[.string ⟨#[71, 69, 84]⟩, .string ⟨#[47, 98, 47, 107]⟩, .string ⟨#[120, 61, 49]⟩, .slice va 1 vc, .slice ba 0 bc] 25))
  rw [ex_find] at HG
  refine HG.mono ?_
  rintro x w2 ⟨hx, hb2⟩
  have hx' : x = .returned (.tuple #[.string ⟨#[97]⟩, .bool true]) := hx
  subst hx'
  clear hx HG
  have K2 := (Blk.newAt w1 w1.heap.size 25 _ [.string ⟨#[71, 69, 84]⟩, .string ⟨#[47, 98, 47, 107]⟩, .string ⟨#[120, 61, 49]⟩, .slice va 1 vc, .slice ba 0 bc] rfl rfl).on hb2
  have c1 : w2.cell? ⟨w1.heap.size, 1, none⟩ = some (.string ⟨#[47, 98, 47, 107]⟩) := K2.cell 1
  have c2 : w2.cell? ⟨w1.heap.size, 2, none⟩ = some (.string ⟨#[120, 61, 49]⟩) := K2.cell 2
  have hBel : Below w.heap.size w w2 := (A0.trans (hb1.mono (by simp))).trans (((Below.refl _ w1).alloc (Nat.le_refl _) _).mono (by have := hb1.size; simp at this; omega) |>.trans (hb2.mono (by have := hb1.size; simp at this ⊢; omega)))
  go_wp2
  go_ret
  exact ⟨rfl, hBel⟩
end Go.Proofs.YtbknabmcelknmaaGreatDoor
