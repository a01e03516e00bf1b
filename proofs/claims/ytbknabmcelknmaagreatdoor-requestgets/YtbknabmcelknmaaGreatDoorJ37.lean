/- For every request and name the program's Get answers as the document's does, and the chapter's example is read. What the bound of the second form gives: lengths. -/
import Derived.Test.YtbknabmcelknmaaGreatDoorR5t
import Derived.Test.YtbknabmcelknmaaGreatDoorRows
import Derived.Test.YtbknabmcelknmaaGreatDoorJ0
import Derived.ProofKit
namespace Go.Proofs.YtbknabmcelknmaaGreatDoor
open Go.RowKit

set_option maxRecDepth 20000 in
set_option maxHeartbeats 400000 in
theorem walkGets (m p q : ByteArray) (ba : Option Addr) (bn bc : Nat) (a : Option Addr) (n cap : Nat) (l : List Pr) (nm : List UInt8) (w : World) (h : IsP w a n cap l) (hn : n ≤ 4398046510976) (hE : Env w) (hg : 9 ≤ w.heap.size) :
    Calls Tryz.prog 5 #[.agg #[.string m, .string p, .string q, .slice a n cap, .slice ba bn bc], .string (str nm)] w fun e w' => e = .returned (.bool true) ∧ Below w.heap.size w w' := by
  have B0 : Below w.heap.size w (w.alloc (.cells #[.string m, .string p, .string q, .slice a n cap, .slice ba bn bc] 31)) := (Below.refl _ w).alloc (Nat.le_refl _) _
  have K0 := Blk.newAt w w.heap.size 31 _ [.string m, .string p, .string q, .slice a n cap, .slice ba bn bc] rfl rfl
  have HO := lawOwn5 m p q ba bn bc a n cap l (w.alloc (.cells #[.string m, .string p, .string q, .slice a n cap, .slice ba bn bc] 31)) (h.below B0 rfl) hn
  have HA : ∀ w1, Below w.heap.size w w1 → Calls Tryz.prog 13 #[] w1 fun e w' => e = .returned (.bool true) ∧ Below w1.heap.size w1 w' := fun w1 hb => lawAlive w1 (hE.below hb) (Nat.le_trans hg hb.size)
  have HG : ∀ va vc w1, IsP w1 va l.length vc l → Calls Tryz.prog 18 #[.agg #[.string m, .string p, .string q, .slice va l.length vc, .slice ba bn bc], .string (str nm)] w1 fun e w' => e = .returned (.tuple #[.string (str ((findL l nm).getD [])), .bool (findL l nm).isSome]) ∧ Below w1.heap.size w1 w' := fun va vc w1 hi => codGet (.string m) (.string p) (.string q) (.slice ba bn bc) va l.length vc l nm w1 hi
  have HR : ∀ w1, Below w.heap.size w w1 → Calls Tryz.prog 19 #[.agg #[.string m, .string p, .string q, .slice a n cap, .slice ba bn bc], .string (str nm)] w1 fun e w' => e = .returned (.tuple #[.string (str ((findL l nm).getD [])), .bool (findL l nm).isSome]) ∧ Below w1.heap.size w1 w' := fun w1 hb => refGet (.string m) (.string p) (.string q) (.slice ba bn bc) a n cap l nm w1 (h.below hb rfl)
  generalize str ((findL l nm).getD []) = rs at *
  generalize (findL l nm).isSome = rb at *
  generalize str nm = s at *
  have hq : (rs.toList == rs.toList) = true := by simp
  have hq2 : (rb == rb) = true := by simp
  clear h hE hg
  have HT : ∀ w1 w2, Below (w.alloc (.cells #[.string m, .string p, .string q, .slice a n cap, .slice ba bn bc] 31)).heap.size (w.alloc (.cells #[.string m, .string p, .string q, .slice a n cap, .slice ba bn bc] 31)) w1 → Below w1.heap.size w1 w2 → Below w.heap.size w w2 := fun w1 w2 h1 h2 => (B0.trans (h1.mono B0.size)).trans (h2.mono (Nat.le_trans B0.size h1.size))
  go_enter Tryz.func5, Tryz.ntmps5
  go_wp2_with (first
    | (go_at_call 15; refine HO.mono ?_; rintro e w1 ⟨v, rfl, hown, hb1⟩; obtain ⟨va, vc, rfl, hisP⟩ := hown.isP)
    | (go_at_call 18; refine (HG _ _ _ hisP).mono ?_; rintro e w2 ⟨rfl, hb2⟩; have K2 := (K0.on hb1).on hb2; have c0 := K2.cell 0; have c1 := K2.cell 1; have c2 := K2.cell 2; have c3 := K2.cell 3; have c4 := K2.cell 4)
    | (go_at_call 19; refine (HR _ (HT _ _ hb1 hb2)).mono ?_; rintro e w3 ⟨rfl, hb3⟩)
    | (go_at_call 13; refine (HA _ ((HT _ _ hb1 hb2).trans (hb3.mono (HT _ _ hb1 hb2).size))).mono ?_; rintro e w4 ⟨rfl, hb4⟩))
  go_ret
  exact ⟨rfl, ((HT _ _ hb1 hb2).trans (hb3.mono (HT _ _ hb1 hb2).size)).trans (hb4.mono ((HT _ _ hb1 hb2).trans (hb3.mono (HT _ _ hb1 hb2).size)).size)⟩
end Go.Proofs.YtbknabmcelknmaaGreatDoor
namespace Go.Proofs.YtbknabmcelknmaaGreatDoor
open Go.ChangeShapes

theorem bulk_pos {H : Type} (d : DataW H) : 1 ≤ Rows.uptoBulk d := by
  cases d with
  | lit l => cases l <;> simp only [Rows.uptoBulk] <;> omega
  | nil => simp only [Rows.uptoBulk]; omega
  | ptr d => simp only [Rows.uptoBulk]; omega
  | slice es sp => simp only [Rows.uptoBulk]; omega
  | agg ps => simp only [Rows.uptoBulk]; omega
  | iface t d => simp only [Rows.uptoBulk]; omega
  | map es => simp only [Rows.uptoBulk]; omega
  | held h => simp only [Rows.uptoBulk]; omega

theorem bulk_count {H : Type} : ∀ l : List (DataW H), l.length ≤ Rows.uptoBulkAll l
  | [] => Nat.zero_le _
  | d :: l => by
    have h1 := bulk_pos d
    have h2 := bulk_count l
    simp only [Rows.uptoBulkAll, List.length_cons]; omega

theorem bulk_slice {H : Type} (es sp : List (DataW H)) : es.length ≤ Rows.uptoBulk (.slice es sp) := by
  have := bulk_count es
  simp only [Rows.uptoBulk]; omega

theorem bulk_string {H : Type} (s : ByteArray) : s.size ≤ Rows.uptoBulk (DataW.lit (H := H) (.string s.data.toList)) := by
  have e : s.data.toList.length = s.size := by rw [Array.length_toList]; rfl
  simp only [Rows.uptoBulk]; omega

theorem bulk_all {H : Type} {l : List (DataW H)} (hk : Rows.uptoSmall H l = true) : Rows.uptoBulkAll l ≤ 1048576 := of_decide_eq_true hk
end Go.Proofs.YtbknabmcelknmaaGreatDoor
