/- The document's Same, of two requests that are the same. -/
import Derived.Test.YtgjmaeodgcigdaaGreatDoorB21
import Derived.Test.YtgjmaeodgcigdaaGreatDoorB19
namespace Go.Proofs.YtgjmaeodgcigdaaGreatDoor
open Go.RowKit

set_option maxRecDepth 20000 in
set_option maxHeartbeats 2000000 in
theorem refSame5 (m p q : ByteArray) (a1 : Option Addr) (c1 : Nat) (a2 : Option Addr) (c2 : Nat) (n : Nat) (l : List Pr) (e1 : Option Addr) (d1 : Nat) (e2 : Option Addr) (d2 k0 : Nat) (bl : List UInt8) (w : World)
    (h1 : IsP w a1 n c1 l) (h2 : IsP w a2 n c2 l) (g1 : IsB w e1 k0 d1 bl) (g2 : IsB w e2 k0 d2 bl) :
    Calls Tryz.prog 26 #[.agg #[.string m, .string p, .string q, .slice a1 n c1, .slice e1 k0 d1], .agg #[.string m, .string p, .string q, .slice a2 n c2, .slice e2 k0 d2]] w fun e w' => e = .returned (.bool true) ∧ Below w.heap.size w w' := by
  have T0 : Below w.heap.size w (w.alloc (.cells #[.string m, .string p, .string q, .slice a1 n c1, .slice e1 k0 d1] 25)) := (Below.refl _ w).alloc (Nat.le_refl _) _
  have T1 : Below w.heap.size w ((w.alloc (.cells #[.string m, .string p, .string q, .slice a1 n c1, .slice e1 k0 d1] 25)).alloc (.cells #[.string m, .string p, .string q, .slice a2 n c2, .slice e2 k0 d2] 25)) := T0.alloc T0.size _
  have K1 := (Blk.newAt w w.heap.size 25 _ [.string m, .string p, .string q, .slice a1 n c1, .slice e1 k0 d1] rfl rfl).alloc (.cells #[.string m, .string p, .string q, .slice a2 n c2, .slice e2 k0 d2] 25)
  have K2 := Blk.newAt (w.alloc (.cells #[.string m, .string p, .string q, .slice a1 n c1, .slice e1 k0 d1] 25)) (w.heap.size + 1) 25 _ [.string m, .string p, .string q, .slice a2 n c2, .slice e2 k0 d2] (by simp) rfl
  have hn : n ≤ 9223372036854775807 := by have := h1.le; have := h1.max; unfold maxLen at this; omega
  have v1 := conv_isB _ _ _ _ _ (g1.below T1 rfl)
  have v2 := conv_isB _ _ _ _ _ (g2.below T1 rfl)
  have H1 : Hid (IsP w a1 n c1 l) := h1
  have H2 : Hid (IsP w a2 n c2 l) := h2
  have x0 := K1.cell 0
  have x1 := K1.cell 1
  have x2 := K1.cell 2
  have x3 := K1.cell 3
  have x4 := K1.cell 4
  have y0 := K2.cell 0
  have y1 := K2.cell 1
  have y2 := K2.cell 2
  have y3 := K2.cell 3
  have y4 := K2.cell 4
  simp only [List.getElem?_cons_zero, List.getElem?_cons_succ] at x0 x1 x2 x3 x4 y0 y1 y2 y3 y4
  clear h1 h2 g1 g2 K1 K2 T0
  generalize str bl = sb at *
  go_enter Tryz.func26, Tryz.ntmps26
  go_wp2
  generalize hW : ((w.alloc (.cells #[.string m, .string p, .string q, .slice a1 n c1, .slice e1 k0 d1] 25)).alloc (.cells #[.string m, .string p, .string q, .slice a2 n c2, .slice e2 k0 d2] 25)) = W at *
  clear hW v1 v2
  go_loopw [5] (fun i wr => ∃ (k : Nat), k ≤ n ∧ i = .int .i64 k ∧ Hid (Below w.heap.size w wr ∧ wr.cell? ⟨w.heap.size, 3, none⟩ = some (.slice a1 n c1) ∧ wr.cell? ⟨w.heap.size + 1, 3, none⟩ = some (.slice a2 n c2))) (fun i _ => n - (intOf i).toNat)
  case atStart => exact ⟨0, Nat.zero_le _, rfl, T1, x3, y3⟩
  case round =>
    obtain ⟨k, hk, rfl, HR⟩ := hrel
    obtain ⟨T2, z3, z4⟩ := HR.out
    by_cases hlt : k < n
    · obtain ⟨b1, o1, rfl, hc1⟩ := H1.out.cells (by omega)
      obtain ⟨b2, o2, rfl, hc2⟩ := H2.out.cells (by omega)
      obtain ⟨p1, p2⟩ := hc1 k hlt
      obtain ⟨p3, p4⟩ := hc2 k hlt
      have q1 := (T2.cell (p := ⟨b1, o1 + k * 2, none⟩) (cell_lt p1)).trans p1
      have q2 := (T2.cell (p := ⟨b1, o1 + k * 2 + 1, none⟩) (cell_lt p2)).trans p2
      have q3 := (T2.cell (p := ⟨b2, o2 + k * 2, none⟩) (cell_lt p3)).trans p3
      have q4 := (T2.cell (p := ⟨b2, o2 + k * 2 + 1, none⟩) (cell_lt p4)).trans p4
      have hb0 : (0 : Int) ≤ (k : Int) := by omega
      have hb1 : (k : Int) < (n : Int) := by omega
      have hs1 : ((str (nthP l k).1).toList == (str (nthP l k).1).toList) = true := by simp
      have hs2 : ((str (nthP l k).2).toList == (str (nthP l k).2).toList) = true := by simp
      clear p1 p2 p3 p4 hc1 hc2 x0 x1 x2 x3 x4 y0 y1 y2 y3 y4
      generalize str (nthP l k).1 = s1 at *
      generalize str (nthP l k).2 = s2 at *
      go_wp2
      go_quiet (fail)
      go_wp2
      go_roundw
      case rel => exact ⟨k + 1, hlt, by go_num, bel_drewN T2 _, by simpa using z3, by simpa using z4⟩
      case measure => simp [intOf]; omega
    · have hge : ¬ (k : Int) < (n : Int) := by omega
      go_wp2
      go_ret
      exact ⟨rfl, T2⟩
end Go.Proofs.YtgjmaeodgcigdaaGreatDoor
