/- strconv.FormatUint at base 10. What strings.Cut answers, at a separator of one byte. -/
import Derived.Test.YtbknabmcelknmaaGreatDoorReq5
import Derived.Test.YtbknabmcelknmaaGreatDoorShelf5
import Derived.Lib.AppendIntMem
import Derived.Lib.OwnBridge
import Derived.Test.YtbknabmcelknmaaGreatDoorJ2
import Derived.Test.YtbknabmcelknmaaGreatDoorJ8
import Derived.Test.YtbknabmcelknmaaGreatDoorShelf1
import Derived.BigQuiet
namespace Go.Proofs.YtbknabmcelknmaaGreatDoor
open Go.RowKit Go.Shelf Go.Sort Go.Lib

theorem bel_put {α : Type} [Inhabited α] {enc : α → Value} {B : Nat} {w0 w : World} {g o : Nat} {d : Array α} (h : Below B w0 w) (hg : B ≤ g) : Below B w0 (putRow enc w g o d) :=
  ⟨h.os, h.tape, h.output, by simpa [putRow, mapBlock] using h.size, fun k hk => by
    rw [← h.block k hk]
    simp [putRow, mapBlock, Array.getElem?_modify, show g ≠ k by omega]⟩

set_option maxHeartbeats 2000000 in
set_option maxRecDepth 100000 in
theorem codFormat0 (u : Nat) (w : World) (hu64 : u < 18446744073709551616) (htab : Lib.TabIs Tryz.prog w "internal/strconv.uint64pow10" .u64 Lib.pow10Tab) :
    Calls Tryz.prog 62 #[.int .u64 (u : Int), .int .i64 10] w fun e w' => e = .returned (.string (str (Lib.decDigits u))) ∧ Below w.heap.size w w' := by
  by_cases hs : u < 100
  · have hs' : (u : Int) < 100 := by omega
    have HC := fun w => Tryz.internal_strconv_small u hs w
    go_enter Tryz.func62, Tryz.ntmps62
    go_wp2_with (go_at_call 88; refine (HC _).mono ?_; rintro e w' ⟨rfl, hww⟩; rw [hww]; clear hww w')
    go_ret
    exact ⟨rfl, Below.refl _ _⟩
  · have hs' : ¬ (u : Int) < 100 := by omega
    have hu1 : 1 ≤ u := by omega
    have hnd20 : Lib.nDigits u ≤ 20 := by have := Lib.numDigits_eq u hu1 hu64; split at this <;> omega
    have hal : Tryz.prog.arrayLen 132 = 24 := by simp [Program.arrayLen, Tryz.underlying132]
    have hsl1 : ∀ W, (Instr.sliceAt 132 (.pointer (some ⟨w.heap.size, 0, none⟩)) none (some (.int .i64 (Lib.nDigits u : Int))) none).run Tryz.prog W = .ok (.slice (some ⟨w.heap.size, 0, none⟩) (Lib.nDigits u) 24) W := fun W => by
      rw [run_sliceAt_array_h W 132 ⟨w.heap.size, 0, none⟩ (by simp [Program.arrayLen, Program.elem, Tryz.underlying132]) .i64 (Lib.nDigits u : Int) (by omega) (by rw [hal]; omega)]
      go_simp
    have hH0 := Lib.holds_zero0 w 132 (Lib.nDigits u) (by omega)
    have hfmt := Tryz.internal_strconv_formatBase10 w.heap.size 0 24 u (Array.replicate (Lib.nDigits u) 0) (w.alloc (.cells Lib.zeros24 132)) hH0 (by rw [Array.size_replicate]; exact Lib.lt_pow_nDigits u) hu64 (by rw [Array.size_replicate]; omega)
    rw [Array.size_replicate] at hfmt
    have HH0 := Lib.hid hH0
    clear hH0 hal
    go_enter Tryz.func62, Tryz.ntmps62
    go_wp2_with (go_at_call 89; refine (Tryz.internal_strconv_numDigits u hu1 hu64 _ (Lib.tabIs_alloc htab _)).mono ?_; rintro e w' ⟨rfl, rfl⟩)
    refine hfmt.mono ?_
    rintro e w' ⟨rfl, k, v', dk, rfl, hF⟩
    have hcv : (convert 22 9 (.slice (some ⟨w.heap.size, 0, none⟩) (Lib.nDigits u) 24)).run Tryz.prog ((putRow (fun (b : UInt8) => Value.int .u8 (b.toNat : Int)) (w.alloc (.cells Lib.zeros24 132)) w.heap.size 0 dk).drewN k) = .ok (.string (str (Lib.decDigits u))) ((putRow (fun (b : UInt8) => Value.int .u8 (b.toNat : Int)) (w.alloc (.cells Lib.zeros24 132)) w.heap.size 0 dk).drewN k) := by
      have h := run_convert_bytes_back (P := Tryz.prog) ((putRow (fun (b : UInt8) => Value.int .u8 (b.toNat : Int)) (w.alloc (.cells Lib.zeros24 132)) w.heap.size 0 dk).drewN k) 22 9 5 ⟨w.heap.size, 0, none⟩ 24 (Lib.decDigits u) Tryz.underlying22 Tryz.underlying5 Tryz.underlying9 (fun j hj => by
        rw [Lib.row_is_numeral hF j hj, Lib.add_plain, World.cell?_drewN]
        exact cell?_putRow (fun (b : UInt8) => Value.int .u8 (b.toNat : Int)) _ w.heap.size 0 _ dk HH0.out (by rw [hF.size, Array.size_replicate]) j (by rw [hF.size]; rw [Lib.decDigits_length] at hj; exact hj))
      rw [Lib.decDigits_length] at h
      exact h
    have hBel : Below w.heap.size w ((putRow (fun (b : UInt8) => Value.int .u8 (b.toNat : Int)) (w.alloc (.cells Lib.zeros24 132)) w.heap.size 0 dk).drewN k) :=
      bel_drewN (bel_put ((Below.refl _ w).alloc (Nat.le_refl _) _) (Nat.le_refl _)) k
    go_wp2
    go_ret
    exact ⟨rfl, hBel⟩
theorem codFormat (u : Nat) (w : World) (hu64 : u < 18446744073709551616) (htab : Lib.TabIs Tryz.prog w "internal/strconv.uint64pow10" .u64 Lib.pow10Tab) :
    Calls Tryz.prog 41 #[.int .u64 (u : Int), .int .i64 10] w fun e w' => e = .returned (.string (str (Lib.decDigits u))) ∧ Below w.heap.size w w' := by
  have HC := codFormat0 u w hu64 htab
  generalize str (Lib.decDigits u) = s at *
  go_enter Tryz.func41, Tryz.ntmps41
  go_wp2_with (go_at_call 62; refine HC.mono ?_; rintro e w' ⟨rfl, hb⟩)
  go_ret
  exact ⟨rfl, hb⟩
end Go.Proofs.YtbknabmcelknmaaGreatDoor
namespace Go.Proofs.YtbknabmcelknmaaGreatDoor
open Go.RowKit

theorem idx_cases (c : UInt8) (l : List UInt8) :
    (Lib.indexByte l c = -1 ∧ headL c l = l ∧ tailL c l = [] ∧ hasL c l = false) ∨
    ∃ k : Nat, k < l.length ∧ Lib.indexByte l c = (k : Int) ∧ headL c l = l.take k ∧ tailL c l = l.drop (k + 1) ∧ hasL c l = true := by
  induction l with
  | nil => exact .inl ⟨rfl, rfl, rfl, rfl⟩
  | cons b l ih =>
    by_cases hb : b = c
    · subst hb
      exact .inr ⟨0, by simp, by simp [Lib.indexByte], by simp [headL], by simp [tailL], by simp [hasL]⟩
    · have e1 : headL c (b :: l) = b :: headL c l := by unfold headL; rw [List.takeWhile_cons_of_pos (by simpa using hb)]
      have e2 : tailL c (b :: l) = tailL c l := by unfold tailL; rw [List.dropWhile_cons_of_pos (by simpa using hb)]
      have e3 : hasL c (b :: l) = hasL c l := by unfold hasL; simp [Ne.symm hb]
      have e4 : Lib.indexByte (b :: l) c = if Lib.indexByte l c == -1 then -1 else Lib.indexByte l c + 1 := by rw [Lib.indexByte]; simp [hb]
      rw [e1, e2, e3, e4]
      rcases ih with ⟨h1, h2, h3, h4⟩ | ⟨k, hk, h1, h2, h3, h4⟩
      · refine .inl ⟨by rw [h1]; rfl, by rw [h2], h3, h4⟩
      · refine .inr ⟨k + 1, by simp; omega, ?_, by rw [h2]; rfl, by rw [h3]; rfl, h4⟩
        rw [h1]
        have : ¬ ((k : Int) == -1) = true := by simp
        rw [if_neg this]; omega

theorem ret_ssb {a b c d : ByteArray} {x y : Bool} (h : a = b) (h2 : c = d) (h3 : x = y) : Ending.returned (.tuple #[.string a, .string c, .bool x]) = .returned (.tuple #[.string b, .string d, .bool y]) := by rw [h, h2, h3]

set_option maxHeartbeats 1000000 in
theorem codCut0 (s : ByteArray) (c : UInt8) (w : World) (hs : s.size ≤ 40000000000000) :
    Calls Tryz.prog 93 #[.string s, .string ⟨#[c]⟩] w fun e w' => e = .returned (.tuple #[.string (str (headL c s.data.toList)), .string (str (tailL c s.data.toList)), .bool (hasL c s.data.toList)]) ∧ Below w.heap.size w w' := by
  have HL : s.data.toList.length = s.size := by rw [Array.length_toList]; rfl
  have HC := fun w => Tryz.stringslite_Index_one s c w
  have hone : (ByteArray.mk #[c]).size = 1 := rfl
  have T1 : Hid (∀ k, s.extract 0 k = str (s.data.toList.take k)) := fun k => ext_take s k
  have T2 : Hid (∀ k, s.extract k s.size = str (s.data.toList.drop k)) := fun k => ext_drop s k
  have T3 : Hid (str s.data.toList = s) := str_of s
  rcases idx_cases c s.data.toList with ⟨h1, h2, h3, h4⟩ | ⟨k, hk, h1, h2, h3, h4⟩
  · rw [h1] at HC
    rw [h2, h3, h4]
    clear h1 h2 h3 h4 HL
    generalize str s.data.toList = s' at *
    generalize ByteArray.mk #[c] = cc at *
    go_enter Tryz.func93, Tryz.ntmps93
    go_wp2_with (go_at_call 100; refine (HC _).mono ?_; rintro e w' ⟨rfl, hww⟩; rw [hww]; clear hww w')
    go_ret3
    exact ⟨ret_ssb (by rw [T3.out]) rfl rfl, Below.refl _ _⟩
  · rw [h1] at HC
    rw [h2, h3, h4]
    have hb0 : (0 : Int) ≤ (k : Int) := by omega
    have hb1 : (k : Int) < (s.size : Int) := by omega
    have hb2 : (k : Int) + 1 ≤ (s.size : Int) := by omega
    clear h1 h2 h3 h4 HL hk
    have U1 : Hid (s.extract 0 k = str (s.data.toList.take k)) := T1.out k
    have U2 : Hid (s.extract (k + 1) s.size = str (s.data.toList.drop (k + 1))) := T2.out (k + 1)
    clear T1 T2 T3
    generalize str (s.data.toList.take k) = s1 at *
    generalize str (s.data.toList.drop (k + 1)) = s2 at *
    go_enter Tryz.func93, Tryz.ntmps93
    go_wp2_with (go_at_call 100; refine (HC _).mono ?_; rintro e w' ⟨rfl, hww⟩; rw [hww]; clear hww w')
    go_quiet (fail)
    go_wp2
    go_ret3
    exact ⟨ret_ssb U1.out U2.out rfl, bel_drewN (Below.refl _ _) _⟩

set_option maxHeartbeats 1000000 in
theorem codCut (l : List UInt8) (c : UInt8) (w : World) (hs : l.length ≤ 40000000000000) :
    Calls Tryz.prog 65 #[.string (str l), .string ⟨#[c]⟩] w fun e w' => e = .returned (.tuple #[.string (str (headL c l)), .string (str (tailL c l)), .bool (hasL c l)]) ∧ Below w.heap.size w w' := by
  have HC := codCut0 (str l) c w (by rw [str_size]; exact hs)
  rw [str_list] at HC
  generalize str l = s at *
  generalize str (headL c l) = s1 at *
  generalize str (tailL c l) = s2 at *
  generalize hasL c l = b at *
  generalize ByteArray.mk #[c] = cc at *
  go_enter Tryz.func65, Tryz.ntmps65
  go_wp2_with (go_at_call 93; refine HC.mono ?_; rintro e w' ⟨rfl, hb⟩)
  go_ret3
  exact ⟨rfl, hb⟩
end Go.Proofs.YtbknabmcelknmaaGreatDoor
