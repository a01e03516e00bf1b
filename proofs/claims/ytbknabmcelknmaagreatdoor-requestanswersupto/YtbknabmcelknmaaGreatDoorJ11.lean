/- strconv.FormatUint at base 10. What strings.Cut answers, at a separator of one byte. Slices of pairs that a call makes. -/
import Derived.Test.YtbknabmcelknmaaGreatDoorReq5
import Derived.Test.YtbknabmcelknmaaGreatDoorShelf5
import Derived.Lib.AppendIntMem
import Derived.Lib.OwnBridge
import Derived.Test.YtbknabmcelknmaaGreatDoorJ1
import Derived.Test.YtbknabmcelknmaaGreatDoorJ6
import Derived.Test.YtbknabmcelknmaaGreatDoorShelf1
import Derived.BigQuiet
import Derived.Test.YtbknabmcelknmaaGreatDoorJ5
namespace Go.Proofs.YtbknabmcelknmaaGreatDoor
open Go.RowKit Go.Shelf Go.Sort Go.Lib

theorem bel_put {α : Type} [Inhabited α] {enc : α → Value} {B : Nat} {w0 w : World} {g o : Nat} {d : Array α} (h : Below B w0 w) (hg : B ≤ g) : Below B w0 (putRow enc w g o d) :=
  ⟨h.os, h.tape, h.output, by simpa [putRow, mapBlock] using h.size, fun k hk => by
    rw [← h.block k hk]
    simp [putRow, mapBlock, Array.getElem?_modify, show g ≠ k by omega]⟩

set_option maxHeartbeats 2000000 in
set_option maxRecDepth 100000 in
theorem codFormat0 (u : Nat) (w : World) (hu64 : u < 18446744073709551616) (htab : Lib.TabIs Tryz.prog w "internal/strconv.uint64pow10" .u64 Lib.pow10Tab) :
    Calls Tryz.prog 62 #[.int .u64 (u : Int), .int .i64 10] w fun e w' => e = .returned (.string (str (Lib.decDigits u))) ∧ Below w.heap.size w w' := by
  by_cases hs : u < 100
  · have hs' : (u : Int) < 100 := by omega
    have HC := fun w => Tryz.internal_strconv_small u hs w
    go_enter Tryz.func62, Tryz.ntmps62
    go_wp2_with (go_at_call 88; refine (HC _).mono ?_; rintro e w' ⟨rfl, hww⟩; rw [hww]; clear hww w')
    go_ret
    exact ⟨rfl, Below.refl _ _⟩
  · have hs' : ¬ (u : Int) < 100 := by omega
    have hu1 : 1 ≤ u := by omega
    have hnd20 : Lib.nDigits u ≤ 20 := by have := Lib.numDigits_eq u hu1 hu64; split at this <;> omega
    have hal : Tryz.prog.arrayLen 132 = 24 := by simp [Program.arrayLen, Tryz.underlying132]
    have hsl1 : ∀ W, (Instr.sliceAt 132 (.pointer (some ⟨w.heap.size, 0, none⟩)) none (some (.int .i64 (Lib.nDigits u : Int))) none).run Tryz.prog W = .ok (.slice (some ⟨w.heap.size, 0, none⟩) (Lib.nDigits u) 24) W := fun W => by
      rw [run_sliceAt_array_h W 132 ⟨w.heap.size, 0, none⟩ (by simp [Program.arrayLen, Program.elem, Tryz.underlying132]) .i64 (Lib.nDigits u : Int) (by omega) (by rw [hal]; omega)]
      go_simp
    have hH0 := Lib.holds_zero0 w 132 (Lib.nDigits u) (by omega)
    have hfmt := Tryz.internal_strconv_formatBase10 w.heap.size 0 24 u (Array.replicate (Lib.nDigits u) 0) (w.alloc (.cells Lib.zeros24 132)) hH0 (by rw [Array.size_replicate]; exact Lib.lt_pow_nDigits u) hu64 (by rw [Array.size_replicate]; omega)
    rw [Array.size_replicate] at hfmt
    have HH0 := Lib.hid hH0
    clear hH0 hal
    go_enter Tryz.func62, Tryz.ntmps62
    go_wp2_with (go_at_call 89; refine (Tryz.internal_strconv_numDigits u hu1 hu64 _ (Lib.tabIs_alloc htab _)).mono ?_; rintro e w' ⟨rfl, rfl⟩)
    refine hfmt.mono ?_
    rintro e w' ⟨rfl, k, v', dk, rfl, hF⟩
    have hcv : (convert 22 9 (.slice (some ⟨w.heap.size, 0, none⟩) (Lib.nDigits u) 24)).run Tryz.prog ((putRow (fun (b : UInt8) => Value.int .u8 (b.toNat : Int)) (w.alloc (.cells Lib.zeros24 132)) w.heap.size 0 dk).drewN k) = .ok (.string (str (Lib.decDigits u))) ((putRow (fun (b : UInt8) => Value.int .u8 (b.toNat : Int)) (w.alloc (.cells Lib.zeros24 132)) w.heap.size 0 dk).drewN k) := by
      have h := run_convert_bytes_back (P := Tryz.prog) ((putRow (fun (b : UInt8) => Value.int .u8 (b.toNat : Int)) (w.alloc (.cells Lib.zeros24 132)) w.heap.size 0 dk).drewN k) 22 9 5 ⟨w.heap.size, 0, none⟩ 24 (Lib.decDigits u) Tryz.underlying22 Tryz.underlying5 Tryz.underlying9 (fun j hj => by
        rw [Lib.row_is_numeral hF j hj, Lib.add_plain, World.cell?_drewN]
        exact cell?_putRow (fun (b : UInt8) => Value.int .u8 (b.toNat : Int)) _ w.heap.size 0 _ dk HH0.out (by rw [hF.size, Array.size_replicate]) j (by rw [hF.size]; rw [Lib.decDigits_length] at hj; exact hj))
      rw [Lib.decDigits_length] at h
      exact h
    have hBel : Below w.heap.size w ((putRow (fun (b : UInt8) => Value.int .u8 (b.toNat : Int)) (w.alloc (.cells Lib.zeros24 132)) w.heap.size 0 dk).drewN k) :=
      bel_drewN (bel_put ((Below.refl _ w).alloc (Nat.le_refl _) _) (Nat.le_refl _)) k
    go_wp2
    go_ret
    exact ⟨rfl, hBel⟩
theorem codFormat (u : Nat) (w : World) (hu64 : u < 18446744073709551616) (htab : Lib.TabIs Tryz.prog w "internal/strconv.uint64pow10" .u64 Lib.pow10Tab) :
    Calls Tryz.prog 41 #[.int .u64 (u : Int), .int .i64 10] w fun e w' => e = .returned (.string (str (Lib.decDigits u))) ∧ Below w.heap.size w w' := by
  have HC := codFormat0 u w hu64 htab
  generalize str (Lib.decDigits u) = s at *
  go_enter Tryz.func41, Tryz.ntmps41
  go_wp2_with (go_at_call 62; refine HC.mono ?_; rintro e w' ⟨rfl, hb⟩)
  go_ret
  exact ⟨rfl, hb⟩
end Go.Proofs.YtbknabmcelknmaaGreatDoor
namespace Go.Proofs.YtbknabmcelknmaaGreatDoor
open Go.RowKit

theorem idx_cases (c : UInt8) (l : List UInt8) :
    (Lib.indexByte l c = -1 ∧ headL c l = l ∧ tailL c l = [] ∧ hasL c l = false) ∨
    ∃ k : Nat, k < l.length ∧ Lib.indexByte l c = (k : Int) ∧ headL c l = l.take k ∧ tailL c l = l.drop (k + 1) ∧ hasL c l = true := by
  induction l with
  | nil => exact .inl ⟨rfl, rfl, rfl, rfl⟩
  | cons b l ih =>
    by_cases hb : b = c
    · subst hb
      exact .inr ⟨0, by simp, by simp [Lib.indexByte], by simp [headL], by simp [tailL], by simp [hasL]⟩
    · have e1 : headL c (b :: l) = b :: headL c l := by unfold headL; rw [List.takeWhile_cons_of_pos (by simpa using hb)]
      have e2 : tailL c (b :: l) = tailL c l := by unfold tailL; rw [List.dropWhile_cons_of_pos (by simpa using hb)]
      have e3 : hasL c (b :: l) = hasL c l := by unfold hasL; simp [Ne.symm hb]
      have e4 : Lib.indexByte (b :: l) c = if Lib.indexByte l c == -1 then -1 else Lib.indexByte l c + 1 := by rw [Lib.indexByte]; simp [hb]
      rw [e1, e2, e3, e4]
      rcases ih with ⟨h1, h2, h3, h4⟩ | ⟨k, hk, h1, h2, h3, h4⟩
      · refine .inl ⟨by rw [h1]; rfl, by rw [h2], h3, h4⟩
      · refine .inr ⟨k + 1, by simp; omega, ?_, by rw [h2]; rfl, by rw [h3]; rfl, h4⟩
        rw [h1]
        have : ¬ ((k : Int) == -1) = true := by simp
        rw [if_neg this]; omega

theorem ret_ssb {a b c d : ByteArray} {x y : Bool} (h : a = b) (h2 : c = d) (h3 : x = y) : Ending.returned (.tuple #[.string a, .string c, .bool x]) = .returned (.tuple #[.string b, .string d, .bool y]) := by rw [h, h2, h3]

set_option maxHeartbeats 1000000 in
theorem codCut0 (s : ByteArray) (c : UInt8) (w : World) (hs : s.size ≤ 40000000000000) :
    Calls Tryz.prog 93 #[.string s, .string ⟨#[c]⟩] w fun e w' => e = .returned (.tuple #[.string (str (headL c s.data.toList)), .string (str (tailL c s.data.toList)), .bool (hasL c s.data.toList)]) ∧ Below w.heap.size w w' := by
  have HL : s.data.toList.length = s.size := by rw [Array.length_toList]; rfl
  have HC := fun w => Tryz.stringslite_Index_one s c w
  have hone : (ByteArray.mk #[c]).size = 1 := rfl
  have T1 : Hid (∀ k, s.extract 0 k = str (s.data.toList.take k)) := fun k => ext_take s k
  have T2 : Hid (∀ k, s.extract k s.size = str (s.data.toList.drop k)) := fun k => ext_drop s k
  have T3 : Hid (str s.data.toList = s) := str_of s
  rcases idx_cases c s.data.toList with ⟨h1, h2, h3, h4⟩ | ⟨k, hk, h1, h2, h3, h4⟩
  · rw [h1] at HC
    rw [h2, h3, h4]
    clear h1 h2 h3 h4 HL
    generalize str s.data.toList = s' at *
    generalize ByteArray.mk #[c] = cc at *
    go_enter Tryz.func93, Tryz.ntmps93
    go_wp2_with (go_at_call 100; refine (HC _).mono ?_; rintro e w' ⟨rfl, hww⟩; rw [hww]; clear hww w')
    go_ret3
    exact ⟨ret_ssb (by rw [T3.out]) rfl rfl, Below.refl _ _⟩
  · rw [h1] at HC
    rw [h2, h3, h4]
    have hb0 : (0 : Int) ≤ (k : Int) := by omega
    have hb1 : (k : Int) < (s.size : Int) := by omega
    have hb2 : (k : Int) + 1 ≤ (s.size : Int) := by omega
    clear h1 h2 h3 h4 HL hk
    have U1 : Hid (s.extract 0 k = str (s.data.toList.take k)) := T1.out k
    have U2 : Hid (s.extract (k + 1) s.size = str (s.data.toList.drop (k + 1))) := T2.out (k + 1)
    clear T1 T2 T3
    generalize str (s.data.toList.take k) = s1 at *
    generalize str (s.data.toList.drop (k + 1)) = s2 at *
    go_enter Tryz.func93, Tryz.ntmps93
    go_wp2_with (go_at_call 100; refine (HC _).mono ?_; rintro e w' ⟨rfl, hww⟩; rw [hww]; clear hww w')
    go_quiet (fail)
    go_wp2
    go_ret3
    exact ⟨ret_ssb U1.out U2.out rfl, bel_drewN (Below.refl _ _) _⟩

set_option maxHeartbeats 1000000 in
theorem codCut (l : List UInt8) (c : UInt8) (w : World) (hs : l.length ≤ 40000000000000) :
    Calls Tryz.prog 65 #[.string (str l), .string ⟨#[c]⟩] w fun e w' => e = .returned (.tuple #[.string (str (headL c l)), .string (str (tailL c l)), .bool (hasL c l)]) ∧ Below w.heap.size w w' := by
  have HC := codCut0 (str l) c w (by rw [str_size]; exact hs)
  rw [str_list] at HC
  generalize str l = s at *
  generalize str (headL c l) = s1 at *
  generalize str (tailL c l) = s2 at *
  generalize hasL c l = b at *
  generalize ByteArray.mk #[c] = cc at *
  go_enter Tryz.func65, Tryz.ntmps65
  go_wp2_with (go_at_call 93; refine HC.mono ?_; rintro e w' ⟨rfl, hb⟩)
  go_ret3
  exact ⟨rfl, hb⟩
end Go.Proofs.YtbknabmcelknmaaGreatDoor
namespace Go.Proofs.YtbknabmcelknmaaGreatDoor
open Go.RowKit

/-- pairs as cells -/
def pcs : List Pr → List Value
  | [] => []
  | p :: l => sv p.1 :: sv p.2 :: pcs l
theorem pcs_append (l m : List Pr) : pcs (l ++ m) = pcs l ++ pcs m := by
  induction l with
  | nil => rfl
  | cons p l ih => simp only [List.cons_append, pcs, ih]
theorem pcs_length (l : List Pr) : (pcs l).length = l.length * 2 := by
  induction l with
  | nil => rfl
  | cons p l ih => simp only [pcs, List.length_cons, ih]; omega
theorem pcs_one (l : List Pr) : ∀ u ∈ pcs l, u.oneCell' = true := by
  induction l with
  | nil => intro u hu; cases hu
  | cons p l ih =>
    intro u hu
    simp only [pcs, List.mem_cons] at hu
    rcases hu with rfl | rfl | hu
    · rfl
    · rfl
    · exact ih u hu
theorem pcs_at (l : List Pr) (i : Nat) (h : i < l.length) : (pcs l)[i * 2]? = some (.string (str (nthP l i).1)) ∧ (pcs l)[i * 2 + 1]? = some (.string (str (nthP l i).2)) := by
  induction l generalizing i with
  | nil => simp at h
  | cons p l ih =>
    cases i with
    | zero => exact ⟨rfl, rfl⟩
    | succ i =>
      have := ih i (by simpa using h)
      rw [show (i + 1) * 2 = i * 2 + 1 + 1 by omega]
      exact this
/-- v owns the pairs l, in blocks from base on; e: the pairs' type -/
def OwnP (e : TypeId) (w : World) (base : Nat) (v : Value) (l : List Pr) : Prop := w.ownsRow base e 2 v l.length (pcs l)
theorem OwnP.nil (e : TypeId) (w : World) (base : Nat) : OwnP e w base (.slice none 0 0) [] := World.ownsRow_nil _ _ _ _
theorem OwnP.blk {e : TypeId} {w : World} {base : Nat} {v : Value} {l : List Pr} (h : OwnP e w base v l) : ∀ k, v.ownBlock = some k → base ≤ k ∧ k < w.heap.size := World.ownsRow.lt h
theorem OwnP.alloc {e : TypeId} {w : World} {base : Nat} {v : Value} {l : List Pr} (h : OwnP e w base v l) (o : Obj) : OwnP e (w.alloc o) base v l := World.ownsRow.alloc h o
theorem OwnP.heap {e : TypeId} {w w' : World} {base : Nat} {v : Value} {l : List Pr} (h : OwnP e w base v l) (eq : w'.heap = w.heap) : OwnP e w' base v l := by
  unfold OwnP World.ownsRow at *; rw [eq]; exact h
theorem OwnP.on {e : TypeId} {w w' : World} {base : Nat} {v : Value} {l : List Pr} (h : OwnP e w base v l) (hb : Below w.heap.size w w') : OwnP e w' base v l := by
  refine ⟨h.1, ?_⟩
  rcases h.2 with h2 | ⟨g, cap, cur, h3, h4, h5, h6⟩
  · exact .inl h2
  · exact .inr ⟨g, cap, cur, h3, h4, by rw [hb.block g (Array.getElem?_eq_some_iff.1 h5).1]; exact h5, h6⟩
theorem OwnT.on {w w' : World} {base n : Nat} {v : Value} {l : List (List UInt8)} (h : OwnT w base v l) (hb : Below n w w') (hn : n = w.heap.size) : OwnT w' base v l := by
  subst hn
  refine ⟨h.1, ?_⟩
  rcases h.2 with h2 | ⟨g, cap, cur, h3, h4, h5, h6⟩
  · exact .inl h2
  · exact .inr ⟨g, cap, cur, h3, h4, by rw [hb.block g (Array.getElem?_eq_some_iff.1 h5).1]; exact h5, h6⟩
theorem OwnP.isP {e : TypeId} {w : World} {base : Nat} {v : Value} {l : List Pr} (h : OwnP e w base v l) : ∃ a cap, v = .slice a l.length cap ∧ IsP w a l.length cap l := by
  obtain ⟨h1, h2⟩ := h
  rcases h2 with ⟨rfl, h0⟩ | ⟨g, cap, cur, rfl, hb, hg, hle, hmax, hsz, htk⟩
  · have : l = [] := List.eq_nil_of_length_eq_zero h0
    subst this
    exact ⟨none, 0, rfl, rfl, Nat.le_refl _, Nat.zero_le _, fun _ => rfl, fun hp => absurd hp (Nat.lt_irrefl 0)⟩
  · refine ⟨_, cap, rfl, rfl, hle, hmax, fun e => (by cases e), fun hp => ⟨g, 0, rfl, fun i hi => ?_⟩⟩
    have hown : w.ownsRow base e 2 (.slice (some ⟨g, 0, none⟩) l.length cap) l.length (pcs l) := ⟨h1, .inr ⟨g, cap, cur, rfl, hb, hg, hle, hmax, hsz, htk⟩⟩
    obtain ⟨p1, p2⟩ := pcs_at l i hi
    rw [Nat.zero_add, World.ownsRow.cellAt hown (i * 2) (by omega), World.ownsRow.cellAt hown (i * 2 + 1) (by omega)]
    exact ⟨p1, p2⟩
theorem isP_nil (w : World) : IsP w none 0 0 [] := ⟨rfl, Nat.le_refl _, Nat.zero_le _, fun _ => rfl, fun h => absurd h (Nat.lt_irrefl 0)⟩

/-- append(l, p), p a pair -/
theorem list_appQ {ops : Array Oper} {rest : List Oper} {o : Oper} {a : Act} {Q : Exit → Act → World → Prop} (st e : TypeId) (hu : Tryz.prog.underlying st = some (.slice e))
    (hinfo : (Tryz.prog.info? e).map (fun i => (i.zero, i.size, i.bytes)) = some (some (.agg #[.string ⟨#[]⟩, .string ⟨#[]⟩]), 2, 32)) (w : World) (hgd : o.guard = none) (s x : Operand)
    (ho : o.op = .call { callee := .builtin .append, args := #[s, x], argTypes := #[st, st] }) (base : Nat)
    (v : Value) (l : List Pr) (hs : a.eval s = v) (hown : OwnP e w base v l) (B : Nat) (n1 n2 : List UInt8) (hx : a.eval x = .slice (some ⟨B, 0, none⟩) 1 1)
    (hb : w.heap[B]? = some (.cells #[.string (str n1), .string (str n2)] e (0, 0))) (hbytes : (l.length + 1) * 32 ≤ 140737488355328) (hbase : base ≤ w.heap.size)
    (h : ∀ v' w', OwnP e w' base v' (l ++ [(n1, n2)]) → w.grownBy w' v.ownBlock → wpList Tryz.prog ops Q rest (a.put o.dst v') w') :
    wpList Tryz.prog ops Q (o :: rest) a w := by
  obtain ⟨i0, hi, hz0, hz1, hz2⟩ := info_parts hinfo
  refine wpList_append_own w hgd s x st ho base e i0 (.agg #[.string ⟨#[]⟩, .string ⟨#[]⟩]) 2 32 hu hi hz0 hz1 hz2 rfl (by omega) v l.length (pcs l) hs hown ⟨B, 0, none⟩ 1 1 [.string (str n1), .string (str n2)] hx rfl
    (fun j u hu => World.news_of_block hb j u (by simpa using hu)) (by intro u hu; simp only [List.mem_cons, List.not_mem_nil, or_false] at hu; rcases hu with rfl | rfl <;> rfl) (by unfold maxLen; omega) hbytes hbase ?_
  intro v' w' h1 h2 _
  exact h v' w' (by unfold OwnP; rw [pcs_append, List.length_append]; exact h1) h2
/-- the same in a region that draws -/
theorem step_appQ {ops : Array Oper} {o : Oper} {a : Act} {K : Act → World → Prop} {Q : Exit → Act → World → Prop} {E : Prop} (st e : TypeId) (hu : Tryz.prog.underlying st = some (.slice e))
    (hinfo : (Tryz.prog.info? e).map (fun i => (i.zero, i.size, i.bytes)) = some (some (.agg #[.string ⟨#[]⟩, .string ⟨#[]⟩]), 2, 32)) (w : World) (hgd : o.guard = none) (s x : Operand)
    (ho : o.op = .call { callee := .builtin .append, args := #[s, x], argTypes := #[st, st] }) (base : Nat)
    (v : Value) (l : List Pr) (hs : a.eval s = v) (hown : OwnP e w base v l) (B : Nat) (n1 n2 : List UInt8) (hx : a.eval x = .slice (some ⟨B, 0, none⟩) 1 1)
    (hb : w.heap[B]? = some (.cells #[.string (str n1), .string (str n2)] e (0, 0))) (hbytes : (l.length + 1) * 32 ≤ 140737488355328) (hbase : base ≤ w.heap.size) (H : Nat) (hH : w.heap.size = H)
    (h : ∀ g cap w', OwnP e w' base (.slice (some ⟨g, 0, none⟩) (l.length + 1) cap) (l ++ [(n1, n2)]) → w.grownBy w' v.ownBlock → (v.ownBlock = some g ∨ g = H) → g < w'.heap.size → K (a.put o.dst (.slice (some ⟨g, 0, none⟩) (l.length + 1) cap)) w') :
    if Region.wanted o (yielded ops a.tmps) = true then Oper.wp Tryz.prog o a w K Q else E := by
  obtain ⟨i0, hi, hz0, hz1, hz2⟩ := info_parts hinfo
  refine step_append_lies w hgd s x st ho base e i0 (.agg #[.string ⟨#[]⟩, .string ⟨#[]⟩]) 2 32 hu hi hz0 hz1 hz2 rfl (by omega) v l.length (pcs l) hs hown ⟨B, 0, none⟩ 1 1 [.string (str n1), .string (str n2)] hx rfl
    (fun j u hu => World.news_of_block hb j u (by simpa using hu)) (by intro u hu; simp only [List.mem_cons, List.not_mem_nil, or_false] at hu; rcases hu with rfl | rfl <;> rfl) (by omega) (by unfold maxLen; omega) hbytes hbase H hH ?_
  intro g cap w' h1 h2 h3 h4
  exact h g cap w' (by unfold OwnP; rw [pcs_append, List.length_append]; exact h1) h2 h3 h4
end Go.Proofs.YtbknabmcelknmaaGreatDoor
