/- The document's Same, of two requests that are the same. Plain facts: what is shown, parsed and shown anew. -/
import Derived.Test.YtbknabmcelknmaaGreatDoorJ27
import Derived.Test.YtbknabmcelknmaaGreatDoorBack5
import Derived.Test.YtbknabmcelknmaaGreatDoorR5i
namespace Go.Proofs.YtbknabmcelknmaaGreatDoor
open Go.RowKit

set_option maxRecDepth 20000 in
set_option maxHeartbeats 2000000 in
theorem refSame5 (m p q : ByteArray) (a1 : Option Addr) (c1 : Nat) (a2 : Option Addr) (c2 : Nat) (n : Nat) (l : List Pr) (e1 : Option Addr) (d1 : Nat) (e2 : Option Addr) (d2 k0 : Nat) (bl : List UInt8) (w : World)
    (h1 : IsP w a1 n c1 l) (h2 : IsP w a2 n c2 l) (g1 : IsB w e1 k0 d1 bl) (g2 : IsB w e2 k0 d2 bl) :
    Calls Tryz.prog 11 #[.agg #[.string m, .string p, .string q, .slice a1 n c1, .slice e1 k0 d1], .agg #[.string m, .string p, .string q, .slice a2 n c2, .slice e2 k0 d2]] w fun e w' => e = .returned (.bool true) ∧ Below w.heap.size w w' := by
  have T0 : Below w.heap.size w (w.alloc (.cells #[.string m, .string p, .string q, .slice a1 n c1, .slice e1 k0 d1] 31)) := (Below.refl _ w).alloc (Nat.le_refl _) _
  have T1 : Below w.heap.size w ((w.alloc (.cells #[.string m, .string p, .string q, .slice a1 n c1, .slice e1 k0 d1] 31)).alloc (.cells #[.string m, .string p, .string q, .slice a2 n c2, .slice e2 k0 d2] 31)) := T0.alloc T0.size _
  have K1 := (Blk.newAt w w.heap.size 31 _ [.string m, .string p, .string q, .slice a1 n c1, .slice e1 k0 d1] rfl rfl).alloc (.cells #[.string m, .string p, .string q, .slice a2 n c2, .slice e2 k0 d2] 31)
  have K2 := Blk.newAt (w.alloc (.cells #[.string m, .string p, .string q, .slice a1 n c1, .slice e1 k0 d1] 31)) (w.heap.size + 1) 31 _ [.string m, .string p, .string q, .slice a2 n c2, .slice e2 k0 d2] (by simp) rfl
  have hn : n ≤ 9223372036854775807 := by have := h1.le; have := h1.max; unfold maxLen at this; omega
  have v1 := conv_isB _ _ _ _ _ (g1.below T1 rfl)
  have v2 := conv_isB _ _ _ _ _ (g2.below T1 rfl)
  have H1 : Hid (IsP w a1 n c1 l) := h1
  have H2 : Hid (IsP w a2 n c2 l) := h2
  have x0 := K1.cell 0
  have x1 := K1.cell 1
  have x2 := K1.cell 2
  have x3 := K1.cell 3
  have x4 := K1.cell 4
  have y0 := K2.cell 0
  have y1 := K2.cell 1
  have y2 := K2.cell 2
  have y3 := K2.cell 3
  have y4 := K2.cell 4
  simp only [List.getElem?_cons_zero, List.getElem?_cons_succ] at x0 x1 x2 x3 x4 y0 y1 y2 y3 y4
  clear h1 h2 g1 g2 K1 K2 T0
  generalize str bl = sb at *
  go_enter Tryz.func11, Tryz.ntmps11
  go_wp2
  generalize hW : ((w.alloc (.cells #[.string m, .string p, .string q, .slice a1 n c1, .slice e1 k0 d1] 31)).alloc (.cells #[.string m, .string p, .string q, .slice a2 n c2, .slice e2 k0 d2] 31)) = W at *
  clear hW v1 v2
  go_loopw [5] (fun i wr => ∃ (k : Nat), k ≤ n ∧ i = .int .i64 k ∧ Hid (Below w.heap.size w wr ∧ wr.cell? ⟨w.heap.size, 3, none⟩ = some (.slice a1 n c1) ∧ wr.cell? ⟨w.heap.size + 1, 3, none⟩ = some (.slice a2 n c2))) (fun i _ => n - (intOf i).toNat)
  case atStart => exact ⟨0, Nat.zero_le _, rfl, T1, x3, y3⟩
  case round =>
    obtain ⟨k, hk, rfl, HR⟩ := hrel
    obtain ⟨T2, z3, z4⟩ := HR.out
    by_cases hlt : k < n
    · obtain ⟨b1, o1, rfl, hc1⟩ := H1.out.cells (by omega)
      obtain ⟨b2, o2, rfl, hc2⟩ := H2.out.cells (by omega)
      obtain ⟨p1, p2⟩ := hc1 k hlt
      obtain ⟨p3, p4⟩ := hc2 k hlt
      have q1 := (T2.cell (p := ⟨b1, o1 + k * 2, none⟩) (cell_lt p1)).trans p1
      have q2 := (T2.cell (p := ⟨b1, o1 + k * 2 + 1, none⟩) (cell_lt p2)).trans p2
      have q3 := (T2.cell (p := ⟨b2, o2 + k * 2, none⟩) (cell_lt p3)).trans p3
      have q4 := (T2.cell (p := ⟨b2, o2 + k * 2 + 1, none⟩) (cell_lt p4)).trans p4
      have hb0 : (0 : Int) ≤ (k : Int) := by omega
      have hb1 : (k : Int) < (n : Int) := by omega
      have hs1 : ((str (nthP l k).1).toList == (str (nthP l k).1).toList) = true := by simp
      have hs2 : ((str (nthP l k).2).toList == (str (nthP l k).2).toList) = true := by simp
      clear p1 p2 p3 p4 hc1 hc2 x0 x1 x2 x3 x4 y0 y1 y2 y3 y4
      generalize str (nthP l k).1 = s1 at *
      generalize str (nthP l k).2 = s2 at *
      go_wp2
      go_quiet (fail)
      go_wp2
      go_roundw
      case rel => exact ⟨k + 1, hlt, by go_num, bel_drewN T2 _, by simpa using z3, by simpa using z4⟩
      case measure => simp [intOf]; omega
    · have hge : ¬ (k : Int) < (n : Int) := by omega
      go_wp2
      go_ret
      exact ⟨rfl, T2⟩
end Go.Proofs.YtbknabmcelknmaaGreatDoor
namespace Go.Proofs.YtbknabmcelknmaaGreatDoor

theorem show_ok {r : Rq} (h : showCE r = 0) : showCB r = rtext r ∧ parseC (rtext r) = (0, r) := by
  have hb : showCB r = rtext r := by unfold showCB; rw [if_pos h]
  refine ⟨hb, ?_⟩
  unfold showCE at h
  by_cases hf : fitsC r = 0
  · rw [if_pos hf] at h; exact show_back hf h
  · rw [if_neg hf] at h; exact absurd h hf
theorem show_no {r : Rq} (h : ¬ showCE r = 0) : showCB r = [] := by unfold showCB; rw [if_neg h]
theorem parse_again {b : List UInt8} (h : (parseC b).1 = 0) : showCE (parseC b).2 = 0 ∨ showCE (parseC b).2 = 3 := by
  obtain ⟨h1, h2⟩ := parse_show h
  unfold showCE
  rw [if_pos h1]
  rcases h2 with e | e
  · left; rw [e]
  · exact .inr e
theorem parse_none {b : List UInt8} (h : ¬ (parseC b).1 = 0) : (parseC b).2 = Rq.none := by
  unfold parseC at h ⊢
  by_cases hb : 4096 < b.length
  · rw [if_pos hb]
  · rw [if_neg hb] at h ⊢
    unfold readC at h ⊢
    cases hl : lineL b with
    | none => rfl
    | some x =>
      obtain ⟨l, s⟩ := x
      rw [hl] at h
      simp only [] at h ⊢
      cases hf : firstC l with
      | false => rw [if_pos rfl]
      | true =>
        rw [hf, if_neg (by decide)] at h
        rw [if_neg (by decide)]
        cases hd : hdsL [] s with
        | none => rfl
        | some y =>
          obtain ⟨hs, body⟩ := y
          rw [hd] at h
          simp only [] at h ⊢
          cases hp : partC (tgtC l) with
          | false => rw [if_pos rfl]
          | true =>
            rw [hp, if_neg (by decide)] at h
            rw [if_neg (by decide)]
            cases hn : lenC hs body with
            | false => rw [if_pos rfl]
            | true => rw [hn, if_neg (by decide)] at h; exact absurd rfl h
theorem more_le (hs : List Pr) : ∀ acc, MoreAll acc hs → acc.length ≤ 24 → acc.length + hs.length ≤ 24 := by
  induction hs with
  | nil => intro acc _ h; simpa using h
  | cons p hs ih =>
    intro acc h _
    have h1 := h.1
    unfold moreC at h1
    rw [Bool.and_eq_true] at h1
    have h2 := of_decide_eq_true h1.2
    have := ih (acc ++ [p]) h.2 (by rw [List.length_append]; simp only [List.length_cons, List.length_nil]; omega)
    rw [List.length_append] at this
    simp only [List.length_cons, List.length_nil] at this ⊢
    omega
theorem len_le {hs : List Pr} {b : List UInt8} (h : lenC hs b = true) : b.length ≤ 4096 := by
  unfold lenC at h
  cases hf : findL hs ctl with
  | none =>
    rw [hf] at h
    have := of_decide_eq_true h
    rw [this]; decide
  | some c =>
    rw [hf] at h
    have h1 := of_decide_eq_true h
    unfold numC at h1
    cases hp : Lib.parseUintB 64 c with
    | ok u =>
      rw [hp] at h1
      simp only at h1
      by_cases hu : u ≤ 4096 ∧ Lib.decDigits u = c
      · rw [if_pos hu] at h1
        have := Option.some.inj h1
        omega
      · rw [if_neg hu] at h1; cases h1
    | «syntax» => rw [hp] at h1; cases h1
    | range => rw [hp] at h1; cases h1
theorem parse_sizes {b : List UInt8} (h : (parseC b).1 = 0) : (parseC b).2.p.length ≤ 1024 ∧ (parseC b).2.q.length ≤ 1024 ∧ (parseC b).2.hs.length ≤ 24 ∧ (parseC b).2.b.length ≤ 4096 ∧ ∀ i, i < (parseC b).2.hs.length → (nthP (parseC b).2.hs i).1.length ≤ 140737488351232 ∧ (nthP (parseC b).2.hs i).2.length ≤ 140737488351232 := by
  obtain ⟨h1, _⟩ := parse_show h
  obtain ⟨l, s, hs, body, _, _, hd, _, hn, e⟩ := parse_parts h
  obtain ⟨_, f2, f3⟩ := fits_iff h1
  obtain ⟨_, p2, p3⟩ := pathOk_iff f2
  have a2 := (betw_all p2).2
  have a3 := (betw_all p3).2
  rw [List.length_cons] at a3
  obtain ⟨hs2, e2, mo, _⟩ := hds_read _ s [] hs body (Nat.lt_succ_self _) hd
  rw [List.nil_append] at e2
  subst e2
  have a4 := more_le hs [] mo (by decide)
  have a5 := len_le hn
  refine ⟨a2, by omega, by rw [e]; simpa using a4, by rw [e]; exact a5, fun i hi => ?_⟩
  have hm : nthP (parseC b).2.hs i ∈ (parseC b).2.hs := by rw [nthP_eq _ i hi]; exact List.getElem_mem hi
  obtain ⟨t1, _, t3⟩ := hsC_iff (f3 _ hm)
  have := (token_no t1).2.2
  have := (val_facts t3).1
  omega
end Go.Proofs.YtbknabmcelknmaaGreatDoor
