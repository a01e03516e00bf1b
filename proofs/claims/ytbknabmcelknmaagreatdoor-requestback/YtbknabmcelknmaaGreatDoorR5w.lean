/- request: does each text of a request fit its place? -/
import Derived.Test.YtbknabmcelknmaaGreatDoorJ32
import Derived.Test.YtbknabmcelknmaaGreatDoorJ27
namespace Go.Proofs.YtbknabmcelknmaaGreatDoor
open Go.RowKit

theorem codHas (l : List UInt8) (w : World) : Calls Tryz.prog 55 #[.string (str l), .string ⟨#[63]⟩] w fun e w' => e = .returned (.bool (hasL 63 l)) ∧ w' = w := by
  refine (Tryz.strings_Contains_one (str l) 63 w).mono ?_
  rintro e w' ⟨rfl, h⟩
  refine ⟨?_, h⟩
  rw [str_list]
  rcases idx_cases 63 l with ⟨h1, _, _, h4⟩ | ⟨k, _, h1, _, _, h4⟩
  · rw [h1, h4]; rfl
  · rw [h1, h4, decide_eq_true (by omega)]
theorem hs_all_snoc (hs : List Pr) (k : Nat) (h : k < hs.length) (h1 : (hs.take k).all hsC = true) (h2 : hsC (nthP hs k) = true) : (hs.take (k + 1)).all hsC = true := by
  rw [takeP5 hs k h, List.all_append, h1]; simpa using h2
theorem hs_all_no (hs : List Pr) (k : Nat) (h : k < hs.length) (h2 : hsC (nthP hs k) = false) : hs.all hsC = false := by
  cases hq : hs.all hsC with
  | false => rfl
  | true =>
    have := List.all_eq_true.1 hq (nthP hs k) (by rw [nthP_eq hs k h]; exact List.getElem_mem h)
    rw [h2] at this; cases this
theorem fits_loop (m p q : List UInt8) (hs : List Pr) (b : List UInt8) (h1 : methodL m = true) (h2 : pathOkC ⟨m, p, q, hs, b⟩ = true) : fitsC ⟨m, p, q, hs, b⟩ = if hs.all hsC = false then 11 else 0 := by
  unfold fitsC; rw [h1, h2]; rfl
theorem fits_no1 (m p q : List UInt8) (hs : List Pr) (b : List UInt8) (h1 : methodL m = false) : fitsC ⟨m, p, q, hs, b⟩ = 10 := by unfold fitsC; rw [h1]; rfl
theorem fits_no2 (m p q : List UInt8) (hs : List Pr) (b : List UInt8) (h1 : methodL m = true) (h2 : hasL 63 p = true ∨ betwL 33 126 1024 p = false ∨ betwL 33 126 1024 (63 :: q) = false) : fitsC ⟨m, p, q, hs, b⟩ = 13 := by
  have : pathOkC ⟨m, p, q, hs, b⟩ = false := by
    unfold pathOkC
    dsimp only
    rcases h2 with h | h | h
    · rw [h]; rfl
    · rw [h]; simp
    · rw [h]; simp
  unfold fitsC; rw [h1, this]; rfl

set_option maxRecDepth 20000 in
set_option maxHeartbeats 2000000 in
theorem codFits (m p q : List UInt8) (a : Option Addr) (n cap : Nat) (hs : List Pr) (bv : Value) (b : List UInt8) (w : World) (h : IsP w a n cap hs) (hp : p.length ≤ 1000000) (hq : q.length ≤ 1000000) (hsz : ∀ i, i < hs.length → (nthP hs i).1.length ≤ 140737488351232 ∧ (nthP hs i).2.length ≤ 140737488351232) :
    Calls Tryz.prog 34 #[.agg #[.string (str m), .string (str p), .string (str q), .slice a n cap, bv]] w fun e w' => e = .returned (.int .i64 (fitsC ⟨m, p, q, hs, b⟩)) ∧ Below w.heap.size w w' := by
  have HL : Hid (hs.length = n) := h.len_eq
  have HM := fun w => codMethod m w
  have HC := fun w => codHas p w
  have HT : ∀ (l : List UInt8) (w : World), l.length ≤ 1000001 → Calls Tryz.prog 56 #[.string (str l)] w fun e w' => e = .returned (.bool (betwL 33 126 1024 l)) ∧ w' = w := fun l w hl => codTarget l w (by omega)
  have HT1 := fun w => HT p w (by omega)
  have HT2 := fun w => HT (63 :: q) w (by rw [List.length_cons]; omega)
  have e63 : str (63 :: q) = ⟨#[63]⟩ ++ str q := by rw [show (⟨#[63]⟩ : ByteArray) = str [63] from rfl, str_append2]; rfl
  rw [e63] at HT2
  have hz : ¬ 9223372036854775807 < 1 + (str q).size := by rw [str_size]; omega
  have T0 : Below w.heap.size w (w.alloc (.cells #[.string (str m), .string (str p), .string (str q), .slice a n cap, bv] 25)) := (Below.refl _ w).alloc (Nat.le_refl _) _
  have HP : Hid (IsP w a n cap hs) := h
  have hn : n ≤ 9223372036854775807 := by have := h.le; have := h.max; unfold maxLen at this; omega
  clear h HT e63 hp hq
  cases h1 : methodL m with
  | false =>
    rw [fits_no1 m p q hs b h1]
    rw [h1] at HM
    generalize str m = sm at *
    clear HC HT1 HT2
    go_enter Tryz.func34, Tryz.ntmps34
    go_wp2_with (go_at_call 54; refine (HM _).mono ?_; rintro e w2 ⟨rfl, hww⟩; rw [hww]; clear hww w2)
    go_ret
    exact ⟨rfl, T0⟩
  | true =>
    rw [h1] at HM
    cases h2 : hasL 63 p with
    | true =>
      rw [fits_no2 m p q hs b h1 (.inl h2)]
      rw [h2] at HC
      generalize str m = sm at *
      generalize str p = sp at *
      clear HT1 HT2
      go_enter Tryz.func34, Tryz.ntmps34
      go_wp2_with (first | (go_at_call 54; refine (HM _).mono ?_; rintro e w2 ⟨rfl, hww⟩; rw [hww]; clear hww w2) | (go_at_call 55; refine (HC _).mono ?_; rintro e w2 ⟨rfl, hww⟩; rw [hww]; clear hww w2))
      go_ret
      exact ⟨rfl, T0⟩
    | false =>
      rw [h2] at HC
      cases h3 : betwL 33 126 1024 p with
      | false =>
        rw [fits_no2 m p q hs b h1 (.inr (.inl h3))]
        rw [h3] at HT1
        generalize str m = sm at *
        generalize str p = sp at *
        clear HT2
        go_enter Tryz.func34, Tryz.ntmps34
        go_wp2_with (first | (go_at_call 54; refine (HM _).mono ?_; rintro e w2 ⟨rfl, hww⟩; rw [hww]; clear hww w2) | (go_at_call 55; refine (HC _).mono ?_; rintro e w2 ⟨rfl, hww⟩; rw [hww]; clear hww w2) | (go_at_call 56; refine (HT1 _).mono ?_; rintro e w2 ⟨rfl, hww⟩; rw [hww]; clear hww w2))
        go_ret
        exact ⟨rfl, T0⟩
      | true =>
        rw [h3] at HT1
        cases h4 : betwL 33 126 1024 (63 :: q) with
        | false =>
          rw [fits_no2 m p q hs b h1 (.inr (.inr h4))]
          rw [h4] at HT2
          generalize str m = sm at *
          generalize str p = sp at *
          generalize str q = sq at *
          have HTB : ∀ (x : ByteArray) (r : Bool), (x = sp ∧ r = true) ∨ (x = ⟨#[63]⟩ ++ sq ∧ r = false) → ∀ w, Calls Tryz.prog 56 #[.string x] w fun e w' => e = .returned (.bool r) ∧ w' = w := by
            rintro x r (⟨rfl, rfl⟩ | ⟨rfl, rfl⟩) w
            · exact HT1 w
            · exact HT2 w
          clear HT1 HT2
          go_enter Tryz.func34, Tryz.ntmps34
          go_wp2_with (first | (go_at_call 54; refine (HM _).mono ?_; rintro e w2 ⟨rfl, hww⟩; rw [hww]; clear hww w2) | (go_at_call 55; refine (HC _).mono ?_; rintro e w2 ⟨rfl, hww⟩; rw [hww]; clear hww w2) | (go_at_call 56; refine (HTB _ _ (by first | exact .inl ⟨rfl, rfl⟩ | exact .inr ⟨rfl, rfl⟩) _).mono ?_; rintro e w2 ⟨rfl, hww⟩; rw [hww]; clear hww w2))
          go_ret
          exact ⟨rfl, T0⟩
        | true =>
          rw [h4] at HT2
          have hpo : pathOkC ⟨m, p, q, hs, b⟩ = true := by unfold pathOkC; dsimp only; rw [h2, h3, h4]; rfl
          have HF : Hid (fitsC ⟨m, p, q, hs, b⟩ = if hs.all hsC = false then 11 else 0) := fits_loop m p q hs b h1 hpo
          generalize fitsC ⟨m, p, q, hs, b⟩ = ft at *
          clear hpo h1 h2 h3 h4
          generalize str m = sm at *
          generalize str p = sp at *
          generalize str q = sq at *
          have HTB : ∀ (x : ByteArray) (r : Bool), (x = sp ∧ r = true) ∨ (x = ⟨#[63]⟩ ++ sq ∧ r = true) → ∀ w, Calls Tryz.prog 56 #[.string x] w fun e w' => e = .returned (.bool r) ∧ w' = w := by
            rintro x r (⟨rfl, rfl⟩ | ⟨rfl, rfl⟩) w
            · exact HT1 w
            · exact HT2 w
          clear HT1 HT2
          go_enter Tryz.func34, Tryz.ntmps34
          go_wp2_with (first | (go_at_call 54; refine (HM _).mono ?_; rintro e w2 ⟨rfl, hww⟩; rw [hww]; clear hww w2) | (go_at_call 55; refine (HC _).mono ?_; rintro e w2 ⟨rfl, hww⟩; rw [hww]; clear hww w2) | (go_at_call 56; refine (HTB _ _ (by first | exact .inl ⟨rfl, rfl⟩ | exact .inr ⟨rfl, rfl⟩) _).mono ?_; rintro e w2 ⟨rfl, hww⟩; rw [hww]; clear hww w2))
          have T1 : Below w.heap.size w (w.alloc (.cells #[.string sm, .string sp, .string sq, .slice a n cap, bv] 25)) := T0
          clear HM HC HTB T0
          generalize (w.alloc (.cells #[.string sm, .string sp, .string sq, .slice a n cap, bv] 25)) = W0 at *
          go_loopw [28] (fun i wr => ∃ (k : Nat), k ≤ n ∧ i = .int .i64 k ∧ Hid ((hs.take k).all hsC = true) ∧ Below w.heap.size w wr) (fun i _ => n - (intOf i).toNat)
          case atStart => exact ⟨0, Nat.zero_le _, rfl, rfl, T1⟩
          case round =>
            obtain ⟨k, hk, rfl, HD, hbel⟩ := hrel
            clear T1
            by_cases hlt : k < n
            · obtain ⟨b0, off, rfl, hc⟩ := HP.out.cells (by omega)
              obtain ⟨c1, c2⟩ := hc k hlt
              have g1 := (hbel.cell (p := ⟨b0, off + k * 2, none⟩) (cell_lt c1)).trans c1
              have g2 := (hbel.cell (p := ⟨b0, off + k * 2 + 1, none⟩) (cell_lt c2)).trans c2
              have hb0 : (0 : Int) ≤ (k : Int) := by omega
              have hb1 : (k : Int) < (n : Int) := by omega
              have hkl : k < hs.length := by rw [HL.out]; exact hlt
              obtain ⟨z1, z2⟩ := hsz k hkl
              have HTk := fun w => codToken (nthP hs k).1 w z1
              have HVa := fun w => codValue (nthP hs k).2 w z2
              have HN : hsC (nthP hs k) = false → ft = 11 := fun e => by rw [HF.out, hs_all_no hs k hkl e]; rfl
              have HY : Hid (hsC (nthP hs k) = true → (hs.take (k + 1)).all hsC = true) := fun e => hs_all_snoc hs k hkl HD.out e
              have hL0 : Below w.heap.size w (wr.alloc (.cells #[.string (str (nthP hs k).1), .string (str (nthP hs k).2)] 73)) := hbel.alloc hbel.size _
              have K0 := Blk.newAt wr wr.heap.size 73 _ [.string (str (nthP hs k).1), .string (str (nthP hs k).2)] rfl rfl
              have HS0 : Hid ((wr.alloc (.cells #[.string (str (nthP hs k).1), .string (str (nthP hs k).2)] 73)).drew.cell? ⟨wr.heap.size, 0, none⟩ = some (.string (str (nthP hs k).1)) ∧ (wr.alloc (.cells #[.string (str (nthP hs k).1), .string (str (nthP hs k).2)] 73)).drew.cell? ⟨wr.heap.size, 1, none⟩ = some (.string (str (nthP hs k).2)) ∧ Below w.heap.size w (wr.alloc (.cells #[.string (str (nthP hs k).1), .string (str (nthP hs k).2)] 73)).drew ∧ wr.heap.size < (wr.alloc (.cells #[.string (str (nthP hs k).1), .string (str (nthP hs k).2)] 73)).drew.heap.size) := ⟨K0.cell 0, K0.cell 1, hL0.drew, K0.lt⟩
              clear K0 hL0
              cases ht : tokenL (nthP hs k).1 with
              | false =>
                have e11 := HN (by unfold hsC; rw [ht]; rfl)
                subst e11
                rw [ht] at HTk
                clear c1 c2 hc HY HVa HN HF
                generalize str (nthP hs k).1 = s1 at *
                generalize str (nthP hs k).2 = s2 at *
                have B1 : Below w.heap.size w (wr.alloc (.cells #[.string s1, .string s2] 73)) := hbel.alloc hbel.size _
                obtain ⟨q1, q2, -, -⟩ := HS0.out
                have q1' : (wr.alloc (.cells #[.string s1, .string s2] 73)).cell? ⟨wr.heap.size, 0, none⟩ = some (.string s1) := q1
                clear HS0 q1 q2
                go_wp2
                go_quiet (first | (go_at_call 57; exact Calls.quiet_of_same (HTk _)))
                go_wp2
                go_ret
                exact ⟨rfl, bel_drewN B1 _⟩
              | true =>
                have HLo := fun w => codLower (nthP hs k).1 w z1 ht
                rw [ht] at HTk
                by_cases hlow : (nthP hs k).1 = lowC (nthP hs k).1
                · rw [← hlow] at HLo
                  have hq1 : ((str (nthP hs k).1).toList == (str (nthP hs k).1).toList) = true := by simp
                  have hq2 : ((str (nthP hs k).1).toList != (str (nthP hs k).1).toList) = false := by simp
                  cases hv : valC (nthP hs k).2 with
                  | false =>
                    have e11 := HN (by unfold hsC; rw [hv]; simp)
                    subst e11
                    rw [hv] at HVa
                    clear c1 c2 hc HY HN HF hlow
                    generalize str (nthP hs k).1 = s1 at *
                    generalize str (nthP hs k).2 = s2 at *
                    go_wp2
                    go_region_held3 (fun w' => w'.cell? ⟨wr.heap.size, 0, none⟩ = some (.string s1) ∧ w'.cell? ⟨wr.heap.size, 1, none⟩ = some (.string s2) ∧ Below w.heap.size w w' ∧ wr.heap.size < w'.heap.size)
                      (first | exact HS0.out | assumption | (have hq0 := ‹_ ∧ _ ∧ Below _ _ _ ∧ _›; exact ⟨(hbx.cell (p := ⟨wr.heap.size, 0, none⟩) hq0.2.2.2).trans hq0.1, (hbx.cell (p := ⟨wr.heap.size, 1, none⟩) hq0.2.2.2).trans hq0.2.1, hq0.2.2.1.trans (hbx.mono hq0.2.2.1.size), Nat.lt_of_lt_of_le hq0.2.2.2 hbx.size⟩))
                      (first | (go_at_call 57; refine (HTk _).mono ?_; rintro e w2 ⟨rfl, hww⟩; rw [hww]; clear hww w2) | (go_at_call 58; refine (HLo _).mono ?_; rintro e w3 ⟨rfl, hbx⟩) | (go_at_call 59; refine (HVa _).mono ?_; rintro e w4 ⟨rfl, hbx⟩))
                    all_goals
                      have hq0 := ‹_ ∧ _ ∧ Below _ _ _ ∧ _›
                      go_wp2
                      go_ret
                      exact ⟨rfl, hq0.2.2.1⟩
                  | true =>
                    have HY1 : Hid ((hs.take (k + 1)).all hsC = true) := HY.out (hsC_mk ht hlow hv)
                    rw [hv] at HVa
                    clear c1 c2 hc HY HN hlow
                    generalize str (nthP hs k).1 = s1 at *
                    generalize str (nthP hs k).2 = s2 at *
                    go_wp2
                    go_region_held3 (fun w' => w'.cell? ⟨wr.heap.size, 0, none⟩ = some (.string s1) ∧ w'.cell? ⟨wr.heap.size, 1, none⟩ = some (.string s2) ∧ Below w.heap.size w w' ∧ wr.heap.size < w'.heap.size)
                      (first | exact HS0.out | assumption | (have hq0 := ‹_ ∧ _ ∧ Below _ _ _ ∧ _›; exact ⟨(hbx.cell (p := ⟨wr.heap.size, 0, none⟩) hq0.2.2.2).trans hq0.1, (hbx.cell (p := ⟨wr.heap.size, 1, none⟩) hq0.2.2.2).trans hq0.2.1, hq0.2.2.1.trans (hbx.mono hq0.2.2.1.size), Nat.lt_of_lt_of_le hq0.2.2.2 hbx.size⟩))
                      (first | (go_at_call 57; refine (HTk _).mono ?_; rintro e w2 ⟨rfl, hww⟩; rw [hww]; clear hww w2) | (go_at_call 58; refine (HLo _).mono ?_; rintro e w3 ⟨rfl, hbx⟩) | (go_at_call 59; refine (HVa _).mono ?_; rintro e w4 ⟨rfl, hbx⟩))
                    all_goals
                      have hq0 := ‹_ ∧ _ ∧ Below _ _ _ ∧ _›
                      go_wp2
                      go_roundw
                      case rel => exact ⟨k + 1, hlt, by go_num, HY1, hq0.2.2.1⟩
                      case measure => simp [intOf]; omega
                · have e11 := HN (by unfold hsC; rw [decide_eq_false hlow]; simp)
                  subst e11
                  have hq1 : ((str (nthP hs k).1).toList == (str (lowC (nthP hs k).1)).toList) = false := by rw [str_beq, beq_dec, decide_eq_false hlow]
                  have hq2 : ((str (nthP hs k).1).toList != (str (lowC (nthP hs k).1)).toList) = true := by rw [bne, hq1]; rfl
                  clear c1 c2 hc HY HVa HN HF hlow
                  generalize str (lowC (nthP hs k).1) = s3 at *
                  generalize str (nthP hs k).1 = s1 at *
                  generalize str (nthP hs k).2 = s2 at *
                  go_wp2
                  refine wp_region_noPanic ?_
                  refine wp_region_held_drew (S := fun w' => w'.cell? ⟨wr.heap.size, 0, none⟩ = some (.string s1) ∧ w'.cell? ⟨wr.heap.size, 1, none⟩ = some (.string s2) ∧ Below w.heap.size w w' ∧ wr.heap.size < w'.heap.size) (by kernel_rfl) HS0.out (fun hHeld => ?_)
                  refine takeH (some 32) (i := 0) (v := ?_) rfl (by kernel_rfl) (by kernel_rfl) (by kernel_rfl) (fun _ _ _ h => h) (Or.inl ⟨by rfl, ?_⟩) hHeld rfl ?_
                  rotate_left
                  · intro w hSw; obtain ⟨hS1, hS2, -, -⟩ := hSw; go_simp; with_reducible rfl
                  simp only [Act.put, List.setIfInBounds_toArray, List.set_cons_zero, List.set_cons_succ]
                  refine takeH (some 33) (i := 1) (v := ?_) rfl (by kernel_rfl) (by kernel_rfl) (by kernel_rfl) (fun _ _ _ h => h) (Or.inl ⟨by rfl, ?_⟩) hHeld rfl ?_
                  rotate_left
                  · intro w hSw; obtain ⟨hS1, hS2, -, -⟩ := hSw; go_simp; with_reducible rfl
                  simp only [Act.put, List.setIfInBounds_toArray, List.set_cons_zero, List.set_cons_succ]
                  refine wpAnyH_ready (rs := [2]) (by kernel_rfl) (by simp) (AllReadyH.cons rfl (fun K hK => ?_) AllReadyH.nil)
                  go_wp2_with (go_at_call 57; refine (HTk _).mono ?_; rintro e w2 ⟨rfl, hww⟩; rw [hww]; clear hww w2)
                  refine hK.out _ _ hHeld (fun hHeld => ?_)
                  try simp only [Act.put, List.setIfInBounds_toArray, List.set_cons_zero, List.set_cons_succ]
                  refine takeH (some 35) (i := 3) (v := ?_) rfl (by kernel_rfl) (by kernel_rfl) (by kernel_rfl) (fun _ _ _ h => h) (Or.inl ⟨by rfl, ?_⟩) hHeld rfl ?_
                  rotate_left
                  · intro w hSw; obtain ⟨hS1, hS2, -, -⟩ := hSw; go_simp; with_reducible rfl
                  simp only [Act.put, List.setIfInBounds_toArray, List.set_cons_zero, List.set_cons_succ]
                  refine takeH (some 36) (i := 4) (v := ?_) rfl (by kernel_rfl) (by kernel_rfl) (by kernel_rfl) (fun _ _ _ h => h) (Or.inl ⟨by rfl, ?_⟩) hHeld rfl ?_
                  rotate_left
                  · intro w hSw; obtain ⟨hS1, hS2, -, -⟩ := hSw; go_simp; with_reducible rfl
                  simp only [Act.put, List.setIfInBounds_toArray, List.set_cons_zero, List.set_cons_succ]
                  refine takeH (some 37) (i := 5) (v := ?_) rfl (by kernel_rfl) (by kernel_rfl) (by kernel_rfl) (fun _ _ _ h => h) (Or.inl ⟨by rfl, ?_⟩) hHeld rfl ?_
                  rotate_left
                  · intro w hSw; obtain ⟨hS1, hS2, -, -⟩ := hSw; go_simp; with_reducible rfl
                  simp only [Act.put, List.setIfInBounds_toArray, List.set_cons_zero, List.set_cons_succ]
                  refine takeH (some 38) (i := 6) (v := ?_) rfl (by kernel_rfl) (by kernel_rfl) (by kernel_rfl) (fun _ _ _ h => h) (Or.inl ⟨by rfl, ?_⟩) hHeld rfl ?_
                  rotate_left
                  · intro w hSw; obtain ⟨hS1, hS2, -, -⟩ := hSw; go_simp; with_reducible rfl
                  simp only [Act.put, List.setIfInBounds_toArray, List.set_cons_zero, List.set_cons_succ]
                  refine takeH (some 39) (i := 7) (v := ?_) rfl (by kernel_rfl) (by kernel_rfl) (by kernel_rfl) (fun _ _ _ h => h) (Or.inl ⟨by rfl, ?_⟩) hHeld rfl ?_
                  rotate_left
                  · intro w hSw; obtain ⟨hS1, hS2, -, -⟩ := hSw; go_simp; with_reducible rfl
                  simp only [Act.put, List.setIfInBounds_toArray, List.set_cons_zero, List.set_cons_succ]
                  refine takeH (some 40) (i := 8) (v := ?_) rfl (by kernel_rfl) (by kernel_rfl) (by kernel_rfl) (fun _ _ _ h => h) (Or.inl ⟨by rfl, ?_⟩) hHeld rfl ?_
                  rotate_left
                  · intro w hSw; obtain ⟨hS1, hS2, -, -⟩ := hSw; go_simp; with_reducible rfl
                  simp only [Act.put, List.setIfInBounds_toArray, List.set_cons_zero, List.set_cons_succ]
                  refine wpAnyH_ready (rs := [9]) (by kernel_rfl) (by simp) (AllReadyH.cons rfl (fun K hK => ?_) AllReadyH.nil)
                  go_simp
                  go_wp2_with (go_at_call 58; refine (HLo _).mono ?_; rintro e w3 ⟨rfl, hbx⟩)
                  refine hK.out _ _ ⟨(hbx.cell (p := ⟨wr.heap.size, 0, none⟩) hHeld.2.2.2).trans hHeld.1, (hbx.cell (p := ⟨wr.heap.size, 1, none⟩) hHeld.2.2.2).trans hHeld.2.1, hHeld.2.2.1.trans (hbx.mono hHeld.2.2.1.size), Nat.lt_of_lt_of_le hHeld.2.2.2 hbx.size⟩ (fun hHeld => ?_)
                  try simp only [Act.put, List.setIfInBounds_toArray, List.set_cons_zero, List.set_cons_succ]
                  refine takeH (some 42) (i := 10) (v := ?_) rfl (by kernel_rfl) (by kernel_rfl) (by kernel_rfl) (fun _ _ _ h => h) (Or.inl ⟨by rfl, ?_⟩) hHeld rfl ?_
                  rotate_left
                  · intro w hSw; obtain ⟨hS1, hS2, -, -⟩ := hSw; go_simp; with_reducible rfl
                  simp only [Act.put, List.setIfInBounds_toArray, List.set_cons_zero, List.set_cons_succ]
                  refine takeH (some 43) (i := 11) (v := ?_) rfl (by kernel_rfl) (by kernel_rfl) (by kernel_rfl) (fun _ _ _ h => h) (Or.inl ⟨by rfl, ?_⟩) hHeld rfl ?_
                  rotate_left
                  · intro w hSw; obtain ⟨hS1, hS2, -, -⟩ := hSw; go_simp; with_reducible rfl
                  simp only [Act.put, List.setIfInBounds_toArray, List.set_cons_zero, List.set_cons_succ]
                  refine takeH (some 44) (i := 12) (v := ?_) rfl (by kernel_rfl) (by kernel_rfl) (by kernel_rfl) (fun _ _ _ h => h) (Or.inl ⟨by rfl, ?_⟩) hHeld rfl ?_
                  rotate_left
                  · intro w hSw; obtain ⟨hS1, hS2, -, -⟩ := hSw; go_simp; with_reducible rfl
                  simp only [Act.put, List.setIfInBounds_toArray, List.set_cons_zero, List.set_cons_succ]
                  refine takeH (some 45) (i := 13) (v := undef) rfl (by kernel_rfl) (by kernel_rfl) (by kernel_rfl) (fun _ _ _ h => h) (Or.inr ⟨by rfl, rfl⟩) hHeld rfl ?_
                  simp only [Act.put, List.setIfInBounds_toArray, List.set_cons_zero, List.set_cons_succ]
                  refine takeH (some 46) (i := 14) (v := undef) rfl (by kernel_rfl) (by kernel_rfl) (by kernel_rfl) (fun _ _ _ h => h) (Or.inr ⟨by rfl, rfl⟩) hHeld rfl ?_
                  simp only [Act.put, List.setIfInBounds_toArray, List.set_cons_zero, List.set_cons_succ]
                  refine takeH (some 47) (i := 15) (v := undef) rfl (by kernel_rfl) (by kernel_rfl) (by kernel_rfl) (fun _ _ _ h => h) (Or.inr ⟨by rfl, rfl⟩) hHeld rfl ?_
                  simp only [Act.put, List.setIfInBounds_toArray, List.set_cons_zero, List.set_cons_succ]
                  refine takeH (some 48) (i := 16) (v := undef) rfl (by kernel_rfl) (by kernel_rfl) (by kernel_rfl) (fun _ _ _ h => h) (Or.inr ⟨by rfl, rfl⟩) hHeld rfl ?_
                  simp only [Act.put, List.setIfInBounds_toArray, List.set_cons_zero, List.set_cons_succ]
                  refine takeH (some 49) (i := 17) (v := ?_) rfl (by kernel_rfl) (by kernel_rfl) (by kernel_rfl) (fun _ _ _ h => h) (Or.inl ⟨by rfl, ?_⟩) hHeld rfl ?_
                  rotate_left
                  · intro w hSw; obtain ⟨hS1, hS2, -, -⟩ := hSw; go_simp; with_reducible rfl
                  simp only [Act.put, List.setIfInBounds_toArray, List.set_cons_zero, List.set_cons_succ]
                  refine wpAnyH_done (by kernel_rfl) ?_ _
                  refine NoPanic.normal ?_
                  go_wp2
                  go_ret
                  exact ⟨rfl, hHeld.2.2.1⟩
            · have hge : ¬ (k : Int) < (n : Int) := by omega
              have hkn : k = n := by omega
              subst hkn
              have e0 : ft = 0 := by
                have := HD.out
                rw [List.take_of_length_le (by rw [HL.out]; exact Nat.le_refl _)] at this
                rw [HF.out, this]; rfl
              subst e0
              clear HF
              go_wp2
              go_ret
              exact ⟨rfl, hbel⟩
end Go.Proofs.YtbknabmcelknmaaGreatDoor
