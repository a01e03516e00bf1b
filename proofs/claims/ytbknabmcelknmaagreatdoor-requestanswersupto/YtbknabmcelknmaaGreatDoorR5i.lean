/- request: numbers, and lengths that are told. -/
import Derived.Test.YtbknabmcelknmaaGreatDoorJ11
import Derived.Test.YtbknabmcelknmaaGreatDoorJ20
import Derived.Test.YtbknabmcelknmaaGreatDoorShelf6
namespace Go.Proofs.YtbknabmcelknmaaGreatDoor
open Go.RowKit Go.Shelf Go.Lib

/-- what the package variables hold -/
structure Env (w : World) : Prop where
  mx : Mx w
  es : ∃ te pe, w.cell? ⟨0, 0, none⟩ = some (.iface te pe)
  er : ∃ te pe, w.cell? ⟨1, 0, none⟩ = some (.iface te pe)
  tab : Lib.TabIs Tryz.prog w "internal/strconv.uint64pow10" .u64 Lib.pow10Tab
theorem Env.below {w w' : World} (h : Env w) (hb : Below w.heap.size w w') : Env w' := by
  obtain ⟨h1, ⟨a, b, h2⟩, ⟨c, d, h3⟩, h4⟩ := h
  exact ⟨h1.below hb, ⟨a, b, (hb.cell (p := ⟨0, 0, none⟩) (cell_lt h2)).trans h2⟩, ⟨c, d, (hb.cell (p := ⟨1, 0, none⟩) (cell_lt h3)).trans h3⟩, Lib.tabBelow_of_tabIs h4 _ hb⟩

/-- number's road: refused -/
theorem num_none {s : List UInt8} {most : Nat} (h : numC s most = none) : numCV s most = 0 ∧ numCE s most = 5 := by unfold numCV numCE; rw [h]; exact ⟨rfl, rfl⟩
theorem num_some {s : List UInt8} {most u : Nat} (h : numC s most = some u) : numCV s most = u ∧ numCE s most = 0 := by unfold numCV numCE; rw [h]; exact ⟨rfl, rfl⟩
theorem numC_bad {s : List UInt8} {most : Nat} (h : Lib.parseUintB 64 s = .«syntax» ∨ Lib.parseUintB 64 s = .range) : numC s most = none := by
  unfold numC; rcases h with h | h <;> rw [h]
theorem numC_big {s : List UInt8} {most u : Nat} (h : Lib.parseUintB 64 s = .ok u) (h1 : ¬ (u ≤ most ∧ Lib.decDigits u = s)) : numC s most = none := by
  unfold numC; rw [h]; simp only [if_neg h1]
theorem numC_ok {s : List UInt8} {most u : Nat} (h : Lib.parseUintB 64 s = .ok u) (h1 : u ≤ most ∧ Lib.decDigits u = s) : numC s most = some u := by
  unfold numC; rw [h]; simp only [if_pos h1]
theorem ret_ue {a b e f : Int} (h : a = b) (h2 : e = f) : Ending.returned (.tuple #[.int .u64 a, .int .i64 e]) = .returned (.tuple #[.int .u64 b, .int .i64 f]) := by rw [h, h2]
theorem bytes_bel (w : World) (s : ByteArray) (t : TypeId) : Below w.heap.size w (Lib.bytesWorld w t s) := Lib.bytesWorld_below _ _ _

theorem parseUM_le (l : List UInt8) : ∀ (acc u : Nat), acc ≤ 18446744073709551615 → Lib.parseUintM 18446744073709551615 acc l = .ok u → u ≤ 18446744073709551615 := by
  induction l with
  | nil => intro acc u h e; rw [Lib.parseUintM] at e; cases e; exact h
  | cons c r ih =>
    intro acc u h e
    rw [Lib.parseUintM] at e
    split at e
    · split at e
      · cases e
      · split at e
        · cases e
        · exact ih _ _ (by omega) e
    · cases e
theorem parseU_lt {l : List UInt8} {u : Nat} (h : Lib.parseUintB 64 l = .ok u) : u < 18446744073709551616 := by
  unfold Lib.parseUintB at h
  split at h
  · cases h
  · exact Nat.lt_succ_of_le (parseUM_le l 0 u (by omega) h)

theorem codParseOk (l : List UInt8) (u : Nat) (w : World) (hl : l.length ≤ 200000000000000) (h : Lib.parseUintB 64 l = .ok u) :
    Calls Tryz.prog 40 #[.string (str l), .int .i64 10, .int .i64 64] w fun e w' => e = .returned (.tuple #[.int .u64 u, .nilIface]) ∧ Below w.heap.size w w' := by
  refine (Tryz.strconv_ParseUint_10_at64_ok (str l) (by rw [str_size]; omega) u (by rw [str_list]; exact h) w).mono ?_
  rintro e w' ⟨rfl, hw⟩
  refine ⟨rfl, ?_⟩
  rcases hw with rfl | rfl
  · exact Below.refl _ _
  · exact bytes_bel _ _ _
theorem codParseNo (l : List UInt8) (w : World) (hl : l.length ≤ 200000000000000) (hE : Env w) (h : Lib.parseUintB 64 l = .«syntax» ∨ Lib.parseUintB 64 l = .range) :
    Calls Tryz.prog 40 #[.string (str l), .int .i64 10, .int .i64 64] w fun e w' => ∃ (z : Int) (t : TypeId) (N : Nat), e = .returned (.tuple #[.int .u64 z, .iface t (.pointer (some ⟨N, 0, none⟩))]) ∧ Below w.heap.size w w' := by
  rcases h with h | h
  · obtain ⟨te, pe, he⟩ := hE.es
    refine (Tryz.strconv_ParseUint_10_at64_syntax (str l) (by rw [str_size]; omega) (by rw [str_list]; exact h) (.iface te pe) w he (.inr ⟨te, pe, rfl⟩)).mono ?_
    rintro e w' ⟨N, rfl, _, _, hb⟩
    exact ⟨_, _, N, rfl, hb⟩
  · obtain ⟨te, pe, he⟩ := hE.er
    refine (Tryz.strconv_ParseUint_10_at64_range (str l) (by rw [str_size]; omega) (by rw [str_list]; exact h) (.iface te pe) w he (.inr ⟨te, pe, rfl⟩)).mono ?_
    rintro e w' ⟨N, rfl, _, _, hb⟩
    exact ⟨_, _, N, rfl, hb⟩

set_option maxRecDepth 20000 in
set_option maxHeartbeats 2000000 in
theorem codNumber (l : List UInt8) (most : Nat) (w : World) (hl : l.length ≤ 200000000000000) (hE : Env w) :
    Calls Tryz.prog 20 #[.string (str l), .int .u64 (most : Int)] w fun e w' => e = .returned (.tuple #[.int .u64 (numCV l most : Int), .int .i64 (numCE l most)]) ∧ Below w.heap.size w w' := by
  cases hp : Lib.parseUintB 64 l with
  | ok u =>
    have HC := codParseOk l u w hl hp
    have hu : u < 18446744073709551616 := parseU_lt hp
    have HF : ∀ w', Below w.heap.size w w' → Calls Tryz.prog 41 #[.int .u64 (u : Int), .int .i64 10] w' fun e w2 => e = .returned (.string (str (Lib.decDigits u))) ∧ Below w'.heap.size w' w2 := fun w' hb => codFormat u w' hu (hE.below hb).tab
    by_cases h1 : u ≤ most
    · have h1' : ¬ (most : Int) < (u : Int) := by omega
      by_cases h2 : Lib.decDigits u = l
      · obtain ⟨e1, e2⟩ := num_some (numC_ok hp ⟨h1, h2⟩)
        rw [e1, e2]
        rw [h2] at HF
        have hq : ((str l).toList != (str l).toList) = false := by simp
        clear hp e1 e2 h1 h2 hE hu
        generalize str l = s at *
        go_enter Tryz.func20, Tryz.ntmps20
        go_wp2_with (first | (go_at_call 40; refine HC.mono ?_; rintro e w1 ⟨rfl, hb1⟩) | (go_at_call 41; refine (HF _ hb1).mono ?_; rintro e w2 ⟨rfl, hb2⟩))
        go_ret2
        exact ⟨rfl, hb1.trans (hb2.mono hb1.size)⟩
      · obtain ⟨e1, e2⟩ := num_none (numC_big (most := most) hp (fun h => h2 h.2))
        rw [e1, e2]
        have hq : ((str (Lib.decDigits u)).toList != (str l).toList) = true := by rw [bne, str_beq, beq_dec, decide_eq_false h2]; rfl
        have hq2 : ((str (Lib.decDigits u)).toList == (str l).toList) = false := by rw [str_beq, beq_dec, decide_eq_false h2]
        clear hp e1 e2 h1 h2 hE hu
        generalize str l = s at *
        generalize str (Lib.decDigits u) = s2 at *
        go_enter Tryz.func20, Tryz.ntmps20
        go_wp2_with (first | (go_at_call 40; refine HC.mono ?_; rintro e w1 ⟨rfl, hb1⟩) | (go_at_call 41; refine (HF _ hb1).mono ?_; rintro e w2 ⟨rfl, hb2⟩))
        go_ret2
        exact ⟨rfl, hb1.trans (hb2.mono hb1.size)⟩
    · have h1' : (most : Int) < (u : Int) := by omega
      obtain ⟨e1, e2⟩ := num_none (numC_big (most := most) hp (fun h => h1 h.1))
      rw [e1, e2]
      clear hp e1 e2 h1 hE hu
      generalize str l = s at *
      go_enter Tryz.func20, Tryz.ntmps20
      go_wp2_with (first | (go_at_call 40; refine HC.mono ?_; rintro e w1 ⟨rfl, hb1⟩) | (go_at_call 41; refine (HF _ hb1).mono ?_; rintro e w2 ⟨rfl, hb2⟩))
      go_ret2
      exact ⟨rfl, hb1⟩
  | «syntax» =>
    have HC := codParseNo l w hl hE (.inl hp)
    obtain ⟨e1, e2⟩ := num_none (numC_bad (most := most) (.inl hp))
    rw [e1, e2]
    clear hp e1 e2 hE
    generalize str l = s at *
    go_enter Tryz.func20, Tryz.ntmps20
    go_wp2_with (go_at_call 40; refine HC.mono ?_; rintro e w1 ⟨z, t, N, rfl, hb1⟩)
    go_ret2
    exact ⟨rfl, hb1⟩
  | range =>
    have HC := codParseNo l w hl hE (.inr hp)
    obtain ⟨e1, e2⟩ := num_none (numC_bad (most := most) (.inr hp))
    rw [e1, e2]
    clear hp e1 e2 hE
    generalize str l = s at *
    go_enter Tryz.func20, Tryz.ntmps20
    go_wp2_with (go_at_call 40; refine HC.mono ?_; rintro e w1 ⟨z, t, N, rfl, hb1⟩)
    go_ret2
    exact ⟨rfl, hb1⟩
end Go.Proofs.YtbknabmcelknmaaGreatDoor
