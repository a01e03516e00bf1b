/- What clock's Read answers. -/
import Derived.Test.YthinnmfhjikobaaCodDay
import Derived.Test.YthinnmfhjikobaaCodPair
import Derived.Deep.RegionHeld3
import Derived.Deep.RegionWith
import Derived.Deep.CutBlock
import Derived.Deep.CutRange
namespace Go.Proofs.Ythinnmfhjikobaa
open Go.RowKit
attribute [local go_sem ↓] ixs

set_option maxHeartbeats 1000000 in
theorem codRead_len (s : ByteArray) (w : World) (h : ¬ s.size = 16) :
    Calls Try.prog 17 #[.string s] w fun e w' => e = .returned (.tuple #[.int .u64 0, .int .i64 6]) ∧ Below w.heap.size w w' := by
  have h' : ¬ (s.size : Int) = 16 := by omega
  clear h
  go_enter Try.func17, Try.ntmps17
  go_wp2
  go_ret2
  exact ⟨rfl, Below.refl _ _⟩

set_option maxHeartbeats 1000000 in
theorem codRead_sign (s : ByteArray) (w : World) (h : s.size = 16) (h2 : ¬ (sb s 8 = 84 ∧ sb s 15 = 90)) :
    Calls Try.prog 17 #[.string s] w fun e w' => e = .returned (.tuple #[.int .u64 0, .int .i64 6]) ∧ Below w.heap.size w w' := by
  have h' : (s.size : Int) = 16 := by omega
  by_cases h3 : sb s 8 = 84
  · have h4 : ¬ sb s 15 = 90 := fun e => h2 ⟨h3, e⟩
    have h3' : ((sb s 8).toNat : Int) = 84 := by rw [h3]; rfl
    have h4' : ¬ ((sb s 15).toNat : Int) = 90 := by intro e; exact h4 (UInt8.toNat_inj.1 (by have : (90 : UInt8).toNat = 90 := rfl; omega))
    clear h h2 h3 h4
    go_enter Try.func17, Try.ntmps17
    go_wp2
    go_ret2
    exact ⟨rfl, Below.refl _ _⟩
  · have h3' : ¬ ((sb s 8).toNat : Int) = 84 := by intro e; exact h3 (UInt8.toNat_inj.1 (by have : (84 : UInt8).toNat = 84 := rfl; omega))
    clear h h2 h3
    go_enter Try.func17, Try.ntmps17
    go_wp2
    go_ret2
    exact ⟨rfl, Below.refl _ _⟩

/-- seven numbers that were laid ahead of a call -/
theorem laid7 {w u x : World} {n : Nat} (hb : Below n u x) (hu : u.heap = (w.alloc (Obj.cells #[.int .i64 0, .int .i64 0, .int .i64 0, .int .i64 0, .int .i64 0, .int .i64 0, .int .i64 0] 49)).heap) (hn : n = u.heap.size) : Hid (Blk x w.heap.size 49 (List.replicate 7 (.int .i64 0))) ∧ w.heap.size < x.heap.size ∧ x.cell? ⟨w.heap.size, 0, none⟩ = some (.int .i64 0) ∧ x.frozen? ⟨w.heap.size, 0, none⟩ = false ∧ x.cell? ⟨w.heap.size, 1, none⟩ = some (.int .i64 0) ∧ x.frozen? ⟨w.heap.size, 1, none⟩ = false ∧ x.cell? ⟨w.heap.size, 2, none⟩ = some (.int .i64 0) ∧ x.frozen? ⟨w.heap.size, 2, none⟩ = false ∧ x.cell? ⟨w.heap.size, 3, none⟩ = some (.int .i64 0) ∧ x.frozen? ⟨w.heap.size, 3, none⟩ = false ∧ x.cell? ⟨w.heap.size, 4, none⟩ = some (.int .i64 0) ∧ x.frozen? ⟨w.heap.size, 4, none⟩ = false ∧ x.cell? ⟨w.heap.size, 5, none⟩ = some (.int .i64 0) ∧ x.frozen? ⟨w.heap.size, 5, none⟩ = false ∧ x.cell? ⟨w.heap.size, 6, none⟩ = some (.int .i64 0) ∧ x.frozen? ⟨w.heap.size, 6, none⟩ = false := by
  have hlt : w.heap.size < u.heap.size := by rw [hu]; simp
  have h : x.heap[w.heap.size]? = some (.cells #[.int .i64 0, .int .i64 0, .int .i64 0, .int .i64 0, .int .i64 0, .int .i64 0, .int .i64 0] 49 (0, 0)) := by rw [hb.block _ (by omega), hu]; exact heap_alloc_new w _
  have hc := fun j => cell_of_row x w.heap.size j _ _ _ h
  have hf := fun j => frozen_of_row x w.heap.size j _ _ h
  exact ⟨h, Nat.lt_of_lt_of_le hlt (hn ▸ hb.size), hc 0, hf 0, hc 1, hf 1, hc 2, hf 2, hc 3, hf 3, hc 4, hf 4, hc 5, hf 5, hc 6, hf 6⟩
theorem set7 {x : World} {B : Nat} {cs : List Value} (h : Blk x B 49 cs) (hl : cs.length = 7) (z0 z1 z2 z3 z4 z5 z6 : Value) :
    Blk (((((((x.setCell ⟨B, 0, none⟩ z0).setCell ⟨B, 1, none⟩ z1).setCell ⟨B, 2, none⟩ z2).setCell ⟨B, 3, none⟩ z3).setCell ⟨B, 4, none⟩ z4).setCell ⟨B, 5, none⟩ z5).setCell ⟨B, 6, none⟩ z6) B 49 [z0, z1, z2, z3, z4, z5, z6] := by
  have := ((((((h.set 0 z0).set 1 z1).set 2 z2).set 3 z3).set 4 z4).set 5 z5).set 6 z6
  match cs, hl with
  | [_, _, _, _, _, _, _], _ => exact this
theorem bel7 {w x : World} {B : Nat} (h : Below w.heap.size w x) (hB : w.heap.size ≤ B) (z0 z1 z2 z3 z4 z5 z6 : Value) :
    Below w.heap.size w (((((((x.setCell ⟨B, 0, none⟩ z0).setCell ⟨B, 1, none⟩ z1).setCell ⟨B, 2, none⟩ z2).setCell ⟨B, 3, none⟩ z3).setCell ⟨B, 4, none⟩ z4).setCell ⟨B, 5, none⟩ z5).setCell ⟨B, 6, none⟩ z6) :=
  ((((((h.setCell hB z0).setCell hB z1).setCell hB z2).setCell hB z3).setCell hB z4).setCell hB z5).setCell hB z6

/-- the fourteen signs that must be digits -/
def q14 (s : ByteArray) : ByteArray := s.extract 0 8 ++ s.extract 9 15

set_option maxHeartbeats 1000000 in
theorem codRead_no (s : ByteArray) (w : World) (h : s.size = 16) (h3 : sb s 8 = 84) (h4 : sb s 15 = 90) (z0 z1 z2 z3 z4 z5 z6 : Int)
    (hp : ∀ w, Calls Try.prog 30 #[.string (s.extract 0 8 ++ s.extract 9 15)] w fun e w' => e = .returned (.tuple #[.agg #[.int .i64 z0, .int .i64 z1, .int .i64 z2, .int .i64 z3, .int .i64 z4, .int .i64 z5, .int .i64 z6], .bool false]) ∧ Below w.heap.size w w') :
    Calls Try.prog 17 #[.string s] w fun e w' => e = .returned (.tuple #[.int .u64 0, .int .i64 6]) ∧ Below w.heap.size w w' := by
  have h' : (s.size : Int) = 16 := by omega
  have h3' : ((sb s 8).toNat : Int) = 84 := by rw [h3]; rfl
  have h4' : ((sb s 15).toNat : Int) = 90 := by rw [h4]; rfl
  clear h3 h4
  go_enter Try.func17, Try.ntmps17
  go_wp2_with fail
  go_upto_region 3 with fail
  go_cut [4, 5] from 24 (fun v4 v5 wx => ∃ B, v4 = .pointer (some ⟨B, 0, none⟩) ∧ v5 = .bool false ∧ Hid (Blk wx B 49 [.int .i64 z0, .int .i64 z1, .int .i64 z2, .int .i64 z3, .int .i64 z4, .int .i64 z5, .int .i64 z6]) ∧ Below w.heap.size w wx)
  case first =>
    go_region_with ((go_at_call 30; refine (hp _).mono ?_; rintro e x ⟨rfl, hb⟩; try (have hk := @laid7 w _ _ _ hb (by rfl) (by rfl); obtain ⟨Hk, hlt, k0, f0, k1, f1, k2, f2, k3, f3, k4, f4, k5, f5, k6, f6⟩ := hk)))
    all_goals
      go_wp2_with fail
      go_meet
      case rel => first | (have hk2 := Hk; exact ⟨_, rfl, rfl, set7 Hk.out rfl _ _ _ _ _ _ _, bel7 ((((Below.refl w.heap.size w).alloc (Nat.le_refl _) _).drew).trans (hb.mono (by simp))) (Nat.le_refl _) _ _ _ _ _ _ _⟩) | exact ⟨_, rfl, rfl, Blk.newAt _ _ _ _ _ rfl rfl, (((Below.refl w.heap.size w).drew).trans (hb.mono (Nat.le_refl _))).alloc (((Below.refl w.heap.size w).drew).trans (hb.mono (Nat.le_refl _))).size _⟩
  case rest =>
    obtain ⟨B, rfl, rfl, hB, hbel⟩ := hcut
    go_wp2
    go_ret2
    exact ⟨rfl, hbel⟩
set_option maxHeartbeats 1000000 in
theorem codRead_yes (s : ByteArray) (w : World) (h : s.size = 16) (h3 : sb s 8 = 84) (h4 : sb s 15 = 90) (z0 z1 z2 z3 z4 z5 z6 Y : Nat) (hY : Hid (Y = 100 * z0 + z1)) (q0 : z0 < 100) (q1 : z1 < 100) (q4 : z4 < 100) (q5 : z5 < 100) (q6 : z6 < 100)
    (hp : ∀ w, Calls Try.prog 30 #[.string (s.extract 0 8 ++ s.extract 9 15)] w fun e w' => e = .returned (.tuple #[.agg #[.int .i64 (z0 : Int), .int .i64 (z1 : Int), .int .i64 (z2 : Int), .int .i64 (z3 : Int), .int .i64 (z4 : Int), .int .i64 (z5 : Int), .int .i64 (z6 : Int)], .bool true]) ∧ Below w.heap.size w w') :
    Calls Try.prog 17 #[.string s] w fun e w' => RdRaw (Y : Int) (z2 : Int) (z3 : Int) (z4 : Int) (z5 : Int) (z6 : Int) e ∧ Below w.heap.size w w' := by
  have h' : (s.size : Int) = 16 := by omega
  have h3' : ((sb s 8).toNat : Int) = 84 := by rw [h3]; rfl
  have h4' : ((sb s 15).toNat : Int) = 90 := by rw [h4]; rfl
  clear h3 h4
  go_enter Try.func17, Try.ntmps17
  go_wp2_with fail
  go_upto_region 3 with fail
  go_cut [4, 5] from 24 (fun v4 v5 wx => ∃ B, v4 = .pointer (some ⟨B, 0, none⟩) ∧ v5 = .bool true ∧ Hid (Blk wx B 49 [.int .i64 (z0 : Int), .int .i64 (z1 : Int), .int .i64 (z2 : Int), .int .i64 (z3 : Int), .int .i64 (z4 : Int), .int .i64 (z5 : Int), .int .i64 (z6 : Int)]) ∧ Below w.heap.size w wx)
  case first =>
    go_region_with ((go_at_call 30; refine (hp _).mono ?_; rintro e x ⟨rfl, hb⟩; try (have hk := @laid7 w _ _ _ hb (by rfl) (by rfl); obtain ⟨Hk, hlt, k0, f0, k1, f1, k2, f2, k3, f3, k4, f4, k5, f5, k6, f6⟩ := hk)))
    all_goals
      go_wp2_with fail
      go_meet
      case rel => first | (have hk2 := Hk; exact ⟨_, rfl, rfl, set7 Hk.out rfl _ _ _ _ _ _ _, bel7 ((((Below.refl w.heap.size w).alloc (Nat.le_refl _) _).drew).trans (hb.mono (by simp))) (Nat.le_refl _) _ _ _ _ _ _ _⟩) | exact ⟨_, rfl, rfl, Blk.newAt _ _ _ _ _ rfl rfl, (((Below.refl w.heap.size w).drew).trans (hb.mono (Nat.le_refl _))).alloc (((Below.refl w.heap.size w).drew).trans (hb.mono (Nat.le_refl _))).size _⟩
  case rest =>
    obtain ⟨B, rfl, rfl, hB, hbel⟩ := hcut
    clear hp
    have c0 := hB.out.cell 0
    have c1 := hB.out.cell 1
    have c2 := hB.out.cell 2
    have c3 := hB.out.cell 3
    have c4 := hB.out.cell 4
    have c5 := hB.out.cell 5
    have c6 := hB.out.cell 6
    simp only [List.getElem?_cons_zero, List.getElem?_cons_succ] at c0 c1 c2 c3 c4 c5 c6
    have hlt := hB.out.lt
    go_wp2_with fail
    have ey : (100 * (z0 : Int) + (z1 : Int)) = (Y : Int) := by have := hY.out; omega
    rw [ey]
    clear ey c0 c1 c2 c3 q0 q1 hY
    rcases date_or (Y : Int) (z2 : Int) (z3 : Int) with hno | ⟨n, y, m, d, e1, e2, e3, hd⟩
    · refine (codDay_out (Y : Int) (z2 : Int) (z3 : Int) wc hno).mono ?_
      rintro e x3 ⟨rfl, b3⟩
      have B3 := hbel.trans (b3.mono hbel.size)
      go_wp2
      go_ret2
      exact ⟨.inl ⟨.inl hno, rfl⟩, B3⟩
    · obtain rfl : y = Y := by omega
      obtain rfl : m = z2 := by omega
      obtain rfl : d = z3 := by omega
      clear e1 e2 e3
      refine (codDay_in n y m d wc hd).mono ?_
      rintro e x3 ⟨rfl, b3⟩
      have B3 := hbel.trans (b3.mono hbel.size)
      have k4 := (b3.cell (p := ⟨B, 4, none⟩) hlt).trans c4
      have k5 := (b3.cell (p := ⟨B, 5, none⟩) hlt).trans c5
      have k6 := (b3.cell (p := ⟨B, 6, none⟩) hlt).trans c6
      clear c4 c5 c6 b3 hbel hB hlt
      have hle := hd.le
      have Hd : Hid (IsDate n y m d) := hd
      clear hd
      by_cases c0 : n < 719162
      · have c0' : (n : Int) - 719162 < 0 := by omega
        go_wp2
        go_ret2
        exact ⟨.inl ⟨.inr (.inr ⟨n, y, m, d, rfl, rfl, rfl, Hd.out, c0⟩), rfl⟩, B3⟩
      obtain ⟨k, rfl⟩ : ∃ k, n = k + 719162 := ⟨n - 719162, by omega⟩
      have hk : ((k + 719162 : Nat) : Int) - 719162 = (k : Int) := by omega
      rw [hk]
      have hk2 : (k : Int) ≤ 2932896 := by omega
      clear hle c0 hk
      by_cases hbad : NoHour (z4 : Int) (z5 : Int) (z6 : Int)
      · have fin : ∀ e, e = Ending.returned (.tuple #[.int .u64 0, .int .i64 6]) → RdRaw (y : Int) (m : Int) (d : Int) (z4 : Int) (z5 : Int) (z6 : Int) e := fun e he => .inl ⟨.inr (.inl hbad), he⟩
        have HB : Hid (NoHour (z4 : Int) (z5 : Int) (z6 : Int)) := hbad
        clear hbad
        by_cases c2 : (24 : Int) ≤ z4
        · go_wp2
          go_quiet (fail)
          go_wp2
          go_ret2
          exact ⟨fin _ rfl, bel_drewN B3 _⟩
        by_cases c3 : (60 : Int) ≤ z5
        · go_wp2
          go_quiet (fail)
          go_wp2
          go_ret2
          exact ⟨fin _ rfl, bel_drewN B3 _⟩
        have c6 : (60 : Int) ≤ z6 := by have := HB.out; unfold NoHour at this; omega
        go_wp2
        go_quiet (fail)
        go_wp2
        go_ret2
        exact ⟨fin _ rfl, bel_drewN B3 _⟩
      · have HB : Hid (¬ NoHour (z4 : Int) (z5 : Int) (z6 : Int)) := hbad
        unfold NoHour at hbad
        have c2 : ¬ (24 : Int) ≤ z4 := by omega
        have c3 : ¬ (60 : Int) ≤ z5 := by omega
        have c6 : ¬ (60 : Int) ≤ z6 := by omega
        clear hbad
        go_wp2
        go_quiet (fail)
        go_wp2
        go_ret2
        refine ⟨.inr ⟨k + 719162, y, m, d, rfl, rfl, rfl, Hd.out, by omega, HB.out, ?_⟩, bel_drewN B3 _⟩
        exact ret_ue (by omega)

end Go.Proofs.Ythinnmfhjikobaa
