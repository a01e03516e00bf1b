/- What clock's Read answers. · Plain facts: which text is a time, by its six numbers; by its fourteen digits. · What clock's Read answers, of whatever text. -/
import Derived.Test.YtgjmaeodgcigdaaGreatDoorB38
import Derived.Deep.RegionHeld3
import Derived.Deep.RegionWith
import Derived.Deep.CutBlock
import Derived.Deep.CutRange
import Derived.Test.YtgjmaeodgcigdaaGreatDoorB24
namespace Go.Proofs.YtgjmaeodgcigdaaGreatDoor
open Go.RowKit
attribute [local go_sem ↓] ixs

set_option maxHeartbeats 1000000 in
theorem codRead_len (s : ByteArray) (w : World) (h : ¬ s.size = 16) :
    Calls Tryz.prog 115 #[.string s] w fun e w' => e = .returned (.tuple #[.int .u64 0, .int .i64 6]) ∧ Below w.heap.size w w' := by
  have h' : ¬ (s.size : Int) = 16 := by omega
  clear h
  go_enter Tryz.func115, Tryz.ntmps115
  go_wp2
  go_ret2
  exact ⟨rfl, Below.refl _ _⟩

set_option maxHeartbeats 1000000 in
theorem codRead_sign (s : ByteArray) (w : World) (h : s.size = 16) (h2 : ¬ (sb s 8 = 84 ∧ sb s 15 = 90)) :
    Calls Tryz.prog 115 #[.string s] w fun e w' => e = .returned (.tuple #[.int .u64 0, .int .i64 6]) ∧ Below w.heap.size w w' := by
  have h' : (s.size : Int) = 16 := by omega
  by_cases h3 : sb s 8 = 84
  · have h4 : ¬ sb s 15 = 90 := fun e => h2 ⟨h3, e⟩
    have h3' : ((sb s 8).toNat : Int) = 84 := by rw [h3]; rfl
    have h4' : ¬ ((sb s 15).toNat : Int) = 90 := by intro e; exact h4 (UInt8.toNat_inj.1 (by have : (90 : UInt8).toNat = 90 := rfl; omega))
    clear h h2 h3 h4
    go_enter Tryz.func115, Tryz.ntmps115
    go_wp2
    go_ret2
    exact ⟨rfl, Below.refl _ _⟩
  · have h3' : ¬ ((sb s 8).toNat : Int) = 84 := by intro e; exact h3 (UInt8.toNat_inj.1 (by have : (84 : UInt8).toNat = 84 := rfl; omega))
    clear h h2 h3
    go_enter Tryz.func115, Tryz.ntmps115
    go_wp2
    go_ret2
    exact ⟨rfl, Below.refl _ _⟩

/-- seven numbers that were laid ahead of a call -/
theorem laid7 {w u x : World} {n : Nat} (hb : Below n u x) (hu : u.heap = (w.alloc (Obj.cells #[.int .i64 0, .int .i64 0, .int .i64 0, .int .i64 0, .int .i64 0, .int .i64 0, .int .i64 0] 189)).heap) (hn : n = u.heap.size) : Hid (Blk x w.heap.size 189 (List.replicate 7 (.int .i64 0))) ∧ w.heap.size < x.heap.size ∧ x.cell? ⟨w.heap.size, 0, none⟩ = some (.int .i64 0) ∧ x.frozen? ⟨w.heap.size, 0, none⟩ = false ∧ x.cell? ⟨w.heap.size, 1, none⟩ = some (.int .i64 0) ∧ x.frozen? ⟨w.heap.size, 1, none⟩ = false ∧ x.cell? ⟨w.heap.size, 2, none⟩ = some (.int .i64 0) ∧ x.frozen? ⟨w.heap.size, 2, none⟩ = false ∧ x.cell? ⟨w.heap.size, 3, none⟩ = some (.int .i64 0) ∧ x.frozen? ⟨w.heap.size, 3, none⟩ = false ∧ x.cell? ⟨w.heap.size, 4, none⟩ = some (.int .i64 0) ∧ x.frozen? ⟨w.heap.size, 4, none⟩ = false ∧ x.cell? ⟨w.heap.size, 5, none⟩ = some (.int .i64 0) ∧ x.frozen? ⟨w.heap.size, 5, none⟩ = false ∧ x.cell? ⟨w.heap.size, 6, none⟩ = some (.int .i64 0) ∧ x.frozen? ⟨w.heap.size, 6, none⟩ = false := by
  have hlt : w.heap.size < u.heap.size := by rw [hu]; simp
  have h : x.heap[w.heap.size]? = some (.cells #[.int .i64 0, .int .i64 0, .int .i64 0, .int .i64 0, .int .i64 0, .int .i64 0, .int .i64 0] 189 (0, 0)) := by rw [hb.block _ (by omega), hu]; exact heap_alloc_new w _
  have hc := fun j => cell_of_row x w.heap.size j _ _ _ h
  have hf := fun j => frozen_of_row x w.heap.size j _ _ h
  exact ⟨h, Nat.lt_of_lt_of_le hlt (hn ▸ hb.size), hc 0, hf 0, hc 1, hf 1, hc 2, hf 2, hc 3, hf 3, hc 4, hf 4, hc 5, hf 5, hc 6, hf 6⟩
theorem set7 {x : World} {B : Nat} {cs : List Value} (h : Blk x B 189 cs) (hl : cs.length = 7) (z0 z1 z2 z3 z4 z5 z6 : Value) :
    Blk (((((((x.setCell ⟨B, 0, none⟩ z0).setCell ⟨B, 1, none⟩ z1).setCell ⟨B, 2, none⟩ z2).setCell ⟨B, 3, none⟩ z3).setCell ⟨B, 4, none⟩ z4).setCell ⟨B, 5, none⟩ z5).setCell ⟨B, 6, none⟩ z6) B 189 [z0, z1, z2, z3, z4, z5, z6] := by
  have := ((((((h.set 0 z0).set 1 z1).set 2 z2).set 3 z3).set 4 z4).set 5 z5).set 6 z6
  match cs, hl with
  | [_, _, _, _, _, _, _], _ => exact this
theorem bel7 {w x : World} {B : Nat} (h : Below w.heap.size w x) (hB : w.heap.size ≤ B) (z0 z1 z2 z3 z4 z5 z6 : Value) :
    Below w.heap.size w (((((((x.setCell ⟨B, 0, none⟩ z0).setCell ⟨B, 1, none⟩ z1).setCell ⟨B, 2, none⟩ z2).setCell ⟨B, 3, none⟩ z3).setCell ⟨B, 4, none⟩ z4).setCell ⟨B, 5, none⟩ z5).setCell ⟨B, 6, none⟩ z6) :=
  ((((((h.setCell hB z0).setCell hB z1).setCell hB z2).setCell hB z3).setCell hB z4).setCell hB z5).setCell hB z6

/-- the fourteen signs that must be digits -/
def q14 (s : ByteArray) : ByteArray := s.extract 0 8 ++ s.extract 9 15

set_option maxHeartbeats 1000000 in
theorem codRead_no (s : ByteArray) (w : World) (h : s.size = 16) (h3 : sb s 8 = 84) (h4 : sb s 15 = 90) (z0 z1 z2 z3 z4 z5 z6 : Int)
    (hp : ∀ w, Calls Tryz.prog 146 #[.string (s.extract 0 8 ++ s.extract 9 15)] w fun e w' => e = .returned (.tuple #[.agg #[.int .i64 z0, .int .i64 z1, .int .i64 z2, .int .i64 z3, .int .i64 z4, .int .i64 z5, .int .i64 z6], .bool false]) ∧ Below w.heap.size w w') :
    Calls Tryz.prog 115 #[.string s] w fun e w' => e = .returned (.tuple #[.int .u64 0, .int .i64 6]) ∧ Below w.heap.size w w' := by
  have h' : (s.size : Int) = 16 := by omega
  have h3' : ((sb s 8).toNat : Int) = 84 := by rw [h3]; rfl
  have h4' : ((sb s 15).toNat : Int) = 90 := by rw [h4]; rfl
  clear h3 h4
  go_enter Tryz.func115, Tryz.ntmps115
  go_wp2_with fail
  go_upto_region 3 with fail
  go_cut [4, 5] from 24 (fun v4 v5 wx => ∃ B, v4 = .pointer (some ⟨B, 0, none⟩) ∧ v5 = .bool false ∧ Hid (Blk wx B 189 [.int .i64 z0, .int .i64 z1, .int .i64 z2, .int .i64 z3, .int .i64 z4, .int .i64 z5, .int .i64 z6]) ∧ Below w.heap.size w wx)
  case first =>
    go_region_with ((go_at_call 146; refine (hp _).mono ?_; rintro e x ⟨rfl, hb⟩; try (have hk := @laid7 w _ _ _ hb (by rfl) (by rfl); obtain ⟨Hk, hlt, k0, f0, k1, f1, k2, f2, k3, f3, k4, f4, k5, f5, k6, f6⟩ := hk)))
    all_goals
      go_wp2_with fail
      go_meet
      case rel => first | (have hk2 := Hk; exact ⟨_, rfl, rfl, set7 Hk.out rfl _ _ _ _ _ _ _, bel7 ((((Below.refl w.heap.size w).alloc (Nat.le_refl _) _).drew).trans (hb.mono (by simp))) (Nat.le_refl _) _ _ _ _ _ _ _⟩) | exact ⟨_, rfl, rfl, Blk.newAt _ _ _ _ _ rfl rfl, (((Below.refl w.heap.size w).drew).trans (hb.mono (Nat.le_refl _))).alloc (((Below.refl w.heap.size w).drew).trans (hb.mono (Nat.le_refl _))).size _⟩
  case rest =>
    obtain ⟨B, rfl, rfl, hB, hbel⟩ := hcut
    go_wp2
    go_ret2
    exact ⟨rfl, hbel⟩
set_option maxHeartbeats 1000000 in
theorem codRead_yes (s : ByteArray) (w : World) (h : s.size = 16) (h3 : sb s 8 = 84) (h4 : sb s 15 = 90) (z0 z1 z2 z3 z4 z5 z6 Y : Nat) (hY : Hid (Y = 100 * z0 + z1)) (q0 : z0 < 100) (q1 : z1 < 100) (q4 : z4 < 100) (q5 : z5 < 100) (q6 : z6 < 100)
    (hp : ∀ w, Calls Tryz.prog 146 #[.string (s.extract 0 8 ++ s.extract 9 15)] w fun e w' => e = .returned (.tuple #[.agg #[.int .i64 (z0 : Int), .int .i64 (z1 : Int), .int .i64 (z2 : Int), .int .i64 (z3 : Int), .int .i64 (z4 : Int), .int .i64 (z5 : Int), .int .i64 (z6 : Int)], .bool true]) ∧ Below w.heap.size w w') :
    Calls Tryz.prog 115 #[.string s] w fun e w' => RdRaw (Y : Int) (z2 : Int) (z3 : Int) (z4 : Int) (z5 : Int) (z6 : Int) e ∧ Below w.heap.size w w' := by
  have h' : (s.size : Int) = 16 := by omega
  have h3' : ((sb s 8).toNat : Int) = 84 := by rw [h3]; rfl
  have h4' : ((sb s 15).toNat : Int) = 90 := by rw [h4]; rfl
  clear h3 h4
  go_enter Tryz.func115, Tryz.ntmps115
  go_wp2_with fail
  go_upto_region 3 with fail
  go_cut [4, 5] from 24 (fun v4 v5 wx => ∃ B, v4 = .pointer (some ⟨B, 0, none⟩) ∧ v5 = .bool true ∧ Hid (Blk wx B 189 [.int .i64 (z0 : Int), .int .i64 (z1 : Int), .int .i64 (z2 : Int), .int .i64 (z3 : Int), .int .i64 (z4 : Int), .int .i64 (z5 : Int), .int .i64 (z6 : Int)]) ∧ Below w.heap.size w wx)
  case first =>
    go_region_with ((go_at_call 146; refine (hp _).mono ?_; rintro e x ⟨rfl, hb⟩; try (have hk := @laid7 w _ _ _ hb (by rfl) (by rfl); obtain ⟨Hk, hlt, k0, f0, k1, f1, k2, f2, k3, f3, k4, f4, k5, f5, k6, f6⟩ := hk)))
    all_goals
      go_wp2_with fail
      go_meet
      case rel => first | (have hk2 := Hk; exact ⟨_, rfl, rfl, set7 Hk.out rfl _ _ _ _ _ _ _, bel7 ((((Below.refl w.heap.size w).alloc (Nat.le_refl _) _).drew).trans (hb.mono (by simp))) (Nat.le_refl _) _ _ _ _ _ _ _⟩) | exact ⟨_, rfl, rfl, Blk.newAt _ _ _ _ _ rfl rfl, (((Below.refl w.heap.size w).drew).trans (hb.mono (Nat.le_refl _))).alloc (((Below.refl w.heap.size w).drew).trans (hb.mono (Nat.le_refl _))).size _⟩
  case rest =>
    obtain ⟨B, rfl, rfl, hB, hbel⟩ := hcut
    clear hp
    have c0 := hB.out.cell 0
    have c1 := hB.out.cell 1
    have c2 := hB.out.cell 2
    have c3 := hB.out.cell 3
    have c4 := hB.out.cell 4
    have c5 := hB.out.cell 5
    have c6 := hB.out.cell 6
    simp only [List.getElem?_cons_zero, List.getElem?_cons_succ] at c0 c1 c2 c3 c4 c5 c6
    have hlt := hB.out.lt
    go_wp2_with fail
    have ey : (100 * (z0 : Int) + (z1 : Int)) = (Y : Int) := by have := hY.out; omega
    rw [ey]
    clear ey c0 c1 c2 c3 q0 q1 hY
    rcases date_or (Y : Int) (z2 : Int) (z3 : Int) with hno | ⟨n, y, m, d, e1, e2, e3, hd⟩
    · refine (codDay_out (Y : Int) (z2 : Int) (z3 : Int) wc hno).mono ?_
      rintro e x3 ⟨rfl, b3⟩
      have B3 := hbel.trans (b3.mono hbel.size)
      go_wp2
      go_ret2
      exact ⟨.inl ⟨.inl hno, rfl⟩, B3⟩
    · obtain rfl : y = Y := by omega
      obtain rfl : m = z2 := by omega
      obtain rfl : d = z3 := by omega
      clear e1 e2 e3
      refine (codDay_in n y m d wc hd).mono ?_
      rintro e x3 ⟨rfl, b3⟩
      have B3 := hbel.trans (b3.mono hbel.size)
      have k4 := (b3.cell (p := ⟨B, 4, none⟩) hlt).trans c4
      have k5 := (b3.cell (p := ⟨B, 5, none⟩) hlt).trans c5
      have k6 := (b3.cell (p := ⟨B, 6, none⟩) hlt).trans c6
      clear c4 c5 c6 b3 hbel hB hlt
      have hle := hd.le
      have Hd : Hid (IsDate n y m d) := hd
      clear hd
      by_cases c0 : n < 719162
      · have c0' : (n : Int) - 719162 < 0 := by omega
        go_wp2
        go_ret2
        exact ⟨.inl ⟨.inr (.inr ⟨n, y, m, d, rfl, rfl, rfl, Hd.out, c0⟩), rfl⟩, B3⟩
      obtain ⟨k, rfl⟩ : ∃ k, n = k + 719162 := ⟨n - 719162, by omega⟩
      have hk : ((k + 719162 : Nat) : Int) - 719162 = (k : Int) := by omega
      rw [hk]
      have hk2 : (k : Int) ≤ 2932896 := by omega
      clear hle c0 hk
      by_cases hbad : NoHour (z4 : Int) (z5 : Int) (z6 : Int)
      · have fin : ∀ e, e = Ending.returned (.tuple #[.int .u64 0, .int .i64 6]) → RdRaw (y : Int) (m : Int) (d : Int) (z4 : Int) (z5 : Int) (z6 : Int) e := fun e he => .inl ⟨.inr (.inl hbad), he⟩
        have HB : Hid (NoHour (z4 : Int) (z5 : Int) (z6 : Int)) := hbad
        clear hbad
        by_cases c2 : (24 : Int) ≤ z4
        · go_wp2
          go_quiet (fail)
          go_wp2
          go_ret2
          exact ⟨fin _ rfl, bel_drewN B3 _⟩
        by_cases c3 : (60 : Int) ≤ z5
        · go_wp2
          go_quiet (fail)
          go_wp2
          go_ret2
          exact ⟨fin _ rfl, bel_drewN B3 _⟩
        have c6 : (60 : Int) ≤ z6 := by have := HB.out; unfold NoHour at this; omega
        go_wp2
        go_quiet (fail)
        go_wp2
        go_ret2
        exact ⟨fin _ rfl, bel_drewN B3 _⟩
      · have HB : Hid (¬ NoHour (z4 : Int) (z5 : Int) (z6 : Int)) := hbad
        unfold NoHour at hbad
        have c2 : ¬ (24 : Int) ≤ z4 := by omega
        have c3 : ¬ (60 : Int) ≤ z5 := by omega
        have c6 : ¬ (60 : Int) ≤ z6 := by omega
        clear hbad
        go_wp2
        go_quiet (fail)
        go_wp2
        go_ret2
        refine ⟨.inr ⟨k + 719162, y, m, d, rfl, rfl, rfl, Hd.out, by omega, HB.out, ?_⟩, bel_drewN B3 _⟩
        exact ret_ue3 (by omega)

end Go.Proofs.YtgjmaeodgcigdaaGreatDoor
namespace Go.Proofs.YtgjmaeodgcigdaaGreatDoor
open Go.RowKit

/-- what Read answers: the time whose text it is, or that there is none -/
def ReadE (l : List UInt8) (e : Ending) : Prop :=
  (∃ t : Nat, IsTime l t ∧ e = .returned (.tuple #[.int .u64 (t : Int), .int .i64 0])) ∨ ((∀ t, ¬ IsTime l t) ∧ e = .returned (.tuple #[.int .u64 0, .int .i64 6]))
def ReadAs (l : List UInt8) (v : Nat) (E : Int) : Prop := (IsTime l v ∧ E = 0) ∨ ((∀ t, ¬ IsTime l t) ∧ v = 0 ∧ E = 6)
theorem read_val (l : List UInt8) : ∃ v E, ReadAs l v E ∧ ∀ e, ReadE l e → e = .returned (.tuple #[.int .u64 (v : Int), .int .i64 E]) := by
  by_cases h : ∃ t, IsTime l t
  · obtain ⟨t, ht⟩ := h
    refine ⟨t, 0, .inl ⟨ht, rfl⟩, ?_⟩
    rintro e (⟨t', h1, rfl⟩ | ⟨h1, rfl⟩)
    · rw [ht.uniqT h1]
    · exact absurd ht (h1 t)
  · have h' : ∀ t, ¬ IsTime l t := fun t ht => h ⟨t, ht⟩
    refine ⟨0, 6, .inr ⟨h', rfl, rfl⟩, ?_⟩
    rintro e (⟨t', h1, rfl⟩ | ⟨h1, rfl⟩)
    · exact absurd h1 (h' t')
    · rfl

theorem IsTime.six {l : List UInt8} {t : Nat} (h : IsTime l t) : ∃ n y m d hh i c : Nat, IsDate n y m d ∧ 719162 ≤ n ∧ hh < 24 ∧ i < 60 ∧ c < 60 ∧
    nth l 8 = 84 ∧ nth l 15 = 90 ∧ l.take 4 = dgs 4 y ∧ (l.drop 4).take 2 = dgs 2 m ∧ (l.drop 6).take 2 = dgs 2 d ∧ (l.drop 9).take 2 = dgs 2 hh ∧ (l.drop 11).take 2 = dgs 2 i ∧ (l.drop 13).take 2 = dgs 2 c := by
  obtain ⟨n, y, m, d, hh, i, c, h1, h2, h3, h4, h5, rfl, -⟩ := h
  exact ⟨n, y, m, d, hh, i, c, h1, h2, h3, h4, h5, rfl, rfl, rfl, rfl, rfl, rfl, rfl, rfl⟩

theorem numI_dgs (k n : Nat) (h : n < 10 ^ k) : numI (dgs k n) = (n : Int) := by
  unfold numI; rw [dgs_all, numL_dgs k n h]; rfl
theorem numI_nat {l : List UInt8} {n : Nat} (h : numI l = (n : Int)) : allDg l = true ∧ numD l = n := by
  unfold numI at h
  by_cases e : allDg l = true
  · rw [if_pos e] at h; exact ⟨e, by omega⟩
  · rw [if_neg e] at h; omega
theorem numI_pos {l : List UInt8} (h : 0 ≤ numI l) : allDg l = true ∧ numI l = (numD l : Int) := by
  unfold numI at h ⊢
  by_cases e : allDg l = true
  · rw [if_pos e]; exact ⟨e, rfl⟩
  · rw [if_neg e] at h; omega
theorem numI_all {l : List UInt8} (h : allDg l = true) : numI l = (numD l : Int) := by unfold numI; rw [if_pos h]

theorem raw_read {l : List UInt8} {e : Ending} (hl : l.length = 16) (h8 : nth l 8 = 84) (h15 : nth l 15 = 90)
    (h : RdRaw (numI (l.take 4)) (numI ((l.drop 4).take 2)) (numI ((l.drop 6).take 2)) (numI ((l.drop 9).take 2)) (numI ((l.drop 11).take 2)) (numI ((l.drop 13).take 2)) e) : ReadE l e := by
  rcases h with ⟨h, rfl⟩ | ⟨n, y, m, d, e1, e2, e3, hd, hn, hh, rfl⟩
  · refine .inr ⟨fun t ht => ?_, rfl⟩
    obtain ⟨n, y, m, d, hh, i, c, hd, hn, h1, h2, h3, -, -, p1, p2, p3, p4, p5, p6⟩ := ht.six
    rw [p1, p2, p3, p4, p5, p6, numI_dgs 4 y hd.y4, numI_dgs 2 m hd.m4, numI_dgs 2 d hd.d4, numI_dgs 2 hh (by omega), numI_dgs 2 i (by omega), numI_dgs 2 c (by omega)] at h
    rcases h with h | h | ⟨n', Y, M, D, e1, e2, e3, hd', hn'⟩
    · unfold NoDate at h
      rw [Int.toNat_natCast, Int.toNat_natCast] at h
      have := hd.y1; have := hd.y2; have := hd.m1; have := hd.m2; have := hd.d1; have := hd.d2
      omega
    · unfold NoHour at h; omega
    · obtain rfl : y = Y := by omega
      obtain rfl : m = M := by omega
      obtain rfl : d = D := by omega
      have := hd.eq; have := hd'.eq
      omega
  · obtain ⟨a1, q1⟩ := numI_nat e1
    obtain ⟨a2, q2⟩ := numI_nat e2
    obtain ⟨a3, q3⟩ := numI_nat e3
    unfold NoHour at hh
    obtain ⟨a4, q4⟩ := numI_pos (l := (l.drop 9).take 2) (by omega)
    obtain ⟨a5, q5⟩ := numI_pos (l := (l.drop 11).take 2) (by omega)
    obtain ⟨a6, q6⟩ := numI_pos (l := (l.drop 13).take 2) (by omega)
    have T := txt_of l hl h8 h15 a1 a2 a3 a4 a5 a6
    rw [q1, q2, q3] at T
    refine .inl ⟨(n - 719162) * 86400 + (numD ((l.drop 9).take 2) * 3600 + numD ((l.drop 11).take 2) * 60 + numD ((l.drop 13).take 2)), ⟨n, y, m, d, _, _, _, hd, hn, by omega, by omega, by omega, T, rfl⟩, ?_⟩
    rw [q4, q5, q6]
    exact ret_ue3 (by omega)

/-- the fourteen signs that must be digits -/
def l14 (l : List UInt8) : List UInt8 := l.take 8 ++ (l.drop 9).take 6
theorem all14 {l : List UInt8} (hl : l.length = 16) (h : ∀ i, i < 14 → isDg (nth (l14 l) i) = true) :
    allDg (l.take 4) = true ∧ allDg ((l.drop 4).take 2) = true ∧ allDg ((l.drop 6).take 2) = true ∧ allDg ((l.drop 9).take 2) = true ∧ allDg ((l.drop 11).take 2) = true ∧ allDg ((l.drop 13).take 2) = true := by
  match l, hl with
  | [x0, x1, x2, x3, x4, x5, x6, x7, x8, x9, x10, x11, x12, x13, x14, x15], _ =>
    have h0 : isDg x0 = true := h 0 (by omega)
    have h1 : isDg x1 = true := h 1 (by omega)
    have h2 : isDg x2 = true := h 2 (by omega)
    have h3 : isDg x3 = true := h 3 (by omega)
    have h4 : isDg x4 = true := h 4 (by omega)
    have h5 : isDg x5 = true := h 5 (by omega)
    have h6 : isDg x6 = true := h 6 (by omega)
    have h7 : isDg x7 = true := h 7 (by omega)
    have h8 : isDg x9 = true := h 8 (by omega)
    have h9 : isDg x10 = true := h 9 (by omega)
    have h10 : isDg x11 = true := h 10 (by omega)
    have h11 : isDg x12 = true := h 11 (by omega)
    have h12 : isDg x13 = true := h 12 (by omega)
    have h13 : isDg x14 = true := h 13 (by omega)
    simp [allDg, h0, h1, h2, h3, h4, h5, h6, h7, h8, h9, h10, h11, h12, h13]
theorem none14 {l : List UInt8} (hl : l.length = 16) (I : Nat) (hI : I < 14) (h : isDg (nth (l14 l) I) = false) : ∀ t, ¬ IsTime l t := by
  intro t ht
  obtain ⟨n, y, m, d, hh, i, c, hd, hn, h1, h2, h3, -, -, p1, p2, p3, p4, p5, p6⟩ := ht.six
  have a1 := dgs_all 4 y
  have a2 := dgs_all 2 m
  have a3 := dgs_all 2 d
  have a4 := dgs_all 2 hh
  have a5 := dgs_all 2 i
  have a6 := dgs_all 2 c
  rw [← p1] at a1
  rw [← p2] at a2
  rw [← p3] at a3
  rw [← p4] at a4
  rw [← p5] at a5
  rw [← p6] at a6
  clear p1 p2 p3 p4 p5 p6 hd ht
  match l, hl with
  | [x0, x1, x2, x3, x4, x5, x6, x7, x8, x9, x10, x11, x12, x13, x14, x15], _ =>
    simp only [allDg, List.take_succ_cons, List.take_zero, List.drop_succ_cons, List.drop_zero, List.all_cons, List.all_nil, Bool.and_true, Bool.and_eq_true] at a1 a2 a3 a4 a5 a6
    have key : ∀ x, isDg x = true → isDg x = false → False := fun x h1 h2 => by rw [h1] at h2; cases h2
    obtain rfl | rfl | rfl | rfl | rfl | rfl | rfl | rfl | rfl | rfl | rfl | rfl | rfl | rfl : I = 0 ∨ I = 1 ∨ I = 2 ∨ I = 3 ∨ I = 4 ∨ I = 5 ∨ I = 6 ∨ I = 7 ∨ I = 8 ∨ I = 9 ∨ I = 10 ∨ I = 11 ∨ I = 12 ∨ I = 13 := by omega
    · exact key x0 a1.1 h
    · exact key x1 a1.2.1 h
    · exact key x2 a1.2.2.1 h
    · exact key x3 a1.2.2.2 h
    · exact key x4 a2.1 h
    · exact key x5 a2.2 h
    · exact key x6 a3.1 h
    · exact key x7 a3.2 h
    · exact key x9 a4.1 h
    · exact key x10 a4.2 h
    · exact key x11 a5.1 h
    · exact key x12 a5.2 h
    · exact key x13 a6.1 h
    · exact key x14 a6.2 h
end Go.Proofs.YtgjmaeodgcigdaaGreatDoor
namespace Go.Proofs.YtgjmaeodgcigdaaGreatDoor
open Go.RowKit

theorem q14_list (s : ByteArray) : (s.extract 0 8 ++ s.extract 9 15).data.toList = l14 s.data.toList := by
  simp [l14, ByteArray.data_extract, ByteArray.data_append]
theorem q14_size (s : ByteArray) (h : s.size = 16) : (s.extract 0 8 ++ s.extract 9 15).size = 14 := by
  simp [h]
theorem nums14 {l : List UInt8} (hl : l.length = 16) :
    numD (l.take 4) = 100 * pn (l14 l) 14 0 + pn (l14 l) 14 1 ∧ numD ((l.drop 4).take 2) = pn (l14 l) 14 2 ∧ numD ((l.drop 6).take 2) = pn (l14 l) 14 3 ∧
    numD ((l.drop 9).take 2) = pn (l14 l) 14 4 ∧ numD ((l.drop 11).take 2) = pn (l14 l) 14 5 ∧ numD ((l.drop 13).take 2) = pn (l14 l) 14 6 := by
  match l, hl with
  | [x0, x1, x2, x3, x4, x5, x6, x7, x8, x9, x10, x11, x12, x13, x14, x15], _ =>
    simp [numD, pn, l14, dv, nth]
    omega

theorem codRead (s : ByteArray) (w : World) :
    Calls Tryz.prog 115 #[.string s] w fun e w' => ReadE s.data.toList e ∧ Below w.heap.size w w' := by
  have hlen : s.data.toList.length = s.size := by rw [Array.length_toList]; rfl
  by_cases h : s.size = 16
  · by_cases h2 : sb s 8 = 84 ∧ sb s 15 = 90
    · have hl : s.data.toList.length = 16 := by omega
      have hq := q14_list s
      have hz := q14_size s h
      rcases first_no (l14 s.data.toList) 14 with hd | ⟨I, hI, hno, hd⟩
      · have hp := fun w => codPairs_yes (s.extract 0 8 ++ s.extract 9 15) w hz (by rw [hq]; exact hd)
        rw [hq] at hp
        have hlt := fun j => pn_lt (l14 s.data.toList) 14 j (fun i hi => by have := of_decide_eq_true (hd i hi); unfold dv; omega)
        obtain ⟨n1, n2, n3, n4, n5, n6⟩ := nums14 hl
        obtain ⟨a1, a2, a3, a4, a5, a6⟩ := all14 hl hd
        refine (codRead_yes s w h h2.1 h2.2 _ _ _ _ _ _ _ (numD (s.data.toList.take 4)) n1 (hlt 0) (hlt 1) (hlt 4) (hlt 5) (hlt 6) hp).mono ?_
        rintro e w' ⟨hr, hb⟩
        refine ⟨raw_read hl h2.1 h2.2 ?_, hb⟩
        rw [numI_all a1, numI_all a2, numI_all a3, numI_all a4, numI_all a5, numI_all a6, n2, n3, n4, n5, n6]
        exact hr
      · have hp := fun w => codPairs_no (s.extract 0 8 ++ s.extract 9 15) w hz I hI (by rw [hq]; exact hno) (by rw [hq]; exact hd)
        refine (codRead_no s w h h2.1 h2.2 _ _ _ _ _ _ _ hp).mono ?_
        rintro e w' ⟨rfl, hb⟩
        exact ⟨.inr ⟨none14 hl I hI hno, rfl⟩, hb⟩
    · refine (codRead_sign s w h h2).mono ?_
      rintro e w' ⟨rfl, hb⟩
      refine ⟨.inr ⟨fun t ht => h2 ?_, rfl⟩, hb⟩
      obtain ⟨n, y, m, d, hh, i, c, hd, hn, h1, h2, h3, s8, s15, -⟩ := ht.six
      exact ⟨s8, s15⟩
  · refine (codRead_len s w h).mono ?_
    rintro e w' ⟨rfl, hb⟩
    refine ⟨.inr ⟨fun t ht => h ?_, rfl⟩, hb⟩
    have := ht.length
    omega

theorem read_cod (s : ByteArray) : ∃ v E, ReadAs s.data.toList v E ∧
    ∀ w, Calls Tryz.prog 115 #[.string s] w fun e w' => e = .returned (.tuple #[.int .u64 (v : Int), .int .i64 E]) ∧ Below w.heap.size w w' := by
  obtain ⟨v, E, h1, h2⟩ := read_val s.data.toList
  refine ⟨v, E, h1, fun w => (codRead s w).mono ?_⟩
  rintro e w' ⟨hr, hb⟩
  exact ⟨h2 e hr, hb⟩
end Go.Proofs.YtgjmaeodgcigdaaGreatDoor
