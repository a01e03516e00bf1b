/- What the document's Number answers. -/
import Derived.Test.YtbknabmcelknmaaGreatDoorReq5
import Derived.Test.YtbknabmcelknmaaGreatDoorJ8
namespace Go.Proofs.YtbknabmcelknmaaGreatDoor
open Go.RowKit

theorem ret_ue2 {a b e f : Int} (h : a = b) (h2 : e = f) : Ending.returned (.tuple #[.int .u64 a, .int .i64 e]) = .returned (.tuple #[.int .u64 b, .int .i64 f]) := by rw [h, h2]

theorem ret_u64 {a b : Int} (h : a = b) : Value.int .u64 a = .int .u64 b := by rw [h]

set_option maxRecDepth 20000 in
set_option maxHeartbeats 2000000 in
theorem refNumber (l : List UInt8) (most : Nat) (w : World) (hl : l.length ≤ 200000000000000) (hm : most < 18446744073709551616) :
    Calls Tryz.prog 21 #[.string (str l), .int .u64 (most : Int)] w fun e w' => e = .returned (.tuple #[.int .u64 (numV l most : Int), .int .i64 (numE l most)]) ∧ w' = w := by
  have HZ : Hid ((str l).size = l.length) := str_size l
  have HS : Hid ((str l).data.toList = l) := str_list l
  have hN1 : Hid (¬ NumOk l most → numV l most = 0 ∧ numE l most = 5) := fun h => num_no h
  have hN2 : Hid (NumOk l most → numV l most = valL l ∧ numE l most = 0) := fun h => num_yes h
  generalize str l = s at *
  generalize numV l most = nv at *
  generalize numE l most = ne at *
  have hsz : s.size ≤ 200000000000000 := by rw [HZ.out]; exact hl
  by_cases h1 : 1 ≤ s.size
  · by_cases h2 : s.size ≤ 20
    · have i1 : ¬ (s.size : Int) < 1 := by omega
      have i2 : ¬ (20 : Int) < (s.size : Int) := by omega
      have hx0 := ixs s 0 (by omega) (by omega)
      have hc0 : nth l 0 = sb s 0 := by unfold sb; rw [HS.out]; rfl
      by_cases h3 : 1 < s.size ∧ sb s 0 = 48
      · have HN : ¬ NumOk l most := fun h => h.2.2.1 (by rw [← HZ.out]; exact h3.1) (by rw [hc0]; exact h3.2)
        obtain ⟨e1, e2⟩ := hN1.out HN
        subst e1; subst e2
        have i3 : (1 : Int) < (s.size : Int) := by omega
        have i4 : ((sb s 0).toNat : Int) = 48 := by rw [h3.2]; rfl
        have i5 : (((sb s 0).toNat : Int) == 48) = true := by rw [beq_iff_eq]; exact i4
        clear hN1 hN2 HN h3 hc0
        generalize sb s 0 = c at *
        go_enter Tryz.func21, Tryz.ntmps21
        go_wp2
        go_ret2
        exact ⟨rfl, rfl⟩
      · have HB : Hid (NumOk l most ↔ (∀ c ∈ l, isD c = true) ∧ valL l ≤ most) := by
          refine ⟨fun h => ⟨h.2.2.2.1, h.2.2.2.2⟩, fun h => ⟨by rw [← HZ.out]; exact h1, by rw [← HZ.out]; exact h2, fun hh e => h3 ⟨by rw [HZ.out]; exact hh, by rw [← hc0]; exact e⟩, h.1, h.2⟩⟩
        by_cases hgt : 1 < s.size
        · have i3 : (1 : Int) < (s.size : Int) := by omega
          have i4 : ¬ ((sb s 0).toNat : Int) = 48 := fun e => h3 ⟨hgt, UInt8.toNat_inj.1 (by show (sb s 0).toNat = 48; omega)⟩
          have i5 : (((sb s 0).toNat : Int) == 48) = false := by rw [beq_eq_false_iff_ne]; exact i4
          clear h3 hc0
          generalize sb s 0 = c0 at *
          go_enter Tryz.func21, Tryz.ntmps21
          go_wp2
          go_loopw [6, 7] (fun n i wr => ∃ (k m : Nat), k ≤ s.size ∧ i = .int .i64 k ∧ n = .int .u64 (m : Int) ∧ m ≤ most ∧ Hid (m = valL (l.take k)) ∧ Hid (∀ c ∈ l.take k, isD c = true) ∧ wr = w) (fun _ i _ => s.size - (intOf i).toNat)
          case atStart => exact ⟨0, 0, Nat.zero_le _, rfl, rfl, Nat.zero_le _, rfl, (fun c hc => by cases hc), rfl⟩
          case round =>
            obtain ⟨k, m, hk, rfl, rfl, hmm, HV, HD, rfl⟩ := hrel
            by_cases hlt : k < s.size
            · have hb0 : (0 : Int) ≤ (k : Int) := by omega
              have hb1 : (k : Int) < (s.size : Int) := by omega
              have hkl : k < l.length := by rw [← HZ.out]; exact hlt
              have hcn : nth l k = sb s (k : Int) := by unfold sb; rw [HS.out]; rfl
              have hx1 := ixs s (k : Int) hb0 hb1
              have HBad : Hid (isD (sb s (k : Int)) = false → ¬ NumOk l most) := fun h => num_bad hkl (by rw [hcn]; exact h)
              have HOver : Hid (most < m * 10 + vD (sb s (k : Int)) → ¬ NumOk l most) := fun h => num_over hkl (by rw [← HV.out, hcn]; exact h)
              have HNext : Hid (m * 10 + vD (sb s (k : Int)) = valL (l.take (k + 1))) := by unfold Hid; rw [valL_take_succ l k hkl, ← HV.out, hcn]
              have HDig : Hid (isD (sb s (k : Int)) = true → ∀ c ∈ l.take (k + 1), isD c = true) := fun h c hc => by
                rw [take_nth l k hkl] at hc
                rcases List.mem_append.1 hc with hc | hc
                · exact HD.out c hc
                · rw [List.mem_singleton] at hc; rw [hc, hcn]; exact h
              clear hkl hcn HV HD
              generalize sb s (k : Int) = c at *
              have h256 := c.toNat_lt
              by_cases d1 : c.toNat < 48
              · have d1' : (c.toNat : Int) < 48 := by omega
                obtain ⟨e1, e2⟩ := hN1.out (HBad.out (by unfold isD; simp; omega))
                subst e1; subst e2
                clear HBad HOver HNext HDig hN1 hN2
                go_wp2
                go_ret2
                exact ⟨rfl, by first | rfl | trivial⟩
              · have d1' : ¬ (c.toNat : Int) < 48 := by omega
                by_cases d2 : 57 < c.toNat
                · have d2' : (57 : Int) < (c.toNat : Int) := by omega
                  obtain ⟨e1, e2⟩ := hN1.out (HBad.out (by unfold isD; simp; omega))
                  subst e1; subst e2
                  clear HBad HOver HNext HDig hN1 hN2
                  go_wp2
                  go_ret2
                  exact ⟨rfl, by first | rfl | trivial⟩
                · have d2' : ¬ (57 : Int) < (c.toNat : Int) := by omega
                  have HDn := HDig.out (by unfold isD; simp; omega)
                  have hvd : vD c = c.toNat - 48 := rfl
                  go_wp2
                  (all_goals first
                    | (refine ⟨⟨k + 1, m * 10 + vD c, by omega, by go_num, ret_u64 (by rw [hvd]; omega), by rw [hvd]; omega, HNext, HDn, by first | rfl | trivial⟩, by simp [intOf]; omega⟩)
                    | (obtain ⟨e1, e2⟩ := hN1.out (HOver.out (by rw [hvd]; omega)); subst e1; subst e2; go_ret2; exact ⟨rfl, by first | rfl | trivial⟩))
            · have hge : ¬ (k : Int) < (s.size : Int) := by omega
              have hall : l.take k = l := List.take_of_length_le (by rw [← HZ.out]; omega)
              rw [hall] at HV HD
              obtain ⟨e1, e2⟩ := hN2.out (HB.out.2 ⟨HD.out, by rw [← HV.out]; exact hmm⟩)
              rw [← HV.out] at e1
              subst e1; subst e2
              clear hall HV HD hN1 hN2 HB
              go_wp2
              go_ret2
              exact ⟨rfl, by first | rfl | trivial⟩
        · have i3 : ¬ (1 : Int) < (s.size : Int) := by omega
          clear h3 hc0 hx0
          go_enter Tryz.func21, Tryz.ntmps21
          go_wp2
          go_loopw [6, 7] (fun n i wr => ∃ (k m : Nat), k ≤ s.size ∧ i = .int .i64 k ∧ n = .int .u64 (m : Int) ∧ m ≤ most ∧ Hid (m = valL (l.take k)) ∧ Hid (∀ c ∈ l.take k, isD c = true) ∧ wr = w) (fun _ i _ => s.size - (intOf i).toNat)
          case atStart => exact ⟨0, 0, Nat.zero_le _, rfl, rfl, Nat.zero_le _, rfl, (fun c hc => by cases hc), rfl⟩
          case round =>
            obtain ⟨k, m, hk, rfl, rfl, hmm, HV, HD, rfl⟩ := hrel
            by_cases hlt : k < s.size
            · have hb0 : (0 : Int) ≤ (k : Int) := by omega
              have hb1 : (k : Int) < (s.size : Int) := by omega
              have hkl : k < l.length := by rw [← HZ.out]; exact hlt
              have hcn : nth l k = sb s (k : Int) := by unfold sb; rw [HS.out]; rfl
              have hx1 := ixs s (k : Int) hb0 hb1
              have HBad : Hid (isD (sb s (k : Int)) = false → ¬ NumOk l most) := fun h => num_bad hkl (by rw [hcn]; exact h)
              have HOver : Hid (most < m * 10 + vD (sb s (k : Int)) → ¬ NumOk l most) := fun h => num_over hkl (by rw [← HV.out, hcn]; exact h)
              have HNext : Hid (m * 10 + vD (sb s (k : Int)) = valL (l.take (k + 1))) := by unfold Hid; rw [valL_take_succ l k hkl, ← HV.out, hcn]
              have HDig : Hid (isD (sb s (k : Int)) = true → ∀ c ∈ l.take (k + 1), isD c = true) := fun h c hc => by
                rw [take_nth l k hkl] at hc
                rcases List.mem_append.1 hc with hc | hc
                · exact HD.out c hc
                · rw [List.mem_singleton] at hc; rw [hc, hcn]; exact h
              clear hkl hcn HV HD
              generalize sb s (k : Int) = c at *
              have h256 := c.toNat_lt
              by_cases d1 : c.toNat < 48
              · have d1' : (c.toNat : Int) < 48 := by omega
                obtain ⟨e1, e2⟩ := hN1.out (HBad.out (by unfold isD; simp; omega))
                subst e1; subst e2
                clear HBad HOver HNext HDig hN1 hN2
                go_wp2
                go_ret2
                exact ⟨rfl, by first | rfl | trivial⟩
              · have d1' : ¬ (c.toNat : Int) < 48 := by omega
                by_cases d2 : 57 < c.toNat
                · have d2' : (57 : Int) < (c.toNat : Int) := by omega
                  obtain ⟨e1, e2⟩ := hN1.out (HBad.out (by unfold isD; simp; omega))
                  subst e1; subst e2
                  clear HBad HOver HNext HDig hN1 hN2
                  go_wp2
                  go_ret2
                  exact ⟨rfl, by first | rfl | trivial⟩
                · have d2' : ¬ (57 : Int) < (c.toNat : Int) := by omega
                  have HDn := HDig.out (by unfold isD; simp; omega)
                  have hvd : vD c = c.toNat - 48 := rfl
                  go_wp2
                  (all_goals first
                    | (refine ⟨⟨k + 1, m * 10 + vD c, by omega, by go_num, ret_u64 (by rw [hvd]; omega), by rw [hvd]; omega, HNext, HDn, by first | rfl | trivial⟩, by simp [intOf]; omega⟩)
                    | (obtain ⟨e1, e2⟩ := hN1.out (HOver.out (by rw [hvd]; omega)); subst e1; subst e2; go_ret2; exact ⟨rfl, by first | rfl | trivial⟩))
            · have hge : ¬ (k : Int) < (s.size : Int) := by omega
              have hall : l.take k = l := List.take_of_length_le (by rw [← HZ.out]; omega)
              rw [hall] at HV HD
              obtain ⟨e1, e2⟩ := hN2.out (HB.out.2 ⟨HD.out, by rw [← HV.out]; exact hmm⟩)
              rw [← HV.out] at e1
              subst e1; subst e2
              clear hall HV HD hN1 hN2 HB
              go_wp2
              go_ret2
              exact ⟨rfl, by first | rfl | trivial⟩
    · have HN : ¬ NumOk l most := fun h => h2 (by rw [HZ.out]; exact h.2.1)
      obtain ⟨e1, e2⟩ := hN1.out HN
      subst e1; subst e2
      have i1 : ¬ (s.size : Int) < 1 := by omega
      have i2 : (20 : Int) < (s.size : Int) := by omega
      clear hN1 hN2 HN
      go_enter Tryz.func21, Tryz.ntmps21
      go_wp2
      go_ret2
      exact ⟨rfl, rfl⟩
  · have HN : ¬ NumOk l most := fun h => h1 (by rw [HZ.out]; exact h.1)
    obtain ⟨e1, e2⟩ := hN1.out HN
    subst e1; subst e2
    have i1 : (s.size : Int) < 1 := by omega
    clear hN1 hN2 HN
    go_enter Tryz.func21, Tryz.ntmps21
    go_wp2
    go_ret2
    exact ⟨rfl, rfl⟩
end Go.Proofs.YtbknabmcelknmaaGreatDoor
