/- What uri.Decode answers. Small facts on what a path's answer is. -/
import Derived.Test.YtbknabmcelknmaaGreatDoorJ12
import Derived.Test.YtbknabmcelknmaaGreatDoorJ5
namespace Go.Proofs.YtbknabmcelknmaaGreatDoor
open Go.RowKit

theorem or_nib (x y : Nat) (a0 : x < 16) (a1 : y < 16) : bits .or .u8 ((x : Int) * 16) (y : Int) = ((UInt8.ofNat (x * 16 + y)).toNat : Int) := by
  have hx : ((x : Int) * 16) = ((UInt8.ofNat (x * 16)).toNat : Int) := by rw [UInt8.toNat_ofNat']; omega
  have hy : ((y : Int)) = ((UInt8.ofNat y).toNat : Int) := by rw [UInt8.toNat_ofNat']; omega
  rw [hx, hy, bits_or8, UInt8.toNat_or, UInt8.toNat_ofNat', UInt8.toNat_ofNat', UInt8.toNat_ofNat']
  have e : x * 16 % 2 ^ 8 ||| y % 2 ^ 8 = 16 * x + y := by
    rw [Nat.mod_eq_of_lt (by omega : x * 16 < 2 ^ 8), Nat.mod_eq_of_lt (by omega : y < 2 ^ 8), Nat.mul_comm x 16]
    exact (Nat.two_pow_add_eq_or_of_lt (i := 4) a1 x).symm
  rw [e]; omega

set_option maxHeartbeats 2000000 in
theorem codDecode (s : ByteArray) (w : World) (hs : s.size ≤ 40000000000000) :
    Calls Tryz.prog 124 #[.string s] w fun e w' => e = .returned (.tuple #[.string ⟨(decS s.data.toList).toArray⟩, .int .i64 (decC s.data.toList)]) ∧ Below w.heap.size w w' := by
  obtain ⟨l, hl⟩ : ∃ l, l = s.data.toList := ⟨_, rfl⟩
  have Hl : Hid (l = s.data.toList) := hl
  have HL : Hid (l.length = s.size) := by unfold Hid; rw [hl]; rfl
  rw [← hl]
  clear hl
  go_enter Tryz.func124, Tryz.ntmps124
  go_wp2_with (at_make; refine make_own8 _ rfl _ _ rfl w.heap.size .i64 .i64 _ s.size rfl rfl (by omega) (by omega) (Nat.le_refl _) ?_; intro w1 hown1 hgrow1)
  go_loopw [4, 5] (fun v i wr => ∃ (k : Nat) (out : List UInt8), k ≤ s.size ∧ out.length ≤ k ∧ i = .int .i64 k ∧ OwnB wr w.heap.size v out ∧ Hid (DecTo l out k) ∧ Below w.heap.size w wr) (fun _ i _ => s.size - (intOf i).toNat)
  case atStart => exact ⟨0, [], Nat.zero_le _, Nat.le_refl _, rfl, hown1, DecTo.zero l, (Below.refl _ _).grown hgrow1 (Nat.le_refl _) (fun k h => by cases h)⟩
  case round =>
    obtain ⟨k, out, hk, hol, rfl, hown, HD, hbel⟩ := hrel
    clear hown1 hgrow1
    by_cases hlt : k < s.size
    · have hb0 : (0 : Int) ≤ (k : Int) := by omega
      have hb1 : (k : Int) < (s.size : Int) := by omega
      have hcn : nth l k = sb s (k : Int) := by rw [Hl.out]; rfl
      have hkl : k < l.length := by rw [HL.out]; exact hlt
      have HB := hown.blk
      have hx0 := ixs s (k : Int) hb0 hb1
      generalize sb s (k : Int) = c0 at *
      by_cases hc : c0 = 37
      · have hc' : (c0.toNat : Int) = 37 := by rw [hc]; rfl
        have hc2 : nth l k = 37 := hcn.trans hc
        by_cases hsh : s.size - k < 3
        · have Hn : Hid (decL l = none) := HD.out.short hkl hc2 (by rw [HL.out]; exact hsh)
          have hsh' : (s.size : Int) - (k : Int) < 3 := by omega
          clear hkl hcn hc hc2 hsh
          go_wp2
          go_ret2
          exact ⟨ret_sc (decS_none Hn.out).symm (decC_none Hn.out).symm, hbel⟩
        · have hsh' : ¬ (s.size : Int) - (k : Int) < 3 := by omega
          have hb2 : (0 : Int) ≤ (k : Int) + 1 := by omega
          have hb3 : (k : Int) + 1 < (s.size : Int) := by omega
          have hb4 : (0 : Int) ≤ (k : Int) + 2 := by omega
          have hb5 : (k : Int) + 2 < (s.size : Int) := by omega
          have e1 : nth l (k + 1) = sb s ((k : Int) + 1) := by rw [Hl.out]; rfl
          have e2 : nth l (k + 2) = sb s ((k : Int) + 2) := by rw [Hl.out]; rfl
          have Hbad := HD.out.bad (by rw [HL.out]; omega) hc2
          have Hhex := HD.out.hex (by rw [HL.out]; omega) hc2
          rw [e1, e2] at Hbad Hhex
          have hx1 := ixs s ((k : Int) + 1) hb2 hb3
          have hx2 := ixs s ((k : Int) + 2) hb4 hb5
          obtain ⟨p1, hp1⟩ : ∃ p : Nat, p = k + 1 := ⟨_, rfl⟩
          obtain ⟨p2, hp2⟩ : ∃ p : Nat, p = k + 2 := ⟨_, rfl⟩
          have g1 : IntKind.i64.wrap ((k : Int) + 1) = (p1 : Int) := by rw [wrapi64_in _ (by omega) (by omega)]; omega
          have g2 : IntKind.i64.wrap ((k : Int) + 2) = (p2 : Int) := by rw [wrapi64_in _ (by omega) (by omega)]; omega
          have hy1 := ixs s (p1 : Int) (by omega) (by omega)
          have hy2 := ixs s (p2 : Int) (by omega) (by omega)
          have E1 : sb s (p1 : Int) = sb s ((k : Int) + 1) := by rw [hp1]; rfl
          have E2 : sb s (p2 : Int) = sb s ((k : Int) + 2) := by rw [hp2]; rfl
          rw [E1] at hy1
          rw [E2] at hy2
          clear E1 E2 hp1 hp2
          have G1 : Hid (IntKind.i64.wrap ((k : Int) + 1) = (p1 : Int)) := g1
          have G2 : Hid (IntKind.i64.wrap ((k : Int) + 2) = (p2 : Int)) := g2
          clear g1 g2
          have d1 : digB (sb s ((k : Int) + 1)) ≤ 16 := digN_le _
          have d2 : digB (sb s ((k : Int) + 2)) ≤ 16 := digN_le _
          clear e1 e2 hkl hcn hc hc2 hsh
          generalize sb s ((k : Int) + 1) = c1 at *
          generalize sb s ((k : Int) + 2) = c2 at *
          clear G1 G2 hy1 hy2
          by_cases ha : digB c1 < 16
          · have ka : digK c1 = true := by unfold digK; simp [ha]
            by_cases hb : digB c2 < 16
            · have kb : digK c2 = true := by unfold digK; simp [hb]
              have HT : Hid (DecTo l (out ++ [UInt8.ofNat (digB c1 * 16 + digB c2)]) (k + 3)) := Hhex ha hb
              clear Hbad Hhex
              obtain ⟨c, hcc⟩ : ∃ c, c = UInt8.ofNat (digB c1 * 16 + digB c2) := ⟨_, rfl⟩
              have j1 : bits .or .u8 ((digV c1 : Int) * 16) (digV c2 : Int) = (c.toNat : Int) := by rw [hcc, ← digV_yes ha, ← digV_yes hb]; exact or_nib _ _ (digV_lt _) (digV_lt _)
              have v1 := digV_lt c1
              have v2 := digV_lt c2
              rw [← hcc] at HT
              clear hcc ha hb
              go_wp2_with (first | (go_at_call 143; refine (codDigit _ _).mono ?_; rintro e w' ⟨rfl, hww⟩; rw [hww]; clear hww w') | (at_builtin; refine list_app1 _ rfl _ _ rfl w.heap.size _ out rfl (hown.alloc _) wr.heap.size 1 [c] rfl rfl (heap_alloc_new wr _) (by omega) (by have := hbel.size; simp; omega) ?_; intro v1 w1 hown1 hgrow))
              go_roundw
              case rel => exact ⟨k + 3, out ++ [c], by omega, by simp; omega, by go_num, hown1, HT, (hbel.alloc hbel.size _).grown hgrow (by have := hbel.size; simp; omega) (fun j hj => (HB j hj).1)⟩
              case measure => simp [intOf]; omega
            · have kb : digK c2 = false := by unfold digK; simp [hb]
              have Hn : Hid (decL l = none) := Hbad (fun h => hb h.2)
              clear Hbad Hhex hb ha
              go_wp2_with (go_at_call 143; refine (codDigit _ _).mono ?_; rintro e w' ⟨rfl, hww⟩; rw [hww]; clear hww w')
              go_ret2
              exact ⟨ret_sc (decS_none Hn.out).symm (decC_none Hn.out).symm, hbel⟩
          · have ka : digK c1 = false := by unfold digK; simp [ha]
            have Hn : Hid (decL l = none) := Hbad (fun h => ha h.1)
            clear Hbad Hhex ha
            go_wp2_with (go_at_call 143; refine (codDigit _ _).mono ?_; rintro e w' ⟨rfl, hww⟩; rw [hww]; clear hww w')
            go_ret2
            exact ⟨ret_sc (decS_none Hn.out).symm (decC_none Hn.out).symm, hbel⟩
      · have hc' : ¬ (c0.toNat : Int) = 37 := by intro e; exact hc (UInt8.toNat_inj.1 (by have : (37 : UInt8).toNat = 37 := rfl; omega))
        have HT : Hid (DecTo l (out ++ [c0]) (k + 1)) := by
          have := HD.out.plain hkl (by rw [hcn]; exact hc)
          rw [hcn] at this
          exact this
        clear hkl hcn hc
        go_wp2_with (at_builtin; refine list_app1 _ rfl _ _ rfl w.heap.size _ out rfl (hown.alloc _) wr.heap.size 1 [c0] rfl rfl (heap_alloc_new wr _) (by omega) (by have := hbel.size; simp; omega) ?_; intro v1 w1 hown1 hgrow)
        go_roundw
        case rel => exact ⟨k + 1, out ++ [c0], by omega, by simp; omega, by go_num, hown1, HT, (hbel.alloc hbel.size _).grown hgrow (by have := hbel.size; simp; omega) (fun j hj => (HB j hj).1)⟩
        case measure => simp [intOf]; omega
    · have hcv := conv_own wr w.heap.size _ _ hown
      have Hn : Hid (decL l = some out) := HD.out.done (by rw [HL.out]; omega)
      go_wp2
      go_ret2
      exact ⟨ret_sc (decS_some Hn.out).symm (decC_some Hn.out).symm, hbel⟩
end Go.Proofs.YtbknabmcelknmaaGreatDoor
namespace Go.Proofs.YtbknabmcelknmaaGreatDoor
open Go.RowKit

theorem ret_ssc {a b c d : ByteArray} {e f : Int} (h : a = b) (h2 : c = d) (h3 : e = f) : Ending.returned (.tuple #[.string a, .string c, .int .i64 e]) = .returned (.tuple #[.string b, .string d, .int .i64 f]) := by rw [h, h2, h3]
theorem ret_no {l : List UInt8} (h : pathL l = none) : Ending.returned (.tuple #[.string ⟨#[]⟩, .string ⟨#[]⟩, .int .i64 13]) = .returned (.tuple #[.string (str (pathB l)), .string (str (pathK l)), .int .i64 (pathC l)]) := by
  obtain ⟨h1, h2, h3⟩ := path_none h
  rw [h1, h2, h3]; rfl
end Go.Proofs.YtbknabmcelknmaaGreatDoor
