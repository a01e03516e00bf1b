/- What strings.Cut answers, at a separator of one byte. · What uri.digit answers. · What uri.Decode answers. · Small facts on what a path's answer is. · uri: two texts decoded. -/
import Derived.Test.YtgjmaeodgcigdaaGreatDoorB0
import Derived.Test.YtgjmaeodgcigdaaGreatDoorShelf1
import Derived.BigQuiet
import Derived.Test.YtgjmaeodgcigdaaGreatDoorB2
import Derived.Test.YtgjmaeodgcigdaaGreatDoorB8
import Derived.Test.YtgjmaeodgcigdaaGreatDoorB4
namespace Go.Proofs.YtgjmaeodgcigdaaGreatDoor
open Go.RowKit

theorem idx_cases (c : UInt8) (l : List UInt8) :
    (Lib.indexByte l c = -1 ∧ headL c l = l ∧ tailL c l = [] ∧ hasL c l = false) ∨
    ∃ k : Nat, k < l.length ∧ Lib.indexByte l c = (k : Int) ∧ headL c l = l.take k ∧ tailL c l = l.drop (k + 1) ∧ hasL c l = true := by
  induction l with
  | nil => exact .inl ⟨rfl, rfl, rfl, rfl⟩
  | cons b l ih =>
    by_cases hb : b = c
    · subst hb
      exact .inr ⟨0, by simp, by simp [Lib.indexByte], by simp [headL], by simp [tailL], by simp [hasL]⟩
    · have e1 : headL c (b :: l) = b :: headL c l := by unfold headL; rw [List.takeWhile_cons_of_pos (by simpa using hb)]
      have e2 : tailL c (b :: l) = tailL c l := by unfold tailL; rw [List.dropWhile_cons_of_pos (by simpa using hb)]
      have e3 : hasL c (b :: l) = hasL c l := by unfold hasL; simp [Ne.symm hb]
      have e4 : Lib.indexByte (b :: l) c = if Lib.indexByte l c == -1 then -1 else Lib.indexByte l c + 1 := by rw [Lib.indexByte]; simp [hb]
      rw [e1, e2, e3, e4]
      rcases ih with ⟨h1, h2, h3, h4⟩ | ⟨k, hk, h1, h2, h3, h4⟩
      · refine .inl ⟨by rw [h1]; rfl, by rw [h2], h3, h4⟩
      · refine .inr ⟨k + 1, by simp; omega, ?_, by rw [h2]; rfl, by rw [h3]; rfl, h4⟩
        rw [h1]
        have : ¬ ((k : Int) == -1) = true := by simp
        rw [if_neg this]; omega

theorem ret_ssb {a b c d : ByteArray} {x y : Bool} (h : a = b) (h2 : c = d) (h3 : x = y) : Ending.returned (.tuple #[.string a, .string c, .bool x]) = .returned (.tuple #[.string b, .string d, .bool y]) := by rw [h, h2, h3]

set_option maxHeartbeats 1000000 in
theorem codCut0 (s : ByteArray) (c : UInt8) (w : World) (hs : s.size ≤ 40000000000000) :
    Calls Tryz.prog 106 #[.string s, .string ⟨#[c]⟩] w fun e w' => e = .returned (.tuple #[.string (str (headL c s.data.toList)), .string (str (tailL c s.data.toList)), .bool (hasL c s.data.toList)]) ∧ Below w.heap.size w w' := by
  have HL : s.data.toList.length = s.size := by rw [Array.length_toList]; rfl
  have HC := fun w => Tryz.stringslite_Index_one s c w
  have hone : (ByteArray.mk #[c]).size = 1 := rfl
  have T1 : Hid (∀ k, s.extract 0 k = str (s.data.toList.take k)) := fun k => ext_take s k
  have T2 : Hid (∀ k, s.extract k s.size = str (s.data.toList.drop k)) := fun k => ext_drop s k
  have T3 : Hid (str s.data.toList = s) := str_of s
  rcases idx_cases c s.data.toList with ⟨h1, h2, h3, h4⟩ | ⟨k, hk, h1, h2, h3, h4⟩
  · rw [h1] at HC
    rw [h2, h3, h4]
    clear h1 h2 h3 h4 HL
    generalize str s.data.toList = s' at *
    generalize ByteArray.mk #[c] = cc at *
    go_enter Tryz.func106, Tryz.ntmps106
    go_wp2_with (go_at_call 140; refine (HC _).mono ?_; rintro e w' ⟨rfl, hww⟩; rw [hww]; clear hww w')
    go_ret3
    exact ⟨ret_ssb (by rw [T3.out]) rfl rfl, Below.refl _ _⟩
  · rw [h1] at HC
    rw [h2, h3, h4]
    have hb0 : (0 : Int) ≤ (k : Int) := by omega
    have hb1 : (k : Int) < (s.size : Int) := by omega
    have hb2 : (k : Int) + 1 ≤ (s.size : Int) := by omega
    clear h1 h2 h3 h4 HL hk
    have U1 : Hid (s.extract 0 k = str (s.data.toList.take k)) := T1.out k
    have U2 : Hid (s.extract (k + 1) s.size = str (s.data.toList.drop (k + 1))) := T2.out (k + 1)
    clear T1 T2 T3
    generalize str (s.data.toList.take k) = s1 at *
    generalize str (s.data.toList.drop (k + 1)) = s2 at *
    go_enter Tryz.func106, Tryz.ntmps106
    go_wp2_with (go_at_call 140; refine (HC _).mono ?_; rintro e w' ⟨rfl, hww⟩; rw [hww]; clear hww w')
    go_quiet (fail)
    go_wp2
    go_ret3
    exact ⟨ret_ssb U1.out U2.out rfl, bel_drewN (Below.refl _ _) _⟩

set_option maxHeartbeats 1000000 in
theorem codCut (l : List UInt8) (c : UInt8) (w : World) (hs : l.length ≤ 40000000000000) :
    Calls Tryz.prog 57 #[.string (str l), .string ⟨#[c]⟩] w fun e w' => e = .returned (.tuple #[.string (str (headL c l)), .string (str (tailL c l)), .bool (hasL c l)]) ∧ Below w.heap.size w w' := by
  have HC := codCut0 (str l) c w (by rw [str_size]; exact hs)
  rw [str_list] at HC
  generalize str l = s at *
  generalize str (headL c l) = s1 at *
  generalize str (tailL c l) = s2 at *
  generalize hasL c l = b at *
  generalize ByteArray.mk #[c] = cc at *
  go_enter Tryz.func57, Tryz.ntmps57
  go_wp2_with (go_at_call 106; refine HC.mono ?_; rintro e w' ⟨rfl, hb⟩)
  go_ret3
  exact ⟨rfl, hb⟩
end Go.Proofs.YtgjmaeodgcigdaaGreatDoor
namespace Go.Proofs.YtgjmaeodgcigdaaGreatDoor
open Go.RowKit
attribute [local go_sem ↓] ixs

/-- the number of a digit, or nought -/
def digV (c : UInt8) : Nat := if digB c < 16 then digB c else 0
def digK (c : UInt8) : Bool := decide (digB c < 16)
theorem digV_lt (c : UInt8) : digV c < 16 := by unfold digV; split <;> omega
theorem digV_yes {c : UInt8} (h : digB c < 16) : digV c = digB c := by unfold digV; rw [if_pos h]
theorem ret_dk {c : UInt8} {n : Nat} {v : Int} {b : Bool} (H : digB c = digN n) (hv : digN n < 16 → v = (digN n : Int)) (hz : ¬ digN n < 16 → v = 0) (hb : b = decide (digN n < 16)) :
    Ending.returned (.tuple #[.int .u8 v, .bool b]) = .returned (.tuple #[.int .u8 (digV c : Int), .bool (digK c)]) := by
  have e1 : v = (digV c : Int) := by
    unfold digV; rw [H]
    by_cases h : digN n < 16
    · rw [if_pos h, hv h]
    · rw [if_neg h, hz h]; rfl
  have e2 : b = digK c := by unfold digK; rw [H, hb]
  rw [e1, e2]

set_option maxHeartbeats 1000000 in
theorem codDigit (c : UInt8) (w : World) :
    Calls Tryz.prog 78 #[.int .u8 (c.toNat : Int)] w fun e w' => e = .returned (.tuple #[.int .u8 (digV c : Int), .bool (digK c)]) ∧ w' = w := by
  obtain ⟨n, hn⟩ : ∃ n, n = c.toNat := ⟨_, rfl⟩
  have H : Hid (digB c = digN n) := by unfold Hid digB; rw [hn]
  have h256 : n < 256 := by rw [hn]; exact c.toNat_lt
  rw [← hn]
  clear hn
  by_cases c1 : n < 48
  · have i1 : (n : Int) < 48 := by omega
    have D : Hid (digN n = 16) := by unfold Hid digN; rw [if_neg (by omega), if_neg (by omega), if_neg (by omega)]
    go_enter Tryz.func78, Tryz.ntmps78
    go_wp2
    go_ret2
    exact ⟨ret_dk H.out (fun h => absurd h (by rw [D.out]; omega)) (fun _ => rfl) (by rw [D.out]; rfl), rfl⟩
  by_cases c2 : n ≤ 57
  · have i1 : (48 : Int) ≤ (n : Int) := by omega
    have i2 : (n : Int) ≤ 57 := by omega
    obtain ⟨m, hm⟩ : ∃ m : Nat, m = n - 48 := ⟨_, rfl⟩
    have hw : IntKind.u8.wrap ((n : Int) - 48) = (m : Int) := by rw [← wrap8_nat m (by omega)]; congr 1; omega
    have D : Hid (digN n = m) := by unfold Hid digN; rw [if_pos (by omega)]; omega
    have HR : Hid (m < 16) := by unfold Hid; omega
    clear hm
    go_enter Tryz.func78, Tryz.ntmps78
    go_wp2
    go_ret2
    exact ⟨ret_dk H.out (fun _ => by rw [D.out]) (fun h => absurd (by rw [D.out]; exact HR.out) h) (by rw [D.out]; simp [HR.out]), rfl⟩
  by_cases c3 : n < 65
  · have i1 : (57 : Int) < (n : Int) := by omega
    have i2 : (n : Int) < 65 := by omega
    have D : Hid (digN n = 16) := by unfold Hid digN; rw [if_neg (by omega), if_neg (by omega), if_neg (by omega)]
    go_enter Tryz.func78, Tryz.ntmps78
    go_wp2
    go_ret2
    exact ⟨ret_dk H.out (fun h => absurd h (by rw [D.out]; omega)) (fun _ => rfl) (by rw [D.out]; rfl), rfl⟩
  by_cases c4 : n ≤ 70
  · have i1 : (65 : Int) ≤ (n : Int) := by omega
    have i2 : (n : Int) ≤ 70 := by omega
    obtain ⟨m, hm⟩ : ∃ m : Nat, m = n - 65 := ⟨_, rfl⟩
    have hw : IntKind.u8.wrap ((n : Int) - 65) = (m : Int) := by rw [← wrap8_nat m (by omega)]; congr 1; omega
    obtain ⟨q, hq⟩ : ∃ q : Nat, q = m + 10 := ⟨_, rfl⟩
    have hw2 : IntKind.u8.wrap ((m : Int) + 10) = (q : Int) := by rw [← wrap8_nat q (by omega)]; congr 1; omega
    have D : Hid (digN n = q) := by unfold Hid digN; rw [if_neg (by omega), if_neg (by omega), if_pos (by omega)]; omega
    have HR : Hid (q < 16) := by unfold Hid; omega
    clear hm hq
    go_enter Tryz.func78, Tryz.ntmps78
    go_wp2
    go_ret2
    exact ⟨ret_dk H.out (fun _ => by rw [D.out]) (fun h => absurd (by rw [D.out]; exact HR.out) h) (by rw [D.out]; simp [HR.out]), rfl⟩
  by_cases c5 : n < 97
  · have i1 : (70 : Int) < (n : Int) := by omega
    have i2 : (n : Int) < 97 := by omega
    have D : Hid (digN n = 16) := by unfold Hid digN; rw [if_neg (by omega), if_neg (by omega), if_neg (by omega)]
    go_enter Tryz.func78, Tryz.ntmps78
    go_wp2
    go_ret2
    exact ⟨ret_dk H.out (fun h => absurd h (by rw [D.out]; omega)) (fun _ => rfl) (by rw [D.out]; rfl), rfl⟩
  by_cases c6 : n ≤ 102
  · have i1 : (97 : Int) ≤ (n : Int) := by omega
    have i2 : (n : Int) ≤ 102 := by omega
    obtain ⟨m, hm⟩ : ∃ m : Nat, m = n - 97 := ⟨_, rfl⟩
    have hw : IntKind.u8.wrap ((n : Int) - 97) = (m : Int) := by rw [← wrap8_nat m (by omega)]; congr 1; omega
    obtain ⟨q, hq⟩ : ∃ q : Nat, q = m + 10 := ⟨_, rfl⟩
    have hw2 : IntKind.u8.wrap ((m : Int) + 10) = (q : Int) := by rw [← wrap8_nat q (by omega)]; congr 1; omega
    have D : Hid (digN n = q) := by unfold Hid digN; rw [if_neg (by omega), if_pos (by omega)]; omega
    have HR : Hid (q < 16) := by unfold Hid; omega
    clear hm hq
    go_enter Tryz.func78, Tryz.ntmps78
    go_wp2
    go_ret2
    exact ⟨ret_dk H.out (fun _ => by rw [D.out]) (fun h => absurd (by rw [D.out]; exact HR.out) h) (by rw [D.out]; simp [HR.out]), rfl⟩
  have i1 : (102 : Int) < (n : Int) := by omega
  have D : Hid (digN n = 16) := by unfold Hid digN; rw [if_neg (by omega), if_neg (by omega), if_neg (by omega)]
  go_enter Tryz.func78, Tryz.ntmps78
  go_wp2
  go_ret2
  exact ⟨ret_dk H.out (fun h => absurd h (by rw [D.out]; omega)) (fun _ => rfl) (by rw [D.out]; rfl), rfl⟩
end Go.Proofs.YtgjmaeodgcigdaaGreatDoor
namespace Go.Proofs.YtgjmaeodgcigdaaGreatDoor
open Go.RowKit

theorem or_nib (x y : Nat) (a0 : x < 16) (a1 : y < 16) : bits .or .u8 ((x : Int) * 16) (y : Int) = ((UInt8.ofNat (x * 16 + y)).toNat : Int) := by
  have hx : ((x : Int) * 16) = ((UInt8.ofNat (x * 16)).toNat : Int) := by rw [UInt8.toNat_ofNat']; omega
  have hy : ((y : Int)) = ((UInt8.ofNat y).toNat : Int) := by rw [UInt8.toNat_ofNat']; omega
  rw [hx, hy, bits_or8, UInt8.toNat_or, UInt8.toNat_ofNat', UInt8.toNat_ofNat', UInt8.toNat_ofNat']
  have e : x * 16 % 2 ^ 8 ||| y % 2 ^ 8 = 16 * x + y := by
    rw [Nat.mod_eq_of_lt (by omega : x * 16 < 2 ^ 8), Nat.mod_eq_of_lt (by omega : y < 2 ^ 8), Nat.mul_comm x 16]
    exact (Nat.two_pow_add_eq_or_of_lt (i := 4) a1 x).symm
  rw [e]; omega

set_option maxHeartbeats 2000000 in
theorem codDecode (s : ByteArray) (w : World) (hs : s.size ≤ 40000000000000) :
    Calls Tryz.prog 32 #[.string s] w fun e w' => e = .returned (.tuple #[.string ⟨(decS s.data.toList).toArray⟩, .int .i64 (decC s.data.toList)]) ∧ Below w.heap.size w w' := by
  obtain ⟨l, hl⟩ : ∃ l, l = s.data.toList := ⟨_, rfl⟩
  have Hl : Hid (l = s.data.toList) := hl
  have HL : Hid (l.length = s.size) := by unfold Hid; rw [hl]; rfl
  rw [← hl]
  clear hl
  go_enter Tryz.func32, Tryz.ntmps32
  go_wp2_with (at_make; refine make_own8 _ rfl _ _ rfl w.heap.size .i64 .i64 _ s.size rfl rfl (by omega) (by omega) (Nat.le_refl _) ?_; intro w1 hown1 hgrow1)
  go_loopw [4, 5] (fun v i wr => ∃ (k : Nat) (out : List UInt8), k ≤ s.size ∧ out.length ≤ k ∧ i = .int .i64 k ∧ OwnB wr w.heap.size v out ∧ Hid (DecTo l out k) ∧ Below w.heap.size w wr) (fun _ i _ => s.size - (intOf i).toNat)
  case atStart => exact ⟨0, [], Nat.zero_le _, Nat.le_refl _, rfl, hown1, DecTo.zero l, (Below.refl _ _).grown hgrow1 (Nat.le_refl _) (fun k h => by cases h)⟩
  case round =>
    obtain ⟨k, out, hk, hol, rfl, hown, HD, hbel⟩ := hrel
    clear hown1 hgrow1
    by_cases hlt : k < s.size
    · have hb0 : (0 : Int) ≤ (k : Int) := by omega
      have hb1 : (k : Int) < (s.size : Int) := by omega
      have hcn : nth l k = sb s (k : Int) := by rw [Hl.out]; rfl
      have hkl : k < l.length := by rw [HL.out]; exact hlt
      have HB := hown.blk
      have hx0 := ixs s (k : Int) hb0 hb1
      generalize sb s (k : Int) = c0 at *
      by_cases hc : c0 = 37
      · have hc' : (c0.toNat : Int) = 37 := by rw [hc]; rfl
        have hc2 : nth l k = 37 := hcn.trans hc
        by_cases hsh : s.size - k < 3
        · have Hn : Hid (decL l = none) := HD.out.short hkl hc2 (by rw [HL.out]; exact hsh)
          have hsh' : (s.size : Int) - (k : Int) < 3 := by omega
          clear hkl hcn hc hc2 hsh
          go_wp2
          go_ret2
          exact ⟨ret_sc (decS_none Hn.out).symm (decC_none Hn.out).symm, hbel⟩
        · have hsh' : ¬ (s.size : Int) - (k : Int) < 3 := by omega
          have hb2 : (0 : Int) ≤ (k : Int) + 1 := by omega
          have hb3 : (k : Int) + 1 < (s.size : Int) := by omega
          have hb4 : (0 : Int) ≤ (k : Int) + 2 := by omega
          have hb5 : (k : Int) + 2 < (s.size : Int) := by omega
          have e1 : nth l (k + 1) = sb s ((k : Int) + 1) := by rw [Hl.out]; rfl
          have e2 : nth l (k + 2) = sb s ((k : Int) + 2) := by rw [Hl.out]; rfl
          have Hbad := HD.out.bad (by rw [HL.out]; omega) hc2
          have Hhex := HD.out.hex (by rw [HL.out]; omega) hc2
          rw [e1, e2] at Hbad Hhex
          have hx1 := ixs s ((k : Int) + 1) hb2 hb3
          have hx2 := ixs s ((k : Int) + 2) hb4 hb5
          obtain ⟨p1, hp1⟩ : ∃ p : Nat, p = k + 1 := ⟨_, rfl⟩
          obtain ⟨p2, hp2⟩ : ∃ p : Nat, p = k + 2 := ⟨_, rfl⟩
          have g1 : IntKind.i64.wrap ((k : Int) + 1) = (p1 : Int) := by rw [wrapi64_in _ (by omega) (by omega)]; omega
          have g2 : IntKind.i64.wrap ((k : Int) + 2) = (p2 : Int) := by rw [wrapi64_in _ (by omega) (by omega)]; omega
          have hy1 := ixs s (p1 : Int) (by omega) (by omega)
          have hy2 := ixs s (p2 : Int) (by omega) (by omega)
          have E1 : sb s (p1 : Int) = sb s ((k : Int) + 1) := by rw [hp1]; rfl
          have E2 : sb s (p2 : Int) = sb s ((k : Int) + 2) := by rw [hp2]; rfl
          rw [E1] at hy1
          rw [E2] at hy2
          clear E1 E2 hp1 hp2
          have G1 : Hid (IntKind.i64.wrap ((k : Int) + 1) = (p1 : Int)) := g1
          have G2 : Hid (IntKind.i64.wrap ((k : Int) + 2) = (p2 : Int)) := g2
          clear g1 g2
          have d1 : digB (sb s ((k : Int) + 1)) ≤ 16 := digN_le _
          have d2 : digB (sb s ((k : Int) + 2)) ≤ 16 := digN_le _
          clear e1 e2 hkl hcn hc hc2 hsh
          generalize sb s ((k : Int) + 1) = c1 at *
          generalize sb s ((k : Int) + 2) = c2 at *
          clear G1 G2 hy1 hy2
          by_cases ha : digB c1 < 16
          · have ka : digK c1 = true := by unfold digK; simp [ha]
            by_cases hb : digB c2 < 16
            · have kb : digK c2 = true := by unfold digK; simp [hb]
              have HT : Hid (DecTo l (out ++ [UInt8.ofNat (digB c1 * 16 + digB c2)]) (k + 3)) := Hhex ha hb
              clear Hbad Hhex
              obtain ⟨c, hcc⟩ : ∃ c, c = UInt8.ofNat (digB c1 * 16 + digB c2) := ⟨_, rfl⟩
              have j1 : bits .or .u8 ((digV c1 : Int) * 16) (digV c2 : Int) = (c.toNat : Int) := by rw [hcc, ← digV_yes ha, ← digV_yes hb]; exact or_nib _ _ (digV_lt _) (digV_lt _)
              have v1 := digV_lt c1
              have v2 := digV_lt c2
              rw [← hcc] at HT
              clear hcc ha hb
              go_wp2_with (first | (go_at_call 78; refine (codDigit _ _).mono ?_; rintro e w' ⟨rfl, hww⟩; rw [hww]; clear hww w') | (at_builtin; refine list_app1 _ rfl _ _ rfl w.heap.size _ out rfl (hown.alloc _) wr.heap.size 1 [c] rfl rfl (heap_alloc_new wr _) (by omega) (by have := hbel.size; simp; omega) ?_; intro v1 w1 hown1 hgrow))
              go_roundw
              case rel => exact ⟨k + 3, out ++ [c], by omega, by simp; omega, by go_num, hown1, HT, (hbel.alloc hbel.size _).grown hgrow (by have := hbel.size; simp; omega) (fun j hj => (HB j hj).1)⟩
              case measure => simp [intOf]; omega
            · have kb : digK c2 = false := by unfold digK; simp [hb]
              have Hn : Hid (decL l = none) := Hbad (fun h => hb h.2)
              clear Hbad Hhex hb ha
              go_wp2_with (go_at_call 78; refine (codDigit _ _).mono ?_; rintro e w' ⟨rfl, hww⟩; rw [hww]; clear hww w')
              go_ret2
              exact ⟨ret_sc (decS_none Hn.out).symm (decC_none Hn.out).symm, hbel⟩
          · have ka : digK c1 = false := by unfold digK; simp [ha]
            have Hn : Hid (decL l = none) := Hbad (fun h => ha h.1)
            clear Hbad Hhex ha
            go_wp2_with (go_at_call 78; refine (codDigit _ _).mono ?_; rintro e w' ⟨rfl, hww⟩; rw [hww]; clear hww w')
            go_ret2
            exact ⟨ret_sc (decS_none Hn.out).symm (decC_none Hn.out).symm, hbel⟩
      · have hc' : ¬ (c0.toNat : Int) = 37 := by intro e; exact hc (UInt8.toNat_inj.1 (by have : (37 : UInt8).toNat = 37 := rfl; omega))
        have HT : Hid (DecTo l (out ++ [c0]) (k + 1)) := by
          have := HD.out.plain hkl (by rw [hcn]; exact hc)
          rw [hcn] at this
          exact this
        clear hkl hcn hc
        go_wp2_with (at_builtin; refine list_app1 _ rfl _ _ rfl w.heap.size _ out rfl (hown.alloc _) wr.heap.size 1 [c0] rfl rfl (heap_alloc_new wr _) (by omega) (by have := hbel.size; simp; omega) ?_; intro v1 w1 hown1 hgrow)
        go_roundw
        case rel => exact ⟨k + 1, out ++ [c0], by omega, by simp; omega, by go_num, hown1, HT, (hbel.alloc hbel.size _).grown hgrow (by have := hbel.size; simp; omega) (fun j hj => (HB j hj).1)⟩
        case measure => simp [intOf]; omega
    · have hcv := conv_own wr w.heap.size _ _ hown
      have Hn : Hid (decL l = some out) := HD.out.done (by rw [HL.out]; omega)
      go_wp2
      go_ret2
      exact ⟨ret_sc (decS_some Hn.out).symm (decC_some Hn.out).symm, hbel⟩
end Go.Proofs.YtgjmaeodgcigdaaGreatDoor
namespace Go.Proofs.YtgjmaeodgcigdaaGreatDoor
open Go.RowKit

theorem ret_ssc {a b c d : ByteArray} {e f : Int} (h : a = b) (h2 : c = d) (h3 : e = f) : Ending.returned (.tuple #[.string a, .string c, .int .i64 e]) = .returned (.tuple #[.string b, .string d, .int .i64 f]) := by rw [h, h2, h3]
theorem ret_no {l : List UInt8} (h : pathL l = none) : Ending.returned (.tuple #[.string ⟨#[]⟩, .string ⟨#[]⟩, .int .i64 13]) = .returned (.tuple #[.string (str (pathB l)), .string (str (pathK l)), .int .i64 (pathC l)]) := by
  obtain ⟨h1, h2, h3⟩ := path_none h
  rw [h1, h2, h3]; rfl
end Go.Proofs.YtgjmaeodgcigdaaGreatDoor
namespace Go.Proofs.YtgjmaeodgcigdaaGreatDoor
open Go.RowKit

/-- two texts decoded; none: one of them can't be -/
def bothL (l m : List UInt8) : Option (List UInt8 × List UInt8) :=
  match decL l, decL m with
  | some a, some b => some (a, b)
  | _, _ => none
def bothA (l m : List UInt8) : List UInt8 := ((bothL l m).getD ([], [])).1
def bothB (l m : List UInt8) : List UInt8 := ((bothL l m).getD ([], [])).2
def bothC (l m : List UInt8) : Int := if (bothL l m).isSome then 0 else 13
def BothR (l m : List UInt8) : Ending := .returned (.tuple #[.string (str (bothA l m)), .string (str (bothB l m)), .int .i64 (bothC l m)])
theorem both_none {l m : List UInt8} (h : bothL l m = none) : Ending.returned (.tuple #[.string ⟨#[]⟩, .string ⟨#[]⟩, .int .i64 13]) = BothR l m := by
  unfold BothR bothA bothB bothC; rw [h]; rfl
theorem both_some {l m a b : List UInt8} (h : bothL l m = some (a, b)) : Ending.returned (.tuple #[.string (str a), .string (str b), .int .i64 0]) = BothR l m := by
  unfold BothR bothA bothB bothC; rw [h]; rfl

theorem codDecodeL (l : List UInt8) (w : World) (hs : l.length ≤ 40000000000000) :
    Calls Tryz.prog 32 #[.string (str l)] w fun e w' => e = .returned (.tuple #[.string (str (decS l)), .int .i64 (decC l)]) ∧ Below w.heap.size w w' := by
  have h := codDecode (str l) w (by rw [str_size]; exact hs)
  rw [str_list] at h
  exact h

set_option maxHeartbeats 1000000 in
theorem codBoth (l m : List UInt8) (w : World) (hl : l.length ≤ 40000000000000) (hm : m.length ≤ 40000000000000) :
    Calls Tryz.prog 124 #[.string (str l), .string (str m)] w fun e w' => e = BothR l m ∧ Below w.heap.size w w' := by
  have HA := fun w => codDecodeL l w hl
  have HK := fun w => codDecodeL m w hm
  have N := @both_none l m
  have Y := @both_some l m
  unfold bothL at N Y
  generalize BothR l m = R at *
  clear hl hm
  cases d1 : decL l with
  | none =>
    have FF : Hid (_ = R) := N (by rw [d1])
    rw [decS_none d1, decC_none d1] at HA
    clear d1 N Y HK
    generalize str l = s1 at *
    generalize str m = s2 at *
    go_enter Tryz.func124, Tryz.ntmps124
    go_wp2_with fail
    refine (HA w).mono ?_
    rintro e x1 ⟨rfl, b1⟩
    go_wp2_with fail
    go_ret3
    exact ⟨FF.out, b1⟩
  | some a =>
    rw [decS_some d1, decC_some d1] at HA
    cases d2 : decL m with
    | none =>
      have FF : Hid (_ = R) := N (by rw [d1, d2])
      rw [decS_none d2, decC_none d2] at HK
      clear d1 d2 N Y
      generalize str l = s1 at *
      generalize str m = s2 at *
      generalize str a = s3 at *
      go_enter Tryz.func124, Tryz.ntmps124
      go_wp2_with fail
      refine (HA w).mono ?_
      rintro e x1 ⟨rfl, b1⟩
      go_wp2_with fail
      refine (HK x1).mono ?_
      rintro e x2 ⟨rfl, c2⟩
      have b2 := b1.trans (c2.mono b1.size)
      go_wp2_with fail
      go_ret3
      exact ⟨FF.out, b2⟩
    | some b =>
      have FF : Hid (_ = R) := Y (a := a) (b := b) (by rw [d1, d2])
      rw [decS_some d2, decC_some d2] at HK
      clear d1 d2 N Y
      generalize str l = s1 at *
      generalize str m = s2 at *
      generalize str a = s3 at *
      generalize str b = s4 at *
      go_enter Tryz.func124, Tryz.ntmps124
      go_wp2_with fail
      refine (HA w).mono ?_
      rintro e x1 ⟨rfl, b1⟩
      go_wp2_with fail
      refine (HK x1).mono ?_
      rintro e x2 ⟨rfl, c2⟩
      have b2 := b1.trans (c2.mono b1.size)
      go_wp2_with fail
      go_ret3
      exact ⟨FF.out, b2⟩
theorem str_full {l : List UInt8} (h : ¬ l = []) : (str l).toList.isEmpty = false := by
  rw [str_empty]; cases l with
  | nil => exact absurd rfl h
  | cons a l => rfl
theorem str_none {l : List UInt8} (h : l = []) : (str l).toList.isEmpty = true := by rw [h, str_empty]; rfl
end Go.Proofs.YtgjmaeodgcigdaaGreatDoor
