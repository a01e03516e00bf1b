/- What the document's ShowAuth answers, of longer parts. -/
import Derived.Test.YtgjmaeodgcigdaaGreatDoorB22
namespace Go.Proofs.YtgjmaeodgcigdaaGreatDoor
open Go.RowKit

set_option maxRecDepth 20000 in
set_option maxHeartbeats 2000000 in
theorem refJoinB (a : Option Addr) (n cap : Nat) (l : List (List UInt8)) (sg : List UInt8) (w : World) (h : IsT w a n cap l) (hn : n ≤ 1000) (hs : sg.length ≤ 1000) (hz : ∀ i, i < l.length → (nthT l i).length ≤ 2000000) :
    Calls Tryz.prog 46 #[.slice a n cap, .string (str sg)] w fun e w' => e = .returned (.string (str (joinS sg l))) ∧ w' = w := by
  have HL : Hid (l.length = n) := h.len_eq
  have H : Hid (IsT w a n cap l) := h
  have HM : Hid (∀ k, k ≤ n → (joinTo sg l k).length ≤ 1000000000000) := fun k hk => by
    have h1 := joinTo_le sg l 2000000 hz k (by rw [HL.out]; exact hk)
    have h2 : k * (2000000 + sg.length) ≤ 1000 * (2000000 + 1000) := Nat.mul_le_mul (by omega) (by omega)
    omega
  clear h
  have hsg : (str sg).size ≤ 1000 := by rw [str_size]; exact hs
  go_enter Tryz.func46, Tryz.ntmps46
  go_wp2
  go_loopw [5, 6] (fun v i wr => ∃ (k : Nat), k ≤ n ∧ i = .int .i64 k ∧ v = .string (str (joinTo sg l k)) ∧ wr = w) (fun _ i _ => n - (intOf i).toNat)
  case atStart => exact ⟨0, Nat.zero_le _, rfl, rfl, rfl⟩
  case round =>
    obtain ⟨k, hk, rfl, rfl, rfl⟩ := hrel
    by_cases hlt : k < n
    · obtain ⟨b, off, rfl, hc⟩ := H.out.cells (by omega)
      have g1 := hc k hlt
      have hb0 : (0 : Int) ≤ (k : Int) := by omega
      have hb1 : (k : Int) < (n : Int) := by omega
      have hkl : k < l.length := by rw [HL.out]; exact hlt
      have hy : (str (nthT l k)).size ≤ 2000000 := by rw [str_size]; exact hz k hkl
      have hx : (str (joinTo sg l k)).size ≤ 1000000000000 := by rw [str_size]; exact HM.out k hk
      have z1 : ¬ 9223372036854775807 < (str (joinTo sg l k)).size + (str sg).size := by omega
      have z2 : ¬ 9223372036854775807 < (str (joinTo sg l k)).size + (str sg).size + (str (nthT l k)).size := by omega
      have z3 : ¬ 9223372036854775807 < (str (joinTo sg l k)).size + (str (nthT l k)).size := by omega
      cases k with
      | zero =>
        have HT : Hid ((⟨#[]⟩ : ByteArray) ++ str (nthT l 0) = str (joinTo sg l (0 + 1))) := by
          unfold Hid; rw [show (⟨#[]⟩ : ByteArray) = str [] from rfl, str_append2]; rfl
        have hem : str (joinTo sg l 0) = ⟨#[]⟩ := rfl
        rw [hem] at z3 ⊢
        have g0 : wr.cell? ⟨b, off, none⟩ = some (.string (str (nthT l 0))) := g1
        have hb2 : (0 : Int) < (n : Int) := by omega
        clear hc hkl hz hx z1 z2 hem HM g1 hb0 hb1
        generalize str (nthT l 0) = s1 at *
        go_wp2
        go_roundw
        case rel => exact ⟨0 + 1, by omega, by go_num, by first | rw [HT.out] | (rw [← HT.out]; simp), by first | rfl | trivial⟩
        case measure => simp [intOf]; omega
      | succ j =>
        have hj2 : (0 : Int) < (j : Int) + 1 := by omega
        have HT : Hid (str (joinTo sg l (j + 1)) ++ str sg ++ str (nthT l (j + 1)) = str (joinTo sg l (j + 1 + 1))) := by
          unfold Hid; rw [str_append2, str_append2, joinTo.eq_2 sg l (j + 1), if_neg (by omega)]
        clear hc hkl hz hx HM
        generalize str (joinTo sg l (j + 1)) = s0 at *
        generalize str (nthT l (j + 1)) = s1 at *
        go_wp2
        go_roundw
        case rel => exact ⟨j + 1 + 1, by omega, by go_num, by rw [HT.out], by first | rfl | trivial⟩
        case measure => simp [intOf]; omega
    · have hge : ¬ (k : Int) < (n : Int) := by omega
      have hkn : k = n := by omega
      subst hkn
      have HT : Hid (str (joinTo sg l k) = str (joinS sg l)) := by unfold Hid joinS; rw [HL.out]
      go_wp2
      go_ret
      exact ⟨ret_s HT.out, by first | rfl | trivial⟩
theorem refScopeB (d : List UInt8) (w : World) (hd : d.length ≤ 2000000) : Calls Tryz.prog 53 #[.string (str d)] w fun e w' => e = .returned (.string (str (scopeL d))) ∧ w' = w := by
  have y : ¬ 9223372036854775807 < (str d).size + 22 := by rw [str_size]; omega
  have HT : Hid (str d ++ ⟨#[47, 108, 111, 99, 97, 108, 47, 115, 51, 47, 97, 119, 115, 52, 95, 114, 101, 113, 117, 101, 115, 116]⟩ = str (scopeL d)) := by
    unfold Hid
    rw [show (⟨#[47, 108, 111, 99, 97, 108, 47, 115, 51, 47, 97, 119, 115, 52, 95, 114, 101, 113, 117, 101, 115, 116]⟩ : ByteArray) = str sScope from rfl, str_append2]; rfl
  generalize str d = s at *
  go_enter Tryz.func53, Tryz.ntmps53
  go_wp2
  go_ret
  exact ⟨ret_s HT.out, rfl⟩

set_option maxRecDepth 20000 in
set_option maxHeartbeats 2000000 in
theorem refShowAuthB (ac dt sg : List UInt8) (ta : Option Addr) (tn tc : Nat) (ts : List (List UInt8)) (w : World) (hT : IsT w ta tn tc ts) (zn : tn ≤ 1000) (zt : ∀ i, i < ts.length → (nthT ts i).length ≤ 2000000) (za : ac.length ≤ 2000000) (zd : dt.length ≤ 2000000) (zs : sg.length ≤ 2000000) :
    Calls Tryz.prog 23 #[.agg #[.string (str ac), .string (str dt), .slice ta tn tc, .string (str sg)]] w fun e w' => e = .returned (.string (str (authL ac dt ts sg))) ∧ Below w.heap.size w w' := by
  have T0 : Below w.heap.size w (w.alloc (.cells #[.string (str ac), .string (str dt), .slice ta tn tc, .string (str sg)] 45)) := (Below.refl _ w).alloc (Nat.le_refl _) _
  have K0 := Blk.newAt w w.heap.size 45 _ [.string (str ac), .string (str dt), .slice ta tn tc, .string (str sg)] rfl rfl
  have c0 := K0.cell 0
  have c1 := K0.cell 1
  have c2 := K0.cell 2
  have c3 := K0.cell 3
  have HSc := fun W => refScopeB dt W zd
  have HJ : ∀ W, Below w.heap.size w W → Calls Tryz.prog 46 #[.slice ta tn tc, .string ⟨#[59]⟩] W fun e w' => e = .returned (.string (str (joinS [59] ts))) ∧ w' = W := fun W hW => refJoinB ta tn tc ts [59] W (hT.below hW rfl) zn (by decide) (fun i hi => zt i hi)
  have ha : (str ac).size ≤ 2000000 := by rw [str_size]; exact za
  have hs : (str sg).size ≤ 2000000 := by rw [str_size]; exact zs
  have hd : (str (scopeL dt)).size ≤ 2000022 := by rw [str_size]; unfold scopeL; rw [List.length_append, show sScope.length = 22 from rfl]; omega
  have hj : (str (joinS [59] ts)).size ≤ 2000001000 := by
    rw [str_size]
    have l5 := joinTo_le [59] ts 2000000 zt ts.length (Nat.le_refl _)
    have h3 : ([59] : List UInt8).length = 1 := rfl
    rw [h3] at l5
    have hn := hT.len_eq
    have l5' : ts.length * (2000000 + 1) ≤ 1000 * (2000000 + 1) := Nat.mul_le_mul_right _ (by omega)
    unfold joinS; omega
  have HTx : Hid ((⟨#[65, 87, 83, 52, 45, 72, 77, 65, 67, 45, 83, 72, 65, 50, 53, 54, 32, 67, 114, 101, 100, 101, 110, 116, 105, 97, 108, 61]⟩ : ByteArray) ++ str ac ++ ⟨#[47]⟩ ++ str (scopeL dt) ++ ⟨#[44, 32, 83, 105, 103, 110, 101, 100, 72, 101, 97, 100, 101, 114, 115, 61]⟩ ++ str (joinS [59] ts) ++ ⟨#[44, 32, 83, 105, 103, 110, 97, 116, 117, 114, 101, 61]⟩ ++ str sg = str (authL ac dt ts sg)) := by
    unfold Hid
    rw [show (⟨#[65, 87, 83, 52, 45, 72, 77, 65, 67, 45, 83, 72, 65, 50, 53, 54, 32, 67, 114, 101, 100, 101, 110, 116, 105, 97, 108, 61]⟩ : ByteArray) = str sCred from rfl, show (⟨#[47]⟩ : ByteArray) = str [47] from rfl, show (⟨#[44, 32, 83, 105, 103, 110, 101, 100, 72, 101, 97, 100, 101, 114, 115, 61]⟩ : ByteArray) = str sSigned from rfl, show (⟨#[44, 32, 83, 105, 103, 110, 97, 116, 117, 114, 101, 61]⟩ : ByteArray) = str sSignat from rfl, str_append2, str_append2, str_append2, str_append2, str_append2, str_append2, str_append2]
    rfl
  clear hT zt za zd zs zn
  generalize str ac = xa at *
  generalize str dt = xd at *
  generalize str sg = xs at *
  generalize str (scopeL dt) = xsc at *
  generalize str (joinS [59] ts) = xj at *
  have y1 : ¬ 9223372036854775807 < 28 + xa.size := by omega
  have y2 : ¬ 9223372036854775807 < 28 + xa.size + 1 := by omega
  have y3 : ¬ 9223372036854775807 < 28 + xa.size + 1 + xsc.size := by omega
  have y4 : ¬ 9223372036854775807 < 28 + xa.size + 1 + xsc.size + 16 := by omega
  have y5 : ¬ 9223372036854775807 < 28 + xa.size + 1 + xsc.size + 16 + xj.size := by omega
  have y6 : ¬ 9223372036854775807 < 28 + xa.size + 1 + xsc.size + 16 + xj.size + 12 := by omega
  have y7 : ¬ 9223372036854775807 < 28 + xa.size + 1 + xsc.size + 16 + xj.size + 12 + xs.size := by omega
  clear ha hs hd hj
  go_enter Tryz.func23, Tryz.ntmps23
  go_wp2
  go_quiet (first | (go_at_call 53; exact Calls.quiet_of_same (HSc _)) | (go_at_call 46; exact Calls.quiet_of_same (HJ _ (bel_drewN T0 _))))
  go_wp2
  go_ret
  exact ⟨ret_s HTx.out, bel_drewN T0 _⟩

end Go.Proofs.YtgjmaeodgcigdaaGreatDoor
