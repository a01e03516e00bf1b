/- steleref06.right. steleref06.upto. -/
import Derived.Test.YtgjmaeodgcigdaaGreatDoorS6a
import Derived.Test.YtgjmaeodgcigdaaGreatDoorJ24
import Derived.Test.YtgjmaeodgcigdaaGreatDoorJ6
import Derived.Deep.CutRange
namespace Go.Proofs.YtgjmaeodgcigdaaGreatDoor
open Go.RowKit

def dtB (c : UInt8) : Bool := decide (48 ≤ c.toNat ∧ c.toNat ≤ 57)
def rightL (ac dt : List UInt8) (ts : List (List UInt8)) (sg : List UInt8) : Bool := dt.all dtB && accessL ac && decide (dt.length = 8) && namesL ts && decide (unE (str sg) = 0) && decide ((unR (str sg)).length = 32)

set_option maxRecDepth 20000 in
set_option maxHeartbeats 4000000 in
theorem refRight6 (ac dt sg : List UInt8) (ta : Option Addr) (tn tc : Nat) (ts : List (List UInt8)) (w : World) (hT : IsT w ta tn tc ts) (zt : ∀ i, i < ts.length → (nthT ts i).length ≤ 140737488351232) (za : ac.length ≤ 100000) (zd : dt.length ≤ 100000) (zs : sg.length ≤ 100000) :
    Calls Tryz.prog 62 #[.agg #[.string (str ac), .string (str dt), .slice ta tn tc, .string (str sg)]] w fun e w' => e = .returned (.bool (rightL ac dt ts sg)) ∧ Below w.heap.size w w' := by
  have T0 : Below w.heap.size w (w.alloc (.cells #[.string (str ac), .string (str dt), .slice ta tn tc, .string (str sg)] 45)) := (Below.refl _ w).alloc (Nat.le_refl _) _
  have K0 := Blk.newAt w w.heap.size 45 _ [.string (str ac), .string (str dt), .slice ta tn tc, .string (str sg)] rfl rfl
  have c0 := K0.cell 0
  have c1 := K0.cell 1
  have c2 := K0.cell 2
  have c3 := K0.cell 3
  have HA := fun W => refAccess ac W (by omega)
  have HN : ∀ W, Below w.heap.size w W → Calls Tryz.prog 40 #[.slice ta tn tc] W fun e w' => e = .returned (.bool (namesL ts)) ∧ Below W.heap.size W w' := fun W hW => refNames ta tn tc ts W (hT.below hW rfl) zt
  have HU : ∀ W, Calls Tryz.prog 111 #[.string (str sg)] W fun e w' => (∃ va vc, e = .returned (.tuple #[.slice va (unR (str sg)).length vc, .int .i64 (unE (str sg))])) ∧ Below W.heap.size W w' := fun W => (refUnhex (str sg) W (by rw [str_size]; omega)).mono (by
    rintro e w' ⟨v, rfl, ho, hb⟩
    obtain ⟨va, vc, rfl, hi⟩ := ho.isB
    exact ⟨⟨va, vc, rfl⟩, hb⟩)
  have HZ : Hid ((str dt).size = dt.length) := str_size dt
  have HS : Hid ((str dt).data.toList = dt) := str_list dt
  have HF0 : Hid (∀ k, k < dt.length → dtB (nth dt k) = false → rightL ac dt ts sg = false) := fun k hk h => by unfold rightL; rw [all_nth hk h]; rfl
  have HRL : Hid (dt.all dtB = true → rightL ac dt ts sg = (accessL ac && decide ((str dt).size = 8) && namesL ts && decide (unE (str sg) = 0) && decide ((unR (str sg)).length = 32))) := fun h => by unfold rightL; rw [h, str_size]; rfl
  have hdz : (str dt).size ≤ 100000 := by rw [str_size]; exact zd
  clear hT zt za zs
  generalize rightL ac dt ts sg = R at *
  generalize accessL ac = bA at *
  generalize namesL ts = bN at *
  generalize (unR (str sg)).length = nU at *
  generalize unE (str sg) = eU at *
  generalize str ac = xa at *
  generalize str dt = s at *
  generalize str sg = xs at *
  go_enter Tryz.func62, Tryz.ntmps62
  go_wp2
  go_loopw [3] (fun i wr => ∃ (k : Nat), k ≤ s.size ∧ i = .int .i64 k ∧ Hid ((dt.take k).all dtB = true) ∧ wr = w.alloc (.cells #[.string xa, .string s, .slice ta tn tc, .string xs] 45)) (fun i _ => s.size - (intOf i).toNat)
  case atStart => exact ⟨0, Nat.zero_le _, rfl, rfl, rfl⟩
  case round =>
    obtain ⟨k, hk, rfl, HD, rfl⟩ := hrel
    by_cases hlt : k < s.size
    · have hb0 : (0 : Int) ≤ (k : Int) := by omega
      have hb1 : (k : Int) < (s.size : Int) := by omega
      have hkl : k < dt.length := by rw [← HZ.out]; exact hlt
      have hcn : nth dt k = sb s (k : Int) := by unfold sb; rw [HS.out]; rfl
      have hx0 := ixs s (k : Int) hb0 hb1
      have HT : Hid (dtB (nth dt k) = true → (dt.take (k + 1)).all dtB = true) := fun h => all_take hkl HD.out h
      have HF : Hid (dtB (nth dt k) = false → R = false) := HF0.out k hkl
      rw [hcn] at HT HF
      generalize sb s (k : Int) = c at *
      clear hkl hcn HD HF0 HRL
      by_cases h1 : c.toNat < 48
      · have g1 : ((c.toNat : Int)) < 48 := by omega
        have HR : Hid (R = false) := HF.out (by unfold dtB; exact decide_eq_false (by omega))
        clear HT HF h1
        go_wp2
        go_ret
        exact ⟨ret_b HR.out.symm, T0⟩
      · have g1 : ¬ ((c.toNat : Int)) < 48 := by omega
        by_cases h2 : c.toNat ≤ 57
        · have g2 : ¬ (57 : Int) < ((c.toNat : Int)) := by omega
          have HR : Hid ((dt.take (k + 1)).all dtB = true) := HT.out (by unfold dtB; exact decide_eq_true (by omega))
          clear HT HF h1 h2
          go_wp2
          go_roundw
          case rel => exact ⟨k + 1, by omega, by go_num, HR, by first | rfl | trivial⟩
          case measure => simp [intOf]; omega
        · have g2 : (57 : Int) < ((c.toNat : Int)) := by omega
          have HR : Hid (R = false) := HF.out (by unfold dtB; exact decide_eq_false (by omega))
          clear HT HF h1 h2
          go_wp2
          go_ret
          exact ⟨ret_b HR.out.symm, T0⟩
    · have hge : ¬ (k : Int) < (s.size : Int) := by omega
      have hall : dt.all dtB = true := by
        have := HD.out
        rwa [List.take_of_length_le (by rw [← HZ.out]; omega)] at this
      have HR : Hid (R = (bA && decide (s.size = 8) && bN && decide (eU = 0) && decide (nU = 32))) := HRL.out hall
      clear hall HD HRL HF0 hlt
      go_upto_region 7 with (go_at_call 111; refine (HU _).mono ?_; rintro e w1 ⟨⟨va, vc, rfl⟩, hb1⟩; have T1 := T0.trans (hb1.mono T0.size); have K1 := K0.on hb1; have d0 := K1.cell 0; have d1 := K1.cell 1; have d2 := K1.cell 2; clear K0 K1 c0 c1 c2 c3)
      clear HU
      cases bA with
      | false =>
        have HV : Hid (R = false) := by unfold Hid; rw [HR.out]; rfl
        go_wp2_with (go_at_call 112; refine (HA _).mono ?_; rintro e w3 ⟨rfl, hww⟩; rw [hww]; clear hww w3)
        go_ret
        exact ⟨ret_b HV.out.symm, T1⟩
      | true =>
        by_cases h8 : s.size = 8
        · have h8' : (s.size : Int) = 8 := by omega
          have h8c : decide (s.size = 8) = true := decide_eq_true h8
          rw [h8c] at HR
          cases bN with
          | false =>
            have HV : Hid (R = false) := by unfold Hid; rw [HR.out]; rfl
            go_wp2_with (first | (go_at_call 112; refine (HA _).mono ?_; rintro e w3 ⟨rfl, hww⟩; rw [hww]; clear hww w3) | (go_at_call 40; refine (HN _ T1).mono ?_; rintro e w4 ⟨rfl, hb4⟩))
            go_ret
            exact ⟨ret_b HV.out.symm, T1.trans (hb4.mono T1.size)⟩
          | true =>
            by_cases he : eU = 0
            · subst he
              by_cases hn : nU = 32
              · have hn' : (nU : Int) = 32 := by omega
                have HV : Hid (R = true) := by unfold Hid; rw [HR.out, hn]; rfl
                go_wp2_with (first | (go_at_call 112; refine (HA _).mono ?_; rintro e w3 ⟨rfl, hww⟩; rw [hww]; clear hww w3) | (go_at_call 40; refine (HN _ T1).mono ?_; rintro e w4 ⟨rfl, hb4⟩))
                go_ret
                exact ⟨ret_b HV.out.symm, T1.trans (hb4.mono T1.size)⟩
              · have hn' : ¬ (nU : Int) = 32 := by omega
                have HV : Hid (R = false) := by unfold Hid; rw [HR.out, decide_eq_false hn]; rfl
                go_wp2_with (first | (go_at_call 112; refine (HA _).mono ?_; rintro e w3 ⟨rfl, hww⟩; rw [hww]; clear hww w3) | (go_at_call 40; refine (HN _ T1).mono ?_; rintro e w4 ⟨rfl, hb4⟩))
                go_ret
                exact ⟨ret_b ((beq_eq_false_iff_ne.2 hn').trans HV.out.symm), T1.trans (hb4.mono T1.size)⟩
            · have he' : (eU == 0) = false := by simpa using he
              have HV : Hid (R = false) := by unfold Hid; rw [HR.out, decide_eq_false he]; rfl
              go_wp2_with (first | (go_at_call 112; refine (HA _).mono ?_; rintro e w3 ⟨rfl, hww⟩; rw [hww]; clear hww w3) | (go_at_call 40; refine (HN _ T1).mono ?_; rintro e w4 ⟨rfl, hb4⟩))
              go_ret
              exact ⟨ret_b HV.out.symm, T1.trans (hb4.mono T1.size)⟩
        · have h8' : ¬ (s.size : Int) = 8 := by omega
          have HV : Hid (R = false) := by unfold Hid; rw [HR.out, decide_eq_false h8]; rfl
          go_wp2_with (go_at_call 112; refine (HA _).mono ?_; rintro e w3 ⟨rfl, hww⟩; rw [hww]; clear hww w3)
          go_ret
          exact ⟨ret_b HV.out.symm, T1⟩
end Go.Proofs.YtgjmaeodgcigdaaGreatDoor
namespace Go.Proofs.YtgjmaeodgcigdaaGreatDoor
open Go.RowKit

theorem ret_ssb6 {a b c d : ByteArray} {x y : Bool} (h : a = b) (h2 : c = d) (h3 : x = y) : Ending.returned (.tuple #[.string a, .string c, .bool x]) = .returned (.tuple #[.string b, .string d, .bool y]) := by rw [h, h2, h3]

def isAt (l wt : List UInt8) (i : Nat) : Bool := decide (i + wt.length ≤ l.length) && ((l.drop i).take wt.length == wt)
def uptoI (l wt : List UInt8) : Option Nat := (List.range (l.length + 1)).find? (isAt l wt)
def uptoA (l wt : List UInt8) : List UInt8 := match uptoI l wt with | some i => l.take i | none => []
def uptoB (l wt : List UInt8) : List UInt8 := match uptoI l wt with | some i => l.drop (i + wt.length) | none => []
theorem upto_at {l wt : List UInt8} {k : Nat} (h : isAt l wt k = true) (hn : ∀ i, i < k → isAt l wt i = false) : uptoI l wt = some k := by
  have hk : k + wt.length ≤ l.length := by unfold isAt at h; rw [Bool.and_eq_true] at h; exact of_decide_eq_true h.1
  unfold uptoI
  rw [List.find?_range_eq_some]
  exact ⟨h, List.mem_range.2 (by omega), fun i hi => by rw [hn i hi]; rfl⟩
theorem upto_none {l wt : List UInt8} (hn : ∀ i, i + wt.length ≤ l.length → isAt l wt i = false) : uptoI l wt = none := by
  unfold uptoI
  rw [List.find?_eq_none]
  intro i _ h
  by_cases hi : i + wt.length ≤ l.length
  · rw [hn i hi] at h; cases h
  · unfold isAt at h; rw [decide_eq_false hi] at h; cases h
theorem upto_some {l wt : List UInt8} {k : Nat} (h : uptoI l wt = some k) : isAt l wt k = true ∧ ∀ i, i < k → isAt l wt i = false := by
  unfold uptoI at h
  rw [List.find?_range_eq_some] at h
  exact ⟨h.1, fun i hi => by have := h.2.2 i hi; simpa using this⟩
theorem uptoA_len (l wt : List UInt8) : (uptoA l wt).length ≤ l.length := by
  unfold uptoA; split
  · rw [List.length_take]; omega
  · exact Nat.zero_le _
theorem uptoB_len (l wt : List UInt8) : (uptoB l wt).length ≤ l.length := by
  unfold uptoB; split
  · rw [List.length_drop]; omega
  · exact Nat.zero_le _
theorem ext_mid (l : List UInt8) (k m : Nat) : (str l).extract k (k + m) = str ((l.drop k).take m) := by
  apply ByteArray.ext
  apply Array.toList_inj.1
  unfold str
  rw [ByteArray.data_extract, Array.toList_extract]
  simp only [List.extract_eq_take_drop]
  rw [Nat.add_sub_cancel_left]
theorem sliceM (l : List UInt8) (k m : Nat) (h : k + m ≤ l.length) (u : World) : (Instr.slice 9 (.string (str l)) (some (.int .i64 (k : Int))) (some (.int .i64 ((k : Int) + (m : Int)))) none).run Tryz.prog u = .ok (.string (str ((l.drop k).take m))) u := by
  have hz := str_size l
  rw [← ext_mid, run_slice_string u 9 (str l) .i64 .i64 (k : Int) ((k : Int) + (m : Int)) Tryz.underlying9 (by omega) (by omega) (by omega)]
  rw [show ((k : Int) + (m : Int)).toNat = k + m by omega]
  rfl

set_option maxHeartbeats 1000000 in
theorem refUpto (l wt : List UInt8) (w : World) (hl : l.length ≤ 40000000000000) (hw : wt.length ≤ 40000000000000) :
    Calls Tryz.prog 60 #[.string (str l), .string (str wt)] w fun e w' => e = .returned (.tuple #[.string (str (uptoA l wt)), .string (str (uptoB l wt)), .bool (uptoI l wt).isSome]) ∧ Below w.heap.size w w' := by
  have HZ : Hid ((str l).size = l.length) := str_size l
  have HW : Hid ((str wt).size = wt.length) := str_size wt
  have T1 := fun k => ext_take (str l) k
  have T2 := fun k => ext_drop (str l) k
  rw [str_list] at T1 T2
  have H1 : Hid (∀ k, (str l).extract 0 k = str (l.take k)) := T1
  have H2 : Hid (∀ k, (str l).extract k (str l).size = str (l.drop k)) := T2
  have HM : Hid (∀ k, k + wt.length ≤ l.length → ∀ u, (Instr.slice 9 (.string (str l)) (some (.int .i64 (k : Int))) (some (.int .i64 ((k : Int) + (wt.length : Int)))) none).run Tryz.prog u = .ok (.string (str ((l.drop k).take wt.length))) u) := fun k h u => sliceM l k wt.length h u
  have HQ : Hid (∀ x : List UInt8, ((str x).toList == (str wt).toList) = (x == wt)) := fun x => by rw [str_toList, str_toList]
  clear T1 T2
  rw [← HW.out] at HM
  generalize str l = s at *
  generalize str wt = t at *
  have hsz : s.size ≤ 40000000000000 := by rw [HZ.out]; exact hl
  have htz : t.size ≤ 40000000000000 := by rw [HW.out]; exact hw
  go_enter Tryz.func60, Tryz.ntmps60
  go_wp2
  go_loopw [7] (fun i wr => ∃ (k : Nat), k ≤ s.size + 1 ∧ i = .int .i64 k ∧ Hid (∀ i, i < k → isAt l wt i = false) ∧ wr = w) (fun i _ => s.size + 1 - (intOf i).toNat)
  case atStart => exact ⟨0, Nat.zero_le _, rfl, fun i hi => absurd hi (Nat.not_lt_zero _), rfl⟩
  case round =>
    obtain ⟨k, hk, rfl, HD, rfl⟩ := hrel
    by_cases hlt : k + t.size ≤ s.size
    · have hb0 : (0 : Int) ≤ (k : Int) := by omega
      have hb1 : (k : Int) ≤ (s.size : Int) := by omega
      have hb2 : (0 : Int) ≤ (k : Int) + (t.size : Int) := by omega
      have hb3 : (k : Int) + (t.size : Int) ≤ (s.size : Int) := by omega
      have hkl : k + wt.length ≤ l.length := by rw [← HZ.out, ← HW.out]; exact hlt
      have hsl := HM.out k (by rw [HW.out]; exact hkl)
      have hq := HQ.out ((l.drop k).take t.size)
      rw [HW.out] at hq hsl
      have hat : isAt l wt k = ((l.drop k).take wt.length == wt) := by unfold isAt; rw [decide_eq_true hkl, Bool.true_and]
      rw [← hat] at hq
      rw [← HW.out] at hq hsl
      generalize str ((l.drop k).take t.size) = x at *
      clear hat
      cases hc : isAt l wt k with
      | true =>
        rw [hc] at hq
        have HR : Hid (uptoI l wt = some k) := upto_at hc HD.out
        have HX : Hid (k + t.size = k + wt.length) := by unfold Hid; rw [HW.out]
        clear hc HD HM HQ hkl
        go_wp2
        go_quiet (fail)
        go_wp2
        go_ret3
        exact ⟨ret_ssb6 (by rw [H1.out k]; unfold uptoA; rw [HR.out]) (by rw [H2.out (k + t.size)]; unfold uptoB; rw [HR.out, HX.out]) (by rw [HR.out]; rfl), bel_drewN (Below.refl _ _) _⟩
      | false =>
        rw [hc] at hq
        have HR : Hid (∀ i, i < k + 1 → isAt l wt i = false) := fun i hi => by
          rcases Nat.lt_or_ge i k with h1 | h1
          · exact HD.out i h1
          · have : i = k := by omega
            subst this; exact hc
        clear hc HD HM HQ hkl
        go_wp2
        go_roundw
        case rel => exact ⟨k + 1, by omega, by go_num, HR, by first | rfl | trivial⟩
        case measure => simp [intOf]; omega
    · have hge : ¬ (k : Int) + (t.size : Int) ≤ (s.size : Int) := by omega
      have HR : Hid (uptoI l wt = none) := upto_none (fun i hi => HD.out i (by rw [← HZ.out, ← HW.out] at hi; omega))
      go_wp2
      go_ret3
      exact ⟨ret_ssb6 (by unfold uptoA; rw [HR.out]; rfl) (by unfold uptoB; rw [HR.out]; rfl) (by rw [HR.out]; rfl), Below.refl _ _⟩
end Go.Proofs.YtgjmaeodgcigdaaGreatDoor
