/- steleref06.right. · steleref06.upto. · steleref06.ReadAuth. -/
import Derived.Test.YtgjmaeodgcigdaaGreatDoorS6a
import Derived.Test.YtgjmaeodgcigdaaGreatDoorB22
import Derived.Test.YtgjmaeodgcigdaaGreatDoorB5
import Derived.Deep.CutRange
import Derived.Test.YtgjmaeodgcigdaaGreatDoorB13
import Derived.Test.YtgjmaeodgcigdaaGreatDoorB19
namespace Go.Proofs.YtgjmaeodgcigdaaGreatDoor
open Go.RowKit

def dtB (c : UInt8) : Bool := decide (48 ≤ c.toNat ∧ c.toNat ≤ 57)
def rightL (ac dt : List UInt8) (ts : List (List UInt8)) (sg : List UInt8) : Bool := dt.all dtB && accessL ac && decide (dt.length = 8) && namesL ts && decide (unE (str sg) = 0) && decide ((unR (str sg)).length = 32)

set_option maxRecDepth 20000 in
set_option maxHeartbeats 4000000 in
theorem refRight6 (ac dt sg : List UInt8) (ta : Option Addr) (tn tc : Nat) (ts : List (List UInt8)) (w : World) (hT : IsT w ta tn tc ts) (zt : ∀ i, i < ts.length → (nthT ts i).length ≤ 140737488351232) (za : ac.length ≤ 100000) (zd : dt.length ≤ 100000) (zs : sg.length ≤ 100000) :
    Calls Tryz.prog 62 #[.agg #[.string (str ac), .string (str dt), .slice ta tn tc, .string (str sg)]] w fun e w' => e = .returned (.bool (rightL ac dt ts sg)) ∧ Below w.heap.size w w' := by
  have T0 : Below w.heap.size w (w.alloc (.cells #[.string (str ac), .string (str dt), .slice ta tn tc, .string (str sg)] 45)) := (Below.refl _ w).alloc (Nat.le_refl _) _
  have K0 := Blk.newAt w w.heap.size 45 _ [.string (str ac), .string (str dt), .slice ta tn tc, .string (str sg)] rfl rfl
  have c0 := K0.cell 0
  have c1 := K0.cell 1
  have c2 := K0.cell 2
  have c3 := K0.cell 3
  have HA := fun W => refAccess ac W (by omega)
  have HN : ∀ W, Below w.heap.size w W → Calls Tryz.prog 40 #[.slice ta tn tc] W fun e w' => e = .returned (.bool (namesL ts)) ∧ Below W.heap.size W w' := fun W hW => refNames ta tn tc ts W (hT.below hW rfl) zt
  have HU : ∀ W, Calls Tryz.prog 111 #[.string (str sg)] W fun e w' => (∃ va vc, e = .returned (.tuple #[.slice va (unR (str sg)).length vc, .int .i64 (unE (str sg))])) ∧ Below W.heap.size W w' := fun W => (refUnhex (str sg) W (by rw [str_size]; omega)).mono (by
    rintro e w' ⟨v, rfl, ho, hb⟩
    obtain ⟨va, vc, rfl, hi⟩ := ho.isB
    exact ⟨⟨va, vc, rfl⟩, hb⟩)
  have HZ : Hid ((str dt).size = dt.length) := str_size dt
  have HS : Hid ((str dt).data.toList = dt) := str_list dt
  have HF0 : Hid (∀ k, k < dt.length → dtB (nth dt k) = false → rightL ac dt ts sg = false) := fun k hk h => by unfold rightL; rw [all_nth hk h]; rfl
  have HRL : Hid (dt.all dtB = true → rightL ac dt ts sg = (accessL ac && decide ((str dt).size = 8) && namesL ts && decide (unE (str sg) = 0) && decide ((unR (str sg)).length = 32))) := fun h => by unfold rightL; rw [h, str_size]; rfl
  have hdz : (str dt).size ≤ 100000 := by rw [str_size]; exact zd
  clear hT zt za zs
  generalize rightL ac dt ts sg = R at *
  generalize accessL ac = bA at *
  generalize namesL ts = bN at *
  generalize (unR (str sg)).length = nU at *
  generalize unE (str sg) = eU at *
  generalize str ac = xa at *
  generalize str dt = s at *
  generalize str sg = xs at *
  go_enter Tryz.func62, Tryz.ntmps62
  go_wp2
  go_loopw [3] (fun i wr => ∃ (k : Nat), k ≤ s.size ∧ i = .int .i64 k ∧ Hid ((dt.take k).all dtB = true) ∧ wr = w.alloc (.cells #[.string xa, .string s, .slice ta tn tc, .string xs] 45)) (fun i _ => s.size - (intOf i).toNat)
  case atStart => exact ⟨0, Nat.zero_le _, rfl, rfl, rfl⟩
  case round =>
    obtain ⟨k, hk, rfl, HD, rfl⟩ := hrel
    by_cases hlt : k < s.size
    · have hb0 : (0 : Int) ≤ (k : Int) := by omega
      have hb1 : (k : Int) < (s.size : Int) := by omega
      have hkl : k < dt.length := by rw [← HZ.out]; exact hlt
      have hcn : nth dt k = sb s (k : Int) := by unfold sb; rw [HS.out]; rfl
      have hx0 := ixs s (k : Int) hb0 hb1
      have HT : Hid (dtB (nth dt k) = true → (dt.take (k + 1)).all dtB = true) := fun h => all_take hkl HD.out h
      have HF : Hid (dtB (nth dt k) = false → R = false) := HF0.out k hkl
      rw [hcn] at HT HF
      generalize sb s (k : Int) = c at *
      clear hkl hcn HD HF0 HRL
      by_cases h1 : c.toNat < 48
      · have g1 : ((c.toNat : Int)) < 48 := by omega
        have HR : Hid (R = false) := HF.out (by unfold dtB; exact decide_eq_false (by omega))
        clear HT HF h1
        go_wp2
        go_ret
        exact ⟨ret_b HR.out.symm, T0⟩
      · have g1 : ¬ ((c.toNat : Int)) < 48 := by omega
        by_cases h2 : c.toNat ≤ 57
        · have g2 : ¬ (57 : Int) < ((c.toNat : Int)) := by omega
          have HR : Hid ((dt.take (k + 1)).all dtB = true) := HT.out (by unfold dtB; exact decide_eq_true (by omega))
          clear HT HF h1 h2
          go_wp2
          go_roundw
          case rel => exact ⟨k + 1, by omega, by go_num, HR, by first | rfl | trivial⟩
          case measure => simp [intOf]; omega
        · have g2 : (57 : Int) < ((c.toNat : Int)) := by omega
          have HR : Hid (R = false) := HF.out (by unfold dtB; exact decide_eq_false (by omega))
          clear HT HF h1 h2
          go_wp2
          go_ret
          exact ⟨ret_b HR.out.symm, T0⟩
    · have hge : ¬ (k : Int) < (s.size : Int) := by omega
      have hall : dt.all dtB = true := by
        have := HD.out
        rwa [List.take_of_length_le (by rw [← HZ.out]; omega)] at this
      have HR : Hid (R = (bA && decide (s.size = 8) && bN && decide (eU = 0) && decide (nU = 32))) := HRL.out hall
      clear hall HD HRL HF0 hlt
      go_upto_region 7 with (go_at_call 111; refine (HU _).mono ?_; rintro e w1 ⟨⟨va, vc, rfl⟩, hb1⟩; have T1 := T0.trans (hb1.mono T0.size); have K1 := K0.on hb1; have d0 := K1.cell 0; have d1 := K1.cell 1; have d2 := K1.cell 2; clear K0 K1 c0 c1 c2 c3)
      clear HU
      cases bA with
      | false =>
        have HV : Hid (R = false) := by unfold Hid; rw [HR.out]; rfl
        go_wp2_with (go_at_call 112; refine (HA _).mono ?_; rintro e w3 ⟨rfl, hww⟩; rw [hww]; clear hww w3)
        go_ret
        exact ⟨ret_b HV.out.symm, T1⟩
      | true =>
        by_cases h8 : s.size = 8
        · have h8' : (s.size : Int) = 8 := by omega
          have h8c : decide (s.size = 8) = true := decide_eq_true h8
          rw [h8c] at HR
          cases bN with
          | false =>
            have HV : Hid (R = false) := by unfold Hid; rw [HR.out]; rfl
            go_wp2_with (first | (go_at_call 112; refine (HA _).mono ?_; rintro e w3 ⟨rfl, hww⟩; rw [hww]; clear hww w3) | (go_at_call 40; refine (HN _ T1).mono ?_; rintro e w4 ⟨rfl, hb4⟩))
            go_ret
            exact ⟨ret_b HV.out.symm, T1.trans (hb4.mono T1.size)⟩
          | true =>
            by_cases he : eU = 0
            · subst he
              by_cases hn : nU = 32
              · have hn' : (nU : Int) = 32 := by omega
                have HV : Hid (R = true) := by unfold Hid; rw [HR.out, hn]; rfl
                go_wp2_with (first | (go_at_call 112; refine (HA _).mono ?_; rintro e w3 ⟨rfl, hww⟩; rw [hww]; clear hww w3) | (go_at_call 40; refine (HN _ T1).mono ?_; rintro e w4 ⟨rfl, hb4⟩))
                go_ret
                exact ⟨ret_b HV.out.symm, T1.trans (hb4.mono T1.size)⟩
              · have hn' : ¬ (nU : Int) = 32 := by omega
                have HV : Hid (R = false) := by unfold Hid; rw [HR.out, decide_eq_false hn]; rfl
                go_wp2_with (first | (go_at_call 112; refine (HA _).mono ?_; rintro e w3 ⟨rfl, hww⟩; rw [hww]; clear hww w3) | (go_at_call 40; refine (HN _ T1).mono ?_; rintro e w4 ⟨rfl, hb4⟩))
                go_ret
                exact ⟨ret_b ((beq_eq_false_iff_ne.2 hn').trans HV.out.symm), T1.trans (hb4.mono T1.size)⟩
            · have he' : (eU == 0) = false := by simpa using he
              have HV : Hid (R = false) := by unfold Hid; rw [HR.out, decide_eq_false he]; rfl
              go_wp2_with (first | (go_at_call 112; refine (HA _).mono ?_; rintro e w3 ⟨rfl, hww⟩; rw [hww]; clear hww w3) | (go_at_call 40; refine (HN _ T1).mono ?_; rintro e w4 ⟨rfl, hb4⟩))
              go_ret
              exact ⟨ret_b HV.out.symm, T1.trans (hb4.mono T1.size)⟩
        · have h8' : ¬ (s.size : Int) = 8 := by omega
          have HV : Hid (R = false) := by unfold Hid; rw [HR.out, decide_eq_false h8]; rfl
          go_wp2_with (go_at_call 112; refine (HA _).mono ?_; rintro e w3 ⟨rfl, hww⟩; rw [hww]; clear hww w3)
          go_ret
          exact ⟨ret_b HV.out.symm, T1⟩
end Go.Proofs.YtgjmaeodgcigdaaGreatDoor
namespace Go.Proofs.YtgjmaeodgcigdaaGreatDoor
open Go.RowKit

theorem ret_ssb6 {a b c d : ByteArray} {x y : Bool} (h : a = b) (h2 : c = d) (h3 : x = y) : Ending.returned (.tuple #[.string a, .string c, .bool x]) = .returned (.tuple #[.string b, .string d, .bool y]) := by rw [h, h2, h3]

def isAt (l wt : List UInt8) (i : Nat) : Bool := decide (i + wt.length ≤ l.length) && ((l.drop i).take wt.length == wt)
def uptoI (l wt : List UInt8) : Option Nat := (List.range (l.length + 1)).find? (isAt l wt)
def uptoA (l wt : List UInt8) : List UInt8 := match uptoI l wt with | some i => l.take i | none => []
def uptoB (l wt : List UInt8) : List UInt8 := match uptoI l wt with | some i => l.drop (i + wt.length) | none => []
theorem upto_at {l wt : List UInt8} {k : Nat} (h : isAt l wt k = true) (hn : ∀ i, i < k → isAt l wt i = false) : uptoI l wt = some k := by
  have hk : k + wt.length ≤ l.length := by unfold isAt at h; rw [Bool.and_eq_true] at h; exact of_decide_eq_true h.1
  unfold uptoI
  rw [List.find?_range_eq_some]
  exact ⟨h, List.mem_range.2 (by omega), fun i hi => by rw [hn i hi]; rfl⟩
theorem upto_none {l wt : List UInt8} (hn : ∀ i, i + wt.length ≤ l.length → isAt l wt i = false) : uptoI l wt = none := by
  unfold uptoI
  rw [List.find?_eq_none]
  intro i _ h
  by_cases hi : i + wt.length ≤ l.length
  · rw [hn i hi] at h; cases h
  · unfold isAt at h; rw [decide_eq_false hi] at h; cases h
theorem upto_some {l wt : List UInt8} {k : Nat} (h : uptoI l wt = some k) : isAt l wt k = true ∧ ∀ i, i < k → isAt l wt i = false := by
  unfold uptoI at h
  rw [List.find?_range_eq_some] at h
  exact ⟨h.1, fun i hi => by have := h.2.2 i hi; simpa using this⟩
theorem uptoA_len (l wt : List UInt8) : (uptoA l wt).length ≤ l.length := by
  unfold uptoA; split
  · rw [List.length_take]; omega
  · exact Nat.zero_le _
theorem uptoB_len (l wt : List UInt8) : (uptoB l wt).length ≤ l.length := by
  unfold uptoB; split
  · rw [List.length_drop]; omega
  · exact Nat.zero_le _
theorem ext_mid (l : List UInt8) (k m : Nat) : (str l).extract k (k + m) = str ((l.drop k).take m) := by
  apply ByteArray.ext
  apply Array.toList_inj.1
  unfold str
  rw [ByteArray.data_extract, Array.toList_extract]
  simp only [List.extract_eq_take_drop]
  rw [Nat.add_sub_cancel_left]
theorem sliceM (l : List UInt8) (k m : Nat) (h : k + m ≤ l.length) (u : World) : (Instr.slice 9 (.string (str l)) (some (.int .i64 (k : Int))) (some (.int .i64 ((k : Int) + (m : Int)))) none).run Tryz.prog u = .ok (.string (str ((l.drop k).take m))) u := by
  have hz := str_size l
  rw [← ext_mid, run_slice_string u 9 (str l) .i64 .i64 (k : Int) ((k : Int) + (m : Int)) Tryz.underlying9 (by omega) (by omega) (by omega)]
  rw [show ((k : Int) + (m : Int)).toNat = k + m by omega]
  rfl

set_option maxHeartbeats 1000000 in
theorem refUpto (l wt : List UInt8) (w : World) (hl : l.length ≤ 40000000000000) (hw : wt.length ≤ 40000000000000) :
    Calls Tryz.prog 60 #[.string (str l), .string (str wt)] w fun e w' => e = .returned (.tuple #[.string (str (uptoA l wt)), .string (str (uptoB l wt)), .bool (uptoI l wt).isSome]) ∧ Below w.heap.size w w' := by
  have HZ : Hid ((str l).size = l.length) := str_size l
  have HW : Hid ((str wt).size = wt.length) := str_size wt
  have T1 := fun k => ext_take (str l) k
  have T2 := fun k => ext_drop (str l) k
  rw [str_list] at T1 T2
  have H1 : Hid (∀ k, (str l).extract 0 k = str (l.take k)) := T1
  have H2 : Hid (∀ k, (str l).extract k (str l).size = str (l.drop k)) := T2
  have HM : Hid (∀ k, k + wt.length ≤ l.length → ∀ u, (Instr.slice 9 (.string (str l)) (some (.int .i64 (k : Int))) (some (.int .i64 ((k : Int) + (wt.length : Int)))) none).run Tryz.prog u = .ok (.string (str ((l.drop k).take wt.length))) u) := fun k h u => sliceM l k wt.length h u
  have HQ : Hid (∀ x : List UInt8, ((str x).toList == (str wt).toList) = (x == wt)) := fun x => by rw [str_toList, str_toList]
  clear T1 T2
  rw [← HW.out] at HM
  generalize str l = s at *
  generalize str wt = t at *
  have hsz : s.size ≤ 40000000000000 := by rw [HZ.out]; exact hl
  have htz : t.size ≤ 40000000000000 := by rw [HW.out]; exact hw
  go_enter Tryz.func60, Tryz.ntmps60
  go_wp2
  go_loopw [7] (fun i wr => ∃ (k : Nat), k ≤ s.size + 1 ∧ i = .int .i64 k ∧ Hid (∀ i, i < k → isAt l wt i = false) ∧ wr = w) (fun i _ => s.size + 1 - (intOf i).toNat)
  case atStart => exact ⟨0, Nat.zero_le _, rfl, fun i hi => absurd hi (Nat.not_lt_zero _), rfl⟩
  case round =>
    obtain ⟨k, hk, rfl, HD, rfl⟩ := hrel
    by_cases hlt : k + t.size ≤ s.size
    · have hb0 : (0 : Int) ≤ (k : Int) := by omega
      have hb1 : (k : Int) ≤ (s.size : Int) := by omega
      have hb2 : (0 : Int) ≤ (k : Int) + (t.size : Int) := by omega
      have hb3 : (k : Int) + (t.size : Int) ≤ (s.size : Int) := by omega
      have hkl : k + wt.length ≤ l.length := by rw [← HZ.out, ← HW.out]; exact hlt
      have hsl := HM.out k (by rw [HW.out]; exact hkl)
      have hq := HQ.out ((l.drop k).take t.size)
      rw [HW.out] at hq hsl
      have hat : isAt l wt k = ((l.drop k).take wt.length == wt) := by unfold isAt; rw [decide_eq_true hkl, Bool.true_and]
      rw [← hat] at hq
      rw [← HW.out] at hq hsl
      generalize str ((l.drop k).take t.size) = x at *
      clear hat
      cases hc : isAt l wt k with
      | true =>
        rw [hc] at hq
        have HR : Hid (uptoI l wt = some k) := upto_at hc HD.out
        have HX : Hid (k + t.size = k + wt.length) := by unfold Hid; rw [HW.out]
        clear hc HD HM HQ hkl
        go_wp2
        go_quiet (fail)
        go_wp2
        go_ret3
        exact ⟨ret_ssb6 (by rw [H1.out k]; unfold uptoA; rw [HR.out]) (by rw [H2.out (k + t.size)]; unfold uptoB; rw [HR.out, HX.out]) (by rw [HR.out]; rfl), bel_drewN (Below.refl _ _) _⟩
      | false =>
        rw [hc] at hq
        have HR : Hid (∀ i, i < k + 1 → isAt l wt i = false) := fun i hi => by
          rcases Nat.lt_or_ge i k with h1 | h1
          · exact HD.out i h1
          · have : i = k := by omega
            subst this; exact hc
        clear hc HD HM HQ hkl
        go_wp2
        go_roundw
        case rel => exact ⟨k + 1, by omega, by go_num, HR, by first | rfl | trivial⟩
        case measure => simp [intOf]; omega
    · have hge : ¬ (k : Int) + (t.size : Int) ≤ (s.size : Int) := by omega
      have HR : Hid (uptoI l wt = none) := upto_none (fun i hi => HD.out i (by rw [← HZ.out, ← HW.out] at hi; omega))
      go_wp2
      go_ret3
      exact ⟨ret_ssb6 (by unfold uptoA; rw [HR.out]; rfl) (by unfold uptoB; rw [HR.out]; rfl) (by rw [HR.out]; rfl), Below.refl _ _⟩
end Go.Proofs.YtgjmaeodgcigdaaGreatDoor
namespace Go.Proofs.YtgjmaeodgcigdaaGreatDoor
open Go.RowKit

def sLocAll : List UInt8 := [47, 108, 111, 99, 97, 108, 47, 115, 51, 47, 97, 119, 115, 52, 95, 114, 101, 113, 117, 101, 115, 116, 44, 32, 83, 105, 103, 110, 101, 100, 72, 101, 97, 100, 101, 114, 115, 61]
def auR1 (l : List UInt8) : List UInt8 := uptoB l sCred
def auAc (l : List UInt8) : List UInt8 := uptoA (auR1 l) [47]
def auR2 (l : List UInt8) : List UInt8 := uptoB (auR1 l) [47]
def auDt (l : List UInt8) : List UInt8 := uptoA (auR2 l) sLocAll
def auR3 (l : List UInt8) : List UInt8 := uptoB (auR2 l) sLocAll
def auLs (l : List UInt8) : List UInt8 := uptoA (auR3 l) sSignat
def auSg (l : List UInt8) : List UInt8 := uptoB (auR3 l) sSignat
def auTs (l : List UInt8) : List (List UInt8) := cutL 59 (auLs l)
def auOk (l : List UInt8) : Bool := (uptoI l sCred).isSome && (uptoI (auR1 l) [47]).isSome && (uptoI (auR2 l) sLocAll).isSome && (uptoI (auR3 l) sSignat).isSome && (uptoA l sCred).isEmpty && rightL (auAc l) (auDt l) (auTs l) (auSg l) && (authL (auAc l) (auDt l) (auTs l) (auSg l) == l)
theorem au_len (l : List UInt8) : (auR1 l).length ≤ l.length ∧ (auAc l).length ≤ l.length ∧ (auR2 l).length ≤ l.length ∧ (auDt l).length ≤ l.length ∧ (auR3 l).length ≤ l.length ∧ (auLs l).length ≤ l.length ∧ (auSg l).length ≤ l.length := by
  have h1 := uptoB_len l sCred
  have h2 := uptoA_len (auR1 l) [47]
  have h3 := uptoB_len (auR1 l) [47]
  have h4 := uptoA_len (auR2 l) sLocAll
  have h5 := uptoB_len (auR2 l) sLocAll
  have h6 := uptoA_len (auR3 l) sSignat
  have h7 := uptoB_len (auR3 l) sSignat
  unfold auAc auDt auLs auSg
  rw [show uptoB l sCred = auR1 l from rfl] at h1
  rw [show uptoB (auR1 l) [47] = auR2 l from rfl] at h3
  rw [show uptoB (auR2 l) sLocAll = auR3 l from rfl] at h5
  refine ⟨h1, ?_, ?_, ?_, ?_, ?_, ?_⟩ <;> omega
theorem IsT.other {w : World} {a : Option Addr} {n cap : Nat} {l : List (List UInt8)} (h : IsT w a n cap l) {B : Nat} (hne : ∀ b off, a = some ⟨b, off, none⟩ → B < b) (j : Nat) (v : Value) : IsT (w.setCell ⟨B, j, none⟩ v) a n cap l :=
  ⟨h.len_eq, h.le, h.max, h.nil, fun hp => by
    obtain ⟨b, off, e, hc⟩ := h.cells hp
    have hb := hne b off e
    refine ⟨b, off, e, fun i hi => ?_⟩
    rw [World.cell?_setCell_other _ _ _ _ (fun e' => by injection e' with e1; omega)]; exact hc i hi⟩
def authNone : Value := .agg #[.string ⟨#[]⟩, .string ⟨#[]⟩, .slice none 0 0, .string ⟨#[]⟩]
theorem right_names {ac dt sg : List UInt8} {ts : List (List UInt8)} (h : rightL ac dt ts sg = true) : namesL ts = true := by
  unfold rightL at h
  simp only [Bool.and_eq_true] at h
  exact h.1.1.2

set_option maxRecDepth 20000 in
set_option maxHeartbeats 4000000 in
theorem refReadAuth (l : List UInt8) (w : World) (hl : l.length ≤ 100000) :
    Calls Tryz.prog 20 #[.string (str l)] w fun e w' =>
      (if auOk l = true then ∃ ta tc, e = .returned (.tuple #[.agg #[.string (str (auAc l)), .string (str (auDt l)), .slice ta (auTs l).length tc, .string (str (auSg l))], .int .i64 0]) ∧ IsT w' ta (auTs l).length tc (auTs l)
       else e = .returned (.tuple #[authNone, .int .i64 20])) ∧ Below w.heap.size w w' := by
  obtain ⟨z1, z2, z3, z4, z5, z6, z7⟩ := au_len l
  have H1 : ∀ W, Calls Tryz.prog 60 #[.string (str l), .string ⟨#[65, 87, 83, 52, 45, 72, 77, 65, 67, 45, 83, 72, 65, 50, 53, 54, 32, 67, 114, 101, 100, 101, 110, 116, 105, 97, 108, 61]⟩] W fun e w' => e = .returned (.tuple #[.string (str (uptoA l sCred)), .string (str (auR1 l)), .bool (uptoI l sCred).isSome]) ∧ Below W.heap.size W w' := fun W => refUpto l sCred W (by omega) (by rw [show sCred.length = 28 from rfl]; omega)
  have H2 : ∀ W, Calls Tryz.prog 60 #[.string (str (auR1 l)), .string ⟨#[47]⟩] W fun e w' => e = .returned (.tuple #[.string (str (auAc l)), .string (str (auR2 l)), .bool (uptoI (auR1 l) [47]).isSome]) ∧ Below W.heap.size W w' := fun W => refUpto (auR1 l) [47] W (by omega) (by rw [show ([47] : List UInt8).length = 1 from rfl]; omega)
  have H3 : ∀ W, Calls Tryz.prog 60 #[.string (str (auR2 l)), .string ⟨#[47, 108, 111, 99, 97, 108, 47, 115, 51, 47, 97, 119, 115, 52, 95, 114, 101, 113, 117, 101, 115, 116, 44, 32, 83, 105, 103, 110, 101, 100, 72, 101, 97, 100, 101, 114, 115, 61]⟩] W fun e w' => e = .returned (.tuple #[.string (str (auDt l)), .string (str (auR3 l)), .bool (uptoI (auR2 l) sLocAll).isSome]) ∧ Below W.heap.size W w' := fun W => refUpto (auR2 l) sLocAll W (by omega) (by rw [show sLocAll.length = 38 from rfl]; omega)
  have H4 : ∀ W, Calls Tryz.prog 60 #[.string (str (auR3 l)), .string ⟨#[44, 32, 83, 105, 103, 110, 97, 116, 117, 114, 101, 61]⟩] W fun e w' => e = .returned (.tuple #[.string (str (auLs l)), .string (str (auSg l)), .bool (uptoI (auR3 l) sSignat).isSome]) ∧ Below W.heap.size W w' := fun W => refUpto (auR3 l) sSignat W (by omega) (by rw [show sSignat.length = 12 from rfl]; omega)
  have H5 : ∀ W, Calls Tryz.prog 61 #[.string (str (auLs l)), .int .u8 59] W fun e w' => (∃ ta tc, e = .returned (.slice ta (auTs l).length tc) ∧ IsT w' ta (auTs l).length tc (auTs l) ∧ ∀ b off, ta = some ⟨b, off, none⟩ → W.heap.size ≤ b) ∧ Below W.heap.size W w' := fun W => by
    have h := refCut (str (auLs l)) 59 W (by rw [str_size]; omega)
    rw [str_list] at h
    exact h.mono (by
      rintro e w' ⟨v, rfl, ho, hb⟩
      obtain ⟨g, _, e1, hg, _⟩ := ho.form (cutL_pos 59 (auLs l))
      obtain ⟨ta, tc, rfl, hi⟩ := ho.isT
      exact ⟨⟨ta, tc, rfl, hi, fun b off e2 => by subst e2; injection e1 with e3; injection e3 with e4; injection e4 with e5; omega⟩, hb⟩)
  have zt : ∀ i, i < (auTs l).length → (nthT (auTs l) i).length ≤ 100000 := fun i hi => by
    rw [nthT_eq _ i hi]
    exact Nat.le_trans (cutL_part 59 (auLs l) _ (List.getElem_mem hi)) (by omega)
  have H6 : ∀ W ta tc, IsT W ta (auTs l).length tc (auTs l) → Calls Tryz.prog 62 #[.agg #[.string (str (auAc l)), .string (str (auDt l)), .slice ta (auTs l).length tc, .string (str (auSg l))]] W fun e w' => e = .returned (.bool (rightL (auAc l) (auDt l) (auTs l) (auSg l))) ∧ Below W.heap.size W w' := fun W ta tc hT => refRight6 _ _ _ ta _ tc _ W hT (fun i hi => Nat.le_trans (zt i hi) (by omega)) (by omega) (by omega) (by omega)
  have H7 : rightL (auAc l) (auDt l) (auTs l) (auSg l) = true → ∀ W ta tc, IsT W ta (auTs l).length tc (auTs l) → Calls Tryz.prog 23 #[.agg #[.string (str (auAc l)), .string (str (auDt l)), .slice ta (auTs l).length tc, .string (str (auSg l))]] W fun e w' => e = .returned (.string (str (authL (auAc l) (auDt l) (auTs l) (auSg l)))) ∧ Below W.heap.size W w' := fun hr W ta tc hT => refShowAuth _ _ _ ta _ tc _ W hT (by have := (names_facts (right_names hr)).2; omega) zt (by omega) (by omega) (by omega)
  have HQ : Hid (((str (authL (auAc l) (auDt l) (auTs l) (auSg l))).toList == (str l).toList) = (authL (auAc l) (auDt l) (auTs l) (auSg l) == l)) := by unfold Hid; rw [str_toList, str_toList]
  have HE : Hid ((str (uptoA l sCred)).toList.isEmpty = (uptoA l sCred).isEmpty) := by unfold Hid; rw [str_toList]
  have HO : Hid (auOk l = ((uptoI l sCred).isSome && (uptoI (auR1 l) [47]).isSome && (uptoI (auR2 l) sLocAll).isSome && (uptoI (auR3 l) sSignat).isSome && (uptoA l sCred).isEmpty && rightL (auAc l) (auDt l) (auTs l) (auSg l) && (authL (auAc l) (auDt l) (auTs l) (auSg l) == l))) := rfl
  clear zt z1 z2 z3 z4 z5 z6 z7 hl
  generalize auOk l = ok at *
  generalize rightL (auAc l) (auDt l) (auTs l) (auSg l) = bR at *
  generalize (authL (auAc l) (auDt l) (auTs l) (auSg l) == l) = bS at *
  generalize str (authL (auAc l) (auDt l) (auTs l) (auSg l)) = xS at *
  generalize (uptoA l sCred).isEmpty = bE at *
  generalize (uptoI l sCred).isSome = b1 at *
  generalize (uptoI (auR1 l) [47]).isSome = b2 at *
  generalize (uptoI (auR2 l) sLocAll).isSome = b3 at *
  generalize (uptoI (auR3 l) sSignat).isSome = b4 at *
  generalize str (uptoA l sCred) = xh at *
  generalize str (auR1 l) = r1 at *
  generalize str (auR2 l) = r2 at *
  generalize str (auR3 l) = r3 at *
  generalize str (auAc l) = xa at *
  generalize str (auDt l) = xd at *
  generalize str (auLs l) = xl at *
  generalize str (auSg l) = xg at *
  generalize auTs l = ts at *
  generalize str l = s at *
  have K0 := Blk.newAt w w.heap.size 45 _ [.string ⟨#[]⟩, .string ⟨#[]⟩, .slice none 0 0, .string ⟨#[]⟩] rfl rfl
  have T0 : Below w.heap.size w (w.alloc (.cells #[.string ⟨#[]⟩, .string ⟨#[]⟩, .slice none 0 0, .string ⟨#[]⟩] 45)) := (Below.refl _ w).alloc (Nat.le_refl _) _
  go_enter Tryz.func20, Tryz.ntmps20
  go_upto_region 6 with (first
    | (go_at_call 61; refine (H5 _).mono ?_; rintro e w5 ⟨⟨ta, tc, rfl, hi5, hg5⟩, hb5⟩; have hg : ∀ b off, ta = some ⟨b, off, none⟩ → w.heap.size < b := fun b off h => Nat.lt_of_lt_of_le K4.lt (hg5 b off h); have K5 := K4.on hb5; have T5 := T4.trans (hb5.mono T4.size))
    | (go_at_call 60; first
      | (have hmk := K3; refine (H4 _).mono ?_; rintro e w4 ⟨rfl, hb4⟩; have K4 := K3.on hb4; have T4 := T3.trans (hb4.mono T3.size))
      | (have hmk := K2; refine (H3 _).mono ?_; rintro e w3 ⟨rfl, hb3⟩; have K3 := K2.on hb3; have T3 := T2.trans (hb3.mono T2.size))
      | (have hmk := K1; refine (H2 _).mono ?_; rintro e w2 ⟨rfl, hb2⟩; have K2 := K1.on hb2; have T2 := T1.trans (hb2.mono T1.size))
      | (refine (H1 _).mono ?_; rintro e w1 ⟨rfl, hb1⟩; have K1 := K0.on hb1; have T1 := T0.trans (hb1.mono T0.size))))
  have A6 : Below w5.heap.size w5 (w5.alloc (.cells #[.string xa, .string xd, .slice ta ts.length tc, .string xg] 45)) := (Below.refl _ w5).alloc (Nat.le_refl _) _
  have X6 := Blk.newAt w5 w5.heap.size 45 _ [.string xa, .string xd, .slice ta ts.length tc, .string xg] rfl rfl
  have K6 := K5.on A6
  have T6 := T5.trans (A6.mono T5.size)
  have hi6 := hi5.below A6 rfl
  clear A6 K0 K1 K2 K3 K4 K5 T0 T1 T2 T3 T4 hb1 hb2 hb3 hb4 hb5 H1 H2 H3 H4 H5 hi5 hg5
  have hne : w.heap.size ≤ w5.heap.size := T5.size
  clear T5
  have he := HE.out
  have hq := HQ.out
  clear HE HQ
  generalize hW : w5.alloc (.cells #[.string xa, .string xd, .slice ta ts.length tc, .string xg] 45) = W at *
  clear hW
  cases b1 with
  | false =>
    have hok : ¬ ok = true := by rw [HO.out]; simp
    have k0 := K6.cell 0
    have k1 := K6.cell 1
    have k2 := K6.cell 2
    have k3 := K6.cell 3
    have f0 := K6.frozen 0
    have f1 := K6.frozen 1
    have f2 := K6.frozen 2
    have f3 := K6.frozen 3
    go_wp2
    (try simp only [Exit.inBlock, Exit.then])
    refine bodyPost_ret (results_cellrow_tmp (P := Tryz.prog) rfl _ _ w.heap.size 45 #[.string ⟨#[]⟩, .string ⟨#[]⟩, .slice none 0 0, .string ⟨#[]⟩] (0, 0) _ rfl ((((K6.set 0 (.string ⟨#[]⟩)).set 1 (.string ⟨#[]⟩)).set 2 (.slice none 0 0)).set 3 (.string ⟨#[]⟩)) Tryz.underlying45 rfl (by kernel_rfl)) rfl ⟨?_, ((((T6.setCell (p := ⟨w.heap.size, 0, none⟩) (Nat.le_refl _) (.string ⟨#[]⟩)).setCell (p := ⟨w.heap.size, 1, none⟩) (Nat.le_refl _) (.string ⟨#[]⟩)).setCell (p := ⟨w.heap.size, 2, none⟩) (Nat.le_refl _) (.slice none 0 0)).setCell (p := ⟨w.heap.size, 3, none⟩) (Nat.le_refl _) (.string ⟨#[]⟩))⟩
    first | rfl | (rw [if_neg hok]; rfl)
  | true =>
    cases b2 with
    | false =>
      have hok : ¬ ok = true := by rw [HO.out]; simp
      have k0 := K6.cell 0
      have k1 := K6.cell 1
      have k2 := K6.cell 2
      have k3 := K6.cell 3
      have f0 := K6.frozen 0
      have f1 := K6.frozen 1
      have f2 := K6.frozen 2
      have f3 := K6.frozen 3
      go_wp2
      (try simp only [Exit.inBlock, Exit.then])
      refine bodyPost_ret (results_cellrow_tmp (P := Tryz.prog) rfl _ _ w.heap.size 45 #[.string ⟨#[]⟩, .string ⟨#[]⟩, .slice none 0 0, .string ⟨#[]⟩] (0, 0) _ rfl ((((K6.set 0 (.string ⟨#[]⟩)).set 1 (.string ⟨#[]⟩)).set 2 (.slice none 0 0)).set 3 (.string ⟨#[]⟩)) Tryz.underlying45 rfl (by kernel_rfl)) rfl ⟨?_, ((((T6.setCell (p := ⟨w.heap.size, 0, none⟩) (Nat.le_refl _) (.string ⟨#[]⟩)).setCell (p := ⟨w.heap.size, 1, none⟩) (Nat.le_refl _) (.string ⟨#[]⟩)).setCell (p := ⟨w.heap.size, 2, none⟩) (Nat.le_refl _) (.slice none 0 0)).setCell (p := ⟨w.heap.size, 3, none⟩) (Nat.le_refl _) (.string ⟨#[]⟩))⟩
      first | rfl | (rw [if_neg hok]; rfl)
    | true =>
      cases b3 with
      | false =>
        have hok : ¬ ok = true := by rw [HO.out]; simp
        have k0 := K6.cell 0
        have k1 := K6.cell 1
        have k2 := K6.cell 2
        have k3 := K6.cell 3
        have f0 := K6.frozen 0
        have f1 := K6.frozen 1
        have f2 := K6.frozen 2
        have f3 := K6.frozen 3
        go_wp2
        (try simp only [Exit.inBlock, Exit.then])
        refine bodyPost_ret (results_cellrow_tmp (P := Tryz.prog) rfl _ _ w.heap.size 45 #[.string ⟨#[]⟩, .string ⟨#[]⟩, .slice none 0 0, .string ⟨#[]⟩] (0, 0) _ rfl ((((K6.set 0 (.string ⟨#[]⟩)).set 1 (.string ⟨#[]⟩)).set 2 (.slice none 0 0)).set 3 (.string ⟨#[]⟩)) Tryz.underlying45 rfl (by kernel_rfl)) rfl ⟨?_, ((((T6.setCell (p := ⟨w.heap.size, 0, none⟩) (Nat.le_refl _) (.string ⟨#[]⟩)).setCell (p := ⟨w.heap.size, 1, none⟩) (Nat.le_refl _) (.string ⟨#[]⟩)).setCell (p := ⟨w.heap.size, 2, none⟩) (Nat.le_refl _) (.slice none 0 0)).setCell (p := ⟨w.heap.size, 3, none⟩) (Nat.le_refl _) (.string ⟨#[]⟩))⟩
        first | rfl | (rw [if_neg hok]; rfl)
      | true =>
        cases b4 with
        | false =>
          have hok : ¬ ok = true := by rw [HO.out]; simp
          have k0 := K6.cell 0
          have k1 := K6.cell 1
          have k2 := K6.cell 2
          have k3 := K6.cell 3
          have f0 := K6.frozen 0
          have f1 := K6.frozen 1
          have f2 := K6.frozen 2
          have f3 := K6.frozen 3
          go_wp2
          (try simp only [Exit.inBlock, Exit.then])
          refine bodyPost_ret (results_cellrow_tmp (P := Tryz.prog) rfl _ _ w.heap.size 45 #[.string ⟨#[]⟩, .string ⟨#[]⟩, .slice none 0 0, .string ⟨#[]⟩] (0, 0) _ rfl ((((K6.set 0 (.string ⟨#[]⟩)).set 1 (.string ⟨#[]⟩)).set 2 (.slice none 0 0)).set 3 (.string ⟨#[]⟩)) Tryz.underlying45 rfl (by kernel_rfl)) rfl ⟨?_, ((((T6.setCell (p := ⟨w.heap.size, 0, none⟩) (Nat.le_refl _) (.string ⟨#[]⟩)).setCell (p := ⟨w.heap.size, 1, none⟩) (Nat.le_refl _) (.string ⟨#[]⟩)).setCell (p := ⟨w.heap.size, 2, none⟩) (Nat.le_refl _) (.slice none 0 0)).setCell (p := ⟨w.heap.size, 3, none⟩) (Nat.le_refl _) (.string ⟨#[]⟩))⟩
          first | rfl | (rw [if_neg hok]; rfl)
        | true =>
          cases bE with
          | false =>
            have hok : ¬ ok = true := by rw [HO.out]; simp
            have k0 := K6.cell 0
            have k1 := K6.cell 1
            have k2 := K6.cell 2
            have k3 := K6.cell 3
            have f0 := K6.frozen 0
            have f1 := K6.frozen 1
            have f2 := K6.frozen 2
            have f3 := K6.frozen 3
            go_wp2
            (try simp only [Exit.inBlock, Exit.then])
            refine bodyPost_ret (results_cellrow_tmp (P := Tryz.prog) rfl _ _ w.heap.size 45 #[.string ⟨#[]⟩, .string ⟨#[]⟩, .slice none 0 0, .string ⟨#[]⟩] (0, 0) _ rfl ((((K6.set 0 (.string ⟨#[]⟩)).set 1 (.string ⟨#[]⟩)).set 2 (.slice none 0 0)).set 3 (.string ⟨#[]⟩)) Tryz.underlying45 rfl (by kernel_rfl)) rfl ⟨?_, ((((T6.setCell (p := ⟨w.heap.size, 0, none⟩) (Nat.le_refl _) (.string ⟨#[]⟩)).setCell (p := ⟨w.heap.size, 1, none⟩) (Nat.le_refl _) (.string ⟨#[]⟩)).setCell (p := ⟨w.heap.size, 2, none⟩) (Nat.le_refl _) (.slice none 0 0)).setCell (p := ⟨w.heap.size, 3, none⟩) (Nat.le_refl _) (.string ⟨#[]⟩))⟩
            first | rfl | (rw [if_neg hok]; rfl)
          | true =>
            have g0 := X6.cell 0
            have g1 := X6.cell 1
            have g2 := X6.cell 2
            have g3 := X6.cell 3
            cases bR with
            | false =>
              have hok : ¬ ok = true := by rw [HO.out]; simp
              go_wp2_with (go_at_call 62; refine (H6 _ _ _ hi6).mono ?_; rintro e w7 ⟨rfl, hb7⟩; have K7 := K6.on hb7; have T7 := T6.trans (hb7.mono T6.size); have X7 := X6.on hb7; have hi7 := hi6.below hb7 rfl; have k0 := K7.cell 0; have f0 := K7.frozen 0; have k1 := K7.cell 1; have f1 := K7.frozen 1; have k2 := K7.cell 2; have f2 := K7.frozen 2; have k3 := K7.cell 3; have f3 := K7.frozen 3)
              (try simp only [Exit.inBlock, Exit.then])
              refine bodyPost_ret (results_cellrow_tmp (P := Tryz.prog) rfl _ _ w.heap.size 45 #[.string ⟨#[]⟩, .string ⟨#[]⟩, .slice none 0 0, .string ⟨#[]⟩] (0, 0) _ rfl ((((K7.set 0 (.string ⟨#[]⟩)).set 1 (.string ⟨#[]⟩)).set 2 (.slice none 0 0)).set 3 (.string ⟨#[]⟩)) Tryz.underlying45 rfl (by kernel_rfl)) rfl ⟨?_, ((((T7.setCell (p := ⟨w.heap.size, 0, none⟩) (Nat.le_refl _) (.string ⟨#[]⟩)).setCell (p := ⟨w.heap.size, 1, none⟩) (Nat.le_refl _) (.string ⟨#[]⟩)).setCell (p := ⟨w.heap.size, 2, none⟩) (Nat.le_refl _) (.slice none 0 0)).setCell (p := ⟨w.heap.size, 3, none⟩) (Nat.le_refl _) (.string ⟨#[]⟩))⟩
              first | rfl | (rw [if_neg hok]; rfl)
            | true =>
              have H7' := H7 rfl
              clear H7
              cases bS with
              | false =>
                have hok : ¬ ok = true := by rw [HO.out]; simp
                go_wp2_with (first | (go_at_call 62; refine (H6 _ _ _ hi6).mono ?_; rintro e w7 ⟨rfl, hb7⟩; have K7 := K6.on hb7; have T7 := T6.trans (hb7.mono T6.size); have X7 := X6.on hb7; have hi7 := hi6.below hb7 rfl; have h0 := X7.cell 0; have h1 := X7.cell 1; have h2 := X7.cell 2; have h3 := X7.cell 3) | (go_at_call 23; refine (H7' _ _ _ hi7).mono ?_; rintro e w8 ⟨rfl, hb8⟩; have K8 := K7.on hb8; have T8 := T7.trans (hb8.mono T7.size); have X8 := X7.on hb8; have hi8 := hi7.below hb8 rfl; have k0 := K8.cell 0; have f0 := K8.frozen 0; have k1 := K8.cell 1; have f1 := K8.frozen 1; have k2 := K8.cell 2; have f2 := K8.frozen 2; have k3 := K8.cell 3; have f3 := K8.frozen 3))
                (try simp only [Exit.inBlock, Exit.then])
                refine bodyPost_ret (results_cellrow_tmp (P := Tryz.prog) rfl _ _ w.heap.size 45 #[.string ⟨#[]⟩, .string ⟨#[]⟩, .slice none 0 0, .string ⟨#[]⟩] (0, 0) _ rfl ((((K8.set 0 (.string ⟨#[]⟩)).set 1 (.string ⟨#[]⟩)).set 2 (.slice none 0 0)).set 3 (.string ⟨#[]⟩)) Tryz.underlying45 rfl (by kernel_rfl)) rfl ⟨?_, ((((T8.setCell (p := ⟨w.heap.size, 0, none⟩) (Nat.le_refl _) (.string ⟨#[]⟩)).setCell (p := ⟨w.heap.size, 1, none⟩) (Nat.le_refl _) (.string ⟨#[]⟩)).setCell (p := ⟨w.heap.size, 2, none⟩) (Nat.le_refl _) (.slice none 0 0)).setCell (p := ⟨w.heap.size, 3, none⟩) (Nat.le_refl _) (.string ⟨#[]⟩))⟩
                first | rfl | (rw [if_neg hok]; rfl)
              | true =>
                have hok : ok = true := by rw [HO.out]; rfl
                go_wp2_with (first | (go_at_call 62; refine (H6 _ _ _ hi6).mono ?_; rintro e w7 ⟨rfl, hb7⟩; have K7 := K6.on hb7; have T7 := T6.trans (hb7.mono T6.size); have X7 := X6.on hb7; have hi7 := hi6.below hb7 rfl; have h0 := X7.cell 0; have h1 := X7.cell 1; have h2 := X7.cell 2; have h3 := X7.cell 3) | (go_at_call 23; refine (H7' _ _ _ hi7).mono ?_; rintro e w8 ⟨rfl, hb8⟩; have K8 := K7.on hb8; have T8 := T7.trans (hb8.mono T7.size); have X8 := X7.on hb8; have hi8 := hi7.below hb8 rfl; have k0 := K8.cell 0; have f0 := K8.frozen 0; have k1 := K8.cell 1; have f1 := K8.frozen 1; have k2 := K8.cell 2; have f2 := K8.frozen 2; have k3 := K8.cell 3; have f3 := K8.frozen 3; have m0 := X8.cell 0; have m1 := X8.cell 1; have m2 := X8.cell 2; have m3 := X8.cell 3))
                (try simp only [Exit.inBlock, Exit.then])
                refine bodyPost_ret (results_cellrow_tmp (P := Tryz.prog) rfl _ _ w.heap.size 45 #[.string xa, .string xd, .slice ta ts.length tc, .string xg] (0, 0) _ rfl ((((K8.set 0 (.string xa)).set 1 (.string xd)).set 2 (.slice ta ts.length tc)).set 3 (.string xg)) Tryz.underlying45 rfl (by kernel_rfl)) rfl ⟨?_, ((((T8.setCell (p := ⟨w.heap.size, 0, none⟩) (Nat.le_refl _) (.string xa)).setCell (p := ⟨w.heap.size, 1, none⟩) (Nat.le_refl _) (.string xd)).setCell (p := ⟨w.heap.size, 2, none⟩) (Nat.le_refl _) (.slice ta ts.length tc)).setCell (p := ⟨w.heap.size, 3, none⟩) (Nat.le_refl _) (.string xg))⟩
                first | exact ⟨ta, tc, rfl, (((hi8.other hg 0 _).other hg 1 _).other hg 2 _).other hg 3 _⟩ | (rw [if_pos hok]; exact ⟨ta, tc, rfl, (((hi8.other hg 0 _).other hg 1 _).other hg 2 _).other hg 3 _⟩)
end Go.Proofs.YtgjmaeodgcigdaaGreatDoor
