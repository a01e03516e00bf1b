/- steleref06.ShowAuth. · steleref06.access. · What a hex digit stands for, and the document's digit. · What a text of digits stands for. · What the document's Unhex answers, of any text. -/
import Derived.Test.YtgjmaeodgcigdaaGreatDoorB21
import Derived.Test.YtgjmaeodgcigdaaGreatDoorB0
import Derived.Test.YtgjmaeodgcigdaaGreatDoorB1
namespace Go.Proofs.YtgjmaeodgcigdaaGreatDoor
open Go.RowKit

def sCred : List UInt8 := [65, 87, 83, 52, 45, 72, 77, 65, 67, 45, 83, 72, 65, 50, 53, 54, 32, 67, 114, 101, 100, 101, 110, 116, 105, 97, 108, 61]
def sSigned : List UInt8 := [44, 32, 83, 105, 103, 110, 101, 100, 72, 101, 97, 100, 101, 114, 115, 61]
def sSignat : List UInt8 := [44, 32, 83, 105, 103, 110, 97, 116, 117, 114, 101, 61]
def authL (ac dt : List UInt8) (ts : List (List UInt8)) (sg : List UInt8) : List UInt8 := sCred ++ ac ++ [47] ++ scopeL dt ++ sSigned ++ joinS [59] ts ++ sSignat ++ sg

set_option maxRecDepth 20000 in
set_option maxHeartbeats 2000000 in
theorem refShowAuth (ac dt sg : List UInt8) (ta : Option Addr) (tn tc : Nat) (ts : List (List UInt8)) (w : World) (hT : IsT w ta tn tc ts) (zn : tn ≤ 1000) (zt : ∀ i, i < ts.length → (nthT ts i).length ≤ 100000) (za : ac.length ≤ 100000) (zd : dt.length ≤ 100000) (zs : sg.length ≤ 100000) :
    Calls Tryz.prog 23 #[.agg #[.string (str ac), .string (str dt), .slice ta tn tc, .string (str sg)]] w fun e w' => e = .returned (.string (str (authL ac dt ts sg))) ∧ Below w.heap.size w w' := by
  have T0 : Below w.heap.size w (w.alloc (.cells #[.string (str ac), .string (str dt), .slice ta tn tc, .string (str sg)] 45)) := (Below.refl _ w).alloc (Nat.le_refl _) _
  have K0 := Blk.newAt w w.heap.size 45 _ [.string (str ac), .string (str dt), .slice ta tn tc, .string (str sg)] rfl rfl
  have c0 := K0.cell 0
  have c1 := K0.cell 1
  have c2 := K0.cell 2
  have c3 := K0.cell 3
  have HSc := fun W => refScope dt W zd
  have HJ : ∀ W, Below w.heap.size w W → Calls Tryz.prog 46 #[.slice ta tn tc, .string ⟨#[59]⟩] W fun e w' => e = .returned (.string (str (joinS [59] ts))) ∧ w' = W := fun W hW => refJoin ta tn tc ts [59] W (hT.below hW rfl) zn (by decide) (fun i hi => Nat.le_trans (zt i hi) (by decide))
  have ha : (str ac).size ≤ 100000 := by rw [str_size]; exact za
  have hs : (str sg).size ≤ 100000 := by rw [str_size]; exact zs
  have hd : (str (scopeL dt)).size ≤ 100022 := by rw [str_size]; unfold scopeL; rw [List.length_append, show sScope.length = 22 from rfl]; omega
  have hj : (str (joinS [59] ts)).size ≤ 100001000 := by
    rw [str_size]
    have l5 := joinTo_le [59] ts 100000 zt ts.length (Nat.le_refl _)
    have h3 : ([59] : List UInt8).length = 1 := rfl
    rw [h3] at l5
    have hn := hT.len_eq
    have l5' : ts.length * (100000 + 1) ≤ 1000 * (100000 + 1) := Nat.mul_le_mul_right _ (by omega)
    unfold joinS; omega
  have HTx : Hid ((⟨#[65, 87, 83, 52, 45, 72, 77, 65, 67, 45, 83, 72, 65, 50, 53, 54, 32, 67, 114, 101, 100, 101, 110, 116, 105, 97, 108, 61]⟩ : ByteArray) ++ str ac ++ ⟨#[47]⟩ ++ str (scopeL dt) ++ ⟨#[44, 32, 83, 105, 103, 110, 101, 100, 72, 101, 97, 100, 101, 114, 115, 61]⟩ ++ str (joinS [59] ts) ++ ⟨#[44, 32, 83, 105, 103, 110, 97, 116, 117, 114, 101, 61]⟩ ++ str sg = str (authL ac dt ts sg)) := by
    unfold Hid
    rw [show (⟨#[65, 87, 83, 52, 45, 72, 77, 65, 67, 45, 83, 72, 65, 50, 53, 54, 32, 67, 114, 101, 100, 101, 110, 116, 105, 97, 108, 61]⟩ : ByteArray) = str sCred from rfl, show (⟨#[47]⟩ : ByteArray) = str [47] from rfl, show (⟨#[44, 32, 83, 105, 103, 110, 101, 100, 72, 101, 97, 100, 101, 114, 115, 61]⟩ : ByteArray) = str sSigned from rfl, show (⟨#[44, 32, 83, 105, 103, 110, 97, 116, 117, 114, 101, 61]⟩ : ByteArray) = str sSignat from rfl, str_append2, str_append2, str_append2, str_append2, str_append2, str_append2, str_append2]
    rfl
  clear hT zt za zd zs zn
  generalize str ac = xa at *
  generalize str dt = xd at *
  generalize str sg = xs at *
  generalize str (scopeL dt) = xsc at *
  generalize str (joinS [59] ts) = xj at *
  have y1 : ¬ 9223372036854775807 < 28 + xa.size := by omega
  have y2 : ¬ 9223372036854775807 < 28 + xa.size + 1 := by omega
  have y3 : ¬ 9223372036854775807 < 28 + xa.size + 1 + xsc.size := by omega
  have y4 : ¬ 9223372036854775807 < 28 + xa.size + 1 + xsc.size + 16 := by omega
  have y5 : ¬ 9223372036854775807 < 28 + xa.size + 1 + xsc.size + 16 + xj.size := by omega
  have y6 : ¬ 9223372036854775807 < 28 + xa.size + 1 + xsc.size + 16 + xj.size + 12 := by omega
  have y7 : ¬ 9223372036854775807 < 28 + xa.size + 1 + xsc.size + 16 + xj.size + 12 + xs.size := by omega
  clear ha hs hd hj
  go_enter Tryz.func23, Tryz.ntmps23
  go_wp2
  go_quiet (first | (go_at_call 53; exact Calls.quiet_of_same (HSc _)) | (go_at_call 46; exact Calls.quiet_of_same (HJ _ (bel_drewN T0 _))))
  go_wp2
  go_ret
  exact ⟨ret_s HTx.out, bel_drewN T0 _⟩

end Go.Proofs.YtgjmaeodgcigdaaGreatDoor
namespace Go.Proofs.YtgjmaeodgcigdaaGreatDoor
open Go.RowKit

def acN (n : Nat) : Bool := decide (97 ≤ n ∧ n ≤ 122 ∨ 65 ≤ n ∧ n ≤ 90 ∨ 48 ≤ n ∧ n ≤ 57)
def acNB (c : UInt8) : Bool := acN c.toNat
def accessL (l : List UInt8) : Bool := l.all acNB && decide (1 ≤ l.length ∧ l.length ≤ 16)

set_option maxRecDepth 20000 in
set_option maxHeartbeats 4000000 in
theorem refAccess (l : List UInt8) (w : World) (hl : l.length ≤ 140737488351232) :
    Calls Tryz.prog 112 #[.string (str l)] w fun e w' => e = .returned (.bool (accessL l)) ∧ w' = w := by
  have HZ : Hid ((str l).size = l.length) := str_size l
  have HS : Hid ((str l).data.toList = l) := str_list l
  generalize str l = s at *
  have hsz : s.size ≤ 140737488351232 := by rw [HZ.out]; exact hl
  go_enter Tryz.func112, Tryz.ntmps112
  go_wp2
  go_loopw [3] (fun i wr => ∃ (k : Nat), k ≤ s.size ∧ i = .int .i64 k ∧ Hid ((l.take k).all acNB = true) ∧ wr = w) (fun i _ => s.size - (intOf i).toNat)
  case atStart => exact ⟨0, Nat.zero_le _, rfl, rfl, rfl⟩
  case round =>
    obtain ⟨k, hk, rfl, HD, rfl⟩ := hrel
    by_cases hlt : k < s.size
    · have hb0 : (0 : Int) ≤ (k : Int) := by omega
      have hb1 : (k : Int) < (s.size : Int) := by omega
      have hkl : k < l.length := by rw [← HZ.out]; exact hlt
      have hcn : nth l k = sb s (k : Int) := by unfold sb; rw [HS.out]; rfl
      have hx0 := ixs s (k : Int) hb0 hb1
      have HT : Hid (acNB (nth l k) = true → (l.take (k + 1)).all acNB = true) := fun h => all_take hkl HD.out h
      have HF : Hid (acNB (nth l k) = false → accessL l = false) := fun h => by unfold accessL; rw [all_nth hkl h]; rfl
      rw [hcn] at HT HF
      generalize sb s (k : Int) = c at *
      clear hkl hcn HD
      have HTN : Hid (acN c.toNat = true → (l.take (k + 1)).all acNB = true) := HT.out
      have HFN : Hid (acN c.toNat = false → accessL l = false) := HF.out
      have h256 := c.toNat_lt
      clear HT HF
      generalize c.toNat = n at *
      by_cases c0 : n ≤ 47
      · have i1 : (0 : Int) ≤ (n : Int) := by omega
        have i2 : (n : Int) ≤ 47 := by omega
        have d122 : decide ((n : Int) ≤ 122) = true := decide_eq_true (by omega)
        have g97 : decide ((97 : Int) ≤ (n : Int)) = false := decide_eq_false (by omega)
        have d90 : decide ((n : Int) ≤ 90) = true := decide_eq_true (by omega)
        have g65 : decide ((65 : Int) ≤ (n : Int)) = false := decide_eq_false (by omega)
        have d57 : decide ((n : Int) ≤ 57) = true := decide_eq_true (by omega)
        have g48 : decide ((48 : Int) ≤ (n : Int)) = false := decide_eq_false (by omega)
        have HR : Hid (accessL l = false) := HFN.out (by unfold acN; simp <;> omega)
        clear HTN HFN
        go_wp2
        go_ret
        exact ⟨ret_b HR.out.symm, by first | rfl | trivial⟩
      by_cases c1 : n ≤ 57
      · have i1 : (48 : Int) ≤ (n : Int) := by omega
        have i2 : (n : Int) ≤ 57 := by omega
        have d122 : decide ((n : Int) ≤ 122) = true := decide_eq_true (by omega)
        have g97 : decide ((97 : Int) ≤ (n : Int)) = false := decide_eq_false (by omega)
        have d90 : decide ((n : Int) ≤ 90) = true := decide_eq_true (by omega)
        have g65 : decide ((65 : Int) ≤ (n : Int)) = false := decide_eq_false (by omega)
        have d57 : decide ((n : Int) ≤ 57) = true := decide_eq_true (by omega)
        have g48 : decide ((48 : Int) ≤ (n : Int)) = true := decide_eq_true (by omega)
        have HR : Hid ((l.take (k + 1)).all acNB = true) := HTN.out (by unfold acN; simp <;> omega)
        clear HTN HFN
        go_wp2
        go_roundw
        case rel => exact ⟨k + 1, by omega, by go_num, HR, by first | rfl | trivial⟩
        case measure => simp [intOf]; omega
      by_cases c2 : n ≤ 64
      · have i1 : (58 : Int) ≤ (n : Int) := by omega
        have i2 : (n : Int) ≤ 64 := by omega
        have d122 : decide ((n : Int) ≤ 122) = true := decide_eq_true (by omega)
        have g97 : decide ((97 : Int) ≤ (n : Int)) = false := decide_eq_false (by omega)
        have d90 : decide ((n : Int) ≤ 90) = true := decide_eq_true (by omega)
        have g65 : decide ((65 : Int) ≤ (n : Int)) = false := decide_eq_false (by omega)
        have d57 : decide ((n : Int) ≤ 57) = false := decide_eq_false (by omega)
        have g48 : decide ((48 : Int) ≤ (n : Int)) = true := decide_eq_true (by omega)
        have HR : Hid (accessL l = false) := HFN.out (by unfold acN; simp <;> omega)
        clear HTN HFN
        go_wp2
        go_ret
        exact ⟨ret_b HR.out.symm, by first | rfl | trivial⟩
      by_cases c3 : n ≤ 90
      · have i1 : (65 : Int) ≤ (n : Int) := by omega
        have i2 : (n : Int) ≤ 90 := by omega
        have d122 : decide ((n : Int) ≤ 122) = true := decide_eq_true (by omega)
        have g97 : decide ((97 : Int) ≤ (n : Int)) = false := decide_eq_false (by omega)
        have d90 : decide ((n : Int) ≤ 90) = true := decide_eq_true (by omega)
        have g65 : decide ((65 : Int) ≤ (n : Int)) = true := decide_eq_true (by omega)
        have d57 : decide ((n : Int) ≤ 57) = false := decide_eq_false (by omega)
        have g48 : decide ((48 : Int) ≤ (n : Int)) = true := decide_eq_true (by omega)
        have HR : Hid ((l.take (k + 1)).all acNB = true) := HTN.out (by unfold acN; simp <;> omega)
        clear HTN HFN
        go_wp2
        go_roundw
        case rel => exact ⟨k + 1, by omega, by go_num, HR, by first | rfl | trivial⟩
        case measure => simp [intOf]; omega
      by_cases c4 : n ≤ 96
      · have i1 : (91 : Int) ≤ (n : Int) := by omega
        have i2 : (n : Int) ≤ 96 := by omega
        have d122 : decide ((n : Int) ≤ 122) = true := decide_eq_true (by omega)
        have g97 : decide ((97 : Int) ≤ (n : Int)) = false := decide_eq_false (by omega)
        have d90 : decide ((n : Int) ≤ 90) = false := decide_eq_false (by omega)
        have g65 : decide ((65 : Int) ≤ (n : Int)) = true := decide_eq_true (by omega)
        have d57 : decide ((n : Int) ≤ 57) = false := decide_eq_false (by omega)
        have g48 : decide ((48 : Int) ≤ (n : Int)) = true := decide_eq_true (by omega)
        have HR : Hid (accessL l = false) := HFN.out (by unfold acN; simp <;> omega)
        clear HTN HFN
        go_wp2
        go_ret
        exact ⟨ret_b HR.out.symm, by first | rfl | trivial⟩
      by_cases c5 : n ≤ 122
      · have i1 : (97 : Int) ≤ (n : Int) := by omega
        have i2 : (n : Int) ≤ 122 := by omega
        have d122 : decide ((n : Int) ≤ 122) = true := decide_eq_true (by omega)
        have g97 : decide ((97 : Int) ≤ (n : Int)) = true := decide_eq_true (by omega)
        have d90 : decide ((n : Int) ≤ 90) = false := decide_eq_false (by omega)
        have g65 : decide ((65 : Int) ≤ (n : Int)) = true := decide_eq_true (by omega)
        have d57 : decide ((n : Int) ≤ 57) = false := decide_eq_false (by omega)
        have g48 : decide ((48 : Int) ≤ (n : Int)) = true := decide_eq_true (by omega)
        have HR : Hid ((l.take (k + 1)).all acNB = true) := HTN.out (by unfold acN; simp <;> omega)
        clear HTN HFN
        go_wp2
        go_roundw
        case rel => exact ⟨k + 1, by omega, by go_num, HR, by first | rfl | trivial⟩
        case measure => simp [intOf]; omega
      have i1 : (123 : Int) ≤ (n : Int) := by omega
      have d122 : decide ((n : Int) ≤ 122) = false := decide_eq_false (by omega)
      have g97 : decide ((97 : Int) ≤ (n : Int)) = true := decide_eq_true (by omega)
      have d90 : decide ((n : Int) ≤ 90) = false := decide_eq_false (by omega)
      have g65 : decide ((65 : Int) ≤ (n : Int)) = true := decide_eq_true (by omega)
      have d57 : decide ((n : Int) ≤ 57) = false := decide_eq_false (by omega)
      have g48 : decide ((48 : Int) ≤ (n : Int)) = true := decide_eq_true (by omega)
      have HR : Hid (accessL l = false) := HFN.out (by unfold acN; simp <;> omega)
      clear HTN HFN
      go_wp2
      go_ret
      exact ⟨ret_b HR.out.symm, by first | rfl | trivial⟩
    · have hge : ¬ (k : Int) < (s.size : Int) := by omega
      have HR : Hid (accessL l = decide (1 ≤ s.size ∧ s.size ≤ 16)) := by
        have := HD.out
        rw [List.take_of_length_le (by rw [← HZ.out]; omega)] at this
        unfold Hid accessL; rw [this, HZ.out]; rfl
      by_cases h1 : 1 ≤ s.size
      · by_cases h2 : s.size ≤ 16
        · have h1' : (1 : Int) ≤ (s.size : Int) := by omega
          have h2' : (s.size : Int) ≤ 16 := by omega
          have HV : Hid (accessL l = true) := by unfold Hid; rw [HR.out]; exact decide_eq_true ⟨h1, h2⟩
          go_wp2
          go_ret
          exact ⟨ret_b HV.out.symm, by first | rfl | trivial⟩
        · have h1' : (1 : Int) ≤ (s.size : Int) := by omega
          have h2' : ¬ (s.size : Int) ≤ 16 := by omega
          have HV : Hid (accessL l = false) := by unfold Hid; rw [HR.out]; exact decide_eq_false (fun h => h2 h.2)
          go_wp2
          go_ret
          exact ⟨ret_b HV.out.symm, by first | rfl | trivial⟩
      · have h1' : ¬ (1 : Int) ≤ (s.size : Int) := by omega
        have HV : Hid (accessL l = false) := by unfold Hid; rw [HR.out]; exact decide_eq_false (fun h => h1 h.1)
        go_wp2
        go_ret
        exact ⟨ret_b HV.out.symm, by first | rfl | trivial⟩
end Go.Proofs.YtgjmaeodgcigdaaGreatDoor
namespace Go.Proofs.YtgjmaeodgcigdaaGreatDoor
open Go.RowKit

/-- what a digit stands for; 16: it is none -/
def hvN (c : UInt8) : Nat := if 48 ≤ c.toNat ∧ c.toNat ≤ 57 then c.toNat - 48 else if 97 ≤ c.toNat ∧ c.toNat ≤ 102 then c.toNat - 87 else 16
theorem hvN_le (c : UInt8) : hvN c ≤ 16 := by unfold hvN; split <;> (try split) <;> omega
theorem hvN_dig (c : UInt8) (h : 48 ≤ c.toNat) (h' : c.toNat ≤ 57) : hvN c = c.toNat - 48 := by unfold hvN; rw [if_pos ⟨h, h'⟩]
theorem hvN_let (c : UInt8) (h : 97 ≤ c.toNat) (h' : c.toNat ≤ 102) : hvN c = c.toNat - 87 := by unfold hvN; rw [if_neg (by omega), if_pos ⟨h, h'⟩]
theorem hvN_no (c : UInt8) (h : ¬ (48 ≤ c.toNat ∧ c.toNat ≤ 57)) (h' : ¬ (97 ≤ c.toNat ∧ c.toNat ≤ 102)) : hvN c = 16 := by unfold hvN; rw [if_neg h, if_neg h']

theorem ret_int {k : IntKind} {a b : Int} (h : a = b) : Ending.returned (.int k a) = .returned (.int k b) := by rw [h]
theorem ret_int_bool {k : IntKind} {a b : Int} {p q : Bool} (h : a = b) (g : p = q) : Ending.returned (.tuple #[.int k a, .bool p]) = .returned (.tuple #[.int k b, .bool q]) := by rw [h, g]

/-- a digit, or none -/
def isHv (c : UInt8) : Bool := decide (hvN c < 16)
def hvZ (c : UInt8) : Nat := if hvN c < 16 then hvN c else 0

theorem ways5 (n : Nat) : n < 48 ∨ (48 ≤ n ∧ n ≤ 57) ∨ (57 < n ∧ n < 97) ∨ (97 ≤ n ∧ n ≤ 102) ∨ 102 < n := by omega

set_option maxHeartbeats 400000 in
theorem refDigitH (c : UInt8) (w : World) :
    Calls Tryz.prog 144 #[.int .u8 (c.toNat : Int)] w fun e w' => e = .returned (.int .i64 (hvN c : Int)) ∧ w' = w := by
  have hlt := c.toNat_lt
  obtain ⟨n, hn⟩ : ∃ n, n = c.toNat := ⟨_, rfl⟩
  have H : Hid (n = c.toNat) := hn
  rw [← hn] at hlt ⊢
  clear hn
  rcases ways5 n with h | ⟨h, h'⟩ | ⟨h, h'⟩ | ⟨h, h'⟩ | h
  all_goals
    go_enter Tryz.func144, Tryz.ntmps144
    go_wp2
    go_ret
    refine ⟨ret_int ?_, rfl⟩
  · rw [hvN_no c (by rw [← H.out]; omega) (by rw [← H.out]; omega)]; rfl
  · rw [hvN_dig c (by rw [← H.out]; omega) (by rw [← H.out]; omega), ← H.out]; omega
  · rw [hvN_no c (by rw [← H.out]; omega) (by rw [← H.out]; omega)]; rfl
  · rw [hvN_let c (by rw [← H.out]; omega) (by rw [← H.out]; omega), ← H.out]; omega
  · rw [hvN_no c (by rw [← H.out]; omega) (by rw [← H.out]; omega)]; rfl

end Go.Proofs.YtgjmaeodgcigdaaGreatDoor
namespace Go.Proofs.YtgjmaeodgcigdaaGreatDoor
open Go.RowKit

/-- the byte that two digits stand for -/
def pr (s : ByteArray) (k : Nat) : UInt8 := UInt8.ofNat (16 * hvN (sb s (2 * (k : Int))) + hvN (sb s (2 * (k : Int) + 1)))
/-- the first k pairs are digits -/
def goodTo (s : ByteArray) (k : Nat) : Bool := decide (∀ i, i < k → isHv (sb s (2 * (i : Int))) = true ∧ isHv (sb s (2 * (i : Int) + 1)) = true)
def goodS (s : ByteArray) : Bool := s.size % 2 == 0 && goodTo s (s.size / 2)
def unL (s : ByteArray) (k : Nat) : List UInt8 := (List.range k).map (pr s)
/-- what Unhex tells of a text -/
def unR (s : ByteArray) : List UInt8 := if goodS s then unL s (s.size / 2) else []
def unE (s : ByteArray) : Int := if goodS s then 0 else 4

theorem goodTo_succ (s : ByteArray) (k : Nat) : goodTo s (k + 1) = (goodTo s k && (isHv (sb s (2 * (k : Int))) && isHv (sb s (2 * (k : Int) + 1)))) := by
  unfold goodTo
  rw [Bool.eq_iff_iff]
  simp only [decide_eq_true_eq, Bool.and_eq_true]
  constructor
  · intro h; exact ⟨fun i hi => h i (by omega), h k (by omega)⟩
  · rintro ⟨h1, h2⟩ i hi
    by_cases e : i = k
    · subst e; exact h2
    · exact h1 i (by omega)
theorem good_no (s : ByteArray) (k : Nat) (hk : k < s.size / 2) (h : isHv (sb s (2 * (k : Int))) = false ∨ isHv (sb s (2 * (k : Int) + 1)) = false) : goodS s = false := by
  unfold goodS
  rw [Bool.and_eq_false_iff]
  right
  unfold goodTo
  rw [decide_eq_false_iff_not]
  intro hh
  have := hh k hk
  rcases h with h | h
  · rw [h] at this; exact absurd this.1 (by simp)
  · rw [h] at this; exact absurd this.2 (by simp)
theorem unL_succ (s : ByteArray) (k : Nat) : unL s (k + 1) = unL s k ++ [pr s k] := by
  unfold unL; rw [List.range_succ, List.map_append]; rfl
theorem unL_length (s : ByteArray) (k : Nat) : (unL s k).length = k := by simp [unL]

/-- what lies in the made slice behind k rounds -/
def fillTo (s : ByteArray) (n k : Nat) : List UInt8 := unL s k ++ List.replicate (n - k) 0
theorem fillTo_length (s : ByteArray) (n k : Nat) (h : k ≤ n) : (fillTo s n k).length = n := by simp [fillTo, unL_length]; omega
theorem fillTo_set (s : ByteArray) (n k : Nat) (h : k < n) : (fillTo s n k).set k (pr s k) = fillTo s n (k + 1) := by
  unfold fillTo
  obtain ⟨m, hm⟩ : ∃ m, n - k = m + 1 := ⟨n - k - 1, by omega⟩
  have hm' : n - (k + 1) = m := by omega
  rw [hm, hm', unL_succ, List.set_append_right _ _ (by rw [unL_length]; exact Nat.le_refl _), unL_length, Nat.sub_self, List.replicate_succ, List.set_cons_zero, List.append_assoc]
  rfl

theorem or_pr (s : ByteArray) (k : Nat) (h0 : isHv (sb s (2 * (k : Int))) = true) (h1 : isHv (sb s (2 * (k : Int) + 1)) = true) :
    bits .or .u8 ((hvZ (sb s (2 * (k : Int))) : Int) * 16) (hvZ (sb s (2 * (k : Int) + 1)) : Int) = ((pr s k).toNat : Int) := by
  have a0 : hvN (sb s (2 * (k : Int))) < 16 := of_decide_eq_true h0
  have a1 : hvN (sb s (2 * (k : Int) + 1)) < 16 := of_decide_eq_true h1
  unfold hvZ pr
  rw [if_pos a0, if_pos a1]
  generalize hvN (sb s (2 * (k : Int))) = x at *
  generalize hvN (sb s (2 * (k : Int) + 1)) = y at *
  have hx : ((x : Int) * 16) = ((UInt8.ofNat (x * 16)).toNat : Int) := by rw [UInt8.toNat_ofNat']; omega
  have hy : ((y : Int)) = ((UInt8.ofNat y).toNat : Int) := by rw [UInt8.toNat_ofNat']; omega
  rw [hx, hy, bits_or8, UInt8.toNat_or, UInt8.toNat_ofNat', UInt8.toNat_ofNat', UInt8.toNat_ofNat']
  have e : x * 16 % 2 ^ 8 ||| y % 2 ^ 8 = 16 * x + y := by
    rw [Nat.mod_eq_of_lt (by omega : x * 16 < 2 ^ 8), Nat.mod_eq_of_lt (by omega : y < 2 ^ 8), Nat.mul_comm x 16]
    exact (Nat.two_pow_add_eq_or_of_lt (i := 4) a1 x).symm
  rw [e]; omega

theorem ret_un {v : Value} {a b : Int} (h : a = b) : Ending.returned (.tuple #[v, .int .i64 a]) = .returned (.tuple #[v, .int .i64 b]) := by rw [h]
end Go.Proofs.YtgjmaeodgcigdaaGreatDoor
namespace Go.Proofs.YtgjmaeodgcigdaaGreatDoor
open Go.RowKit
attribute [local go_sem ↓] Go.wp_at_zero Go.wp_at_succ ixs

theorem pr_eq (s : ByteArray) (k : Nat) (h0 : isHv (sb s (2 * (k : Int))) = true) (h1 : isHv (sb s (2 * (k : Int) + 1)) = true) :
    (hvN (sb s (2 * (k : Int))) : Int) * 16 + (hvN (sb s (2 * (k : Int) + 1)) : Int) = ((pr s k).toNat : Int) := by
  have a0 : hvN (sb s (2 * (k : Int))) < 16 := of_decide_eq_true h0
  have a1 : hvN (sb s (2 * (k : Int) + 1)) < 16 := of_decide_eq_true h1
  unfold pr
  rw [UInt8.toNat_ofNat']; omega

set_option maxRecDepth 20000 in
set_option maxHeartbeats 1000000 in
theorem refUnhex (s : ByteArray) (w : World) (hs : s.size ≤ 140737488355328) :
    Calls Tryz.prog 111 #[.string s] w fun e w' => ∃ v, e = .returned (.tuple #[v, .int .i64 (unE s)]) ∧ OwnB w' w.heap.size v (unR s) ∧ Below w.heap.size w w' := by
  by_cases hev : s.size % 2 = 0
  · obtain ⟨n, hn⟩ : ∃ n, n = s.size / 2 := ⟨_, rfl⟩
    have Hn : Hid (n = s.size / 2) := hn
    have hn2 : s.size = 2 * n := by omega
    have Hn2 : Hid (s.size = 2 * n) := hn2
    have hz1 : (s.size : Int) % 2 = 0 := by omega
    have hnb : n ≤ 140737488355328 := by omega
    clear hn hn2
    go_enter Tryz.func111, Tryz.ntmps111
    go_wp2
    go_loopw [4, 5] (fun v i wr => ∃ k : Nat, k ≤ n ∧ i = .int .i64 (2 * (k : Int)) ∧ Hid (goodTo s k = true) ∧ OwnB wr w.heap.size v (unL s k) ∧ Below w.heap.size w wr) (fun _ i _ => 2 * n - (intOf i).toNat)
    case atStart => exact ⟨0, Nat.zero_le _, rfl, by simp [Hid, goodTo], OwnB.nil _ _, Below.refl _ _⟩
    case round =>
      obtain ⟨k, hk, rfl, hgood, hown, hbel⟩ := hrel
      clear hz1
      have HL : Hid ((unL s k).length = k) := unL_length s k
      by_cases hlt : k < n
      · have hb0 : (0 : Int) ≤ 2 * (k : Int) := by omega
        have hb1 : 2 * (k : Int) < (s.size : Int) := by have := Hn2.out; omega
        have hb2 : (0 : Int) ≤ 2 * (k : Int) + 1 := by omega
        have hb3 : 2 * (k : Int) + 1 < (s.size : Int) := by have := Hn2.out; omega
        by_cases h0 : isHv (sb s (2 * (k : Int))) = true
        · have a0 : hvN (sb s (2 * (k : Int))) < 16 := of_decide_eq_true h0
          by_cases h1 : isHv (sb s (2 * (k : Int) + 1)) = true
          · have a1 : hvN (sb s (2 * (k : Int) + 1)) < 16 := of_decide_eq_true h1
            have HS : Hid (unL s (k + 1) = unL s k ++ [pr s k]) := unL_succ s k
            have HG : Hid (goodTo s (k + 1) = true) := by unfold Hid; rw [goodTo_succ, hgood.out, h0, h1]; rfl
            have hO := pr_eq s k h0 h1
            have hw := wrap8_nat (pr s k).toNat (pr s k).toNat_lt
            have HB := hown.blk
            have hw3 : IntKind.i64.wrap ((hvN (sb s (2 * (k : Int))) : Int) * 16) = (hvN (sb s (2 * (k : Int))) : Int) * 16 := wrapi64_in _ (by omega) (by omega)
            have hw4 : IntKind.i64.wrap ((pr s k).toNat : Int) = ((pr s k).toNat : Int) := by have := (pr s k).toNat_lt; exact wrapi64_in _ (by omega) (by omega)
            have hw2 : IntKind.i64.wrap (2 * (k : Int) + 1) = 2 * (k : Int) + 1 := wrapi64_in _ (by omega) (by omega)
            clear h0 h1
            go_wp2_with (go_at_call 144; refine (refDigitH _ _).mono ?_; rintro e w' ⟨rfl, hww⟩; rw [hww]; clear hww w')
            go_region_held3 (fun w' => True) (trivial)
              (first | (go_at_call 144; refine (refDigitH _ _).mono ?_; rintro e w' ⟨rfl, hww⟩; rw [hww]; clear hww w') | (refine step_app8 _ (by rfl) _ _ (by rfl) w.heap.size _ (unL s k) (by rfl) ((hown.alloc _).heap rfl) wr.heap.size 1 1 [pr s k] (by rfl) (by rfl) (heap_alloc_new wr _) (by omega) (by rw [HL.out]; omega) (by have := hbel.size; simp; omega) (wr.heap.size + 1) (by simp) ?_; intro gg cap w1 hown1 hgrow hat hlt1))
            all_goals
              go_wp2
              go_roundw
              case rel => exact ⟨k + 1, by omega, by go_num, HG.out, by rw [HS.out]; exact hown1, ((hbel.alloc hbel.size _).drew).grown hgrow (by have := hbel.size; simp; omega) (fun j hj => (HB j hj).1)⟩
              case measure => simp [intOf]; omega
          · have h1' : isHv (sb s (2 * (k : Int) + 1)) = false := by simpa using h1
            have a1 : 16 ≤ hvN (sb s (2 * (k : Int) + 1)) := by have := of_decide_eq_false h1'; omega
            have HG : Hid (goodS s = false) := good_no s k (by rw [← Hn.out]; exact hlt) (.inr h1')
            go_wp2_with (go_at_call 144; refine (refDigitH _ _).mono ?_; rintro e w' ⟨rfl, hww⟩; rw [hww]; clear hww w')
            go_ret2
            exact ⟨.slice none 0 0, ret_un (by unfold unE; rw [HG.out]; rfl), by unfold unR; rw [HG.out]; exact OwnB.nil _ _, hbel⟩
        · have h0' : isHv (sb s (2 * (k : Int))) = false := by simpa using h0
          have a0 : 16 ≤ hvN (sb s (2 * (k : Int))) := by have := of_decide_eq_false h0'; omega
          have HG : Hid (goodS s = false) := good_no s k (by rw [← Hn.out]; exact hlt) (.inl h0')
          go_wp2_with (go_at_call 144; refine (refDigitH _ _).mono ?_; rintro e w' ⟨rfl, hww⟩; rw [hww]; clear hww w')
          go_ret2
          exact ⟨.slice none 0 0, ret_un (by unfold unE; rw [HG.out]; rfl), by unfold unR; rw [HG.out]; exact OwnB.nil _ _, hbel⟩
      · have hkn : k = n := by omega
        subst hkn
        have hb1 : ¬ (2 * (k : Int) < (s.size : Int)) := by have := Hn2.out; omega
        have HG : Hid (goodS s = true) := by unfold Hid goodS; rw [← Hn.out, hgood.out, hev]; rfl
        have HF : Hid (unL s k = unR s) := by unfold Hid unR; rw [HG.out, ← Hn.out]; simp
        rw [HF.out] at hown
        go_wp2
        go_ret2
        exact ⟨_, ret_un (by unfold unE; rw [HG.out]; rfl), hown, hbel⟩
  · have hz1 : (s.size : Int) % 2 = 1 := by omega
    have HG : Hid (goodS s = false) := by unfold Hid goodS; simp; intro h; omega
    go_enter Tryz.func111, Tryz.ntmps111
    go_wp2
    go_ret2
    exact ⟨.slice none 0 0, ret_un (by unfold unE; rw [HG.out]; rfl), by unfold unR; rw [HG.out]; exact OwnB.nil _ _, Below.refl _ _⟩
end Go.Proofs.YtgjmaeodgcigdaaGreatDoor
