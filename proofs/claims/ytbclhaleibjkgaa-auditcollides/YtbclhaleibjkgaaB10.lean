/- What canon's writers answer. · What canon's Uint, Bytes, Text, Bool, List answer. -/
import Derived.Test.YtbclhaleibjkgaaB2
namespace Go.Proofs.Ytbclhaleibjkgaa
open Go.RowKit
attribute [local go_sem ↓] Go.wp_at_zero Go.wp_at_succ

/-- the bytes of a number, the highest first: the one at place j of so many; the first k -/
def beAt (n size j : Nat) : UInt8 := UInt8.ofNat (n / 2 ^ (8 * (size - 1 - j)))
def beL (n size k : Nat) : List UInt8 := (List.range k).map (beAt n size)
theorem beL_length (n size k : Nat) : (beL n size k).length = k := by simp [beL]
theorem beL_succ (n size k : Nat) : beL n size (k + 1) = beL n size k ++ [beAt n size k] := by
  unfold beL; rw [List.range_succ, List.map_append]; rfl
theorem beAt_val (n size j : Nat) : (n : Int) / 2 ^ (8 * (size - 1 - j)) % 256 = ((beAt n size j).toNat : Int) := by
  unfold beAt
  rw [UInt8.toNat_ofNat', Int.natCast_emod, Int.natCast_ediv, Int.natCast_pow]; rfl

/-- what behind answers -/
def behL (l : List UInt8) (mark : UInt8) (n size k : Nat) : List UInt8 := l ++ mark :: beL n size k
theorem behL_length (l : List UInt8) (mark : UInt8) (n size k : Nat) : (behL l mark n size k).length = l.length + 1 + k := by simp [behL, beL_length]; omega
theorem behL_succ (l : List UInt8) (mark : UInt8) (n size k : Nat) : behL l mark n size (k + 1) = behL l mark n size k ++ [beAt n size k] := by
  simp [behL, beL_succ]
theorem behL_zero (l : List UInt8) (mark : UInt8) (n size : Nat) : behL l mark n size 0 = l ++ [mark] := rfl

set_option maxRecDepth 20000 in
set_option maxHeartbeats 1000000 in
theorem canBehind (a : Option Addr) (len cap : Nat) (l : List UInt8) (mark : UInt8) (n size more : Nat) (w : World) (h : IsB w a len cap l) (hs : size ≤ 8) (hl : len ≤ 140737488351232) (hm : more ≤ 140737488351232) :
    Calls Try.prog 50 #[.slice a len cap, .int .u8 (mark.toNat : Int), .int .u64 (n : Int), .int .i64 (size : Int), .int .i64 (more : Int)] w fun e w' => ∃ v, e = .returned v ∧ OwnB w' w.heap.size v (behL l mark n size size) ∧ Below w.heap.size w w' := by
  have H : Hid (IsB w a len cap l) := h
  have HE : Hid (l.length = len) := h.len_eq
  have hle := h.le
  have hmx := h.max
  unfold maxLen at hmx
  clear h
  go_enter Try.func50, Try.ntmps50
  go_wp2_with (first
    | (at_make; refine make_own8 _ rfl _ _ rfl w.heap.size .i64 .i64 _ (len + 1 + size + more) rfl rfl (by omega) (by omega) (Nat.le_refl _) ?_; intro w1 hown1 hgrow1)
    | (at_builtin; refine list_appS _ rfl (.tmp 21) (.tmp 22) rfl w.heap.size _ [] rfl hown1 a len cap l rfl (H.out.below ((Below.refl _ _).grown hgrow1 (Nat.le_refl _) (fun k h => by cases h)) rfl) (by simp; omega) (by have := hgrow1.size; omega) ?_; intro v2 w2 hown2 hgrow2)
    | (at_builtin; refine list_app8 _ rfl (.tmp 24) (.tmp 26) rfl w.heap.size v2 ([] ++ l) rfl (hown2.alloc _) w2.heap.size 1 1 [mark] rfl rfl (heap_alloc_new w2 _) (by omega) (by have := HE.out; simp; omega) (by have := hgrow1.size; have := hgrow2.size; simp; omega) _ rfl ?_; intro g3 cap3 w3 hown3 hgrow3 hat3 hlt3))
  have hbel1 : Below w.heap.size w w1 := (Below.refl _ _).grown hgrow1 (Nat.le_refl _) (fun k h => by cases h)
  have hbel2 : Below w.heap.size w w2 := hbel1.grown hgrow2 hbel1.size (fun k hk => (hown1.blk k hk).1)
  have hbel3 : Below w.heap.size w w3 := (hbel2.alloc hbel2.size _).grown hgrow3 (by have := hbel2.size; simp; omega) (fun k hk => (hown2.blk k hk).1)
  have hown0 : OwnB w3 w.heap.size (.slice (some ⟨g3, 0, none⟩) (([] ++ l).length + 1) cap3) (behL l mark n size 0) := hown3
  clear hown1 hgrow1 hown2 hgrow2 hown3 hgrow3 hbel1 hbel2 hat3 hlt3
  go_loopw [11, 12] (fun v i wr => ∃ j : Nat, j ≤ size ∧ i = .int .i64 (8 * ((size : Int) - 1 - (j : Int))) ∧ OwnB wr w.heap.size v (behL l mark n size j) ∧ Below w.heap.size w wr) (fun _ i _ => (intOf i + 8).toNat)
  case atStart => exact ⟨0, Nat.zero_le _, by go_num, hown0, hbel3⟩
  case round =>
    clear hown0 hbel3
    obtain ⟨j, hj, rfl, hown, hbel⟩ := hrel
    have HL4 : Hid ((behL l mark n size j).length = len + 1 + j) := by unfold Hid; rw [behL_length, HE.out]
    by_cases hlt : j < size
    · obtain ⟨t, ht⟩ : ∃ t : Nat, (size : Int) - 1 - (j : Int) = (t : Int) := ⟨size - 1 - j, by omega⟩
      have HT : Hid ((size : Int) - 1 - (j : Int) = (t : Int)) := ht
      have ht8 : t < 8 := by omega
      have htj : size - 1 - j = t := by omega
      have HV : Hid ((n : Int) / 2 ^ (8 * t) % 256 = ((beAt n size j).toNat : Int)) := by
        have := beAt_val n size j
        unfold Hid; rw [← this, htj]
      have HVw : IntKind.u8.wrap ((n : Int) / 2 ^ (8 * t)) = ((beAt n size j).toNat : Int) := by rw [wrap8_mod]; exact HV.out
      have HO : Hid (behL l mark n size (j + 1) = behL l mark n size j ++ [beAt n size j]) := behL_succ l mark n size j
      have HB := hown.blk
      clear htj
      rw [ht]
      clear ht
      have h8 : (8 * (t : Int)).toNat = 8 * t := by omega
      go_wp2_with (at_builtin; refine list_app8 _ rfl (.tmp 35) (.tmp 40) rfl w.heap.size _ (behL l mark n size j) rfl (hown.alloc _) wr.heap.size 1 1 [beAt n size j] rfl rfl (heap_alloc_new wr _) (by omega) (by rw [HL4.out]; omega) (by have := hbel.size; simp; omega) _ rfl ?_; intro g4 cap4 w4 hown4 hgrow4 hat4 hlt4)
      go_roundw
      case rel => exact ⟨j + 1, by omega, by have := HT.out; go_num, by rw [HO.out]; exact hown4, (hbel.alloc hbel.size _).grown hgrow4 (by have := hbel.size; simp; omega) (fun q hq => (HB q hq).1)⟩
      case measure => simp [intOf]; omega
    · have e : j = size := by omega
      have hge : ¬ ((0 : Int) ≤ 8 * ((size : Int) - 1 - (j : Int))) := by omega
      have HO : Hid (OwnB wr w.heap.size u11 (behL l mark n size size)) := by
        have := hown
        rw [e] at this; exact this
      clear hown e
      go_wp2
      go_ret
      exact ⟨_, rfl, HO.out, hbel⟩
end Go.Proofs.Ytbclhaleibjkgaa
namespace Go.Proofs.Ytbclhaleibjkgaa
open Go.RowKit
attribute [local go_sem ↓] Go.wp_at_zero Go.wp_at_succ

/-- the parts, behind any bytes -/
def uintL (l : List UInt8) (n : Nat) : List UInt8 := behL l 117 n 8 8
def bytesL (l b : List UInt8) : List UInt8 := behL l 98 b.length 4 4 ++ b
def textL (l b : List UInt8) : List UInt8 := behL l 115 b.length 4 4 ++ b
def boolL (l : List UInt8) (b : Bool) : List UInt8 := l ++ [if b then 116 else 102]
def listL (l : List UInt8) (n : Int) : List UInt8 := behL l 108 (if n < 0 ∨ 2147483647 < n then 0 else n.toNat) 4 4

set_option maxHeartbeats 1000000 in
theorem canUint (a : Option Addr) (len cap : Nat) (l : List UInt8) (n : Nat) (w : World) (h : IsB w a len cap l) (hl : len ≤ 140737488351232) :
    Calls Try.prog 27 #[.slice a len cap, .int .u64 (n : Int)] w fun e w' => ∃ v, e = .returned v ∧ OwnB w' w.heap.size v (uintL l n) ∧ Below w.heap.size w w' := by
  have H : Hid (IsB w a len cap l) := h
  clear h
  go_enter Try.func27, Try.ntmps27
  go_wp2_with fail
  refine (canBehind a len cap l 117 n 8 0 w H.out (by omega) hl (by omega)).mono ?_
  rintro e w1 ⟨v, rfl, ho, hb⟩
  go_wp2_with fail
  go_ret
  exact ⟨_, rfl, ho, hb⟩

set_option maxHeartbeats 1000000 in
theorem canBytes (a : Option Addr) (len cap : Nat) (l : List UInt8) (a1 : Option Addr) (len1 cap1 : Nat) (b : List UInt8) (w : World) (h : IsB w a len cap l) (h1 : IsB w a1 len1 cap1 b) (hl : len ≤ 1099511627776) (hl1 : len1 ≤ 1099511627776) :
    Calls Try.prog 30 #[.slice a len cap, .slice a1 len1 cap1] w fun e w' => ∃ v, e = .returned v ∧ OwnB w' w.heap.size v (bytesL l b) ∧ Below w.heap.size w w' := by
  have H : Hid (IsB w a len cap l) := h
  have H1 : Hid (IsB w a1 len1 cap1 b) := h1
  have HE : Hid (l.length = len) := h.len_eq
  have HE1 : Hid (b.length = len1) := h1.len_eq
  clear h h1
  go_enter Try.func30, Try.ntmps30
  go_wp2_with fail
  refine (canBehind a len cap l 98 len1 4 len1 w H.out (by omega) (by omega) (by omega)).mono ?_
  rintro e w1 ⟨v, rfl, ho, hb⟩
  go_wp2_with (at_builtin; refine list_appS _ rfl (.tmp 11) (.tmp 12) rfl w.heap.size v (behL l 98 len1 4 4) rfl ho a1 len1 cap1 b rfl (H1.out.below hb rfl) (by rw [behL_length, HE.out]; omega) hb.size ?_; intro v2 w2 ho2 hg2)
  go_ret
  refine ⟨_, rfl, ?_, grow_bel hb ho hg2⟩
  unfold bytesL; rw [HE1.out]; exact ho2

set_option maxHeartbeats 1000000 in
theorem canText (a : Option Addr) (len cap : Nat) (l : List UInt8) (s : ByteArray) (w : World) (h : IsB w a len cap l) (hl : len ≤ 1099511627776) (hl1 : s.size ≤ 1099511627776) :
    Calls Try.prog 28 #[.slice a len cap, .string s] w fun e w' => ∃ v, e = .returned v ∧ OwnB w' w.heap.size v (textL l (sL s)) ∧ Below w.heap.size w w' := by
  have H : Hid (IsB w a len cap l) := h
  have HE : Hid (l.length = len) := h.len_eq
  have HE1 : Hid ((sL s).length = s.size) := sL_length s
  clear h
  go_enter Try.func28, Try.ntmps28
  go_wp2_with fail
  refine (canBehind a len cap l 115 s.size 4 s.size w H.out (by omega) (by omega) (by omega)).mono ?_
  rintro e w1 ⟨v, rfl, ho, hb⟩
  go_wp2_with (at_builtin; refine list_appT _ rfl (.tmp 11) (.tmp 12) rfl w.heap.size v (behL l 115 s.size 4 4) rfl ho s rfl (by rw [behL_length, HE.out]; omega) hb.size ?_; intro v2 w2 ho2 hg2)
  go_ret
  refine ⟨_, rfl, ?_, grow_bel hb ho hg2⟩
  unfold textL; rw [HE1.out]; exact ho2
end Go.Proofs.Ytbclhaleibjkgaa
