/- What canon's writers answer. · What canon's Uint, Bytes, Text, Bool, List answer. · canon's reader: a block of two cells; what the small functions on it do. · A slice of bytes, cut at its front. · canon's reader: head. -/
import Derived.Test.YthjdmfbengpepaaGreatB0
import Derived.Test.YthjdmfbengpepaaGreatB4
namespace Go.Proofs.YthjdmfbengpepaaGreat
open Go.RowKit
attribute [local go_sem ↓] Go.wp_at_zero Go.wp_at_succ

/-- the bytes of a number, the highest first: the one at place j of so many; the first k -/
def beAt (n size j : Nat) : UInt8 := UInt8.ofNat (n / 2 ^ (8 * (size - 1 - j)))
def beL (n size k : Nat) : List UInt8 := (List.range k).map (beAt n size)
theorem beL_length (n size k : Nat) : (beL n size k).length = k := by simp [beL]
theorem beL_succ (n size k : Nat) : beL n size (k + 1) = beL n size k ++ [beAt n size k] := by
  unfold beL; rw [List.range_succ, List.map_append]; rfl
theorem beAt_val (n size j : Nat) : (n : Int) / 2 ^ (8 * (size - 1 - j)) % 256 = ((beAt n size j).toNat : Int) := by
  unfold beAt
  rw [UInt8.toNat_ofNat', Int.natCast_emod, Int.natCast_ediv, Int.natCast_pow]; rfl

/-- what behind answers -/
def behL (l : List UInt8) (mark : UInt8) (n size k : Nat) : List UInt8 := l ++ mark :: beL n size k
theorem behL_length (l : List UInt8) (mark : UInt8) (n size k : Nat) : (behL l mark n size k).length = l.length + 1 + k := by simp [behL, beL_length]; omega
theorem behL_succ (l : List UInt8) (mark : UInt8) (n size k : Nat) : behL l mark n size (k + 1) = behL l mark n size k ++ [beAt n size k] := by
  simp [behL, beL_succ]
theorem behL_zero (l : List UInt8) (mark : UInt8) (n size : Nat) : behL l mark n size 0 = l ++ [mark] := rfl

set_option maxRecDepth 20000 in
set_option maxHeartbeats 1000000 in
theorem canBehind (a : Option Addr) (len cap : Nat) (l : List UInt8) (mark : UInt8) (n size more : Nat) (w : World) (h : IsB w a len cap l) (hs : size ≤ 8) (hl : len ≤ 140737488351232) (hm : more ≤ 140737488351232) :
    Calls Tryz.prog 117 #[.slice a len cap, .int .u8 (mark.toNat : Int), .int .u64 (n : Int), .int .i64 (size : Int), .int .i64 (more : Int)] w fun e w' => ∃ v, e = .returned v ∧ OwnB w' w.heap.size v (behL l mark n size size) ∧ Below w.heap.size w w' := by
  have H : Hid (IsB w a len cap l) := h
  have HE : Hid (l.length = len) := h.len_eq
  have hle := h.le
  have hmx := h.max
  unfold maxLen at hmx
  clear h
  go_enter Tryz.func117, Tryz.ntmps117
  go_wp2_with (first
    | (at_make; refine make_own8 _ rfl _ _ rfl w.heap.size .i64 .i64 _ (len + 1 + size + more) rfl rfl (by omega) (by omega) (Nat.le_refl _) ?_; intro w1 hown1 hgrow1)
    | (at_builtin; refine list_appS _ rfl (.tmp 21) (.tmp 22) rfl w.heap.size _ [] rfl hown1 a len cap l rfl (H.out.below ((Below.refl _ _).grown hgrow1 (Nat.le_refl _) (fun k h => by cases h)) rfl) (by simp; omega) (by have := hgrow1.size; omega) ?_; intro v2 w2 hown2 hgrow2)
    | (at_builtin; refine list_app8 _ rfl (.tmp 24) (.tmp 26) rfl w.heap.size v2 ([] ++ l) rfl (hown2.alloc _) w2.heap.size 1 1 [mark] rfl rfl (heap_alloc_new w2 _) (by omega) (by have := HE.out; simp; omega) (by have := hgrow1.size; have := hgrow2.size; simp; omega) _ rfl ?_; intro g3 cap3 w3 hown3 hgrow3 hat3 hlt3))
  have hbel1 : Below w.heap.size w w1 := (Below.refl _ _).grown hgrow1 (Nat.le_refl _) (fun k h => by cases h)
  have hbel2 : Below w.heap.size w w2 := hbel1.grown hgrow2 hbel1.size (fun k hk => (hown1.blk k hk).1)
  have hbel3 : Below w.heap.size w w3 := (hbel2.alloc hbel2.size _).grown hgrow3 (by have := hbel2.size; simp; omega) (fun k hk => (hown2.blk k hk).1)
  have hown0 : OwnB w3 w.heap.size (.slice (some ⟨g3, 0, none⟩) (([] ++ l).length + 1) cap3) (behL l mark n size 0) := hown3
  clear hown1 hgrow1 hown2 hgrow2 hown3 hgrow3 hbel1 hbel2 hat3 hlt3
  go_loopw [11, 12] (fun v i wr => ∃ j : Nat, j ≤ size ∧ i = .int .i64 (8 * ((size : Int) - 1 - (j : Int))) ∧ OwnB wr w.heap.size v (behL l mark n size j) ∧ Below w.heap.size w wr) (fun _ i _ => (intOf i + 8).toNat)
  case atStart => exact ⟨0, Nat.zero_le _, by go_num, hown0, hbel3⟩
  case round =>
    clear hown0 hbel3
    obtain ⟨j, hj, rfl, hown, hbel⟩ := hrel
    have HL4 : Hid ((behL l mark n size j).length = len + 1 + j) := by unfold Hid; rw [behL_length, HE.out]
    by_cases hlt : j < size
    · obtain ⟨t, ht⟩ : ∃ t : Nat, (size : Int) - 1 - (j : Int) = (t : Int) := ⟨size - 1 - j, by omega⟩
      have HT : Hid ((size : Int) - 1 - (j : Int) = (t : Int)) := ht
      have ht8 : t < 8 := by omega
      have htj : size - 1 - j = t := by omega
      have HV : Hid ((n : Int) / 2 ^ (8 * t) % 256 = ((beAt n size j).toNat : Int)) := by
        have := beAt_val n size j
        unfold Hid; rw [← this, htj]
      have HVw : IntKind.u8.wrap ((n : Int) / 2 ^ (8 * t)) = ((beAt n size j).toNat : Int) := by rw [wrap8_mod]; exact HV.out
      have HO : Hid (behL l mark n size (j + 1) = behL l mark n size j ++ [beAt n size j]) := behL_succ l mark n size j
      have HB := hown.blk
      clear htj
      rw [ht]
      clear ht
      have h8 : (8 * (t : Int)).toNat = 8 * t := by omega
      go_wp2_with (at_builtin; refine list_app8 _ rfl (.tmp 35) (.tmp 40) rfl w.heap.size _ (behL l mark n size j) rfl (hown.alloc _) wr.heap.size 1 1 [beAt n size j] rfl rfl (heap_alloc_new wr _) (by omega) (by rw [HL4.out]; omega) (by have := hbel.size; simp; omega) _ rfl ?_; intro g4 cap4 w4 hown4 hgrow4 hat4 hlt4)
      go_roundw
      case rel => exact ⟨j + 1, by omega, by have := HT.out; go_num, by rw [HO.out]; exact hown4, (hbel.alloc hbel.size _).grown hgrow4 (by have := hbel.size; simp; omega) (fun q hq => (HB q hq).1)⟩
      case measure => simp [intOf]; omega
    · have e : j = size := by omega
      have hge : ¬ ((0 : Int) ≤ 8 * ((size : Int) - 1 - (j : Int))) := by omega
      have HO : Hid (OwnB wr w.heap.size u11 (behL l mark n size size)) := by
        have := hown
        rw [e] at this; exact this
      clear hown e
      go_wp2
      go_ret
      exact ⟨_, rfl, HO.out, hbel⟩
end Go.Proofs.YthjdmfbengpepaaGreat
namespace Go.Proofs.YthjdmfbengpepaaGreat
open Go.RowKit
attribute [local go_sem ↓] Go.wp_at_zero Go.wp_at_succ

/-- the parts, behind any bytes -/
def uintL (l : List UInt8) (n : Nat) : List UInt8 := behL l 117 n 8 8
def bytesL (l b : List UInt8) : List UInt8 := behL l 98 b.length 4 4 ++ b
def textL (l b : List UInt8) : List UInt8 := behL l 115 b.length 4 4 ++ b
def boolL (l : List UInt8) (b : Bool) : List UInt8 := l ++ [if b then 116 else 102]
def listL (l : List UInt8) (n : Int) : List UInt8 := behL l 108 (if n < 0 ∨ 2147483647 < n then 0 else n.toNat) 4 4

set_option maxHeartbeats 1000000 in
theorem canUint (a : Option Addr) (len cap : Nat) (l : List UInt8) (n : Nat) (w : World) (h : IsB w a len cap l) (hl : len ≤ 140737488351232) :
    Calls Tryz.prog 67 #[.slice a len cap, .int .u64 (n : Int)] w fun e w' => ∃ v, e = .returned v ∧ OwnB w' w.heap.size v (uintL l n) ∧ Below w.heap.size w w' := by
  have H : Hid (IsB w a len cap l) := h
  clear h
  go_enter Tryz.func67, Tryz.ntmps67
  go_wp2_with fail
  refine (canBehind a len cap l 117 n 8 0 w H.out (by omega) hl (by omega)).mono ?_
  rintro e w1 ⟨v, rfl, ho, hb⟩
  go_wp2_with fail
  go_ret
  exact ⟨_, rfl, ho, hb⟩

set_option maxHeartbeats 1000000 in
theorem canList (a : Option Addr) (len cap : Nat) (l : List UInt8) (n : Int) (w : World) (h : IsB w a len cap l) (hl : len ≤ 140737488351232) :
    Calls Tryz.prog 70 #[.slice a len cap, .int .i64 n] w fun e w' => ∃ v, e = .returned v ∧ OwnB w' w.heap.size v (listL l n) ∧ Below w.heap.size w w' := by
  have H : Hid (IsB w a len cap l) := h
  clear h
  by_cases h0 : n < 0
  · go_enter Tryz.func70, Tryz.ntmps70
    go_wp2_with fail
    refine (canBehind a len cap l 108 0 4 0 w H.out (by omega) hl (by omega)).mono ?_
    rintro e w1 ⟨v, rfl, ho, hb⟩
    have e1 : listL l n = behL l 108 0 4 4 := by unfold listL; rw [if_pos (.inl h0)]
    have HO : Hid (OwnB w1 w.heap.size v (listL l n)) := by rw [e1]; exact ho
    clear ho e1
    go_wp2_with fail
    go_ret
    exact ⟨_, rfl, HO.out, hb⟩
  · by_cases h1 : 2147483647 < n
    · go_enter Tryz.func70, Tryz.ntmps70
      go_wp2_with fail
      refine (canBehind a len cap l 108 0 4 0 w H.out (by omega) hl (by omega)).mono ?_
      rintro e w1 ⟨v, rfl, ho, hb⟩
      have e1 : listL l n = behL l 108 0 4 4 := by unfold listL; rw [if_pos (.inr h1)]
      have HO : Hid (OwnB w1 w.heap.size v (listL l n)) := by rw [e1]; exact ho
      clear ho e1
      go_wp2_with fail
      go_ret
      exact ⟨_, rfl, HO.out, hb⟩
    · obtain ⟨m, rfl⟩ : ∃ m : Nat, n = (m : Int) := ⟨n.toNat, by omega⟩
      have hm : (m : Int) ≤ 2147483647 := by omega
      go_enter Tryz.func70, Tryz.ntmps70
      go_wp2_with fail
      refine (canBehind a len cap l 108 m 4 0 w H.out (by omega) hl (by omega)).mono ?_
      rintro e w1 ⟨v, rfl, ho, hb⟩
      have e1 : listL l (m : Int) = behL l 108 m 4 4 := by unfold listL; rw [if_neg (by omega)]; rfl
      have HO : Hid (OwnB w1 w.heap.size v (listL l (m : Int))) := by rw [e1]; exact ho
      clear ho e1
      go_wp2_with fail
      go_ret
      exact ⟨_, rfl, HO.out, hb⟩

set_option maxHeartbeats 1000000 in
theorem canBytes (a : Option Addr) (len cap : Nat) (l : List UInt8) (a1 : Option Addr) (len1 cap1 : Nat) (b : List UInt8) (w : World) (h : IsB w a len cap l) (h1 : IsB w a1 len1 cap1 b) (hl : len ≤ 1099511627776) (hl1 : len1 ≤ 1099511627776) :
    Calls Tryz.prog 69 #[.slice a len cap, .slice a1 len1 cap1] w fun e w' => ∃ v, e = .returned v ∧ OwnB w' w.heap.size v (bytesL l b) ∧ Below w.heap.size w w' := by
  have H : Hid (IsB w a len cap l) := h
  have H1 : Hid (IsB w a1 len1 cap1 b) := h1
  have HE : Hid (l.length = len) := h.len_eq
  have HE1 : Hid (b.length = len1) := h1.len_eq
  clear h h1
  go_enter Tryz.func69, Tryz.ntmps69
  go_wp2_with fail
  refine (canBehind a len cap l 98 len1 4 len1 w H.out (by omega) (by omega) (by omega)).mono ?_
  rintro e w1 ⟨v, rfl, ho, hb⟩
  go_wp2_with (at_builtin; refine list_appS _ rfl (.tmp 11) (.tmp 12) rfl w.heap.size v (behL l 98 len1 4 4) rfl ho a1 len1 cap1 b rfl (H1.out.below hb rfl) (by rw [behL_length, HE.out]; omega) hb.size ?_; intro v2 w2 ho2 hg2)
  go_ret
  refine ⟨_, rfl, ?_, grow_bel hb ho hg2⟩
  unfold bytesL; rw [HE1.out]; exact ho2

set_option maxHeartbeats 1000000 in
theorem canText (a : Option Addr) (len cap : Nat) (l : List UInt8) (s : ByteArray) (w : World) (h : IsB w a len cap l) (hl : len ≤ 1099511627776) (hl1 : s.size ≤ 1099511627776) :
    Calls Tryz.prog 148 #[.slice a len cap, .string s] w fun e w' => ∃ v, e = .returned v ∧ OwnB w' w.heap.size v (textL l (sL s)) ∧ Below w.heap.size w w' := by
  have H : Hid (IsB w a len cap l) := h
  have HE : Hid (l.length = len) := h.len_eq
  have HE1 : Hid ((sL s).length = s.size) := sL_length s
  clear h
  go_enter Tryz.func148, Tryz.ntmps148
  go_wp2_with fail
  refine (canBehind a len cap l 115 s.size 4 s.size w H.out (by omega) (by omega) (by omega)).mono ?_
  rintro e w1 ⟨v, rfl, ho, hb⟩
  go_wp2_with (at_builtin; refine list_appT _ rfl (.tmp 11) (.tmp 12) rfl w.heap.size v (behL l 115 s.size 4 4) rfl ho s rfl (by rw [behL_length, HE.out]; omega) hb.size ?_; intro v2 w2 ho2 hg2)
  go_ret
  refine ⟨_, rfl, ?_, grow_bel hb ho hg2⟩
  unfold textL; rw [HE1.out]; exact ho2
end Go.Proofs.YthjdmfbengpepaaGreat
namespace Go.Proofs.YthjdmfbengpepaaGreat
open Go.RowKit
attribute [local go_sem ↓] Go.wp_at_zero Go.wp_at_succ

/-- the reader's cells -/
def rcell (a : Option Addr) (len cap : Nat) (br : Bool) : List Value := [.slice a len cap, .int .u32 (flag br)]

theorem atLoad (B : Nat) (f : Bool) (w : World) (h : w.cell? ⟨B, 1, none⟩ = some (.int .u32 (flag f))) :
    Calls Tryz.prog 114 #[.pointer (some ⟨B, 1, none⟩)] w fun e w' => e = .returned (.bool f) ∧ w' = w := atLoadAt B 1 f w h
theorem atStore (B : Nat) (v : Value) (w : World) (h : w.cell? ⟨B, 1, none⟩ = some v) (hf : w.frozen? ⟨B, 1, none⟩ = false) :
    Calls Tryz.prog 142 #[.pointer (some ⟨B, 1, none⟩), .bool true] w fun e w' => e = .returned (.tuple #[]) ∧ w' = w.drew.setCell ⟨B, 1, none⟩ (.int .u32 1) := atStoreAt B 1 true v w h hf

/-- a reader of the bytes l, broken or not, in block B -/
def IsR (w : World) (B : Nat) (l : List UInt8) (br : Bool) : Prop :=
  ∃ a cap, Blk w B 181 (rcell a l.length cap br) ∧ IsB w a l.length cap l ∧ ∀ x, a = some x → x.block < B

/-- what a call on the reader leaves: its block and new ones apart, all is as it was -/
theorem gr_set (w : World) (B j : Nat) (v : Value) : w.grownBy (w.setCell ⟨B, j, none⟩ v) (some B) :=
  ⟨rfl, rfl, rfl, by simp [World.setCell], fun k _ hk => Below.heap_setCell _ _ _ _ (fun e => hk (by rw [e]))⟩
theorem gr_trans {w w1 w2 : World} {o : Option Nat} (h : w.grownBy w1 o) (h1 : w1.grownBy w2 o) : w.grownBy w2 o := h.trans h1

/-- the mark that comes next; 0, if none does -/
def markOf (l : List UInt8) (br : Bool) : UInt8 := if br then 0 else nth l 0

theorem nth_nil (i : Nat) : nth [] i = 0 := by simp [nth]

set_option maxHeartbeats 1000000 in
theorem cmark (B : Nat) (l : List UInt8) (br : Bool) (w : World) (h : IsR w B l br) :
    Calls Tryz.prog 141 #[.pointer (some ⟨B, 0, none⟩)] w fun e w' => e = .returned (.int .u8 ((markOf l br).toNat : Int)) ∧ w' = w := by
  obtain ⟨a, cap, hb, hi, hne⟩ := h
  have c0 := hb.cell 0
  have c1 := hb.cell 1
  have HI : Hid (IsB w a l.length cap l) := hi
  clear hb hi hne
  simp only [rcell, List.getElem?_cons_zero, List.getElem?_cons_succ] at c0 c1
  generalize hn : l.length = n at *
  have HN : Hid (l.length = n) := hn
  clear hn
  cases br
  · by_cases h0 : n = 0
    · have hz : markOf l false = 0 := by
        have : l = [] := List.eq_nil_of_length_eq_zero (HN.out.trans h0)
        subst this; rfl
      have h0' : ((n : Int) == 0) = true := by simp [h0]
      rw [hz]
      clear h0 hz
      go_enter Tryz.func141, Tryz.ntmps141
      go_wp2_with fail
      refine (atLoad B false w c1).mono ?_
      rintro e w1 ⟨rfl, rfl⟩
      go_wp2_with fail
      go_ret
      exact ⟨rfl, rfl⟩
    · have hz : markOf l false = nth l 0 := rfl
      have h0' : ((n : Int) == 0) = false := by simp; omega
      rw [hz]
      clear hz
      obtain ⟨b, off, rfl, hc⟩ := HI.out.cells (by omega)
      have g0 := hc 0 (by omega)
      rw [Nat.add_zero] at g0
      have hpos : (0 : Int) < (n : Int) := by omega
      clear hc h0
      go_enter Tryz.func141, Tryz.ntmps141
      go_wp2_with fail
      refine (atLoad B false w c1).mono ?_
      rintro e w1 ⟨rfl, rfl⟩
      go_wp2_with fail
      go_ret
      exact ⟨rfl, rfl⟩
  · have hz : markOf l true = 0 := rfl
    rw [hz]
    go_enter Tryz.func141, Tryz.ntmps141
    go_wp2_with fail
    refine (atLoad B true w c1).mono ?_
    rintro e w1 ⟨rfl, rfl⟩
    go_wp2_with fail
    go_ret
    exact ⟨rfl, rfl⟩

theorem isR_fail {w : World} {B : Nat} {l : List UInt8} {br : Bool} (h : IsR w B l br) : IsR (w.drew.setCell ⟨B, 1, none⟩ (.int .u32 1)) B l true := by
  obtain ⟨a, cap, hb, hi, hne⟩ := h
  refine ⟨a, cap, Blk.set (w := w.drew) (cs := rcell a l.length cap br) hb 1 (.int .u32 1), ⟨hi.len_eq, hi.le, hi.max, hi.nil, fun hp => ?_⟩, hne⟩
  obtain ⟨b, off, e, hc⟩ := hi.cells hp
  refine ⟨b, off, e, fun i hl => ?_⟩
  rw [World.cell?_setCell_other _ _ _ _ (fun e' => Nat.ne_of_lt (hne _ e) (by injection e' with e1; exact e1.symm))]
  exact hc i hl

set_option maxHeartbeats 1000000 in
theorem cfail (B : Nat) (l : List UInt8) (br : Bool) (w : World) (h : IsR w B l br) :
    Calls Tryz.prog 113 #[.pointer (some ⟨B, 0, none⟩)] w fun e w' => e = .returned (.tuple #[]) ∧ IsR w' B l true ∧ w.grownBy w' (some B) := by
  have H : Hid (IsR w B l br) := h
  obtain ⟨a, cap, hb, hi, hne⟩ := h
  have c1 := hb.cell 1
  have f1 := hb.frozen 1
  clear hb hi hne
  simp only [rcell, List.getElem?_cons_zero, List.getElem?_cons_succ] at c1
  go_enter Tryz.func113, Tryz.ntmps113
  go_wp2_with fail
  refine (atStore B _ w c1 f1).mono ?_
  rintro e w1 ⟨rfl, rfl⟩
  go_wp2_with fail
  go_end0
  exact ⟨rfl, isR_fail H.out, gr_trans (gr_set w B 1 (.int .u32 1)) ⟨rfl, rfl, rfl, Nat.le_refl _, fun _ _ _ => rfl⟩⟩
end Go.Proofs.YthjdmfbengpepaaGreat
namespace Go.Proofs.YthjdmfbengpepaaGreat
open Go.RowKit

def cutA (b off cap m : Nat) : Option Addr := some (if cap = m then ⟨b, off, none⟩ else ⟨b, off + m, none⟩)
theorem slB (b off r cap m : Nat) (hm : m ≤ r) (w : World) : (Instr.slice 41 (.slice (some ⟨b, off, none⟩) r cap) (some (.int .i64 (m : Int))) none none).run Tryz.prog w = .ok (.slice (cutA b off cap m) (r - m) (cap - m)) w := by
  have he : Tryz.prog.elem 41 = 5 := by kernel_rfl
  have hz : (sizeOf 5).run Tryz.prog w = .ok 1 w := by
    obtain ⟨i0, hi, hz0, hz1, hz2⟩ := info_parts info8
    simp [sizeOf, typeInfo, hi, hz1]
  rw [run_slice_l w 41 _ r cap (by rw [he]; exact Tryz.underlying41) .i64 (m : Int) (by omega) (by omega), he, hz]
  simp only [Result.andThen, sliced, Int.toNat_natCast, Nat.mul_one, Option.map_some, Addr.add_lit, cutA]
  split <;> rfl
end Go.Proofs.YthjdmfbengpepaaGreat
namespace Go.Proofs.YthjdmfbengpepaaGreat
open Go.RowKit
attribute [local go_sem ↓] Go.wp_at_zero Go.wp_at_succ

/-- the number in the k bytes behind the mark -/
def numTo (l : List UInt8) : Nat → Nat
  | 0 => 0
  | k + 1 => numTo l k * 256 + (nth l (1 + k)).toNat
theorem numTo_lt (l : List UInt8) (k : Nat) : numTo l k < 256 ^ k := by
  induction k with
  | zero => simp [numTo]
  | succ k ih =>
    have := (nth l (1 + k)).toNat_lt
    rw [numTo, Nat.pow_succ]; omega
theorem numTo_lt64 (l : List UInt8) (k : Nat) (h : k ≤ 8) : numTo l k < 18446744073709551616 := by
  have h1 := numTo_lt l k
  have h2 : 256 ^ k ≤ 256 ^ 8 := Nat.pow_le_pow_right (by omega) h
  have h3 : 256 ^ 8 = 18446744073709551616 := by decide
  omega
theorem numTo_lt7 (l : List UInt8) (k : Nat) (h : k < 8) : numTo l k * 256 < 18446744073709551616 := by
  have h1 := numTo_lt l k
  have h2 : 256 ^ (k + 1) ≤ 256 ^ 8 := Nat.pow_le_pow_right (by omega) h
  have h3 : 256 ^ 8 = 18446744073709551616 := by decide
  rw [Nat.pow_succ] at h2
  omega
theorem numTo_lt4 (l : List UInt8) : numTo l 4 < 4294967296 := numTo_lt l 4

theorem bits_or64 (a b : UInt64) : bits .or .u64 (a.toNat : Int) (b.toNat : Int) = ((a ||| b).toNat : Int) := by
  show IntKind.u64.wrap ((BitVec.ofInt 64 (a.toNat : Int) ||| BitVec.ofInt 64 (b.toNat : Int)).toNat : Int) = _
  rw [of64, of64]; exact wrap64_nat _ (a ||| b).toNat_lt
theorem or_shift (n b : Nat) (hn : n * 256 < 18446744073709551616) (hb : b < 256) : bits .or .u64 ((n : Int) * 256) (b : Int) = (((n * 256 + b : Nat)) : Int) := by
  have h := bits_or64 (UInt64.ofNat (n * 256)) (UInt64.ofNat b)
  have e1 : (UInt64.ofNat (n * 256)).toNat = n * 256 := by rw [UInt64.toNat_ofNat']; omega
  have e2 : (UInt64.ofNat b).toNat = b := by rw [UInt64.toNat_ofNat']; omega
  rw [UInt64.toNat_or, e1, e2] at h
  have e3 : n * 256 ||| b = n * 256 + b := by
    have := Nat.two_pow_add_eq_or_of_lt (i := 8) (b := b) (by omega) n
    rw [Nat.mul_comm n 256]; exact this.symm
  rw [e3] at h
  rw [← h]; simp

/-- may a number of so many bytes behind that mark be read? -/
def okH (l : List UInt8) (br : Bool) (mark : UInt8) (size : Nat) : Bool := !br && decide (1 + size ≤ l.length) && (nth l 0 == mark)

theorem slK (k : IntKind) (b off r cap m : Nat) (hm : m ≤ r) (w : World) : (Instr.slice 41 (.slice (some ⟨b, off, none⟩) r cap) (some (.int k (m : Int))) none none).run Tryz.prog w = .ok (.slice (cutA b off cap m) (r - m) (cap - m)) w := by
  have he : Tryz.prog.elem 41 = 5 := by kernel_rfl
  have hz : (sizeOf 5).run Tryz.prog w = .ok 1 w := by
    obtain ⟨i0, hi, hz0, hz1, hz2⟩ := info_parts info8
    simp [sizeOf, typeInfo, hi, hz1]
  rw [run_slice_l w 41 _ r cap (by rw [he]; exact Tryz.underlying41) k (m : Int) (by omega) (by omega), he, hz]
  simp only [Result.andThen, sliced, Int.toNat_natCast, Nat.mul_one, Option.map_some, Addr.add_lit, cutA]
  split <;> rfl
theorem slLH (k k' : IntKind) (b off r cap m n : Nat) (hm : m ≤ n) (hn : n ≤ cap) (w : World) : (Instr.slice 41 (.slice (some ⟨b, off, none⟩) r cap) (some (.int k (m : Int))) (some (.int k' (n : Int))) none).run Tryz.prog w = .ok (.slice (cutA b off cap m) (n - m) (cap - m)) w := by
  have he : Tryz.prog.elem 41 = 5 := by kernel_rfl
  have hz : (sizeOf 5).run Tryz.prog w = .ok 1 w := by
    obtain ⟨i0, hi, hz0, hz1, hz2⟩ := info_parts info8
    simp [sizeOf, typeInfo, hi, hz1]
  rw [run_slice_lh w 41 _ r cap (by rw [he]; exact Tryz.underlying41) k k' (m : Int) (n : Int) (by omega) (by omega) (by omega), he, hz]
  simp only [Result.andThen, sliced, Int.toNat_natCast, Nat.mul_one, Option.map_some, Addr.add_lit, cutA]
  split <;> rfl
theorem slH (k' : IntKind) (b off r cap n : Nat) (hn : n ≤ cap) (w : World) : (Instr.slice 41 (.slice (some ⟨b, off, none⟩) r cap) none (some (.int k' (n : Int))) none).run Tryz.prog w = .ok (.slice (some ⟨b, off, none⟩) n cap) w := by
  have he : Tryz.prog.elem 41 = 5 := by kernel_rfl
  have hz : (sizeOf 5).run Tryz.prog w = .ok 1 w := by
    obtain ⟨i0, hi, hz0, hz1, hz2⟩ := info_parts info8
    simp [sizeOf, typeInfo, hi, hz1]
  rw [run_slice_h w 41 _ r cap (by rw [he]; exact Tryz.underlying41) k' (n : Int) (by omega) (by omega), he, hz]
  simp only [Result.andThen, sliced, Int.toNat_natCast, Nat.zero_mul, Nat.sub_zero, Option.map_some, Addr.add_lit, Nat.add_zero]
  split <;> rfl

theorem IsB.cut {w : World} {b off len cap : Nat} {l : List UInt8} (h : IsB w (some ⟨b, off, none⟩) len cap l) (m : Nat) (hm : m ≤ len) : IsB w (cutA b off cap m) (len - m) (cap - m) (l.drop m) := by
  have hle := h.le
  have hmx := h.max
  refine ⟨by rw [List.length_drop, h.len_eq], by omega, by omega, fun e => (by cases e), fun hp => ?_⟩
  obtain ⟨b', off', e, hc⟩ := h.cells (by omega)
  injection e with e
  injection e with e1 e2
  subst e1 e2
  refine ⟨b, off + m, by unfold cutA; rw [if_neg (by omega)], fun i hi => ?_⟩
  rw [show off + m + i = off + (m + i) by omega, hc (m + i) (by omega)]
  congr 3
  unfold nth; rw [List.getD_eq_getElem?_getD, List.getD_eq_getElem?_getD, List.getElem?_drop]
theorem IsB.head {w : World} {b off len cap : Nat} {l : List UInt8} (h : IsB w (some ⟨b, off, none⟩) len cap l) (m : Nat) (hm : m ≤ len) : IsB w (some ⟨b, off, none⟩) m cap (l.take m) := by
  have hle := h.le
  have hmx := h.max
  refine ⟨by rw [List.length_take, h.len_eq]; omega, by omega, hmx, fun e => (by cases e), fun hp => ?_⟩
  obtain ⟨b', off', e, hc⟩ := h.cells (by omega)
  refine ⟨b', off', e, fun i hi => ?_⟩
  rw [hc i (by omega)]
  congr 3
  unfold nth; rw [List.getD_eq_getElem?_getD, List.getD_eq_getElem?_getD, List.getElem?_take, if_pos hi]

theorem okH_of {l : List UInt8} {br : Bool} {mark : UInt8} {size : Nat} (h : okH l br mark size = true) : br = false ∧ 1 + size ≤ l.length ∧ nth l 0 = mark := by
  unfold okH at h
  simp only [Bool.and_eq_true, Bool.not_eq_true', decide_eq_true_eq, beq_iff_eq] at h
  exact ⟨h.1.1, h.1.2, h.2⟩
theorem okH_not {l : List UInt8} {br : Bool} {mark : UInt8} {size : Nat} (h0 : mark ≠ 0) (h : okH l br mark size = false) : markOf l br ≠ mark ∨ (markOf l br = mark ∧ l.length < 1 + size) := by
  by_cases hm : markOf l br = mark
  · refine .inr ⟨hm, ?_⟩
    cases br
    · have e : nth l 0 = mark := hm
      rcases Nat.lt_or_ge l.length (1 + size) with h1 | h1
      · exact h1
      · exfalso
        unfold okH at h
        simp [e, h1] at h
    · exact absurd hm.symm h0
  · exact .inl hm

set_option maxRecDepth 20000 in
set_option maxHeartbeats 1000000 in
theorem cheadNo (B : Nat) (l : List UInt8) (br : Bool) (mark : UInt8) (size : Nat) (w : World) (h : IsR w B l br) (h0 : mark ≠ 0) (hs : size ≤ 8) (hno : okH l br mark size = false) :
    Calls Tryz.prog 111 #[.pointer (some ⟨B, 0, none⟩), .int .u8 (mark.toNat : Int), .int .i64 (size : Int)] w fun e w' => e = .returned (.tuple #[.int .u64 0, .bool false]) ∧ IsR w' B l true ∧ w.grownBy w' (some B) := by
  have H : Hid (IsR w B l br) := h
  obtain ⟨a, cap, hb, hi, hne⟩ := h
  have c0 := hb.cell 0
  have hmx := hi.max
  have hle := hi.le
  unfold maxLen at hmx
  clear hb hi hne
  simp only [rcell, List.getElem?_cons_zero] at c0
  rcases okH_not h0 hno with hm | ⟨hm, hl⟩
  · have hq : (((markOf l br).toNat : Int) != (mark.toNat : Int)) = true := by
      rw [bne_iff_ne]; intro h; exact hm ((toNat8_inj _ _).1 h)
    clear c0 hm hno
    go_enter Tryz.func111, Tryz.ntmps111
    go_wp2_with fail
    refine (cmark B l br w H.out).mono ?_
    rintro e w1 ⟨rfl, hw⟩
    subst hw
    generalize ((markOf l br).toNat : Int) = mk at *
    go_wp2_with fail
    refine (cfail B l br _ H.out).mono ?_
    rintro e w2 ⟨rfl, hr, hg⟩
    go_wp2_with fail
    go_ret2
    exact ⟨rfl, hr, hg⟩
  · generalize hn : l.length = n at *
    have HN : Hid (l.length = n) := hn
    clear hn
    have hl' : ((n : Int) < 1 + (size : Int)) := by omega
    have hq : (((markOf l br).toNat : Int) != (mark.toNat : Int)) = false := by rw [hm]; simp
    clear hm hno hl
    go_enter Tryz.func111, Tryz.ntmps111
    go_wp2_with fail
    refine (cmark B l br w H.out).mono ?_
    rintro e w1 ⟨rfl, hw⟩
    subst hw
    generalize ((markOf l br).toNat : Int) = mk at *
    go_wp2_with fail
    refine (cfail B l br _ H.out).mono ?_
    rintro e w2 ⟨rfl, hr, hg⟩
    go_wp2_with fail
    go_ret2
    exact ⟨rfl, hr, hg⟩

theorem sl1 (b off r cap size : Nat) (hn : 1 + size ≤ cap) (w : World) : (Instr.slice 41 (.slice (some ⟨b, off, none⟩) r cap) (some (.int .i64 1)) (some (.int .i64 (1 + (size : Int)))) none).run Tryz.prog w = .ok (.slice (cutA b off cap 1) size (cap - 1)) w := by
  have := slLH .i64 .i64 b off r cap 1 (1 + size) (by omega) hn w
  rw [show 1 + size - 1 = size by omega, show ((1 + size : Nat) : Int) = 1 + (size : Int) by omega] at this
  exact this
attribute [local go_sem ↓] sl1
set_option maxRecDepth 20000 in
set_option maxHeartbeats 1000000 in
theorem cheadOk (B : Nat) (l : List UInt8) (br : Bool) (mark : UInt8) (size : Nat) (w : World) (h : IsR w B l br) (hs : size ≤ 8) (hok : okH l br mark size = true) :
    Calls Tryz.prog 111 #[.pointer (some ⟨B, 0, none⟩), .int .u8 (mark.toNat : Int), .int .i64 (size : Int)] w fun e w' => e = .returned (.tuple #[.int .u64 (numTo l size : Int), .bool true]) ∧ w' = w := by
  have H : Hid (IsR w B l br) := h
  obtain ⟨a, cap, hb, hi, hne⟩ := h
  have c0 := hb.cell 0
  have hmx := hi.max
  have hle := hi.le
  unfold maxLen at hmx
  have HI : Hid (IsB w a l.length cap l) := hi
  clear hb hi hne
  simp only [rcell, List.getElem?_cons_zero] at c0
  obtain ⟨hbr, hl, hm0⟩ := okH_of hok
  have hm : markOf l br = mark := by rw [hbr]; exact hm0
  generalize hn : l.length = n at *
  have HN : Hid (l.length = n) := hn
  clear hn
  obtain ⟨b, off, rfl, hc⟩ := HI.out.cells (by omega)
  have HC : Hid (∀ i, i < size → w.cell? ⟨b, off + 1 + i, none⟩ = some (.int .u8 ((nth l (1 + i)).toNat : Int))) := by
    intro i hi
    rw [show off + 1 + i = off + (1 + i) by omega]
    exact hc (1 + i) (by omega)
  have hcut : 0 < size → cutA b off cap 1 = some ⟨b, off + 1, none⟩ := fun h => by unfold cutA; rw [if_neg (by omega)]
  obtain ⟨ad, had⟩ : ∃ ad, cutA b off cap 1 = ad := ⟨_, rfl⟩
  have Had : Hid (0 < size → ad = some ⟨b, off + 1, none⟩) := fun h => by rw [← had]; exact hcut h
  have hl' : ¬ ((n : Int) < 1 + (size : Int)) := by omega
  have hq : (((markOf l br).toNat : Int) != (mark.toNat : Int)) = false := by rw [hm]; simp
  have hcap : 1 + size ≤ cap := by omega
  clear hm hm0 hok hl hc hcut
  go_enter Tryz.func111, Tryz.ntmps111
  go_wp2_with fail
  refine (cmark B l br w H.out).mono ?_
  rintro e w1 ⟨rfl, hw⟩
  subst hw
  generalize ((markOf l br).toNat : Int) = mk at *
  go_wp2_with fail
  go_loopw [8, 10, 35] (fun v _ i wr => ∃ k : Nat, k ≤ size ∧ v = .int .u64 (numTo l k : Int) ∧ i = .int .i64 (k : Int) ∧ wr = w1) (fun _ _ i _ => size - (intOf i).toNat)
  case atStart => exact ⟨0, by omega, rfl, rfl, rfl⟩
  case round =>
    obtain ⟨k, hk, rfl, rfl, hww⟩ := hrel
    rw [hww]; clear hww wr
    by_cases hlt : k < size
    · have hlt' : (k : Int) < (size : Int) := by omega
      have hg := HC.out k hlt
      have e := Had.out (by omega)
      subst e
      have hx := (nth l (1 + k)).toNat_lt
      have h7 := numTo_lt7 l k (by omega)
      have HV : Hid (numTo l (k + 1) = numTo l k * 256 + (nth l (1 + k)).toNat) := rfl
      have hor := or_shift (numTo l k) (nth l (1 + k)).toNat h7 hx
      generalize numTo l k = N at *
      generalize (nth l (1 + k)).toNat = X at *
      go_wp2_with fail
      go_roundw
      case rel => exact ⟨k + 1, by omega, by rw [HV.out]; go_num, by go_num, by first | rfl | trivial⟩
      case measure => simp [intOf]; omega
    · have e : k = size := by omega
      subst e
      go_wp2_with fail
      go_ret2
      exact ⟨rfl, rfl⟩
end Go.Proofs.YthjdmfbengpepaaGreat
