/- canon's reader: head. -/
import Derived.Test.YtbclhaleibjkgaaB12
namespace Go.Proofs.Ytbclhaleibjkgaa
open Go.RowKit
attribute [local go_sem ↓] Go.wp_at_zero Go.wp_at_succ

/-- the number in the k bytes behind the mark -/
def numTo (l : List UInt8) : Nat → Nat
  | 0 => 0
  | k + 1 => numTo l k * 256 + (nth l (1 + k)).toNat
theorem numTo_lt (l : List UInt8) (k : Nat) : numTo l k < 256 ^ k := by
  induction k with
  | zero => simp [numTo]
  | succ k ih =>
    have := (nth l (1 + k)).toNat_lt
    rw [numTo, Nat.pow_succ]; omega
theorem numTo_lt64 (l : List UInt8) (k : Nat) (h : k ≤ 8) : numTo l k < 18446744073709551616 := by
  have h1 := numTo_lt l k
  have h2 : 256 ^ k ≤ 256 ^ 8 := Nat.pow_le_pow_right (by omega) h
  have h3 : 256 ^ 8 = 18446744073709551616 := by decide
  omega
theorem numTo_lt7 (l : List UInt8) (k : Nat) (h : k < 8) : numTo l k * 256 < 18446744073709551616 := by
  have h1 := numTo_lt l k
  have h2 : 256 ^ (k + 1) ≤ 256 ^ 8 := Nat.pow_le_pow_right (by omega) h
  have h3 : 256 ^ 8 = 18446744073709551616 := by decide
  rw [Nat.pow_succ] at h2
  omega
theorem numTo_lt4 (l : List UInt8) : numTo l 4 < 4294967296 := numTo_lt l 4

theorem bits_or64 (a b : UInt64) : bits .or .u64 (a.toNat : Int) (b.toNat : Int) = ((a ||| b).toNat : Int) := by
  show IntKind.u64.wrap ((BitVec.ofInt 64 (a.toNat : Int) ||| BitVec.ofInt 64 (b.toNat : Int)).toNat : Int) = _
  rw [of64, of64]; exact wrap64_nat _ (a ||| b).toNat_lt
theorem or_shift (n b : Nat) (hn : n * 256 < 18446744073709551616) (hb : b < 256) : bits .or .u64 ((n : Int) * 256) (b : Int) = (((n * 256 + b : Nat)) : Int) := by
  have h := bits_or64 (UInt64.ofNat (n * 256)) (UInt64.ofNat b)
  have e1 : (UInt64.ofNat (n * 256)).toNat = n * 256 := by rw [UInt64.toNat_ofNat']; omega
  have e2 : (UInt64.ofNat b).toNat = b := by rw [UInt64.toNat_ofNat']; omega
  rw [UInt64.toNat_or, e1, e2] at h
  have e3 : n * 256 ||| b = n * 256 + b := by
    have := Nat.two_pow_add_eq_or_of_lt (i := 8) (b := b) (by omega) n
    rw [Nat.mul_comm n 256]; exact this.symm
  rw [e3] at h
  rw [← h]; simp

/-- may a number of so many bytes behind that mark be read? -/
def okH (l : List UInt8) (br : Bool) (mark : UInt8) (size : Nat) : Bool := !br && decide (1 + size ≤ l.length) && (nth l 0 == mark)

theorem slK (k : IntKind) (b off r cap m : Nat) (hm : m ≤ r) (w : World) : (Instr.slice 24 (.slice (some ⟨b, off, none⟩) r cap) (some (.int k (m : Int))) none none).run Try.prog w = .ok (.slice (cutA b off cap m) (r - m) (cap - m)) w := by
  have he : Try.prog.elem 24 = 5 := by kernel_rfl
  have hz : (sizeOf 5).run Try.prog w = .ok 1 w := by
    obtain ⟨i0, hi, hz0, hz1, hz2⟩ := info_parts info8
    simp [sizeOf, typeInfo, hi, hz1]
  rw [run_slice_l w 24 _ r cap (by rw [he]; exact Try.underlying24) k (m : Int) (by omega) (by omega), he, hz]
  simp only [Result.andThen, sliced, Int.toNat_natCast, Nat.mul_one, Option.map_some, Addr.add_lit, cutA]
  split <;> rfl
theorem slLH (k k' : IntKind) (b off r cap m n : Nat) (hm : m ≤ n) (hn : n ≤ cap) (w : World) : (Instr.slice 24 (.slice (some ⟨b, off, none⟩) r cap) (some (.int k (m : Int))) (some (.int k' (n : Int))) none).run Try.prog w = .ok (.slice (cutA b off cap m) (n - m) (cap - m)) w := by
  have he : Try.prog.elem 24 = 5 := by kernel_rfl
  have hz : (sizeOf 5).run Try.prog w = .ok 1 w := by
    obtain ⟨i0, hi, hz0, hz1, hz2⟩ := info_parts info8
    simp [sizeOf, typeInfo, hi, hz1]
  rw [run_slice_lh w 24 _ r cap (by rw [he]; exact Try.underlying24) k k' (m : Int) (n : Int) (by omega) (by omega) (by omega), he, hz]
  simp only [Result.andThen, sliced, Int.toNat_natCast, Nat.mul_one, Option.map_some, Addr.add_lit, cutA]
  split <;> rfl
theorem slH (k' : IntKind) (b off r cap n : Nat) (hn : n ≤ cap) (w : World) : (Instr.slice 24 (.slice (some ⟨b, off, none⟩) r cap) none (some (.int k' (n : Int))) none).run Try.prog w = .ok (.slice (some ⟨b, off, none⟩) n cap) w := by
  have he : Try.prog.elem 24 = 5 := by kernel_rfl
  have hz : (sizeOf 5).run Try.prog w = .ok 1 w := by
    obtain ⟨i0, hi, hz0, hz1, hz2⟩ := info_parts info8
    simp [sizeOf, typeInfo, hi, hz1]
  rw [run_slice_h w 24 _ r cap (by rw [he]; exact Try.underlying24) k' (n : Int) (by omega) (by omega), he, hz]
  simp only [Result.andThen, sliced, Int.toNat_natCast, Nat.zero_mul, Nat.sub_zero, Option.map_some, Addr.add_lit, Nat.add_zero]
  split <;> rfl

theorem IsB.cut {w : World} {b off len cap : Nat} {l : List UInt8} (h : IsB w (some ⟨b, off, none⟩) len cap l) (m : Nat) (hm : m ≤ len) : IsB w (cutA b off cap m) (len - m) (cap - m) (l.drop m) := by
  have hle := h.le
  have hmx := h.max
  refine ⟨by rw [List.length_drop, h.len_eq], by omega, by omega, fun e => (by cases e), fun hp => ?_⟩
  obtain ⟨b', off', e, hc⟩ := h.cells (by omega)
  injection e with e
  injection e with e1 e2
  subst e1 e2
  refine ⟨b, off + m, by unfold cutA; rw [if_neg (by omega)], fun i hi => ?_⟩
  rw [show off + m + i = off + (m + i) by omega, hc (m + i) (by omega)]
  congr 3
  unfold nth; rw [List.getD_eq_getElem?_getD, List.getD_eq_getElem?_getD, List.getElem?_drop]
theorem IsB.head {w : World} {b off len cap : Nat} {l : List UInt8} (h : IsB w (some ⟨b, off, none⟩) len cap l) (m : Nat) (hm : m ≤ len) : IsB w (some ⟨b, off, none⟩) m cap (l.take m) := by
  have hle := h.le
  have hmx := h.max
  refine ⟨by rw [List.length_take, h.len_eq]; omega, by omega, hmx, fun e => (by cases e), fun hp => ?_⟩
  obtain ⟨b', off', e, hc⟩ := h.cells (by omega)
  refine ⟨b', off', e, fun i hi => ?_⟩
  rw [hc i (by omega)]
  congr 3
  unfold nth; rw [List.getD_eq_getElem?_getD, List.getD_eq_getElem?_getD, List.getElem?_take, if_pos hi]

theorem okH_of {l : List UInt8} {br : Bool} {mark : UInt8} {size : Nat} (h : okH l br mark size = true) : br = false ∧ 1 + size ≤ l.length ∧ nth l 0 = mark := by
  unfold okH at h
  simp only [Bool.and_eq_true, Bool.not_eq_true', decide_eq_true_eq, beq_iff_eq] at h
  exact ⟨h.1.1, h.1.2, h.2⟩
theorem okH_not {l : List UInt8} {br : Bool} {mark : UInt8} {size : Nat} (h0 : mark ≠ 0) (h : okH l br mark size = false) : markOf l br ≠ mark ∨ (markOf l br = mark ∧ l.length < 1 + size) := by
  by_cases hm : markOf l br = mark
  · refine .inr ⟨hm, ?_⟩
    cases br
    · have e : nth l 0 = mark := hm
      rcases Nat.lt_or_ge l.length (1 + size) with h1 | h1
      · exact h1
      · exfalso
        unfold okH at h
        simp [e, h1] at h
    · exact absurd hm.symm h0
  · exact .inl hm

set_option maxRecDepth 20000 in
set_option maxHeartbeats 1000000 in
theorem cheadNo (B : Nat) (l : List UInt8) (br : Bool) (mark : UInt8) (size : Nat) (w : World) (h : IsR w B l br) (h0 : mark ≠ 0) (hs : size ≤ 8) (hno : okH l br mark size = false) :
    Calls Try.prog 61 #[.pointer (some ⟨B, 0, none⟩), .int .u8 (mark.toNat : Int), .int .i64 (size : Int)] w fun e w' => e = .returned (.tuple #[.int .u64 0, .bool false]) ∧ IsR w' B l true ∧ w.grownBy w' (some B) := by
  have H : Hid (IsR w B l br) := h
  obtain ⟨a, cap, hb, hi, hne⟩ := h
  have c0 := hb.cell 0
  have hmx := hi.max
  have hle := hi.le
  unfold maxLen at hmx
  clear hb hi hne
  simp only [rcell, List.getElem?_cons_zero] at c0
  rcases okH_not h0 hno with hm | ⟨hm, hl⟩
  · have hq : (((markOf l br).toNat : Int) != (mark.toNat : Int)) = true := by
      rw [bne_iff_ne]; intro h; exact hm ((toNat8_inj _ _).1 h)
    clear c0 hm hno
    go_enter Try.func61, Try.ntmps61
    go_wp2_with fail
    refine (cmark B l br w H.out).mono ?_
    rintro e w1 ⟨rfl, hw⟩
    subst hw
    generalize ((markOf l br).toNat : Int) = mk at *
    go_wp2_with fail
    refine (cfail B l br _ H.out).mono ?_
    rintro e w2 ⟨rfl, hr, hg⟩
    go_wp2_with fail
    go_ret2
    exact ⟨rfl, hr, hg⟩
  · generalize hn : l.length = n at *
    have HN : Hid (l.length = n) := hn
    clear hn
    have hl' : ((n : Int) < 1 + (size : Int)) := by omega
    have hq : (((markOf l br).toNat : Int) != (mark.toNat : Int)) = false := by rw [hm]; simp
    clear hm hno hl
    go_enter Try.func61, Try.ntmps61
    go_wp2_with fail
    refine (cmark B l br w H.out).mono ?_
    rintro e w1 ⟨rfl, hw⟩
    subst hw
    generalize ((markOf l br).toNat : Int) = mk at *
    go_wp2_with fail
    refine (cfail B l br _ H.out).mono ?_
    rintro e w2 ⟨rfl, hr, hg⟩
    go_wp2_with fail
    go_ret2
    exact ⟨rfl, hr, hg⟩

theorem sl1 (b off r cap size : Nat) (hn : 1 + size ≤ cap) (w : World) : (Instr.slice 24 (.slice (some ⟨b, off, none⟩) r cap) (some (.int .i64 1)) (some (.int .i64 (1 + (size : Int)))) none).run Try.prog w = .ok (.slice (cutA b off cap 1) size (cap - 1)) w := by
  have := slLH .i64 .i64 b off r cap 1 (1 + size) (by omega) hn w
  rw [show 1 + size - 1 = size by omega, show ((1 + size : Nat) : Int) = 1 + (size : Int) by omega] at this
  exact this
attribute [local go_sem ↓] sl1
set_option maxRecDepth 20000 in
set_option maxHeartbeats 1000000 in
theorem cheadOk (B : Nat) (l : List UInt8) (br : Bool) (mark : UInt8) (size : Nat) (w : World) (h : IsR w B l br) (hs : size ≤ 8) (hok : okH l br mark size = true) :
    Calls Try.prog 61 #[.pointer (some ⟨B, 0, none⟩), .int .u8 (mark.toNat : Int), .int .i64 (size : Int)] w fun e w' => e = .returned (.tuple #[.int .u64 (numTo l size : Int), .bool true]) ∧ w' = w := by
  have H : Hid (IsR w B l br) := h
  obtain ⟨a, cap, hb, hi, hne⟩ := h
  have c0 := hb.cell 0
  have hmx := hi.max
  have hle := hi.le
  unfold maxLen at hmx
  have HI : Hid (IsB w a l.length cap l) := hi
  clear hb hi hne
  simp only [rcell, List.getElem?_cons_zero] at c0
  obtain ⟨hbr, hl, hm0⟩ := okH_of hok
  have hm : markOf l br = mark := by rw [hbr]; exact hm0
  generalize hn : l.length = n at *
  have HN : Hid (l.length = n) := hn
  clear hn
  obtain ⟨b, off, rfl, hc⟩ := HI.out.cells (by omega)
  have HC : Hid (∀ i, i < size → w.cell? ⟨b, off + 1 + i, none⟩ = some (.int .u8 ((nth l (1 + i)).toNat : Int))) := by
    intro i hi
    rw [show off + 1 + i = off + (1 + i) by omega]
    exact hc (1 + i) (by omega)
  have hcut : 0 < size → cutA b off cap 1 = some ⟨b, off + 1, none⟩ := fun h => by unfold cutA; rw [if_neg (by omega)]
  obtain ⟨ad, had⟩ : ∃ ad, cutA b off cap 1 = ad := ⟨_, rfl⟩
  have Had : Hid (0 < size → ad = some ⟨b, off + 1, none⟩) := fun h => by rw [← had]; exact hcut h
  have hl' : ¬ ((n : Int) < 1 + (size : Int)) := by omega
  have hq : (((markOf l br).toNat : Int) != (mark.toNat : Int)) = false := by rw [hm]; simp
  have hcap : 1 + size ≤ cap := by omega
  clear hm hm0 hok hl hc hcut
  go_enter Try.func61, Try.ntmps61
  go_wp2_with fail
  refine (cmark B l br w H.out).mono ?_
  rintro e w1 ⟨rfl, hw⟩
  subst hw
  generalize ((markOf l br).toNat : Int) = mk at *
  go_wp2_with fail
  go_loopw [8, 10, 35] (fun v _ i wr => ∃ k : Nat, k ≤ size ∧ v = .int .u64 (numTo l k : Int) ∧ i = .int .i64 (k : Int) ∧ wr = w1) (fun _ _ i _ => size - (intOf i).toNat)
  case atStart => exact ⟨0, by omega, rfl, rfl, rfl⟩
  case round =>
    obtain ⟨k, hk, rfl, rfl, hww⟩ := hrel
    rw [hww]; clear hww wr
    by_cases hlt : k < size
    · have hlt' : (k : Int) < (size : Int) := by omega
      have hg := HC.out k hlt
      have e := Had.out (by omega)
      subst e
      have hx := (nth l (1 + k)).toNat_lt
      have h7 := numTo_lt7 l k (by omega)
      have HV : Hid (numTo l (k + 1) = numTo l k * 256 + (nth l (1 + k)).toNat) := rfl
      have hor := or_shift (numTo l k) (nth l (1 + k)).toNat h7 hx
      generalize numTo l k = N at *
      generalize (nth l (1 + k)).toNat = X at *
      go_wp2_with fail
      go_roundw
      case rel => exact ⟨k + 1, by omega, by rw [HV.out]; go_num, by go_num, by first | rfl | trivial⟩
      case measure => simp [intOf]; omega
    · have e : k = size := by omega
      subst e
      go_wp2_with fail
      go_ret2
      exact ⟨rfl, rfl⟩
end Go.Proofs.Ytbclhaleibjkgaa
