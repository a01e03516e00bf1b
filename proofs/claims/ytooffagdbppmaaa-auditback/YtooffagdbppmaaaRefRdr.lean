/- The document's reader: a block of three cells; number. -/
import Derived.Test.YtooffagdbppmaaaB37
namespace Go.Proofs.Ytooffagdbppmaaa
open Go.RowKit
attribute [local go_sem ↓] Go.wp_at_zero Go.wp_at_succ

/-- its cells -/
def xcell (a : Option Addr) (len cap k : Nat) (bad : Bool) : List Value := [.slice a len cap, .int .i64 (k : Int), .bool bad]

/-- the document's reader of the bytes l, at place k -/
def IsX (w : World) (X : Nat) (a : Option Addr) (len cap : Nat) (l : List UInt8) (k : Nat) (bad : Bool) : Prop :=
  Blk w X 60 (xcell a len cap k bad) ∧ IsB w a len cap l ∧ (0 < len → ∀ x, a = some x → x.block ≠ X) ∧ k ≤ len


/-- the reader turned: its place, its truth -/
theorem IsX.at {w : World} {X : Nat} {a : Option Addr} {len cap : Nat} {l : List UInt8} {k : Nat} {bad : Bool} (h : IsX w X a len cap l k bad) (k' : Nat) (hk : k' ≤ len) : IsX (w.setCell ⟨X, 1, none⟩ (.int .i64 (k' : Int))) X a len cap l k' bad :=
  ⟨h.1.set 1 _, h.2.1.setOther X 1 _ h.2.2.1, h.2.2.1, hk⟩
theorem IsX.bad {w : World} {X : Nat} {a : Option Addr} {len cap : Nat} {l : List UInt8} {k : Nat} {bad : Bool} (h : IsX w X a len cap l k bad) : IsX (w.setCell ⟨X, 2, none⟩ (.bool true)) X a len cap l k true :=
  ⟨h.1.set 2 _, h.2.1.setOther X 2 _ h.2.2.1, h.2.2.1, h.2.2.2⟩
theorem IsX.drewN {w : World} {X : Nat} {a : Option Addr} {len cap : Nat} {l : List UInt8} {k : Nat} {bad : Bool} (h : IsX w X a len cap l k bad) (n : Nat) : IsX (w.drewN n) X a len cap l k bad :=
  ⟨h.1.drewN n, h.2.1.drewN n, h.2.2.1, h.2.2.2⟩
theorem gr_drewN (w : World) (n : Nat) (o : Option Nat) : w.grownBy (w.drewN n) o := ⟨rfl, rfl, rfl, Nat.le_refl _, fun _ _ _ => rfl⟩

theorem okX_not {l : List UInt8} {k : Nat} {bad : Bool} {mark : UInt8} {size len : Nat} (hlen : l.length = len) (h : okH (l.drop k) bad mark size = false) : bad = true ∨ (bad = false ∧ len - k < size + 1) ∨ (bad = false ∧ size + 1 ≤ len - k ∧ nth l k ≠ mark) := by
  cases bad
  · refine .inr ?_
    by_cases h1 : len - k < size + 1
    · exact .inl ⟨rfl, h1⟩
    · refine .inr ⟨rfl, by omega, fun e => ?_⟩
      unfold okH at h
      rw [nth_drop, Nat.add_zero, e] at h
      simp [hlen] at h
      omega
  · exact .inl rfl

set_option maxRecDepth 20000 in
set_option maxHeartbeats 1000000 in
theorem xnumNo (X : Nat) (a : Option Addr) (len cap : Nat) (l : List UInt8) (k : Nat) (bad : Bool) (mark : UInt8) (size : Nat) (w : World) (h : IsX w X a len cap l k bad) (hs : size ≤ 8) (hno : okH (l.drop k) bad mark size = false) :
    Calls Try.prog 64 #[.pointer (some ⟨X, 0, none⟩), .int .u8 (mark.toNat : Int), .int .i64 (size : Int)] w fun e w' => e = .returned (.tuple #[.int .u64 0, .bool false]) ∧ IsX w' X a len cap l k true ∧ w.grownBy w' (some X) := by
  have H : Hid (IsX w X a len cap l k bad) := h
  obtain ⟨hb, hi, hne, hk⟩ := h
  have c0 := hb.cell 0
  have c1 := hb.cell 1
  have c2 := hb.cell 2
  have f2 := hb.frozen 2
  have hmx := hi.max
  have hle := hi.le
  unfold maxLen at hmx
  have HI : Hid (IsB w a len cap l) := hi
  simp only [xcell, List.getElem?_cons_zero, List.getElem?_cons_succ] at c0 c1 c2
  have hcase := okX_not hi.len_eq hno
  clear hb hi hne hno
  rcases hcase with rfl | ⟨rfl, h1⟩ | ⟨rfl, h1, h2⟩
  · go_enter Try.func64, Try.ntmps64
    go_wp2
    go_quiet (fail)
    go_wp2
    go_ret2
    exact ⟨rfl, (H.out.drewN _).bad, gr_trans (gr_drewN w _ _) (gr_set _ _ _ _)⟩
  · have h1' : (len : Int) - (k : Int) < (size : Int) + 1 := by omega
    go_enter Try.func64, Try.ntmps64
    go_wp2
    go_quiet (fail)
    go_wp2
    go_ret2
    exact ⟨rfl, (H.out.drewN _).bad, gr_trans (gr_drewN w _ _) (gr_set _ _ _ _)⟩
  · have h1' : decide ((len : Int) - (k : Int) < (size : Int) + 1) = false := decide_eq_false (by omega)
    have hq : (((nth l k).toNat : Int) != (mark.toNat : Int)) = true := by
      rw [bne_iff_ne]; intro h; exact h2 ((toNat8_inj _ _).1 h)
    obtain ⟨b, off, rfl, hc⟩ := HI.out.cells (by omega)
    have g := hc k (by omega)
    have hlt : (k : Int) < (len : Int) := by omega
    clear hc h2
    go_enter Try.func64, Try.ntmps64
    go_wp2
    go_quiet (fail)
    go_wp2
    go_ret2
    exact ⟨rfl, (H.out.drewN _).bad, gr_trans (gr_drewN w _ _) (gr_set _ _ _ _)⟩

theorem okX_of {l : List UInt8} {k : Nat} {bad : Bool} {mark : UInt8} {size len : Nat} (hlen : l.length = len) (h : okH (l.drop k) bad mark size = true) : bad = false ∧ 1 + size + k ≤ len ∧ nth l k = mark := by
  obtain ⟨h1, h2, h3⟩ := okH_of h
  rw [List.length_drop, hlen] at h2
  rw [nth_drop, Nat.add_zero] at h3
  exact ⟨h1, by omega, h3⟩

set_option maxRecDepth 20000 in
set_option maxHeartbeats 2000000 in
theorem xnumOk (X : Nat) (a : Option Addr) (len cap : Nat) (l : List UInt8) (k : Nat) (bad : Bool) (mark : UInt8) (size : Nat) (w : World) (h : IsX w X a len cap l k bad) (hs : size ≤ 8) (hok : okH (l.drop k) bad mark size = true) :
    Calls Try.prog 64 #[.pointer (some ⟨X, 0, none⟩), .int .u8 (mark.toNat : Int), .int .i64 (size : Int)] w fun e w' => e = .returned (.tuple #[.int .u64 (numTo (l.drop k) size : Int), .bool true]) ∧ ∃ n, w' = w.drewN n := by
  obtain ⟨hb, hi, hne, hk⟩ := h
  have c0 := hb.cell 0
  have c1 := hb.cell 1
  have c2 := hb.cell 2
  have hmx := hi.max
  have hle := hi.le
  unfold maxLen at hmx
  have HI : Hid (IsB w a len cap l) := hi
  simp only [xcell, List.getElem?_cons_zero, List.getElem?_cons_succ] at c0 c1 c2
  obtain ⟨rfl, h1, h2⟩ := okX_of hi.len_eq hok
  clear hb hi hne hok
  have h1' : decide ((len : Int) - (k : Int) < (size : Int) + 1) = false := decide_eq_false (by omega)
  have hq : (((nth l k).toNat : Int) != (mark.toNat : Int)) = false := by rw [h2]; simp
  obtain ⟨b, off, rfl, hc⟩ := HI.out.cells (by omega)
  have g := hc k (by omega)
  have HC : Hid (∀ i, i < len → w.cell? ⟨b, off + i, none⟩ = some (.int .u8 ((nth l i).toNat : Int))) := hc
  have hlt : (k : Int) < (len : Int) := by omega
  clear hc h2
  go_enter Try.func64, Try.ntmps64
  go_wp2
  go_quiet (fail)
  go_wp2
  clear g
  go_loopw [8, 9] (fun v i wr => ∃ j t n : Nat, j ≤ size ∧ Hid (t = 1 + j) ∧ v = .int .u64 (numTo (l.drop k) j : Int) ∧ i = .int .i64 (t : Int) ∧ wr = w.drewN n) (fun _ i _ => size + 1 - (intOf i).toNat)
  case atStart => exact ⟨0, 1, _, by omega, rfl, rfl, rfl, rfl⟩
  case round =>
    obtain ⟨j, t, n, hj, ht, rfl, rfl, hww⟩ := hrel
    have ht1 := ht.out
    rw [hww]; clear hww wr
    by_cases hjl : j < size
    · have hlt2 : (t : Int) ≤ (size : Int) := by omega
      have g := HC.out (k + t) (by omega)
      have hx := (nth l (k + t)).toNat_lt
      have h7 := numTo_lt7 (l.drop k) j (by omega)
      have HV : Hid (numTo (l.drop k) (j + 1) = numTo (l.drop k) j * 256 + (nth l (k + t)).toNat) := by
        unfold Hid; rw [numTo, nth_drop, ht1]
      have hm7 : numTo (l.drop k) j * 256 + (nth l (k + t)).toNat < 18446744073709551616 := by
        rw [← HV.out]; exact numTo_lt64 _ _ (by omega)
      have hb1 : (k : Int) + (t : Int) < (len : Int) := by omega
      have hidx : ((k : Int) + (t : Int)).toNat = k + t := by omega
      have ht8 : t ≤ 8 := by omega
      clear ht1
      generalize numTo (l.drop k) j = N at *
      generalize (nth l (k + t)).toNat = Y at *
      go_wp2
      go_quiet (fail)
      go_wp2
      go_roundw
      case rel => exact ⟨j + 1, t + 1, _, by omega, by have := ht.out; unfold Hid; omega, by rw [HV.out]; go_num, by go_num, rfl⟩
      case measure => have := ht.out; simp [intOf]; omega
    · have e : j = size := by omega
      have hlt2 : ¬ ((t : Int) ≤ (size : Int)) := by omega
      have HE : Hid (j = size) := e
      clear e ht1
      go_wp2
      go_ret2
      rw [HE.out]
      exact ⟨rfl, _, rfl⟩
end Go.Proofs.Ytooffagdbppmaaa
