/- The document's reader: a block of three cells; number. · The document's reader: Uint, List, Bool. · The document's reader: Bytes, Text. · The document's reader: Bytes, Text, where some are read. · The document's reader: bytes and texts. -/
import Derived.Test.YtooffagdbppmaaaB37
import Derived.Deep.RegionHeld3
namespace Go.Proofs.Ytooffagdbppmaaa
open Go.RowKit
attribute [local go_sem ↓] Go.wp_at_zero Go.wp_at_succ

/-- its cells -/
def xcell (a : Option Addr) (len cap k : Nat) (bad : Bool) : List Value := [.slice a len cap, .int .i64 (k : Int), .bool bad]

/-- the document's reader of the bytes l, at place k -/
def IsX (w : World) (X : Nat) (a : Option Addr) (len cap : Nat) (l : List UInt8) (k : Nat) (bad : Bool) : Prop :=
  Blk w X 60 (xcell a len cap k bad) ∧ IsB w a len cap l ∧ (0 < len → ∀ x, a = some x → x.block ≠ X) ∧ k ≤ len


/-- the reader turned: its place, its truth -/
theorem IsX.at {w : World} {X : Nat} {a : Option Addr} {len cap : Nat} {l : List UInt8} {k : Nat} {bad : Bool} (h : IsX w X a len cap l k bad) (k' : Nat) (hk : k' ≤ len) : IsX (w.setCell ⟨X, 1, none⟩ (.int .i64 (k' : Int))) X a len cap l k' bad :=
  ⟨h.1.set 1 _, h.2.1.setOther X 1 _ h.2.2.1, h.2.2.1, hk⟩
theorem IsX.bad {w : World} {X : Nat} {a : Option Addr} {len cap : Nat} {l : List UInt8} {k : Nat} {bad : Bool} (h : IsX w X a len cap l k bad) : IsX (w.setCell ⟨X, 2, none⟩ (.bool true)) X a len cap l k true :=
  ⟨h.1.set 2 _, h.2.1.setOther X 2 _ h.2.2.1, h.2.2.1, h.2.2.2⟩
theorem IsX.drewN {w : World} {X : Nat} {a : Option Addr} {len cap : Nat} {l : List UInt8} {k : Nat} {bad : Bool} (h : IsX w X a len cap l k bad) (n : Nat) : IsX (w.drewN n) X a len cap l k bad :=
  ⟨h.1.drewN n, h.2.1.drewN n, h.2.2.1, h.2.2.2⟩
theorem gr_drewN (w : World) (n : Nat) (o : Option Nat) : w.grownBy (w.drewN n) o := ⟨rfl, rfl, rfl, Nat.le_refl _, fun _ _ _ => rfl⟩

theorem okX_not {l : List UInt8} {k : Nat} {bad : Bool} {mark : UInt8} {size len : Nat} (hlen : l.length = len) (h : okH (l.drop k) bad mark size = false) : bad = true ∨ (bad = false ∧ len - k < size + 1) ∨ (bad = false ∧ size + 1 ≤ len - k ∧ nth l k ≠ mark) := by
  cases bad
  · refine .inr ?_
    by_cases h1 : len - k < size + 1
    · exact .inl ⟨rfl, h1⟩
    · refine .inr ⟨rfl, by omega, fun e => ?_⟩
      unfold okH at h
      rw [nth_drop, Nat.add_zero, e] at h
      simp [hlen] at h
      omega
  · exact .inl rfl

set_option maxRecDepth 20000 in
set_option maxHeartbeats 1000000 in
theorem xnumNo (X : Nat) (a : Option Addr) (len cap : Nat) (l : List UInt8) (k : Nat) (bad : Bool) (mark : UInt8) (size : Nat) (w : World) (h : IsX w X a len cap l k bad) (hs : size ≤ 8) (hno : okH (l.drop k) bad mark size = false) :
    Calls Try.prog 64 #[.pointer (some ⟨X, 0, none⟩), .int .u8 (mark.toNat : Int), .int .i64 (size : Int)] w fun e w' => e = .returned (.tuple #[.int .u64 0, .bool false]) ∧ IsX w' X a len cap l k true ∧ w.grownBy w' (some X) := by
  have H : Hid (IsX w X a len cap l k bad) := h
  obtain ⟨hb, hi, hne, hk⟩ := h
  have c0 := hb.cell 0
  have c1 := hb.cell 1
  have c2 := hb.cell 2
  have f2 := hb.frozen 2
  have hmx := hi.max
  have hle := hi.le
  unfold maxLen at hmx
  have HI : Hid (IsB w a len cap l) := hi
  simp only [xcell, List.getElem?_cons_zero, List.getElem?_cons_succ] at c0 c1 c2
  have hcase := okX_not hi.len_eq hno
  clear hb hi hne hno
  rcases hcase with rfl | ⟨rfl, h1⟩ | ⟨rfl, h1, h2⟩
  · go_enter Try.func64, Try.ntmps64
    go_wp2
    go_quiet (fail)
    go_wp2
    go_ret2
    exact ⟨rfl, (H.out.drewN _).bad, gr_trans (gr_drewN w _ _) (gr_set _ _ _ _)⟩
  · have h1' : (len : Int) - (k : Int) < (size : Int) + 1 := by omega
    go_enter Try.func64, Try.ntmps64
    go_wp2
    go_quiet (fail)
    go_wp2
    go_ret2
    exact ⟨rfl, (H.out.drewN _).bad, gr_trans (gr_drewN w _ _) (gr_set _ _ _ _)⟩
  · have h1' : decide ((len : Int) - (k : Int) < (size : Int) + 1) = false := decide_eq_false (by omega)
    have hq : (((nth l k).toNat : Int) != (mark.toNat : Int)) = true := by
      rw [bne_iff_ne]; intro h; exact h2 ((toNat8_inj _ _).1 h)
    obtain ⟨b, off, rfl, hc⟩ := HI.out.cells (by omega)
    have g := hc k (by omega)
    have hlt : (k : Int) < (len : Int) := by omega
    clear hc h2
    go_enter Try.func64, Try.ntmps64
    go_wp2
    go_quiet (fail)
    go_wp2
    go_ret2
    exact ⟨rfl, (H.out.drewN _).bad, gr_trans (gr_drewN w _ _) (gr_set _ _ _ _)⟩

theorem okX_of {l : List UInt8} {k : Nat} {bad : Bool} {mark : UInt8} {size len : Nat} (hlen : l.length = len) (h : okH (l.drop k) bad mark size = true) : bad = false ∧ 1 + size + k ≤ len ∧ nth l k = mark := by
  obtain ⟨h1, h2, h3⟩ := okH_of h
  rw [List.length_drop, hlen] at h2
  rw [nth_drop, Nat.add_zero] at h3
  exact ⟨h1, by omega, h3⟩

set_option maxRecDepth 20000 in
set_option maxHeartbeats 2000000 in
theorem xnumOk (X : Nat) (a : Option Addr) (len cap : Nat) (l : List UInt8) (k : Nat) (bad : Bool) (mark : UInt8) (size : Nat) (w : World) (h : IsX w X a len cap l k bad) (hs : size ≤ 8) (hok : okH (l.drop k) bad mark size = true) :
    Calls Try.prog 64 #[.pointer (some ⟨X, 0, none⟩), .int .u8 (mark.toNat : Int), .int .i64 (size : Int)] w fun e w' => e = .returned (.tuple #[.int .u64 (numTo (l.drop k) size : Int), .bool true]) ∧ ∃ n, w' = w.drewN n := by
  obtain ⟨hb, hi, hne, hk⟩ := h
  have c0 := hb.cell 0
  have c1 := hb.cell 1
  have c2 := hb.cell 2
  have hmx := hi.max
  have hle := hi.le
  unfold maxLen at hmx
  have HI : Hid (IsB w a len cap l) := hi
  simp only [xcell, List.getElem?_cons_zero, List.getElem?_cons_succ] at c0 c1 c2
  obtain ⟨rfl, h1, h2⟩ := okX_of hi.len_eq hok
  clear hb hi hne hok
  have h1' : decide ((len : Int) - (k : Int) < (size : Int) + 1) = false := decide_eq_false (by omega)
  have hq : (((nth l k).toNat : Int) != (mark.toNat : Int)) = false := by rw [h2]; simp
  obtain ⟨b, off, rfl, hc⟩ := HI.out.cells (by omega)
  have g := hc k (by omega)
  have HC : Hid (∀ i, i < len → w.cell? ⟨b, off + i, none⟩ = some (.int .u8 ((nth l i).toNat : Int))) := hc
  have hlt : (k : Int) < (len : Int) := by omega
  clear hc h2
  go_enter Try.func64, Try.ntmps64
  go_wp2
  go_quiet (fail)
  go_wp2
  clear g
  go_loopw [8, 9] (fun v i wr => ∃ j t n : Nat, j ≤ size ∧ Hid (t = 1 + j) ∧ v = .int .u64 (numTo (l.drop k) j : Int) ∧ i = .int .i64 (t : Int) ∧ wr = w.drewN n) (fun _ i _ => size + 1 - (intOf i).toNat)
  case atStart => exact ⟨0, 1, _, by omega, rfl, rfl, rfl, rfl⟩
  case round =>
    obtain ⟨j, t, n, hj, ht, rfl, rfl, hww⟩ := hrel
    have ht1 := ht.out
    rw [hww]; clear hww wr
    by_cases hjl : j < size
    · have hlt2 : (t : Int) ≤ (size : Int) := by omega
      have g := HC.out (k + t) (by omega)
      have hx := (nth l (k + t)).toNat_lt
      have h7 := numTo_lt7 (l.drop k) j (by omega)
      have HV : Hid (numTo (l.drop k) (j + 1) = numTo (l.drop k) j * 256 + (nth l (k + t)).toNat) := by
        unfold Hid; rw [numTo, nth_drop, ht1]
      have hm7 : numTo (l.drop k) j * 256 + (nth l (k + t)).toNat < 18446744073709551616 := by
        rw [← HV.out]; exact numTo_lt64 _ _ (by omega)
      have hb1 : (k : Int) + (t : Int) < (len : Int) := by omega
      have hidx : ((k : Int) + (t : Int)).toNat = k + t := by omega
      have ht8 : t ≤ 8 := by omega
      clear ht1
      generalize numTo (l.drop k) j = N at *
      generalize (nth l (k + t)).toNat = Y at *
      go_wp2
      go_quiet (fail)
      go_wp2
      go_roundw
      case rel => exact ⟨j + 1, t + 1, _, by omega, by have := ht.out; unfold Hid; omega, by rw [HV.out]; go_num, by go_num, rfl⟩
      case measure => have := ht.out; simp [intOf]; omega
    · have e : j = size := by omega
      have hlt2 : ¬ ((t : Int) ≤ (size : Int)) := by omega
      have HE : Hid (j = size) := e
      clear e ht1
      go_wp2
      go_ret2
      rw [HE.out]
      exact ⟨rfl, _, rfl⟩
end Go.Proofs.Ytooffagdbppmaaa
namespace Go.Proofs.Ytooffagdbppmaaa
open Go.RowKit
attribute [local go_sem ↓] Go.wp_at_zero Go.wp_at_succ

theorem rdUint_ok {l : List UInt8} {br : Bool} (h : okH l br 117 8 = true) : rdUint l br = (numTo l 8, l.drop 9, false) := by unfold rdUint; rw [h]; rfl
theorem rdUint_no {l : List UInt8} {br : Bool} (h : okH l br 117 8 = false) : rdUint l br = (0, l, true) := by unfold rdUint; rw [h]; rfl

set_option maxRecDepth 20000 in
set_option maxHeartbeats 1000000 in
theorem xUint (X : Nat) (a : Option Addr) (len cap : Nat) (l : List UInt8) (k : Nat) (bad : Bool) (w : World) (h : IsX w X a len cap l k bad) :
    Calls Try.prog 44 #[.pointer (some ⟨X, 0, none⟩)] w fun e w' => e = .returned (.int .u64 ((rdUint (l.drop k) bad).1 : Int)) ∧ (∃ k', IsX w' X a len cap l k' (rdUint (l.drop k) bad).2.2 ∧ (rdUint (l.drop k) bad).2.1 = l.drop k') ∧ w.grownBy w' (some X) := by
  have H : Hid (IsX w X a len cap l k bad) := h
  clear h
  cases hok : okH (l.drop k) bad 117 8
  · have HO : Hid (okH (l.drop k) bad 117 8 = false) := hok
    rw [rdUint_no hok]
    clear hok
    go_enter Try.func44, Try.ntmps44
    go_wp2_with fail
    refine (xnumNo X a len cap l k bad 117 8 w H.out (by omega) HO.out).mono ?_
    rintro e w1 ⟨rfl, hr, hg⟩
    go_wp2_with fail
    go_ret
    exact ⟨rfl, ⟨k, hr, rfl⟩, hg⟩
  · have HO : Hid (okH (l.drop k) bad 117 8 = true) := hok
    rw [rdUint_ok hok]
    obtain ⟨hb, h1, _⟩ := okX_of H.out.2.1.len_eq hok
    clear hok
    have hmx := H.out.2.1.max
    have hle := H.out.2.1.le
    unfold maxLen at hmx
    obtain ⟨m, hm⟩ : ∃ m, numTo (l.drop k) 8 = m := ⟨_, rfl⟩
    have Hm : Hid (numTo (l.drop k) 8 = m) := hm
    rw [hm]; clear hm
    go_enter Try.func44, Try.ntmps44
    go_wp2_with fail
    refine (xnumOk X a len cap l k bad 117 8 w H.out (by omega) HO.out).mono ?_
    rintro e w1 ⟨rfl, n1, hw⟩
    rw [Hm.out]
    have H1 : Hid (IsX w1 X a len cap l k bad) := by rw [hw]; exact H.out.drewN n1
    have G1 : w.grownBy w1 (some X) := by rw [hw]; exact gr_drewN w n1 _
    clear hw
    have c1 := H1.out.1.cell 1
    have f1 := H1.out.1.frozen 1
    simp only [xcell, List.getElem?_cons_zero, List.getElem?_cons_succ] at c1
    have HX : Hid (IsX (w1.setCell ⟨X, 1, none⟩ (.int .i64 ((k : Int) + 9))) X a len cap l (k + 9) bad) := by
      have := H1.out.at (k + 9) (by omega)
      rw [show ((k + 9 : Nat) : Int) = (k : Int) + 9 by omega] at this
      exact this
    go_wp2_with fail
    go_ret
    exact ⟨rfl, ⟨k + 9, by rw [← hb]; exact HX.out, by rw [List.drop_drop]⟩, gr_trans G1 (gr_set _ _ _ _)⟩

theorem rdList_ok {l : List UInt8} {br : Bool} {most : Int} (h : okH l br 108 4 = true) (hm : (numTo l 4 : Int) ≤ most) : rdList l br most = (numTo l 4, l.drop 5, false) := by unfold rdList okL; rw [h]; simp [hm]
theorem rdList_no {l : List UInt8} {br : Bool} {most : Int} (h : okH l br 108 4 = false) : rdList l br most = (0, l, true) := by unfold rdList okL; rw [h]; rfl
theorem rdList_big {l : List UInt8} {br : Bool} {most : Int} (hm : ¬ (numTo l 4 : Int) ≤ most) : rdList l br most = (0, l, true) := by unfold rdList okL; simp [hm]

end Go.Proofs.Ytooffagdbppmaaa
namespace Go.Proofs.Ytooffagdbppmaaa
open Go.RowKit
attribute [local go_sem ↓] Go.wp_at_zero Go.wp_at_succ

set_option maxRecDepth 20000 in
/-- append(out, b...), of a slice that isn't nil, in a region that draws -/
theorem step_appS {ops : Array Oper} {o : Oper} {a : Act} {K : Act → World → Prop} {Q : Exit → Act → World → Prop} {E : Prop} (w : World) (hgd : o.guard = none) (s x : Operand)
    (ho : o.op = .call { callee := .builtin .append, args := #[s, x], argTypes := #[24, 24] }) (base : Nat)
    (v : Value) (l : List UInt8) (hs : a.eval s = v) (hown : OwnB w base v l) (ad : Addr) (m c : Nat) (news : List UInt8) (hx : a.eval x = .slice (some ad) m c) (hB : IsB w (some ad) m c news)
    (hbytes : l.length + m ≤ 140737488355328) (hbase : base ≤ w.heap.size)
    (h : ∀ v' w', OwnB w' base v' (l ++ news) → w.grownBy w' v.ownBlock → K (a.put o.dst v') w') :
    if Region.wanted o (yielded ops a.tmps) = true then Oper.wp Try.prog o a w K Q else E := by
  obtain ⟨i0, hi, hz0, hz1, hz2⟩ := info_parts info8
  have hw : Region.wanted o (yielded ops a.tmps) = true := by simp [Region.wanted, hgd]
  rw [if_pos hw]
  have hnews : ∀ j u, (bv news)[j]? = some u → w.cell? (ad.add j) = some u := by
    intro j u hj
    have hjl : j < news.length := by
      rcases Nat.lt_or_ge j news.length with h | h
      · exact h
      · rw [List.getElem?_eq_none (by rw [bv_length]; exact h)] at hj; cases hj
    have hl := hB.len_eq
    obtain ⟨b, off, e, hc⟩ := hB.cells (by omega)
    injection e with e
    rw [bv_at news j hjl] at hj
    rw [e, Addr.add_lit, hc j (by omega)]; exact hj
  obtain ⟨v', w', hr, h2, h3, _⟩ := run_append_own (P := Try.prog) w base 24 o.type 5 i0 (.int .u8 0) 1 1 Try.underlying24 hi hz0 hz1 hz2 rfl (by omega) v l.length (bv l) hown ad m c (bv news) (by rw [bv_length, hB.len_eq]; omega) hnews (bv_one news) (by unfold maxLen; omega) (by omega) hbase
  unfold Oper.wp execOp
  simp only [ho, resolve, invoke, builtin, Sem.run_bind, Sem.run_pure, Result.andThen_ok, List.map_toArray, List.map_cons, List.map_nil, hs, hx, hr]
  exact h v' w' (by unfold OwnB; rw [bv_append, List.length_append, hB.len_eq]; exact h2) h3

set_option maxRecDepth 20000 in
set_option maxHeartbeats 1000000 in
theorem xsomeNo (X : Nat) (a : Option Addr) (len cap : Nat) (l : List UInt8) (k : Nat) (bad : Bool) (mark : UInt8) (w : World) (h : IsX w X a len cap l k bad) (hno : okB (l.drop k) bad mark = false) :
    Calls Try.prog 65 #[.pointer (some ⟨X, 0, none⟩), .int .u8 (mark.toNat : Int)] w fun e w' => e = .returned (.slice none 0 0) ∧ IsX w' X a len cap l k true ∧ w.grownBy w' (some X) := by
  have H : Hid (IsX w X a len cap l k bad) := h
  clear h
  have hmx := H.out.2.1.max
  have hle := H.out.2.1.le
  unfold maxLen at hmx
  cases hok : okH (l.drop k) bad mark 4
  · have HO : Hid (okH (l.drop k) bad mark 4 = false) := hok
    clear hok hno
    go_enter Try.func65, Try.ntmps65
    go_wp2_with fail
    refine (xnumNo X a len cap l k bad mark 4 w H.out (by omega) HO.out).mono ?_
    rintro e w1 ⟨rfl, hr, hg⟩
    have c2 := hr.1.cell 2
    have f2 := hr.1.frozen 2
    have HR : Hid (IsX w1 X a len cap l k true) := hr
    clear hr
    simp only [xcell, List.getElem?_cons_zero, List.getElem?_cons_succ] at c2
    go_wp2_with fail
    go_quiet (fail)
    go_wp2
    go_ret
    exact ⟨rfl, (HR.out.drewN _).bad, gr_trans hg (gr_trans (gr_drewN w1 _ _) (gr_set _ _ _ _))⟩
  · have HO : Hid (okH (l.drop k) bad mark 4 = true) := hok
    obtain ⟨hb, h1, _⟩ := okX_of H.out.2.1.len_eq hok
    have hlen : len < k + 5 + numTo (l.drop k) 4 := by
      have e := H.out.2.1.len_eq
      rcases Nat.lt_or_ge len (k + 5 + numTo (l.drop k) 4) with h2 | h2
      · exact h2
      · unfold okB at hno
        rw [hok, List.length_drop, e] at hno
        simp at hno
        omega
    have hnum := numTo_lt4 (l.drop k)
    obtain ⟨m, hm⟩ : ∃ m, numTo (l.drop k) 4 = m := ⟨_, rfl⟩
    have Hm : Hid (numTo (l.drop k) 4 = m) := hm
    rw [hm] at hnum hlen; clear hm
    clear hok hno
    go_enter Try.func65, Try.ntmps65
    go_wp2_with fail
    refine (xnumOk X a len cap l k bad mark 4 w H.out (by omega) HO.out).mono ?_
    rintro e w1 ⟨rfl, n1, hw⟩
    rw [Hm.out]
    have H1 : Hid (IsX w1 X a len cap l k bad) := by rw [hw]; exact H.out.drewN n1
    have G1 : w.grownBy w1 (some X) := by rw [hw]; exact gr_drewN w n1 _
    clear hw
    have c0 := H1.out.1.cell 0
    have c1 := H1.out.1.cell 1
    have c2 := H1.out.1.cell 2
    have f2 := H1.out.1.frozen 2
    simp only [xcell, List.getElem?_cons_zero, List.getElem?_cons_succ] at c0 c1 c2
    have hgt : (len : Int) - (k : Int) - 5 < (m : Int) := by omega
    have hnn : (0 : Int) ≤ (len : Int) - (k : Int) - 5 := by omega
    go_wp2_with fail
    go_quiet (fail)
    go_wp2
    go_ret
    exact ⟨rfl, (H1.out.drewN _).bad, gr_trans G1 (gr_trans (gr_drewN w1 _ _) (gr_set _ _ _ _))⟩
end Go.Proofs.Ytooffagdbppmaaa
namespace Go.Proofs.Ytooffagdbppmaaa
open Go.RowKit
attribute [local go_sem ↓] Go.wp_at_zero Go.wp_at_succ slLH

theorem rdX_ok {l : List UInt8} {k : Nat} {bad : Bool} {mark : UInt8} {len : Nat} (hlen : l.length = len) (h : okB (l.drop k) bad mark = true) : okH (l.drop k) bad mark 4 = true ∧ bad = false ∧ k + 5 + numTo (l.drop k) 4 ≤ len := by
  unfold okB at h
  rw [Bool.and_eq_true, decide_eq_true_eq] at h
  obtain ⟨h1, h2, _⟩ := okX_of hlen h.1
  have := h.2
  rw [List.length_drop, hlen] at this
  exact ⟨h.1, h1, by omega⟩

/-- a store into an old block leaves what the call owns -/
theorem OwnB.setOther {w : World} {base : Nat} {v : Value} {l : List UInt8} (h : OwnB w base v l) (a : Addr) (u : Value) (ha : a.block < base) : OwnB (w.setCell a u) base v l := by
  refine ⟨h.1, ?_⟩
  rcases h.2 with h2 | ⟨g, cap, cur, h3, h4, h5, h6⟩
  · exact .inl h2
  · exact .inr ⟨g, cap, cur, h3, h4, by rw [heap_setCell_other w a g u (by omega)]; exact h5, h6⟩

theorem wrapi64_5 (k p : Nat) (h : k + 5 = p) (hp : p ≤ 9223372036854775807) : IntKind.i64.wrap ((k : Int) + 5) = (p : Int) := by
  rw [wrapi64_in _ (by omega) (by omega)]; omega

set_option maxRecDepth 20000 in
set_option maxHeartbeats 1000000 in
theorem xsomeOk (X : Nat) (a : Option Addr) (len cap : Nat) (l : List UInt8) (k : Nat) (bad : Bool) (mark : UInt8) (w : World) (h : IsX w X a len cap l k bad) (hl : len ≤ 140737488351232) (hok : okB (l.drop k) bad mark = true) :
    Calls Try.prog 65 #[.pointer (some ⟨X, 0, none⟩), .int .u8 (mark.toNat : Int)] w fun e w' => ∃ v, e = .returned v ∧ OwnB w' w.heap.size v (((l.drop k).drop 5).take (numTo (l.drop k) 4)) ∧ IsX w' X a len cap l (k + 5 + numTo (l.drop k) 4) false ∧ w.grownBy w' (some X) := by
  have H : Hid (IsX w X a len cap l k bad) := h
  clear h
  have hmx := H.out.2.1.max
  have hle := H.out.2.1.le
  unfold maxLen at hmx
  obtain ⟨hoh, hb, hlen⟩ := rdX_ok H.out.2.1.len_eq hok
  have HO : Hid (okH (l.drop k) bad mark 4 = true) := hoh
  clear hok hoh
  subst hb
  obtain ⟨m, hm⟩ : ∃ m, numTo (l.drop k) 4 = m := ⟨_, rfl⟩
  have Hm : Hid (numTo (l.drop k) 4 = m) := hm
  rw [hm] at hlen ⊢; clear hm
  obtain ⟨b, off, rfl, right⟩ := H.out.2.1.cells (by omega)
  have hbX : b ≠ X := H.out.2.2.1 (by omega) _ rfl
  obtain ⟨p, hp⟩ : ∃ p, k + 5 = p := ⟨_, rfl⟩
  obtain ⟨q, hq⟩ : ∃ q, p + m = q := ⟨_, rfl⟩
  have hw1 := wrapi64_5 k p hp (by omega)
  have hw2 : IntKind.i64.wrap ((p : Int) + (m : Int)) = (q : Int) := by rw [wrapi64_in _ (by omega) (by omega)]; omega
  have hw3 : IntKind.i64.wrap (m : Int) = (m : Int) := wrapi64_in _ (by omega) (by omega)
  obtain ⟨o2, ho2⟩ := cutA_some b off cap p
  have hpq : p ≤ q := by omega
  have hqc : q ≤ cap := by omega
  have hqp : q - p = m := by omega
  have HS : Hid (∀ w1, IsX w1 X (some ⟨b, off, none⟩) len cap l k false → IsB w1 (some ⟨b, o2, none⟩) m (cap - p) (((l.drop k).drop 5).take m)) := by
    intro w1 h1
    have := (h1.2.1.cut p (by omega))
    rw [ho2] at this
    have := this.head m (by omega)
    rw [List.drop_drop, hp]; exact this
  have HP : Hid (k + 5 = p) := hp
  have HQ : Hid (p + m = q) := hq
  go_enter Try.func65, Try.ntmps65
  go_wp2_with fail
  refine (xnumOk X (some ⟨b, off, none⟩) len cap l k false mark 4 w H.out (by omega) HO.out).mono ?_
  rintro e w1 ⟨rfl, n1, hw⟩
  rw [Hm.out]
  have H1 : Hid (IsX w1 X (some ⟨b, off, none⟩) len cap l k false) := by rw [hw]; exact H.out.drewN n1
  have G1 : w.grownBy w1 (some X) := by rw [hw]; exact gr_drewN w n1 _
  clear hw
  have c0 := H1.out.1.cell 0
  have c1 := H1.out.1.cell 1
  simp only [xcell, List.getElem?_cons_zero, List.getElem?_cons_succ] at c0 c1
  have hgt : decide ((len : Int) - (k : Int) - 5 < (m : Int)) = false := decide_eq_false (by omega)
  have hnn : (0 : Int) ≤ (len : Int) - (k : Int) - 5 := by omega
  go_wp2_with fail
  go_quiet (fail)
  go_wp2
  have H2 : Hid (IsX (w1.drewN nq) X (some ⟨b, off, none⟩) len cap l k false) := H1.out.drewN nq
  have G2 : w.grownBy (w1.drewN nq) (some X) := gr_trans G1 (gr_drewN w1 nq _)
  generalize w1.drewN nq = w2 at *
  clear c0 c1 G1 H1 hgt hnn
  have c0 := H2.out.1.cell 0
  have c1 := H2.out.1.cell 1
  simp only [xcell, List.getElem?_cons_zero, List.getElem?_cons_succ] at c0 c1
  have hXlt : X < w2.heap.size := H2.out.1.lt
  have hB2 := HS.out w2 H2.out
  have HB2 : Hid (IsB w2 (some ⟨b, o2, none⟩) m (cap - p) (((l.drop k).drop 5).take m)) := hB2
  clear hB2 hp hq right
  have bel0 : Below w2.heap.size w2 (w2.alloc (.cells #[] 5)).drew := ((Below.refl _ _).alloc (Nat.le_refl _) _).drew
  have K0 : Hid ((w2.alloc (.cells #[] 5)).drew.cell? ⟨X, 0, none⟩ = some (.slice (some ⟨b, off, none⟩) len cap)) := (bel0.cell (p := ⟨X, 0, none⟩) hXlt).trans c0
  have K1 : Hid ((w2.alloc (.cells #[] 5)).drew.cell? ⟨X, 1, none⟩ = some (.int .i64 (k : Int))) := (bel0.cell (p := ⟨X, 1, none⟩) hXlt).trans c1
  have hXne : X ≠ w2.heap.size := by omega
  go_region_held3 (fun w' => w'.cell? ⟨X, 0, none⟩ = some (.slice (some ⟨b, off, none⟩) len cap) ∧ w'.cell? ⟨X, 1, none⟩ = some (.int .i64 (k : Int)))
    (first | go_keep | (exact ⟨(hgrow3.cell_far ⟨X, 0, none⟩ (by simp; omega) (by simpa [Value.ownBlock] using hXne)).trans K0.out, (hgrow3.cell_far ⟨X, 1, none⟩ (by simp; omega) (by simpa [Value.ownBlock] using hXne)).trans K1.out⟩))
    ((refine step_appS _ (by rfl) _ _ (by rfl) w2.heap.size _ [] (by rfl) ((OwnB.empty w2 w2.heap.size (Nat.le_refl _)).heap rfl) ⟨b, o2, none⟩ m (cap - p) (((l.drop k).drop 5).take m) (by rfl) (HB2.out.below bel0 rfl) (by simp; omega) (by simp) ?_; intro v3 w3 hown3 hgrow3))
  all_goals
    have bel3 : Below w2.heap.size w2 w3 := bel0.grown hgrow3 (by simp) (fun j hj => by simp [Value.ownBlock] at hj; omega)
    have H3 : Hid (IsX w3 X (some ⟨b, off, none⟩) len cap l k false) := ⟨H2.out.1.on bel3, H2.out.2.1.below bel3 rfl, H2.out.2.2.1, H2.out.2.2.2⟩
    have c1' := H3.out.1.cell 1
    have f1' := H3.out.1.frozen 1
    simp only [xcell, List.getElem?_cons_zero, List.getElem?_cons_succ] at c1'
    have HX : Hid (IsX (w3.setCell ⟨X, 1, none⟩ (.int .i64 ((k : Int) + 5 + (m : Int)))) X (some ⟨b, off, none⟩) len cap l (k + 5 + m) false) := by
      have := H3.out.at (k + 5 + m) (by omega)
      rw [show ((k + 5 + m : Nat) : Int) = (k : Int) + 5 + (m : Int) by omega] at this
      exact this
    have HOwn : Hid (OwnB (w3.setCell ⟨X, 1, none⟩ (.int .i64 ((k : Int) + 5 + (m : Int)))) w2.heap.size v3 (((l.drop k).drop 5).take m)) := by
      have h0 : OwnB w3 w2.heap.size v3 (((l.drop k).drop 5).take m) := hown3
      exact h0.setOther ⟨X, 1, none⟩ _ hXlt
    have G3 : w.grownBy w3 (some X) := gr_trans G2 (gr_bel bel3 rfl _)
    clear c0 c1 hw1 hw2 hw3 hown3
    go_wp2
    go_ret
    exact ⟨_, rfl, HOwn.out.base G2.size, HX.out, gr_trans G3 (gr_set _ _ _ _)⟩
end Go.Proofs.Ytooffagdbppmaaa
namespace Go.Proofs.Ytooffagdbppmaaa
open Go.RowKit
attribute [local go_sem ↓] Go.wp_at_zero Go.wp_at_succ

theorem xsome (X : Nat) (a : Option Addr) (len cap : Nat) (l : List UInt8) (k : Nat) (bad : Bool) (mark : UInt8) (w : World) (h : IsX w X a len cap l k bad) (hl : len ≤ 140737488351232) :
    Calls Try.prog 65 #[.pointer (some ⟨X, 0, none⟩), .int .u8 (mark.toNat : Int)] w fun e w' => ∃ v, e = .returned v ∧ OwnB w' w.heap.size v (rdSome mark (l.drop k) bad).1 ∧ (∃ k', IsX w' X a len cap l k' (rdSome mark (l.drop k) bad).2.2 ∧ (rdSome mark (l.drop k) bad).2.1 = l.drop k') ∧ w.grownBy w' (some X) := by
  cases hok : okB (l.drop k) bad mark
  · rw [rdSome_no hok]
    refine (xsomeNo X a len cap l k bad mark w h hok).mono ?_
    rintro e w' ⟨h1, h2, h3⟩
    exact ⟨_, h1, OwnB.nil _ _, ⟨k, h2, rfl⟩, h3⟩
  · rw [rdSome_ok hok]
    refine (xsomeOk X a len cap l k bad mark w h hl hok).mono ?_
    rintro e w' ⟨v, h1, h2, h3, h4⟩
    exact ⟨v, h1, h2, ⟨_, h3, by show (l.drop k).drop (5 + numTo (l.drop k) 4) = _; rw [List.drop_drop, Nat.add_assoc]⟩, h4⟩

set_option maxHeartbeats 1000000 in
theorem xBytes (X : Nat) (a : Option Addr) (len cap : Nat) (l : List UInt8) (k : Nat) (bad : Bool) (w : World) (h : IsX w X a len cap l k bad) (hl : len ≤ 140737488351232) :
    Calls Try.prog 46 #[.pointer (some ⟨X, 0, none⟩)] w fun e w' => ∃ v, e = .returned v ∧ OwnB w' w.heap.size v (rdSome 98 (l.drop k) bad).1 ∧ (∃ k', IsX w' X a len cap l k' (rdSome 98 (l.drop k) bad).2.2 ∧ (rdSome 98 (l.drop k) bad).2.1 = l.drop k') ∧ w.grownBy w' (some X) := by
  have H : Hid (IsX w X a len cap l k bad) := h
  clear h
  go_enter Try.func46, Try.ntmps46
  go_wp2_with fail
  refine (xsome X a len cap l k bad 98 w H.out hl).mono ?_
  rintro e w1 ⟨v, rfl, h1, h2, h3⟩
  go_wp2_with fail
  go_ret
  exact ⟨_, rfl, h1, h2, h3⟩

set_option maxHeartbeats 1000000 in
theorem xText (X : Nat) (a : Option Addr) (len cap : Nat) (l : List UInt8) (k : Nat) (bad : Bool) (w : World) (h : IsX w X a len cap l k bad) (hl : len ≤ 140737488351232) :
    Calls Try.prog 45 #[.pointer (some ⟨X, 0, none⟩)] w fun e w' => e = .returned (.string ⟨(rdSome 115 (l.drop k) bad).1.toArray⟩) ∧ (∃ k', IsX w' X a len cap l k' (rdSome 115 (l.drop k) bad).2.2 ∧ (rdSome 115 (l.drop k) bad).2.1 = l.drop k') ∧ w.grownBy w' (some X) := by
  have H : Hid (IsX w X a len cap l k bad) := h
  clear h
  obtain ⟨t, ht⟩ : ∃ t, (rdSome 115 (l.drop k) bad).1 = t := ⟨_, rfl⟩
  have HT : Hid ((rdSome 115 (l.drop k) bad).1 = t) := ht
  rw [ht]; clear ht
  go_enter Try.func45, Try.ntmps45
  go_wp2_with fail
  refine (xsome X a len cap l k bad 115 w H.out hl).mono ?_
  rintro e w1 ⟨v, rfl, h1, h2, h3⟩
  rw [HT.out] at h1
  obtain ⟨x, c, rfl, hi⟩ := h1.isB
  have hcv := conv_isB w1 _ _ _ _ hi
  clear h1 hi
  obtain ⟨k2, hx2, hd2⟩ := h2
  have HX2 : Hid (IsX w1 X a len cap l k2 (rdSome 115 (l.drop k) bad).2.2) := hx2
  have HD2 : Hid ((rdSome 115 (l.drop k) bad).2.1 = l.drop k2) := hd2
  clear hx2 hd2
  go_wp2_with fail
  go_ret
  exact ⟨rfl, ⟨k2, HX2.out, HD2.out⟩, h3⟩
end Go.Proofs.Ytooffagdbppmaaa
