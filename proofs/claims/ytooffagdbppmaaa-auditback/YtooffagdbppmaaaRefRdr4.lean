/- The document's reader: Bytes, Text. -/
import Derived.Test.YtooffagdbppmaaaRefRdr2
import Derived.Deep.RegionHeld3
namespace Go.Proofs.Ytooffagdbppmaaa
open Go.RowKit
attribute [local go_sem ↓] Go.wp_at_zero Go.wp_at_succ

set_option maxRecDepth 20000 in
/-- append(out, b...), of a slice that isn't nil, in a region that draws -/
theorem step_appS {ops : Array Oper} {o : Oper} {a : Act} {K : Act → World → Prop} {Q : Exit → Act → World → Prop} {E : Prop} (w : World) (hgd : o.guard = none) (s x : Operand)
    (ho : o.op = .call { callee := .builtin .append, args := #[s, x], argTypes := #[24, 24] }) (base : Nat)
    (v : Value) (l : List UInt8) (hs : a.eval s = v) (hown : OwnB w base v l) (ad : Addr) (m c : Nat) (news : List UInt8) (hx : a.eval x = .slice (some ad) m c) (hB : IsB w (some ad) m c news)
    (hbytes : l.length + m ≤ 140737488355328) (hbase : base ≤ w.heap.size)
    (h : ∀ v' w', OwnB w' base v' (l ++ news) → w.grownBy w' v.ownBlock → K (a.put o.dst v') w') :
    if Region.wanted o (yielded ops a.tmps) = true then Oper.wp Try.prog o a w K Q else E := by
  obtain ⟨i0, hi, hz0, hz1, hz2⟩ := info_parts info8
  have hw : Region.wanted o (yielded ops a.tmps) = true := by simp [Region.wanted, hgd]
  rw [if_pos hw]
  have hnews : ∀ j u, (bv news)[j]? = some u → w.cell? (ad.add j) = some u := by
    intro j u hj
    have hjl : j < news.length := by
      rcases Nat.lt_or_ge j news.length with h | h
      · exact h
      · rw [List.getElem?_eq_none (by rw [bv_length]; exact h)] at hj; cases hj
    have hl := hB.len_eq
    obtain ⟨b, off, e, hc⟩ := hB.cells (by omega)
    injection e with e
    rw [bv_at news j hjl] at hj
    rw [e, Addr.add_lit, hc j (by omega)]; exact hj
  obtain ⟨v', w', hr, h2, h3, _⟩ := run_append_own (P := Try.prog) w base 24 o.type 5 i0 (.int .u8 0) 1 1 Try.underlying24 hi hz0 hz1 hz2 rfl (by omega) v l.length (bv l) hown ad m c (bv news) (by rw [bv_length, hB.len_eq]; omega) hnews (bv_one news) (by unfold maxLen; omega) (by omega) hbase
  unfold Oper.wp execOp
  simp only [ho, resolve, invoke, builtin, Sem.run_bind, Sem.run_pure, Result.andThen_ok, List.map_toArray, List.map_cons, List.map_nil, hs, hx, hr]
  exact h v' w' (by unfold OwnB; rw [bv_append, List.length_append, hB.len_eq]; exact h2) h3

set_option maxRecDepth 20000 in
set_option maxHeartbeats 1000000 in
theorem xsomeNo (X : Nat) (a : Option Addr) (len cap : Nat) (l : List UInt8) (k : Nat) (bad : Bool) (mark : UInt8) (w : World) (h : IsX w X a len cap l k bad) (hno : okB (l.drop k) bad mark = false) :
    Calls Try.prog 65 #[.pointer (some ⟨X, 0, none⟩), .int .u8 (mark.toNat : Int)] w fun e w' => e = .returned (.slice none 0 0) ∧ IsX w' X a len cap l k true ∧ w.grownBy w' (some X) := by
  have H : Hid (IsX w X a len cap l k bad) := h
  clear h
  have hmx := H.out.2.1.max
  have hle := H.out.2.1.le
  unfold maxLen at hmx
  cases hok : okH (l.drop k) bad mark 4
  · have HO : Hid (okH (l.drop k) bad mark 4 = false) := hok
    clear hok hno
    go_enter Try.func65, Try.ntmps65
    go_wp2_with fail
    refine (xnumNo X a len cap l k bad mark 4 w H.out (by omega) HO.out).mono ?_
    rintro e w1 ⟨rfl, hr, hg⟩
    have c2 := hr.1.cell 2
    have f2 := hr.1.frozen 2
    have HR : Hid (IsX w1 X a len cap l k true) := hr
    clear hr
    simp only [xcell, List.getElem?_cons_zero, List.getElem?_cons_succ] at c2
    go_wp2_with fail
    go_quiet (fail)
    go_wp2
    go_ret
    exact ⟨rfl, (HR.out.drewN _).bad, gr_trans hg (gr_trans (gr_drewN w1 _ _) (gr_set _ _ _ _))⟩
  · have HO : Hid (okH (l.drop k) bad mark 4 = true) := hok
    obtain ⟨hb, h1, _⟩ := okX_of H.out.2.1.len_eq hok
    have hlen : len < k + 5 + numTo (l.drop k) 4 := by
      have e := H.out.2.1.len_eq
      rcases Nat.lt_or_ge len (k + 5 + numTo (l.drop k) 4) with h2 | h2
      · exact h2
      · unfold okB at hno
        rw [hok, List.length_drop, e] at hno
        simp at hno
        omega
    have hnum := numTo_lt4 (l.drop k)
    obtain ⟨m, hm⟩ : ∃ m, numTo (l.drop k) 4 = m := ⟨_, rfl⟩
    have Hm : Hid (numTo (l.drop k) 4 = m) := hm
    rw [hm] at hnum hlen; clear hm
    clear hok hno
    go_enter Try.func65, Try.ntmps65
    go_wp2_with fail
    refine (xnumOk X a len cap l k bad mark 4 w H.out (by omega) HO.out).mono ?_
    rintro e w1 ⟨rfl, n1, hw⟩
    rw [Hm.out]
    have H1 : Hid (IsX w1 X a len cap l k bad) := by rw [hw]; exact H.out.drewN n1
    have G1 : w.grownBy w1 (some X) := by rw [hw]; exact gr_drewN w n1 _
    clear hw
    have c0 := H1.out.1.cell 0
    have c1 := H1.out.1.cell 1
    have c2 := H1.out.1.cell 2
    have f2 := H1.out.1.frozen 2
    simp only [xcell, List.getElem?_cons_zero, List.getElem?_cons_succ] at c0 c1 c2
    have hgt : (len : Int) - (k : Int) - 5 < (m : Int) := by omega
    have hnn : (0 : Int) ≤ (len : Int) - (k : Int) - 5 := by omega
    go_wp2_with fail
    go_quiet (fail)
    go_wp2
    go_ret
    exact ⟨rfl, (H1.out.drewN _).bad, gr_trans G1 (gr_trans (gr_drewN w1 _ _) (gr_set _ _ _ _))⟩
end Go.Proofs.Ytooffagdbppmaaa
