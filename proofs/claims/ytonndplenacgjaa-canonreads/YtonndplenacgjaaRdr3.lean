/- canon's reader: body, and what is read by it. -/
import Derived.Test.YtonndplenacgjaaRdr2
namespace Go.Proofs.Ytonndplenacgjaa
open Go.RowKit
attribute [local go_sem ↓] Go.wp_at_zero Go.wp_at_succ

theorem cutA_some (b off cap m : Nat) : ∃ o2, cutA b off cap m = some ⟨b, o2, none⟩ := by
  unfold cutA; split
  · exact ⟨off, rfl⟩
  · exact ⟨off + m, rfl⟩

theorem IsB.setOther {w : World} {a : Option Addr} {len cap : Nat} {l : List UInt8} (h : IsB w a len cap l) (B j : Nat) (v : Value) (hne : 0 < len → ∀ x, a = some x → x.block ≠ B) : IsB (w.setCell ⟨B, j, none⟩ v) a len cap l :=
  ⟨h.len_eq, h.le, h.max, h.nil, fun hp => by
    obtain ⟨b, off, e, hc⟩ := h.cells hp
    refine ⟨b, off, e, fun i hl => ?_⟩
    rw [World.cell?_setCell_other _ _ _ _ (fun e' => hne hp _ e (by injection e' with e1; exact e1.symm))]
    exact hc i hl⟩

/-- the reader goes on: its rest is another one -/
theorem isR_rest {w : World} {B : Nat} {a a' : Option Addr} {n cap n' cap' : Nat} {br : Bool} {l' : List UInt8} (hb : Blk w B 65 (rcell a n cap br)) (hi : IsB w a' n' cap' l') (hne : ∀ x, a' = some x → x.block ≠ B) :
    IsR (w.setCell ⟨B, 0, none⟩ (.slice a' n' cap')) B l' br := by
  have e := hi.len_eq
  subst e
  exact ⟨a', cap', hb.set 0 (.slice a' l'.length cap'), hi.setOther B 0 _ (fun _ => hne), hne⟩

theorem sl5 (b off r cap : Nat) (hm : 5 ≤ r) (w : World) : (Instr.slice 22 (.slice (some ⟨b, off, none⟩) r cap) (some (.int .i64 5)) none none).run Try.prog w = .ok (.slice (cutA b off cap 5) (r - 5) (cap - 5)) w := slK .i64 b off r cap 5 hm w
theorem sl9 (b off r cap : Nat) (hm : 9 ≤ r) (w : World) : (Instr.slice 22 (.slice (some ⟨b, off, none⟩) r cap) (some (.int .i64 9)) none none).run Try.prog w = .ok (.slice (cutA b off cap 9) (r - 9) (cap - 9)) w := slK .i64 b off r cap 9 hm w
theorem slo1 (b off r cap : Nat) (hm : 1 ≤ r) (w : World) : (Instr.slice 22 (.slice (some ⟨b, off, none⟩) r cap) (some (.int .i64 1)) none none).run Try.prog w = .ok (.slice (cutA b off cap 1) (r - 1) (cap - 1)) w := slK .i64 b off r cap 1 hm w
attribute [local go_sem ↓] sl5 sl9 slo1 slK slH

/-- may bytes behind that mark be read? -/
def okB (l : List UInt8) (br : Bool) (mark : UInt8) : Bool := okH l br mark 4 && decide (5 + numTo l 4 ≤ l.length)

set_option maxRecDepth 20000 in
set_option maxHeartbeats 1000000 in
theorem cbodyOk (B : Nat) (l : List UInt8) (br : Bool) (mark : UInt8) (w : World) (h : IsR w B l br) (hok : okB l br mark = true) :
    Calls Try.prog 43 #[.pointer (some ⟨B, 0, none⟩), .int .u8 (mark.toNat : Int)] w fun e w' => ∃ b off cap, e = .returned (.slice (some ⟨b, off, none⟩) (numTo l 4) cap) ∧ b ≠ B ∧ IsB w' (some ⟨b, off, none⟩) (numTo l 4) cap ((l.drop 5).take (numTo l 4)) ∧ IsR w' B (l.drop (5 + numTo l 4)) false ∧ w.grownBy w' (some B) := by
  have H : Hid (IsR w B l br) := h
  unfold okB at hok
  rw [Bool.and_eq_true, decide_eq_true_eq] at hok
  obtain ⟨hok, hlen⟩ := hok
  have HO : Hid (okH l br mark 4 = true) := hok
  obtain ⟨hbr, hl, _⟩ := okH_of hok
  obtain ⟨a, cap, hb, hi, hne⟩ := h
  have c0 := hb.cell 0
  have f0 := hb.frozen 0
  have hmx := hi.max
  have hle := hi.le
  unfold maxLen at hmx
  have HI : Hid (IsB w a l.length cap l) := hi
  have HB : Hid (Blk w B 65 (rcell a l.length cap br)) := hb
  clear hb hi
  simp only [rcell, List.getElem?_cons_zero] at c0
  generalize hn : l.length = n at *
  have HN : Hid (l.length = n) := hn
  clear hn
  obtain ⟨b, off, rfl, _⟩ := HI.out.cells (by omega)
  have hbB : b ≠ B := hne _ rfl
  obtain ⟨o2, ho2⟩ := cutA_some b off cap 5
  have I5 : Hid (IsB w (some ⟨b, o2, none⟩) (n - 5) (cap - 5) (l.drop 5)) := by
    have := HI.out.cut 5 (by omega)
    rw [ho2] at this; exact this
  have hnum := numTo_lt4 l
  have HM : Hid (numTo l 4 = numTo l 4) := rfl
  generalize hm : numTo l 4 = m at *
  have Hm : Hid (numTo l 4 = m) := hm
  clear hm HM
  obtain ⟨o3, ho3⟩ := cutA_some b o2 (cap - 5) m
  have I6 : Hid (IsB w (some ⟨b, o3, none⟩) (n - 5 - m) (cap - 5 - m) ((l.drop 5).drop m)) := by
    have := I5.out.cut m (by omega)
    rw [ho3] at this; exact this
  have IH : Hid (IsB w (some ⟨b, o2, none⟩) m (cap - 5) ((l.drop 5).take m)) := I5.out.head m (by omega)
  have h5 : 5 ≤ n := by omega
  have hm5 : m ≤ n - 5 := by omega
  have hmc : m ≤ cap - 5 := by omega
  have hc5 : cap - 5 ≤ 9223372036854775807 := by omega
  have hn5 : ((n - 5 : Nat) : Int) = (n : Int) - 5 := by omega
  generalize hN5 : n - 5 = n5 at *
  generalize hC5 : cap - 5 = c5 at *
  have hgt : ¬ ((n5 : Int) < (m : Int)) := by omega
  clear hok hl hlen hn5
  go_enter Try.func43, Try.ntmps43
  go_wp2_with fail
  refine (cheadOk B l br mark 4 w H.out (by omega) HO.out).mono ?_
  rintro e w1 ⟨rfl, hw⟩
  rw [hw, Hm.out]; clear hw w1
  go_wp2_with fail
  go_ret
  refine ⟨b, o2, c5, rfl, hbB, IH.out.setOther B 0 _ (fun _ x hx => by injection hx with hx; rw [← hx]; exact hbB), ?_, gr_set _ _ _ _⟩
  have := isR_rest HB.out I6.out (fun x hx => by injection hx with hx; rw [← hx]; exact hbB)
  rw [List.drop_drop, hbr] at this
  exact this

set_option maxRecDepth 20000 in
set_option maxHeartbeats 1000000 in
theorem cbodyNo (B : Nat) (l : List UInt8) (br : Bool) (mark : UInt8) (w : World) (h : IsR w B l br) (h0 : mark ≠ 0) (hno : okB l br mark = false) :
    Calls Try.prog 43 #[.pointer (some ⟨B, 0, none⟩), .int .u8 (mark.toNat : Int)] w fun e w' => e = .returned (.slice none 0 0) ∧ IsR w' B l true ∧ w.grownBy w' (some B) := by
  have H : Hid (IsR w B l br) := h
  cases hok : okH l br mark 4
  · have HO : Hid (okH l br mark 4 = false) := hok
    clear hok h hno
    go_enter Try.func43, Try.ntmps43
    go_wp2_with fail
    refine (cheadNo B l br mark 4 w H.out h0 (by omega) HO.out).mono ?_
    rintro e w1 ⟨rfl, hr, hg⟩
    go_wp2_with fail
    go_ret
    exact ⟨rfl, hr, hg⟩
  · have HO : Hid (okH l br mark 4 = true) := hok
    obtain ⟨hbr, hl, _⟩ := okH_of hok
    have hlen : l.length < 5 + numTo l 4 := by
      rcases Nat.lt_or_ge l.length (5 + numTo l 4) with h1 | h1
      · exact h1
      · unfold okB at hno
        rw [hok] at hno
        simp [h1] at hno
    obtain ⟨a, cap, hb, hi, hne⟩ := h
    have c0 := hb.cell 0
    have hmx := hi.max
    have hle := hi.le
    unfold maxLen at hmx
    have HI : Hid (IsB w a l.length cap l) := hi
    clear hb hi
    simp only [rcell, List.getElem?_cons_zero] at c0
    generalize hn : l.length = n at *
    have HN : Hid (l.length = n) := hn
    clear hn
    obtain ⟨b, off, rfl, _⟩ := HI.out.cells (by omega)
    have hnum := numTo_lt4 l
    generalize hm : numTo l 4 = m at *
    have Hm : Hid (numTo l 4 = m) := hm
    clear hm
    have h5 : 5 ≤ n := by omega
    generalize hN5 : n - 5 = n5 at *
    have hgt : ((n5 : Int) < (m : Int)) := by omega
    have hn63 : n5 ≤ 9223372036854775807 := by omega
    clear hok hl hlen hno
    go_enter Try.func43, Try.ntmps43
    go_wp2_with fail
    refine (cheadOk B l br mark 4 w H.out (by omega) HO.out).mono ?_
    rintro e w1 ⟨rfl, hw⟩
    rw [hw, Hm.out]; clear hw w1
    go_wp2_with fail
    refine (cfail B l br _ H.out).mono ?_
    rintro e w2 ⟨rfl, hr, hg⟩
    go_wp2_with fail
    go_ret
    exact ⟨rfl, hr, hg⟩
end Go.Proofs.Ytonndplenacgjaa
