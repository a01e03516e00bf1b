/- canon's reader: body, and what is read by it. · canon's reader: Clone, Read, and the exported reads. -/
import Derived.Test.YtbclhaleibjkgaaRdr2
import Derived.Laws.IdiomStrings
import Derived.Laws.Cover3
namespace Go.Proofs.Ytbclhaleibjkgaa
open Go.RowKit
attribute [local go_sem ↓] Go.wp_at_zero Go.wp_at_succ

theorem cutA_some (b off cap m : Nat) : ∃ o2, cutA b off cap m = some ⟨b, o2, none⟩ := by
  unfold cutA; split
  · exact ⟨off, rfl⟩
  · exact ⟨off + m, rfl⟩

theorem IsB.setOther {w : World} {a : Option Addr} {len cap : Nat} {l : List UInt8} (h : IsB w a len cap l) (B j : Nat) (v : Value) (hne : 0 < len → ∀ x, a = some x → x.block ≠ B) : IsB (w.setCell ⟨B, j, none⟩ v) a len cap l :=
  ⟨h.len_eq, h.le, h.max, h.nil, fun hp => by
    obtain ⟨b, off, e, hc⟩ := h.cells hp
    refine ⟨b, off, e, fun i hl => ?_⟩
    rw [World.cell?_setCell_other _ _ _ _ (fun e' => hne hp _ e (by injection e' with e1; exact e1.symm))]
    exact hc i hl⟩

/-- the reader goes on: its rest is another one -/
theorem isR_rest {w : World} {B : Nat} {a a' : Option Addr} {n cap n' cap' : Nat} {br : Bool} {l' : List UInt8} (hb : Blk w B 87 (rcell a n cap br)) (hi : IsB w a' n' cap' l') (hne : ∀ x, a' = some x → x.block < B) :
    IsR (w.setCell ⟨B, 0, none⟩ (.slice a' n' cap')) B l' br := by
  have e := hi.len_eq
  subst e
  exact ⟨a', cap', hb.set 0 (.slice a' l'.length cap'), hi.setOther B 0 _ (fun _ x e => Nat.ne_of_lt (hne x e)), hne⟩

theorem sl5 (b off r cap : Nat) (hm : 5 ≤ r) (w : World) : (Instr.slice 24 (.slice (some ⟨b, off, none⟩) r cap) (some (.int .i64 5)) none none).run Try.prog w = .ok (.slice (cutA b off cap 5) (r - 5) (cap - 5)) w := slK .i64 b off r cap 5 hm w
theorem sl9 (b off r cap : Nat) (hm : 9 ≤ r) (w : World) : (Instr.slice 24 (.slice (some ⟨b, off, none⟩) r cap) (some (.int .i64 9)) none none).run Try.prog w = .ok (.slice (cutA b off cap 9) (r - 9) (cap - 9)) w := slK .i64 b off r cap 9 hm w
theorem slo1 (b off r cap : Nat) (hm : 1 ≤ r) (w : World) : (Instr.slice 24 (.slice (some ⟨b, off, none⟩) r cap) (some (.int .i64 1)) none none).run Try.prog w = .ok (.slice (cutA b off cap 1) (r - 1) (cap - 1)) w := slK .i64 b off r cap 1 hm w
attribute [local go_sem ↓] sl5 sl9 slo1 slK slH

/-- may bytes behind that mark be read? -/
def okB (l : List UInt8) (br : Bool) (mark : UInt8) : Bool := okH l br mark 4 && decide (5 + numTo l 4 ≤ l.length)

set_option maxRecDepth 20000 in
set_option maxHeartbeats 1000000 in
theorem cbodyOk (B : Nat) (l : List UInt8) (br : Bool) (mark : UInt8) (w : World) (h : IsR w B l br) (hok : okB l br mark = true) :
    Calls Try.prog 62 #[.pointer (some ⟨B, 0, none⟩), .int .u8 (mark.toNat : Int)] w fun e w' => ∃ b off cap, e = .returned (.slice (some ⟨b, off, none⟩) (numTo l 4) cap) ∧ b ≠ B ∧ IsB w' (some ⟨b, off, none⟩) (numTo l 4) cap ((l.drop 5).take (numTo l 4)) ∧ IsR w' B (l.drop (5 + numTo l 4)) false ∧ w.grownBy w' (some B) := by
  have H : Hid (IsR w B l br) := h
  unfold okB at hok
  rw [Bool.and_eq_true, decide_eq_true_eq] at hok
  obtain ⟨hok, hlen⟩ := hok
  have HO : Hid (okH l br mark 4 = true) := hok
  obtain ⟨hbr, hl, _⟩ := okH_of hok
  obtain ⟨a, cap, hb, hi, hne⟩ := h
  have c0 := hb.cell 0
  have f0 := hb.frozen 0
  have hmx := hi.max
  have hle := hi.le
  unfold maxLen at hmx
  have HI : Hid (IsB w a l.length cap l) := hi
  have HB : Hid (Blk w B 87 (rcell a l.length cap br)) := hb
  clear hb hi
  simp only [rcell, List.getElem?_cons_zero] at c0
  generalize hn : l.length = n at *
  have HN : Hid (l.length = n) := hn
  clear hn
  obtain ⟨b, off, rfl, _⟩ := HI.out.cells (by omega)
  have hbL : b < B := hne _ rfl
  have hbB : b ≠ B := Nat.ne_of_lt hbL
  obtain ⟨o2, ho2⟩ := cutA_some b off cap 5
  have I5 : Hid (IsB w (some ⟨b, o2, none⟩) (n - 5) (cap - 5) (l.drop 5)) := by
    have := HI.out.cut 5 (by omega)
    rw [ho2] at this; exact this
  have hnum := numTo_lt4 l
  have HM : Hid (numTo l 4 = numTo l 4) := rfl
  generalize hm : numTo l 4 = m at *
  have Hm : Hid (numTo l 4 = m) := hm
  clear hm HM
  obtain ⟨o3, ho3⟩ := cutA_some b o2 (cap - 5) m
  have I6 : Hid (IsB w (some ⟨b, o3, none⟩) (n - 5 - m) (cap - 5 - m) ((l.drop 5).drop m)) := by
    have := I5.out.cut m (by omega)
    rw [ho3] at this; exact this
  have IH : Hid (IsB w (some ⟨b, o2, none⟩) m (cap - 5) ((l.drop 5).take m)) := I5.out.head m (by omega)
  have h5 : 5 ≤ n := by omega
  have hm5 : m ≤ n - 5 := by omega
  have hmc : m ≤ cap - 5 := by omega
  have hc5 : cap - 5 ≤ 9223372036854775807 := by omega
  have hn5 : ((n - 5 : Nat) : Int) = (n : Int) - 5 := by omega
  generalize hN5 : n - 5 = n5 at *
  generalize hC5 : cap - 5 = c5 at *
  have hgt : ¬ ((n5 : Int) < (m : Int)) := by omega
  clear hok hl hlen hn5
  go_enter Try.func62, Try.ntmps62
  go_wp2_with fail
  refine (cheadOk B l br mark 4 w H.out (by omega) HO.out).mono ?_
  rintro e w1 ⟨rfl, hw⟩
  rw [hw, Hm.out]; clear hw w1
  go_wp2_with fail
  go_ret
  refine ⟨b, o2, c5, rfl, hbB, IH.out.setOther B 0 _ (fun _ x hx => by injection hx with hx; rw [← hx]; exact hbB), ?_, gr_set _ _ _ _⟩
  have := isR_rest HB.out I6.out (fun x hx => by injection hx with hx; rw [← hx]; exact hbL)
  rw [List.drop_drop, hbr] at this
  exact this

set_option maxRecDepth 20000 in
set_option maxHeartbeats 1000000 in
theorem cbodyNo (B : Nat) (l : List UInt8) (br : Bool) (mark : UInt8) (w : World) (h : IsR w B l br) (h0 : mark ≠ 0) (hno : okB l br mark = false) :
    Calls Try.prog 62 #[.pointer (some ⟨B, 0, none⟩), .int .u8 (mark.toNat : Int)] w fun e w' => e = .returned (.slice none 0 0) ∧ IsR w' B l true ∧ w.grownBy w' (some B) := by
  have H : Hid (IsR w B l br) := h
  cases hok : okH l br mark 4
  · have HO : Hid (okH l br mark 4 = false) := hok
    clear hok h hno
    go_enter Try.func62, Try.ntmps62
    go_wp2_with fail
    refine (cheadNo B l br mark 4 w H.out h0 (by omega) HO.out).mono ?_
    rintro e w1 ⟨rfl, hr, hg⟩
    go_wp2_with fail
    go_ret
    exact ⟨rfl, hr, hg⟩
  · have HO : Hid (okH l br mark 4 = true) := hok
    obtain ⟨hbr, hl, _⟩ := okH_of hok
    have hlen : l.length < 5 + numTo l 4 := by
      rcases Nat.lt_or_ge l.length (5 + numTo l 4) with h1 | h1
      · exact h1
      · unfold okB at hno
        rw [hok] at hno
        simp [h1] at hno
    obtain ⟨a, cap, hb, hi, hne⟩ := h
    have c0 := hb.cell 0
    have hmx := hi.max
    have hle := hi.le
    unfold maxLen at hmx
    have HI : Hid (IsB w a l.length cap l) := hi
    clear hb hi
    simp only [rcell, List.getElem?_cons_zero] at c0
    generalize hn : l.length = n at *
    have HN : Hid (l.length = n) := hn
    clear hn
    obtain ⟨b, off, rfl, _⟩ := HI.out.cells (by omega)
    have hnum := numTo_lt4 l
    generalize hm : numTo l 4 = m at *
    have Hm : Hid (numTo l 4 = m) := hm
    clear hm
    have h5 : 5 ≤ n := by omega
    generalize hN5 : n - 5 = n5 at *
    have hgt : ((n5 : Int) < (m : Int)) := by omega
    have hn63 : n5 ≤ 9223372036854775807 := by omega
    clear hok hl hlen hno
    go_enter Try.func62, Try.ntmps62
    go_wp2_with fail
    refine (cheadOk B l br mark 4 w H.out (by omega) HO.out).mono ?_
    rintro e w1 ⟨rfl, hw⟩
    rw [hw, Hm.out]; clear hw w1
    go_wp2_with fail
    refine (cfail B l br _ H.out).mono ?_
    rintro e w2 ⟨rfl, hr, hg⟩
    go_wp2_with fail
    go_ret
    exact ⟨rfl, hr, hg⟩
end Go.Proofs.Ytbclhaleibjkgaa
namespace Go.Proofs.Ytbclhaleibjkgaa
open Go.RowKit
attribute [local go_sem ↓] Go.wp_at_zero Go.wp_at_succ

theorem gr_bel {n : Nat} {w w' : World} (h : Below n w w') (hn : n = w.heap.size) (o : Option Nat) : w.grownBy w' o :=
  match h with
  | ⟨a, b, c, d, e⟩ => ⟨a, b, c, d, fun i hi _ => e i (by omega)⟩
theorem IsR.lt {w : World} {B : Nat} {l : List UInt8} {br : Bool} (h : IsR w B l br) : B < w.heap.size := by
  obtain ⟨a, cap, hb, _, _⟩ := h
  exact hb.lt
theorem IsR.on {w w' : World} {B : Nat} {l : List UInt8} {br : Bool} (h : IsR w B l br) (hb : Below w.heap.size w w') : IsR w' B l br := by
  obtain ⟨a, cap, h1, h2, h3⟩ := h
  exact ⟨a, cap, h1.on hb, h2.below hb rfl, h3⟩

/-- string(b) -/
theorem conv_isB (w : World) (a : Option Addr) (len cap : Nat) (l : List UInt8) (hb : IsB w a len cap l) : (convert 24 9 (.slice a len cap)).run Try.prog w = .ok (.string ⟨l.toArray⟩) w := by
  have e := hb.len_eq
  subst e
  by_cases hl : 0 < l.length
  · obtain ⟨b, off, rfl, hc⟩ := hb.cells hl
    refine run_convert_bytes_back w 24 9 5 ⟨b, off, none⟩ cap l Try.underlying24 Try.underlying5 Try.underlying9 fun j hj => ?_
    rw [Addr.add_lit, hc j hj, nth_eq l j hj]
  · have : l = [] := List.eq_nil_of_length_eq_zero (by omega)
    subst this
    cases a with
    | none => exact run_convert_bytes_nil w 24 5 Try.underlying24 Try.underlying5 _ _ _ Try.underlying9
    | some x => exact run_convert_bytes_back w 24 9 5 x cap [] Try.underlying24 Try.underlying5 Try.underlying9 fun j hj => absurd hj (Nat.not_lt_zero _)

/-- b == nil -/
theorem eqNil (w : World) (a : Option Addr) (l c : Nat) : (binOp .eql 24 (.slice a l c) (.slice none 0 0)).run Try.prog w = .ok (.bool a.isNone) w := by
  simp only [binOp]
  simp [run_equal_slice_nil w 24 5 a l c Try.underlying24]
attribute [local go_sem ↓] eqNil

set_option maxHeartbeats 1000000 in
theorem cClone (a : Option Addr) (len cap : Nat) (l : List UInt8) (w : World) (h : IsB w a len cap l) (hl : len ≤ 140737488351232) :
    Calls Try.prog 60 #[.slice a len cap] w fun e w' => ∃ v, e = .returned v ∧ OwnB w' w.heap.size v l ∧ Below w.heap.size w w' := by
  have H : Hid (IsB w a len cap l) := h
  cases a with
  | none =>
    have h0 := h.nil rfl
    have hle := h.le
    have hz : len = 0 := by omega
    subst hz h0
    have e : l = [] := List.eq_nil_of_length_eq_zero h.len_eq
    subst e
    clear h
    go_enter Try.func60, Try.ntmps60
    go_wp2
    go_ret
    exact ⟨_, rfl, OwnB.nil _ _, Below.refl _ _⟩
  | some x =>
    clear h
    go_enter Try.func60, Try.ntmps60
    have hbel0 : Below w.heap.size w (w.alloc (.cells #[] 5)) := (Below.refl _ _).alloc (Nat.le_refl _) _
    have hemp : OwnB (w.alloc (.cells #[] 5)) w.heap.size (.slice (some ⟨w.heap.size, 0, none⟩) 0 0) [] := OwnB.empty w _ (Nat.le_refl _)
    go_wp2_with (at_builtin; refine list_appS _ rfl (.tmp 5) (.tmp 6) rfl w.heap.size _ [] rfl hemp (some x) len cap l rfl (H.out.below hbel0 rfl) (by simp; omega) (by simp) ?_; intro v1 w1 hown1 hgrow1)
    go_ret
    exact ⟨_, rfl, hown1, grow_bel hbel0 hemp hgrow1⟩

set_option maxHeartbeats 1000000 in
theorem cRead (a : Option Addr) (len cap : Nat) (l : List UInt8) (w : World) (h : IsB w a len cap l) (hl : len ≤ 140737488351232) :
    Calls Try.prog 37 #[.slice a len cap] w fun e w' => ∃ B, e = .returned (.pointer (some ⟨B, 0, none⟩)) ∧ w.heap.size ≤ B ∧ IsR w' B l false ∧ Below w.heap.size w w' := by
  have H : Hid (IsB w a len cap l) := h
  clear h
  go_enter Try.func37, Try.ntmps37
  go_wp2_with fail
  refine (cClone a len cap l w H.out hl).mono ?_
  rintro e w1 ⟨v, rfl, ho, hb⟩
  have hk := ho.blk
  obtain ⟨x, c1, rfl, hi⟩ := ho.isB
  clear ho
  go_wp2_with fail
  go_ret
  have hs := hb.size
  refine ⟨w1.heap.size, rfl, hs, ⟨x, c1, Blk.newAt w1 _ _ _ (rcell x l.length c1 false) rfl rfl, hi.below ((Below.refl _ _).alloc (Nat.le_refl _) _) rfl, ?_⟩, hb.alloc hs _⟩
  rintro y rfl
  have := (hk y.block rfl).2
  omega

/-- what the reads tell, and what is left of the reader -/
def rdUint (l : List UInt8) (br : Bool) : Nat × List UInt8 × Bool := if okH l br 117 8 then (numTo l 8, l.drop 9, false) else (0, l, true)
def rdSome (mark : UInt8) (l : List UInt8) (br : Bool) : List UInt8 × List UInt8 × Bool := if okB l br mark then ((l.drop 5).take (numTo l 4), l.drop (5 + numTo l 4), false) else ([], l, true)
def okT (l : List UInt8) (br : Bool) : Bool := !br && (nth l 0 == 116 || nth l 0 == 102)
def rdBool (l : List UInt8) (br : Bool) : Bool × List UInt8 × Bool := if okT l br then (nth l 0 == 116, l.drop 1, false) else (false, l, true)
def okL (l : List UInt8) (br : Bool) (most : Int) : Bool := okH l br 108 4 && decide ((numTo l 4 : Int) ≤ most)
def rdList (l : List UInt8) (br : Bool) (most : Int) : Nat × List UInt8 × Bool := if okL l br most then (numTo l 4, l.drop 5, false) else (0, l, true)

attribute [local go_sem ↓] sl5 sl9 slo1

set_option maxRecDepth 20000 in
set_option maxHeartbeats 1000000 in
theorem cUint (B : Nat) (l : List UInt8) (br : Bool) (w : World) (h : IsR w B l br) :
    Calls Try.prog 38 #[.pointer (some ⟨B, 0, none⟩)] w fun e w' => e = .returned (.int .u64 ((rdUint l br).1 : Int)) ∧ IsR w' B (rdUint l br).2.1 (rdUint l br).2.2 ∧ w.grownBy w' (some B) := by
  have H : Hid (IsR w B l br) := h
  cases hok : okH l br 117 8
  · have HO : Hid (okH l br 117 8 = false) := hok
    have hrd : rdUint l br = (0, l, true) := by unfold rdUint; rw [hok]; rfl
    rw [hrd]
    clear h hok hrd
    go_enter Try.func38, Try.ntmps38
    go_wp2_with fail
    refine (cheadNo B l br 117 8 w H.out (by decide) (by omega) HO.out).mono ?_
    rintro e w1 ⟨rfl, hr, hg⟩
    go_wp2_with fail
    go_ret
    exact ⟨rfl, hr, hg⟩
  · have HO : Hid (okH l br 117 8 = true) := hok
    have hrd : rdUint l br = (numTo l 8, l.drop 9, false) := by unfold rdUint; rw [hok]; rfl
    rw [hrd]
    obtain ⟨hbr, hl, _⟩ := okH_of hok
    obtain ⟨a, cap, hb, hi, hne⟩ := h
    have c0 := hb.cell 0
    have f0 := hb.frozen 0
    have HI : Hid (IsB w a l.length cap l) := hi
    have HB : Hid (Blk w B 87 (rcell a l.length cap br)) := hb
    clear hb hi hrd hok
    simp only [rcell, List.getElem?_cons_zero] at c0
    generalize hn : l.length = n at *
    have HN : Hid (l.length = n) := hn
    clear hn
    obtain ⟨b, off, rfl, _⟩ := HI.out.cells (by omega)
    have hbL : b < B := hne _ rfl
    obtain ⟨o2, ho2⟩ := cutA_some b off cap 9
    have I9 : Hid (IsB w (some ⟨b, o2, none⟩) (n - 9) (cap - 9) (l.drop 9)) := by
      have := HI.out.cut 9 (by omega)
      rw [ho2] at this; exact this
    generalize hm : numTo l 8 = m at *
    have Hm : Hid (numTo l 8 = m) := hm
    have h9 : 9 ≤ n := by omega
    clear hm hl
    go_enter Try.func38, Try.ntmps38
    go_wp2_with fail
    refine (cheadOk B l br 117 8 w H.out (by omega) HO.out).mono ?_
    rintro e w1 ⟨rfl, hw⟩
    rw [hw, Hm.out]; clear hw w1
    go_wp2_with fail
    go_ret
    refine ⟨rfl, ?_, gr_set _ _ _ _⟩
    have := isR_rest HB.out I9.out (fun x hx => by injection hx with hx; rw [← hx]; exact hbL)
    rw [hbr] at this
    exact this

end Go.Proofs.Ytbclhaleibjkgaa
