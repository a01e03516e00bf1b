/- The walk of CanonBack. -/
import Derived.Test.YtbojhfphgiimnaaPartT
import Derived.Test.YtbojhfphgiimnaaReads
import Derived.Test.YtbojhfphgiimnaaAlive
import Derived.Deep.CutBlock
import Derived.Deep.CutRange
namespace Go.Proofs.Ytbojhfphgiimnaa
open Go.RowKit
attribute [local go_sem ↓] Go.wp_at_zero Go.wp_at_succ

def nthP (ps : List Pt) (i : Nat) : Pt := ps.getD i ⟨0, 0, []⟩
theorem nthP_eq (ps : List Pt) (i : Nat) (h : i < ps.length) : nthP ps i = ps[i] := by
  unfold nthP; rw [List.getD_eq_getElem?_getD, List.getElem?_eq_getElem h]; rfl

/-- a slice of parts in a world -/
structure IsPs (w : World) (a : Option Addr) (len cap : Nat) (ps : List Pt) : Prop where
  len_eq : ps.length = len
  le : len ≤ cap
  max : cap ≤ maxLen
  cells : 0 < len → ∃ b off, a = some ⟨b, off, none⟩ ∧ ∀ i, i < len → ∃ ai ci, w.cell? ⟨b, off + i * 3, none⟩ = some (.int .i64 (nthP ps i).k) ∧ w.cell? ⟨b, off + i * 3 + 1, none⟩ = some (.int .u64 ((nthP ps i).n : Int)) ∧ w.cell? ⟨b, off + i * 3 + 2, none⟩ = some (.slice ai (nthP ps i).b.length ci) ∧ IsB w ai (nthP ps i).b.length ci (nthP ps i).b

theorem IsPs.below {w w' : World} {a : Option Addr} {len cap : Nat} {ps : List Pt} (h : IsPs w a len cap ps) (hb : Below w.heap.size w w') : IsPs w' a len cap ps :=
  ⟨h.len_eq, h.le, h.max, fun hp => by
    obtain ⟨b, off, e, hc⟩ := h.cells hp
    refine ⟨b, off, e, fun i hi => ?_⟩
    obtain ⟨ai, ci, h0, h1, h2, h3⟩ := hc i hi
    have hlt : b < w.heap.size := cell_lt h0
    exact ⟨ai, ci, (hb.cell (p := ⟨b, _, none⟩) hlt).trans h0, (hb.cell (p := ⟨b, _, none⟩) hlt).trans h1, (hb.cell (p := ⟨b, _, none⟩) hlt).trans h2, h3.below hb rfl⟩⟩

/-- the first j parts as they are written -/
def wrP (ps : List Pt) (j : Nat) : List UInt8 := encA ((ps.take j).map kindP)
theorem wrP_succ (ps : List Pt) (j : Nat) (h : j < ps.length) : wrP ps (j + 1) = putL (wrP ps j) (kindP (nthP ps j)) := by
  rw [putL_eq]; unfold wrP
  rw [nthP_eq ps j h, ← List.take_append_getElem h, List.map_append, encA_app]
  simp [encA]
theorem wrP_all (ps : List Pt) (j : Nat) (h : ps.length ≤ j) : wrP ps j = encA (ps.map kindP) := by unfold wrP; rw [List.take_of_length_le h]

/-- what is asked of the parts -/
def Pts.ok (ps : List Pt) : Prop := ∀ i, i < ps.length → (nthP ps i).n < 18446744073709551616 ∧ (nthP ps i).b.length ≤ 1048576
theorem kindP_ok {p : Pt} (h : p.n < 18446744073709551616 ∧ p.b.length ≤ 1048576) : (kindP p).ok :=
  ⟨(kindP_range p).1, (kindP_range p).2, by rw [kindP_n]; exact h.1, by rw [kindP_b]; have := h.2; omega⟩
theorem wrP_le (ps : List Pt) (j : Nat) (h : Pts.ok ps) (hj : j ≤ 200) : (wrP ps j).length ≤ 1099511627776 := by
  have hl : ((ps.take j).map kindP).length ≤ 200 := by simp; omega
  have := encA_le ((ps.take j).map kindP) (fun p hp => by
    obtain ⟨q, hq, rfl⟩ := List.mem_map.1 hp
    have hq' := List.mem_of_mem_take hq
    obtain ⟨i, hi, rfl⟩ := List.mem_iff_getElem.1 hq'
    have := h i hi
    rw [nthP_eq ps i hi] at this
    exact ⟨kindP_ok this, by rw [kindP_b]; exact this.2⟩)
  unfold wrP; omega

/-- what is left to be read behind j parts -/
def suf (ps : List Pt) (j : Nat) : List UInt8 := encA ((ps.drop j).map kindP)
theorem suf_step (ps : List Pt) (j : Nat) (h : j < ps.length) : suf ps j = enc (kindP (nthP ps j)) ++ suf ps (j + 1) := by
  unfold suf
  rw [nthP_eq ps j h, List.drop_eq_getElem_cons h, List.map_cons]
  rfl
theorem suf_zero (ps : List Pt) (j : Nat) (h : ps.length ≤ j) : suf ps 0 = wrP ps j := by rw [wrP_all ps j h]; simp [suf]
theorem suf_end (ps : List Pt) (j : Nat) (h : ps.length ≤ j) : suf ps j = [] := by unfold suf; rw [List.drop_of_length_le h]; rfl

theorem pcell_no {w : World} {X : Nat} {k : Int} {n : Nat} {a : Option Addr} {len cap : Nat} (h : Blk w X 50 (pcell k n a len cap)) : ∀ j n, w.cell? ⟨X, j, none⟩ ≠ some (.int .u8 n) := by
  intro j n
  rw [h.cell j]
  match j with
  | 0 => simp [pcell]
  | 1 => simp [pcell]
  | 2 => simp [pcell]
  | j + 3 => simp [pcell]
theorem IsR.other' {w w' : World} {B X : Nat} {l : List UInt8} {br : Bool} (h : IsR w B l br) (hg : w.grownBy w' (some X)) (hne : X ≠ B) (hX : ∀ j n, w.cell? ⟨X, j, none⟩ ≠ some (.int .u8 n)) : IsR w' B l br := by
  obtain ⟨a, cap, h1, h2, h3⟩ := h
  exact ⟨a, cap, h1.other' hg hne, h2.other hg hX, h3⟩
theorem IsR.no {w : World} {B : Nat} {l : List UInt8} {br : Bool} (h : IsR w B l br) : ∀ j n, w.cell? ⟨B, j, none⟩ ≠ some (.int .u8 n) := by
  obtain ⟨a, cap, h1, _, _⟩ := h
  exact rcell_no h1
theorem IsPt.other {w w' : World} {v : Value} {p : Pt} {X : Nat} (h : IsPt w v p) (hg : w.grownBy w' (some X)) (hX : ∀ j n, w.cell? ⟨X, j, none⟩ ≠ some (.int .u8 n)) : IsPt w' v p := by
  obtain ⟨a, cap, e, hi⟩ := h
  exact ⟨a, cap, e, hi.other hg hX⟩
theorem IsV.other {w w' : World} {v : Value} {l : List UInt8} {X : Nat} (h : IsV w v l) (hg : w.grownBy w' (some X)) (hX : ∀ j n, w.cell? ⟨X, j, none⟩ ≠ some (.int .u8 n)) : IsV w' v l := by
  obtain ⟨a, cap, e, hi⟩ := h
  exact ⟨a, cap, e, hi.other hg hX⟩

/-- two blocks that hold parts, behind what a reader's call leaves -/
theorem two_blks (w1 : World) (k : Int) (n : Nat) (a : Option Addr) (len cap : Nat) : 
    Blk ((w1.alloc (.cells (pcell k n a len cap).toArray 50)).alloc (.cells (pcell k 0 none 0 0).toArray 50)) w1.heap.size 50 (pcell k n a len cap) ∧
    Blk ((w1.alloc (.cells (pcell k n a len cap).toArray 50)).alloc (.cells (pcell k 0 none 0 0).toArray 50)) (w1.heap.size + 1) 50 (pcell k 0 none 0 0) :=
  ⟨(Blk.new w1 _ _).alloc _, Blk.newAt _ _ _ _ _ (by simp) rfl⟩

theorem same3 (qk : Int) (qn : Nat) (qb : List UInt8) (t : Bool) (e : qk = 3) (hb : (qn % 2 == 1) = t) : sameP ⟨qk, qn, qb⟩ ⟨qk, if t then 1 else 0, []⟩ = true := by
  subst e
  unfold sameP
  rw [if_pos rfl, if_neg (by show ¬ ((3 : Int) = 0); decide), if_pos rfl, decide_eq_true_eq]
  cases t
  · have : ¬ (qn % 2 = 1) := by simpa using hb
    show qn % 2 = 0 % 2
    omega
  · have : qn % 2 = 1 := by simpa using hb
    show qn % 2 = 1 % 2
    omega
theorem enc3' (qk : Int) (qn : Nat) (qb : List UInt8) (t : Bool) (e : qk = 3) (hb : (qn % 2 == 1) = t) : enc ⟨qk, qn, qb⟩ = [if t then 116 else 102] := by
  have := enc3 (p := ⟨qk, qn, qb⟩) e
  rw [this]
  show [if (qn % 2 == 1) = true then (116 : UInt8) else 102] = _
  rw [hb]

theorem rdBool_b1 (r : List UInt8) : rdBool ([116] ++ r) false = (true, r, false) := rdBool_back true r
theorem rdBool_b0 (r : List UInt8) : rdBool ([102] ++ r) false = (false, r, false) := rdBool_back false r

/-- a part is stored into the second block -/
theorem settle {w w3 : World} {Y B j : Nat} {v : Value} {qk : Int} {qn : Nat} {a1 : Option Addr} {lq k1 : Nat} {qb sf : List UInt8} (P3 : Blk w3 Y 50 (pcell qk qn a1 lq k1)) (Q3 : Blk w3 (Y + 1) 50 (pcell qk 0 none 0 0)) (I3 : IsB w3 a1 lq k1 qb) (r3 : IsR w3 B sf false) (T3 : Below w.heap.size w w3) (hY : w.heap.size ≤ Y) (hYB1 : Y + 1 ≠ B) :
    Hid (Blk (w3.setCell ⟨Y + 1, j, none⟩ v) Y 50 (pcell qk qn a1 lq k1)) ∧ Hid (Blk (w3.setCell ⟨Y + 1, j, none⟩ v) (Y + 1) 50 ((pcell qk 0 none 0 0).set j v)) ∧ Hid (IsB (w3.setCell ⟨Y + 1, j, none⟩ v) a1 lq k1 qb) ∧ Hid (IsR (w3.setCell ⟨Y + 1, j, none⟩ v) B sf false) ∧ Below w.heap.size w (w3.setCell ⟨Y + 1, j, none⟩ v) ∧ Hid (∀ a l c b, IsB w3 a l c b → IsB (w3.setCell ⟨Y + 1, j, none⟩ v) a l c b) :=
  ⟨P3.other _ _ (by simp), Q3.set j v, I3.other (gr_set _ _ _ _) (pcell_no Q3), r3.other' (gr_set _ _ _ _) hYB1 (pcell_no Q3), T3.grown (gr_set _ _ _ _) T3.size (fun q hq => by injection hq with hq; omega), fun _ _ _ _ h => h.other (gr_set _ _ _ _) (pcell_no Q3)⟩

set_option maxRecDepth 20000 in
set_option maxHeartbeats 1000000 in
theorem backWalk (a0 : Option Addr) (len0 cap0 : Nat) (ps : List Pt) (w : World) (h : IsPs w a0 len0 cap0 ps) (hok : Pts.ok ps) :
    Calls Try.prog 6 #[.slice a0 len0 cap0] w fun e w' => e = .returned (.bool true) ∧ Below w.heap.size w w' := by
  have H : Hid (IsPs w a0 len0 cap0 ps) := h
  have HE : Hid (ps.length = len0) := h.len_eq
  have HO : Hid (Pts.ok ps) := hok
  have hle := h.le
  have hmx := h.max
  unfold maxLen at hmx
  clear h hok
  by_cases h2 : 200 < len0
  · have h2' : (200 : Int) < (len0 : Int) := by omega
    go_enter Try.func6, Try.ntmps6
    go_wp2_with fail
    refine (alive w).mono ?_
    rintro e w1 ⟨rfl, hb⟩
    go_wp2_with fail
    go_ret
    exact ⟨rfl, hb⟩
  · have h2' : ¬ (200 : Int) < (len0 : Int) := by omega
    go_enter Try.func6, Try.ntmps6
    go_wp2_with fail
    go_loopw [3, 4] (fun v i wx => ∃ j : Nat, j ≤ len0 ∧ i = .int .i64 (j : Int) ∧ Hid (OwnB wx w.heap.size v (wrP ps j)) ∧ Below w.heap.size w wx) (fun _ i _ => len0 - (intOf i).toNat)
    case atStart => exact ⟨0, by omega, rfl, OwnB.nil _ _, Below.refl _ _⟩
    case round =>
      obtain ⟨j, hj, rfl, hown, hbel⟩ := hrel
      by_cases hjl : j < len0
      · obtain ⟨b, off, rfl, hc⟩ := (H.out.below hbel).cells (by omega)
        obtain ⟨ai, ci, g0, g1, g2, hi⟩ := hc j hjl
        have hjl' : (j : Int) < (len0 : Int) := by omega
        have HW : Hid (wrP ps (j + 1) = putL (wrP ps j) (kindP (nthP ps j))) := wrP_succ ps j (by rw [HE.out]; exact hjl)
        have hpo := HO.out j (by rw [HE.out]; exact hjl)
        have hwl := wrP_le ps j HO.out (by omega)
        obtain ⟨x3, c3, rfl, i3⟩ := hown.out.isB
        have I3 : Hid (IsB wr x3 (wrP ps j).length c3 (wrP ps j)) := i3
        clear hown i3
        have HP : Hid (IsPt wr (.agg (pcell (nthP ps j).k (nthP ps j).n ai (nthP ps j).b.length ci).toArray) (nthP ps j)) := ⟨ai, ci, rfl, hi⟩
        clear hc hi
        go_wp2_with fail
        refine (lKind _ _ wr HP.out).mono ?_
        rintro e y1 ⟨v1, rfl, hp1, c1⟩
        have I4 : Hid (IsB y1 x3 (wrP ps j).length c3 (wrP ps j)) := I3.out.below c1 rfl
        have HP1 : Hid (IsPt y1 v1 (kindP (nthP ps j))) := hp1
        have t1 : Below w.heap.size w y1 := hbel.trans (c1.mono hbel.size)
        clear hp1 I3 HP
        generalize (wrP ps j).length = m3 at *
        go_wp2_with fail
        refine (lPut x3 m3 c3 (wrP ps j) v1 _ y1 I4.out HP1.out hwl (by rw [kindP_b]; omega) (by rw [kindP_n]; exact hpo.1)).mono ?_
        rintro e y2 ⟨r, rfl, ho, c2⟩
        have ho' : Hid (OwnB y2 w.heap.size r (wrP ps (j + 1))) := by rw [HW.out]; exact ho.base t1.size
        have t2 : Below w.heap.size w y2 := t1.trans (c2.mono t1.size)
        clear ho HW
        go_wp2_with fail
        go_roundw
        case rel => exact ⟨j + 1, by omega, by go_num, ho', t2⟩
        case measure => simp [intOf]; omega
      · have HW : Hid (wrP ps j = suf ps 0) := (suf_zero ps j (by rw [HE.out]; omega)).symm
        obtain ⟨x3, c3, rfl, i3⟩ := hown.out.isB
        have hwl := wrP_le ps j HO.out (by omega)
        have I3 : Hid (IsB wr x3 (wrP ps j).length c3 (suf ps 0)) := by rw [← HW.out]; exact i3
        clear hown i3 HW
        generalize (wrP ps j).length = m3 at *
        have hjl' : ¬ ((j : Int) < (len0 : Int)) := by omega
        go_wp2_with fail
        refine (cRead x3 m3 c3 (suf ps 0) wr I3.out (by omega)).mono ?_
        rintro e x1 ⟨B, rfl, hB, hr, hb⟩
        have R1 : Hid (IsR x1 B (suf ps 0) false) := hr
        have T1 : Below w.heap.size w x1 := hbel.trans (hb.mono hbel.size)
        have hB0 : w.heap.size ≤ B := Nat.le_trans hbel.size hB
        clear hr hb hB I3 hjl'
        go_wp2_with fail
        go_loopw [6] (fun i wx => ∃ j : Nat, j ≤ len0 ∧ i = .int .i64 (j : Int) ∧ Hid (IsR wx B (suf ps j) false) ∧ Below w.heap.size w wx) (fun i _ => len0 - (intOf i).toNat)
        case atStart => exact ⟨0, by omega, rfl, R1, T1⟩
        case round =>
          clear R1 T1 hbel
          obtain ⟨j2, hj2, rfl, hR, hbel⟩ := hrel
          by_cases hjl : j2 < len0
          · obtain ⟨b, off, rfl, hc⟩ := (H.out.below hbel).cells (by omega)
            obtain ⟨ai, ci, g0, g1, g2, hi⟩ := hc j2 hjl
            have hjl' : (j2 : Int) < (len0 : Int) := by omega
            have HW : Hid (suf ps j2 = enc (kindP (nthP ps j2)) ++ suf ps (j2 + 1)) := suf_step ps j2 (by rw [HE.out]; exact hjl)
            have hpo := HO.out j2 (by rw [HE.out]; exact hjl)
            have HP : Hid (IsPt wr (.agg (pcell (nthP ps j2).k (nthP ps j2).n ai (nthP ps j2).b.length ci).toArray) (nthP ps j2)) := ⟨ai, ci, rfl, hi⟩
            clear hc hi
            go_wp2_with fail
            refine (lKind _ _ wr HP.out).mono ?_
            rintro e y1 ⟨v1, rfl, hp1, c1⟩
            have R1 : Hid (IsR y1 B (enc (kindP (nthP ps j2)) ++ suf ps (j2 + 1)) false) := by rw [← HW.out]; exact hR.out.on c1
            have T1 : Below w.heap.size w y1 := hbel.trans (c1.mono hbel.size)
            have HQ : Hid ((kindP (nthP ps j2)).ok) := kindP_ok hpo
            have hBlt : B < y1.heap.size := R1.out.lt
            clear HW HP hR c1 g0 g1 g2 hpo hbel
            obtain ⟨sf, hsf⟩ : ∃ sf, suf ps (j2 + 1) = sf := ⟨_, rfl⟩
            have HSF : Hid (suf ps (j2 + 1) = sf) := hsf
            rw [hsf] at R1
            clear hsf
            generalize kindP (nthP ps j2) = q at *
            obtain ⟨a1, k1, rfl, i1⟩ := hp1
            have I1 : Hid (IsB y1 a1 q.b.length k1 q.b) := i1
            clear i1
            have hk := HQ.out
            obtain ⟨qk, qn, qb⟩ := q
            have hk0 := hk.lo
            have hk4 := hk.hi
            have hkn := hk.num
            simp only at hk0 hk4 hkn
            clear hk
            simp only [pcell]
            have hal : Below y1.heap.size y1 ((y1.alloc (.cells #[.int .i64 qk, .int .u64 (qn : Int), .slice a1 qb.length k1] 50)).alloc (.cells #[.int .i64 qk, .int .u64 0, .slice none 0 0] 50)) := ((Below.refl _ _).alloc (Nat.le_refl _) _).alloc (by simp) _
            have P2 : Hid (Blk ((y1.alloc (.cells #[.int .i64 qk, .int .u64 (qn : Int), .slice a1 qb.length k1] 50)).alloc (.cells #[.int .i64 qk, .int .u64 0, .slice none 0 0] 50)) y1.heap.size 50 (pcell qk qn a1 qb.length k1)) := (two_blks y1 qk qn a1 qb.length k1).1
            have Q2 : Hid (Blk ((y1.alloc (.cells #[.int .i64 qk, .int .u64 (qn : Int), .slice a1 qb.length k1] 50)).alloc (.cells #[.int .i64 qk, .int .u64 0, .slice none 0 0] 50)) (y1.heap.size + 1) 50 (pcell qk 0 none 0 0)) := (two_blks y1 qk qn a1 qb.length k1).2
            have R2 : Hid (IsR ((y1.alloc (.cells #[.int .i64 qk, .int .u64 (qn : Int), .slice a1 qb.length k1] 50)).alloc (.cells #[.int .i64 qk, .int .u64 0, .slice none 0 0] 50)) B (enc ⟨qk, qn, qb⟩ ++ sf) false) := R1.out.on hal
            have I2 : Hid (IsB ((y1.alloc (.cells #[.int .i64 qk, .int .u64 (qn : Int), .slice a1 qb.length k1] 50)).alloc (.cells #[.int .i64 qk, .int .u64 0, .slice none 0 0] 50)) a1 qb.length k1 qb) := I1.out.below hal rfl
            have T2 : Below w.heap.size w ((y1.alloc (.cells #[.int .i64 qk, .int .u64 (qn : Int), .slice a1 qb.length k1] 50)).alloc (.cells #[.int .i64 qk, .int .u64 0, .slice none 0 0] 50)) := T1.trans (hal.mono T1.size)
            have hYs : w.heap.size ≤ y1.heap.size := T1.size
            go_upto_block 4 with fail
            generalize ((y1.alloc (.cells #[.int .i64 qk, .int .u64 (qn : Int), .slice a1 qb.length k1] 50)).alloc (.cells #[.int .i64 qk, .int .u64 0, .slice none 0 0] 50)) = w2 at *
            generalize y1.heap.size = Y at *
            clear R1 I1 T1 hal
            have hYB : Y ≠ B := by omega
            have hYB1 : Y + 1 ≠ B := by omega
            go_cut [45] from 30 to 76 (fun _ wx => ∃ (n' : Nat) (a' : Option Addr) (cap' : Nat) (b' : List UInt8), n' < 18446744073709551616 ∧ Hid (Blk wx Y 50 (pcell qk qn a1 qb.length k1)) ∧ Hid (Blk wx (Y + 1) 50 (pcell qk n' a' b'.length cap')) ∧ Hid (IsB wx a1 qb.length k1 qb) ∧ Hid (IsB wx a' b'.length cap' b') ∧ Hid (sameP ⟨qk, qn, qb⟩ ⟨qk, n', b'⟩ = true) ∧ Hid (IsR wx B sf false) ∧ Below w.heap.size w wx)
            case first =>
              have hkk : qk = 0 ∨ qk = 1 ∨ qk = 2 ∨ qk = 3 ∨ qk = 4 := by omega
              rcases hkk with e | e | e | e | e
              · have q0 : (qk == 0) = true := by simp [e]
                have HE0 : Hid (enc ⟨qk, qn, qb⟩ = behL [] 117 qn 8 8) := enc0 e
                have HS : Hid (sameP ⟨qk, qn, qb⟩ ⟨qk, qn, []⟩ = true) := by unfold Hid sameP; simp [e]
                clear e
                go_wp2_with fail
                refine (cUint B _ _ w2 R2.out).mono ?_
                rintro e w3 ⟨rfl, r3, g3⟩
                rw [HE0.out, rdUint_back qn sf hkn] at r3 ⊢
                have P3 : Hid (Blk w3 Y 50 (pcell qk qn a1 qb.length k1)) := P2.out.other' g3 hYB.symm
                have Q3 : Hid (Blk w3 (Y + 1) 50 (pcell qk 0 none 0 0)) := Q2.out.other' g3 hYB1.symm
                have I3 : Hid (IsB w3 a1 qb.length k1 qb) := I2.out.other g3 R2.out.no
                have T3 : Below w.heap.size w w3 := T2.grown g3 T2.size (fun q hq => by injection hq with hq; omega)
                have R3 : Hid (IsR w3 B sf false) := r3
                clear r3 P2 Q2 I2 T2 g3
                have c1 := Q3.out.cell 1
                have f1 := Q3.out.frozen 1
                simp only [pcell, List.getElem?_cons_zero, List.getElem?_cons_succ] at c1
                go_wp2_with fail
                go_meet
                case rel =>
                  obtain ⟨s1, s2, s3, s4, s5, s6⟩ := settle (v := .int .u64 (qn : Int)) (j := 1) P3.out Q3.out I3.out R3.out T3 hYs hYB1
                  exact ⟨qn, none, 0, [], hkn, s1, s2, s3, isB_none _, HS, s4, s5⟩
              · have q0 : (qk == 0) = false := by simp [e]
                have q1 : (qk == 1) = true := by simp [e]
                have HE0 : Hid (enc ⟨qk, qn, qb⟩ = behL [] 98 qb.length 4 4 ++ qb) := enc1 e
                have HS : Hid (sameP ⟨qk, qn, qb⟩ ⟨qk, 0, qb⟩ = true) := by unfold Hid sameP; simp [e, eqB_self]
                clear e
                go_wp2_with fail
                refine (cBytes B _ _ w2 R2.out).mono ?_
                rintro e w3 ⟨v3, rfl, o3, r3, g3⟩
                rw [HE0.out, rdSome_back 98 qb sf HQ.out.len] at r3 o3
                obtain ⟨x4, c4, rfl, i4⟩ := o3.isB
                have I4 : Hid (IsB w3 x4 qb.length c4 qb) := i4
                clear i4 o3
                have P3 : Hid (Blk w3 Y 50 (pcell qk qn a1 qb.length k1)) := P2.out.other' g3 hYB.symm
                have Q3 : Hid (Blk w3 (Y + 1) 50 (pcell qk 0 none 0 0)) := Q2.out.other' g3 hYB1.symm
                have I3 : Hid (IsB w3 a1 qb.length k1 qb) := I2.out.other g3 R2.out.no
                have T3 : Below w.heap.size w w3 := T2.grown g3 T2.size (fun q hq => by injection hq with hq; omega)
                have R3 : Hid (IsR w3 B sf false) := r3
                clear r3 P2 Q2 I2 T2 g3
                have c1 := Q3.out.cell 2
                have f1 := Q3.out.frozen 2
                simp only [pcell, List.getElem?_cons_zero, List.getElem?_cons_succ] at c1
                generalize hlq : qb.length = lq at *
                go_wp2_with fail
                go_meet
                case rel =>
                  obtain ⟨s1, s2, s3, s4, s5, s6⟩ := settle (v := .slice x4 lq c4) (j := 2) P3.out Q3.out I3.out R3.out T3 hYs hYB1
                  subst hlq
                  exact ⟨0, x4, c4, qb, by decide, s1, s2, s3, s6.out _ _ _ _ I4.out, HS, s4, s5⟩
              · have q0 : (qk == 0) = false := by simp [e]
                have q1 : (qk == 1) = false := by simp [e]
                have q2 : (qk == 2) = true := by simp [e]
                have HE0 : Hid (enc ⟨qk, qn, qb⟩ = behL [] 115 qb.length 4 4 ++ qb) := enc2 e
                have HS : Hid (sameP ⟨qk, qn, qb⟩ ⟨qk, 0, qb⟩ = true) := by unfold Hid sameP; simp [e, eqB_self]
                clear e
                go_wp2_with fail
                refine (cText B _ _ w2 R2.out).mono ?_
                rintro e w3 ⟨rfl, r3, g3⟩
                rw [HE0.out, rdSome_back 115 qb sf HQ.out.len] at r3 ⊢
                have P3 : Hid (Blk w3 Y 50 (pcell qk qn a1 qb.length k1)) := P2.out.other' g3 hYB.symm
                have Q3 : Hid (Blk w3 (Y + 1) 50 (pcell qk 0 none 0 0)) := Q2.out.other' g3 hYB1.symm
                have I3 : Hid (IsB w3 a1 qb.length k1 qb) := I2.out.other g3 R2.out.no
                have T3 : Below w.heap.size w w3 := T2.grown g3 T2.size (fun q hq => by injection hq with hq; omega)
                have R3 : Hid (IsR w3 B sf false) := r3
                clear r3 P2 Q2 I2 T2 g3
                have hcv := conv_str w3 ⟨qb.toArray⟩
                have hcb := conv_str_bel w3 ⟨qb.toArray⟩
                have hci := conv_str_isB w3 ⟨qb.toArray⟩ (by have := HQ.out.len; simp only at this; show qb.toArray.size ≤ _; unfold maxLen; simp; omega)
                have hs5 : (ByteArray.mk qb.toArray).size = qb.length := by show qb.toArray.size = _; simp
                have hsl : sL ⟨qb.toArray⟩ = qb := by simp [sL]
                rw [hs5] at hcv hci
                rw [hsl] at hci
                have P4 : Hid (Blk _ Y 50 (pcell qk qn a1 qb.length k1)) := P3.out.on hcb
                have Q4 : Hid (Blk _ (Y + 1) 50 (pcell qk 0 none 0 0)) := Q3.out.on hcb
                have I4 : Hid (IsB _ a1 qb.length k1 qb) := I3.out.below hcb rfl
                have R4 : Hid (IsR _ B sf false) := R3.out.on hcb
                have T4 : Below w.heap.size w _ := T3.trans (hcb.mono T3.size)
                have J4 : Hid (IsB _ (some ⟨w3.heap.size, 0, none⟩) qb.length (grownCap w3 qb.length 0 5) qb) := hci
                clear P3 Q3 I3 R3 T3 hci hcb hs5 hsl
                generalize Lib.bytesWorld w3 5 ⟨qb.toArray⟩ = w4 at *
                generalize grownCap w3 qb.length 0 5 = c4 at *
                have c1 := Q4.out.cell 2
                have f1 := Q4.out.frozen 2
                simp only [pcell, List.getElem?_cons_zero, List.getElem?_cons_succ] at c1
                generalize hlq : qb.length = lq at *
                go_wp2_with fail
                go_meet
                case rel =>
                  obtain ⟨s1, s2, s3, s4, s5, s6⟩ := settle (v := .slice (some ⟨w3.heap.size, 0, none⟩) lq c4) (j := 2) P4.out Q4.out I4.out R4.out T4 hYs hYB1
                  subst hlq
                  exact ⟨0, _, c4, qb, by decide, s1, s2, s3, s6.out _ _ _ _ J4.out, HS, s4, s5⟩
              · have q0 : (qk == 0) = false := by simp [e]
                have q1 : (qk == 1) = false := by simp [e]
                have q2 : (qk == 2) = false := by simp [e]
                have q3 : (qk == 3) = true := by simp [e]
                cases hb2 : (qn % 2 == 1)
                · have HS : Hid (sameP ⟨qk, qn, qb⟩ ⟨qk, 0, []⟩ = true) := same3 qk qn qb false e hb2
                  have HE0 : Hid (enc ⟨qk, qn, qb⟩ = [102]) := enc3' qk qn qb _ e hb2
                  clear e
                  go_wp2_with fail
                  refine (cBool B _ _ w2 R2.out).mono ?_
                  rintro e w3 ⟨rfl, r3, g3⟩
                  rw [HE0.out, rdBool_b0 sf] at r3 ⊢
                  have P3 : Hid (Blk w3 Y 50 (pcell qk qn a1 qb.length k1)) := P2.out.other' g3 hYB.symm
                  have Q3 : Hid (Blk w3 (Y + 1) 50 (pcell qk 0 none 0 0)) := Q2.out.other' g3 hYB1.symm
                  have I3 : Hid (IsB w3 a1 qb.length k1 qb) := I2.out.other g3 R2.out.no
                  have T3 : Below w.heap.size w w3 := T2.grown g3 T2.size (fun q hq => by injection hq with hq; omega)
                  have R3 : Hid (IsR w3 B sf false) := r3
                  clear r3 P2 Q2 I2 T2 g3
                  go_wp2_with fail
                  go_meet
                  case rel =>
                    exact ⟨0, none, 0, [], by decide, P3, Q3, I3, isB_none _, HS, R3, T3⟩
                · have HS : Hid (sameP ⟨qk, qn, qb⟩ ⟨qk, 1, []⟩ = true) := same3 qk qn qb true e hb2
                  have HE0 : Hid (enc ⟨qk, qn, qb⟩ = [116]) := enc3' qk qn qb _ e hb2
                  clear e
                  go_wp2_with fail
                  refine (cBool B _ _ w2 R2.out).mono ?_
                  rintro e w3 ⟨rfl, r3, g3⟩
                  rw [HE0.out, rdBool_b1 sf] at r3 ⊢
                  have P3 : Hid (Blk w3 Y 50 (pcell qk qn a1 qb.length k1)) := P2.out.other' g3 hYB.symm
                  have Q3 : Hid (Blk w3 (Y + 1) 50 (pcell qk 0 none 0 0)) := Q2.out.other' g3 hYB1.symm
                  have I3 : Hid (IsB w3 a1 qb.length k1 qb) := I2.out.other g3 R2.out.no
                  have T3 : Below w.heap.size w w3 := T2.grown g3 T2.size (fun q hq => by injection hq with hq; omega)
                  have R3 : Hid (IsR w3 B sf false) := r3
                  clear r3 P2 Q2 I2 T2 g3
                  have c1 := Q3.out.cell 1
                  have f1 := Q3.out.frozen 1
                  simp only [pcell, List.getElem?_cons_zero, List.getElem?_cons_succ] at c1
                  go_wp2_with fail
                  go_meet
                  case rel =>
                    obtain ⟨s1, s2, s3, s4, s5, s6⟩ := settle (v := .int .u64 1) (j := 1) P3.out Q3.out I3.out R3.out T3 hYs hYB1
                    exact ⟨1, none, 0, [], by decide, s1, s2, s3, isB_none _, HS, s4, s5⟩
              · have q0 : (qk == 0) = false := by simp [e]
                have q1 : (qk == 1) = false := by simp [e]
                have q2 : (qk == 2) = false := by simp [e]
                have q3 : (qk == 3) = false := by simp [e]
                have q4 : (qk == 4) = true := by simp [e]
                have HE0 : Hid (enc ⟨qk, qn, qb⟩ = behL [] 108 (qn % 100) 4 4) := enc4 e
                have HS : Hid (sameP ⟨qk, qn, qb⟩ ⟨qk, qn % 100, []⟩ = true) := by unfold Hid sameP; simp [e]
                clear e
                go_wp2_with fail
                refine (cList B _ _ 99 w2 R2.out (by decide)).mono ?_
                rintro e w3 ⟨rfl, r3, g3⟩
                have hmd : qn % 100 < 100 := Nat.mod_lt _ (by decide)
                rw [HE0.out, rdList_back (qn % 100) sf 99 (by omega) (by omega)] at r3 ⊢
                have P3 : Hid (Blk w3 Y 50 (pcell qk qn a1 qb.length k1)) := P2.out.other' g3 hYB.symm
                have Q3 : Hid (Blk w3 (Y + 1) 50 (pcell qk 0 none 0 0)) := Q2.out.other' g3 hYB1.symm
                have I3 : Hid (IsB w3 a1 qb.length k1 qb) := I2.out.other g3 R2.out.no
                have T3 : Below w.heap.size w w3 := T2.grown g3 T2.size (fun q hq => by injection hq with hq; omega)
                have R3 : Hid (IsR w3 B sf false) := r3
                clear r3 P2 Q2 I2 T2 g3
                have c1 := Q3.out.cell 1
                have f1 := Q3.out.frozen 1
                simp only [pcell, List.getElem?_cons_zero, List.getElem?_cons_succ] at c1
                generalize hqm : qn % 100 = qm at *
                go_wp2_with fail
                go_meet
                case rel =>
                  obtain ⟨s1, s2, s3, s4, s5, s6⟩ := settle (v := .int .u64 (qm : Int)) (j := 1) P3.out Q3.out I3.out R3.out T3 hYs hYB1
                  exact ⟨qm, none, 0, [], by omega, s1, s2, s3, isB_none _, HS, s4, s5⟩
            case rest =>
              obtain ⟨n', a', cap', b', hn', P4, Q4, I4, J4, HS, R4, T4⟩ := hcut
              have p0 := P4.out.cell 0
              have p1 := P4.out.cell 1
              have p2 := P4.out.cell 2
              have r0 := Q4.out.cell 0
              have r1 := Q4.out.cell 1
              have r2 := Q4.out.cell 2
              simp only [pcell, List.getElem?_cons_zero, List.getElem?_cons_succ] at p0 p1 p2 r0 r1 r2
              have X1 : Hid (IsPt wc (.agg (pcell qk qn a1 qb.length k1).toArray) ⟨qk, qn, qb⟩) := ⟨a1, k1, rfl, I4.out⟩
              have X2 : Hid (IsPt wc (.agg (pcell qk n' a' b'.length cap').toArray) ⟨qk, n', b'⟩) := ⟨a', cap', rfl, J4.out⟩
              clear P4 Q4 I4 J4 P2 Q2 I2 R2 T2
              generalize qb.length = lq at *
              generalize b'.length = lb at *
              go_wp2_with fail
              refine (lSame _ _ _ _ wc X1.out X2.out hkn hn').mono ?_
              rintro e w5 ⟨rfl, b5⟩
              rw [HS.out]
              have R5 : Hid (IsR w5 B sf false) := R4.out.on b5
              have T5 : Below w.heap.size w w5 := T4.trans (b5.mono T4.size)
              clear R4 p0 p1 p2 r0 r1 r2 X1 X2
              go_wp2_with fail
              go_roundw
              case rel => exact ⟨j2 + 1, by omega, by go_num, by rw [← HSF.out] at R5; exact R5, T5⟩
              case measure => simp [intOf]; omega
          · have hjl' : ¬ ((j2 : Int) < (len0 : Int)) := by omega
            have HW : Hid (suf ps j2 = []) := suf_end ps j2 (by rw [HE.out]; omega)
            have R1 : Hid (IsR wr B [] false) := by rw [← HW.out]; exact hR.out
            clear hR HW
            go_wp2_with fail
            refine (cDone B _ _ wr R1.out).mono ?_
            rintro e y1 ⟨rfl, hw⟩
            rw [hw, show doneN [] false = 0 by decide]; clear hw y1
            go_wp2_with fail
            refine (cLeft B _ _ wr R1.out).mono ?_
            rintro e y1 ⟨rfl, hw⟩
            rw [hw]; clear hw y1
            go_wp2_with fail
            refine (alive wr).mono ?_
            rintro e y1 ⟨rfl, hb⟩
            go_wp2_with fail
            go_ret
            exact ⟨rfl, hbel.trans (hb.mono hbel.size)⟩
end Go.Proofs.Ytbojhfphgiimnaa
