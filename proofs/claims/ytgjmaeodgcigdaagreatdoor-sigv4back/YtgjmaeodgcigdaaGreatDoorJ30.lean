/- How uri.Canon holds two pairs against each other. What the sort leaves, at pairs that the call owns. What uri.unreserved answers. -/
import Derived.Test.YtgjmaeodgcigdaaGreatDoorJ3
import Derived.Test.YtgjmaeodgcigdaaGreatDoorShelf1
import Derived.Test.YtgjmaeodgcigdaaGreatDoorJ29
import Derived.Test.YtgjmaeodgcigdaaGreatDoorJ6
import Derived.Deep.RegionHeld3
import Derived.Test.YtgjmaeodgcigdaaGreatDoorJ15
import Derived.Lib.OwnBridge
import Derived.Test.YtgjmaeodgcigdaaGreatDoorJ0
import Derived.Test.YtgjmaeodgcigdaaGreatDoorJ1
import Derived.Test.YtgjmaeodgcigdaaGreatDoorJ9
namespace Go.Proofs.YtgjmaeodgcigdaaGreatDoor
open Go.RowKit Go.Shelf Go.Lib Go.Sort

/-- the first that is not nought -/
def orI (a b : Int) : Int := if a = 0 then b else a

set_option maxHeartbeats 1000000 in
theorem codOr (B : Nat) (c0 c1 : Int) (w : World) (h0 : w.cell? ⟨B, 0, none⟩ = some (.int .i64 c0)) (h1 : w.cell? ⟨B, 1, none⟩ = some (.int .i64 c1)) :
    Calls Tryz.prog 85 #[.slice (some ⟨B, 0, none⟩) 2 2] w fun e w' => e = .returned (.int .i64 (orI c0 c1)) ∧ w' = w := by
  by_cases e0 : c0 = 0
  · have er : orI c0 c1 = c1 := by unfold orI; rw [if_pos e0]
    rw [er]
    subst e0
    clear er
    by_cases e1 : c1 = 0
    · subst e1
      go_enter Tryz.func85, Tryz.ntmps85
      go_wp2
      refine wp_loop_rounds 3 ?_
      rw [rounds_succ]
      go_wp2
      rw [rounds_succ]
      go_wp2
      rw [rounds_succ]
      go_wp2
      go_ret
      exact ⟨rfl, rfl⟩
    · go_enter Tryz.func85, Tryz.ntmps85
      go_wp2
      refine wp_loop_rounds 2 ?_
      rw [rounds_succ]
      go_wp2
      rw [rounds_succ]
      go_wp2
      go_ret
      exact ⟨rfl, rfl⟩
  · have er : orI c0 c1 = c0 := by unfold orI; rw [if_neg e0]
    rw [er]
    clear er
    go_enter Tryz.func85, Tryz.ntmps85
    go_wp2
    refine wp_loop_rounds 1 ?_
    rw [rounds_succ]
    go_wp2
    go_ret
    exact ⟨rfl, rfl⟩

/-- how two pairs are held against each other -/
def cfP (x y : Pr) : Int := orI (Lib.compareBytes x.1 y.1) (Lib.compareBytes x.2 y.2)
def prW (p : Pr) : List Value := [.string (str p.1), .string (str p.2)]

set_option maxHeartbeats 2000000 in
theorem codCanon1 (x y : Pr) (W : World) :
    Calls Tryz.prog 84 #[.agg #[.string (str x.1), .string (str x.2)], .agg #[.string (str y.1), .string (str y.2)]] W fun e w' => e = .returned (.int .i64 (cfP x y)) ∧ ∃ q os', w' = grow (W.drewN q) os' := by
  have HC := fun a b w => Tryz.strings_Compare a b w
  have e1 : cfP x y = orI (Lib.compareBytes (str x.1).data.toList (str y.1).data.toList) (Lib.compareBytes (str x.2).data.toList (str y.2).data.toList) := by rw [str_list, str_list, str_list, str_list]; rfl
  rw [e1]
  clear e1
  generalize str x.1 = s1 at *
  generalize str x.2 = s2 at *
  generalize str y.1 = t1 at *
  generalize str y.2 = t2 at *
  generalize hc1 : Lib.compareBytes s1.data.toList t1.data.toList = c1 at *
  generalize hc2 : Lib.compareBytes s2.data.toList t2.data.toList = c2 at *
  have K1 : ∀ w, Calls Tryz.prog 86 #[.string s1, .string t1] w fun e w' => e = .returned (.int .i64 c1) ∧ w' = w := fun w => by rw [← hc1]; exact HC s1 t1 w
  have K2 : ∀ w, Calls Tryz.prog 86 #[.string s2, .string t2] w fun e w' => e = .returned (.int .i64 c2) ∧ w' = w := fun w => by rw [← hc2]; exact HC s2 t2 w
  clear HC hc1 hc2
  have B1 := (Blk.newAt W W.heap.size 122 _ [.string s1, .string s2] rfl rfl).alloc (.cells #[.string t1, .string t2] 122)
  have B2 := Blk.newAt (W.alloc (.cells #[.string s1, .string s2] 122)) (W.heap.size + 1) 122 _ [.string t1, .string t2] (by simp) rfl
  have g1 := B1.cell 0
  have g2 := B1.cell 1
  have g3 := B2.cell 0
  have g4 := B2.cell 1
  simp only [List.getElem?_cons_zero, List.getElem?_cons_succ] at g1 g2 g3 g4
  have hsz : ((W.alloc (.cells #[.string s1, .string s2] 122)).alloc (.cells #[.string t1, .string t2] 122)).heap.size = W.heap.size + 1 + 1 := by simp
  have HX : Hid (∃ os, ((W.alloc (.cells #[.string s1, .string s2] 122)).alloc (.cells #[.string t1, .string t2] 122)) = grow W os) := ⟨_, by rw [alloc_eq_grow, alloc_eq_grow, grow_grow]⟩
  go_enter Tryz.func84, Tryz.ntmps84
  go_upto_region 1 with fail
  clear B1 B2
  generalize ((W.alloc (.cells #[.string s1, .string s2] 122)).alloc (.cells #[.string t1, .string t2] 122)) = X at *
  go_region_held3 (fun w' => w'.cell? ⟨W.heap.size, 0, none⟩ = some (.string s1) ∧ w'.cell? ⟨W.heap.size, 1, none⟩ = some (.string s2) ∧ w'.cell? ⟨W.heap.size + 1, 0, none⟩ = some (.string t1) ∧ w'.cell? ⟨W.heap.size + 1, 1, none⟩ = some (.string t2))
    (first | exact ⟨g1, g2, g3, g4⟩ | go_keep)
    (first | (go_at_call 86; have hM := M1; refine (K2 _).mono ?_; rintro e w' ⟨rfl, hww⟩; rw [hww]; clear hww w'; have M2 : True := trivial) | (go_at_call 86; refine (K1 _).mono ?_; rintro e w' ⟨rfl, hww⟩; rw [hww]; clear hww w'; have M1 : True := trivial) | (go_at_call 85; refine (codOr _ c1 c2 _ (by exact (Blk.newAt X _ 3 _ [.int .i64 c1, .int .i64 c2] (by first | rfl | exact hsz) rfl).cell 0) (by exact (Blk.newAt X _ 3 _ [.int .i64 c1, .int .i64 c2] (by first | rfl | exact hsz) rfl).cell 1)).mono ?_; rintro e w' ⟨rfl, hww⟩; rw [hww]; clear hww w'))
  all_goals
    go_wp2
    go_ret
    obtain ⟨os, hX⟩ := HX.out
    refine ⟨rfl, 1, os ++ #[.cells #[.int .i64 c1, .int .i64 c2] 3], ?_⟩
    rw [hX, alloc_eq_grow, grow_grow]
    rfl

theorem cmp_lt (x y : List UInt8) : Lib.compareBytes x y < 0 ↔ Op.bytesLess x y = true := by
  induction x generalizing y with
  | nil => cases y <;> simp [Lib.compareBytes, Op.bytesLess]
  | cons a x ih =>
    cases y with
    | nil => simp [Lib.compareBytes, Op.bytesLess]
    | cons b y =>
      rw [Lib.compareBytes, bless_cons]
      rcases u8_tri a b with h | h | h
      · simp [h]
      · subst h
        have : ¬ a < a := UInt8.lt_irrefl a
        simp [this, ih]
      · have h1 : ¬ a < b := fun h2 => UInt8.lt_irrefl a (UInt8.lt_trans h2 h)
        have h2 : ¬ a = b := fun e => by subst e; exact UInt8.lt_irrefl a h
        simp [h, h1, h2]
theorem cmp_eq (x y : List UInt8) : Lib.compareBytes x y = 0 ↔ x = y := by
  induction x generalizing y with
  | nil => cases y <;> simp [Lib.compareBytes]
  | cons a x ih =>
    cases y with
    | nil => simp [Lib.compareBytes]
    | cons b y =>
      rw [Lib.compareBytes]
      rcases u8_tri a b with h | h | h
      · have h2 : ¬ a = b := fun e => by subst e; exact UInt8.lt_irrefl a h
        simp [h, h2]
      · subst h
        have : ¬ a < a := UInt8.lt_irrefl a
        simp [this, ih]
      · have h1 : ¬ a < b := fun h2 => UInt8.lt_irrefl a (UInt8.lt_trans h2 h)
        have h2 : ¬ a = b := fun e => by subst e; exact UInt8.lt_irrefl a h
        simp [h, h1, h2]
theorem lt_gtP (x y : Pr) : ltOf cfP x y = gtP y x := by
  rw [Bool.eq_iff_iff, gtP_iff]
  unfold ltOf cfP orI
  rw [decide_eq_true_eq]
  by_cases h : Lib.compareBytes x.1 y.1 = 0
  · rw [if_pos h, cmp_lt]
    have e := (cmp_eq _ _).1 h
    constructor
    · intro h2; exact .inr ⟨e.symm, h2⟩
    · rintro (h2 | h2)
      · rw [e, bless_irrefl] at h2; cases h2
      · exact h2.2
  · rw [if_neg h, cmp_lt]
    constructor
    · intro h2; exact .inl h2
    · rintro (h2 | h2)
      · exact h2
      · exact absurd ((cmp_eq _ _).2 h2.1.symm) h
theorem ngt_le (x y : Pr) : gtP x y = false ↔ leP x y = true := by unfold leP; cases gtP x y <;> simp
theorem swoP : SWO (ltOf cfP) where
  irrefl x := by rw [lt_gtP]; exact gtP_irrefl x
  trans x y z h1 h2 := by rw [lt_gtP] at *; exact gtP_trans _ _ _ h2 h1
  ntrans x y z h1 h2 := by rw [lt_gtP, ngt_le] at *; exact leP_trans _ _ _ h2 h1
theorem totP (x y : Pr) (h1 : ltOf cfP x y = false) (h2 : ltOf cfP y x = false) : x = y := by
  rw [lt_gtP, ngt_le] at *
  exact leP_antisymm _ _ h2 h1
theorem merge_sort (l : List Pr) : (l.map encP).mergeSort (fun x y => !(ltOf cfP) y x) = sortL l := by
  have e : (fun x y => !(ltOf cfP) y x) = leP := by funext x y; rw [lt_gtP]; rfl
  rw [e]
  refine sorted_one ((List.mergeSort_perm _ _).trans (sortL_perm l).symm) ?_ (sortL_sorted l)
  exact List.pairwise_mergeSort (fun a b c => leP_trans a b c) (fun a b => by simpa using leP_total a b) _
theorem cmpLaysP (blk off size : Nat) (w : World) : CmpLays Tryz.prog 84 #[] prW 2 cfP blk off size w := fun _ _ _ _ x y => codCanon1 x y _
end Go.Proofs.YtgjmaeodgcigdaaGreatDoor
namespace Go.Proofs.YtgjmaeodgcigdaaGreatDoor
open Go.RowKit Go.Shelf Go.Lib Go.Sort

theorem below_grow {B : Nat} {w0 w : World} (h : Below B w0 w) (hB : B ≤ w.heap.size) (os : Array Obj) : Below B w0 (grow w os) :=
  h.trans ⟨rfl, rfl, rfl, by simp, fun k hk => by
    show (w.heap ++ os)[k]? = w.heap[k]?
    rw [Array.getElem?_append_left (by omega)]⟩

theorem pcs_flat (L : List Pr) (t : Nat) (h : t < L.length * 2) : (pcs L)[t]? = some ((prW L.toArray[t / 2]!)[t % 2]!) := by
  have hq : t / 2 < L.length := by omega
  obtain ⟨p1, p2⟩ := pcs_at L (t / 2) hq
  have e : L.toArray[t / 2]! = nthP L (t / 2) := by
    rw [nthP_eq L _ hq]; simp [hq]
  rw [e]
  rcases Nat.mod_two_eq_zero_or_one t with hm | hm
  · have : t = t / 2 * 2 := by omega
    rw [hm]
    rw [this, show t / 2 * 2 / 2 = t / 2 by omega, p1]; rfl
  · have : t = t / 2 * 2 + 1 := by omega
    rw [hm]
    rw [this, show (t / 2 * 2 + 1) / 2 = t / 2 by omega, p2]; rfl

theorem holds_own {e : TypeId} {w : World} {N g cap : Nat} {L : List Pr} (h : OwnP e w N (.slice (some ⟨g, 0, none⟩) L.length cap) L) : HoldsK prW 2 w g 0 L.toArray := by
  intro t ht
  rw [size_flatK] at ht
  have ht' : t < L.length * 2 := by simpa using ht
  rw [get_flatK _ _ _ t (by simpa using ht'), Nat.zero_add]
  have hown : w.ownsRow N e 2 (.slice (some ⟨g, 0, none⟩) L.length cap) L.length (pcs L) := h
  refine ⟨?_, hown.frozenAt t⟩
  rw [hown.cellAt t ht', pcs_flat L t ht']; rfl

theorem isP_holds {w : World} {g cap : Nat} {L : List Pr} (h : HoldsK prW 2 w g 0 L.toArray) (h1 : L.length ≤ cap) (h2 : cap ≤ maxLen) : IsP w (some ⟨g, 0, none⟩) L.length cap L :=
  ⟨rfl, h1, h2, fun e => (by cases e), fun _ => ⟨g, 0, rfl, fun i hi => by
    have a0 := h.cell (i := i) (c := 0) (by simpa using hi) (by omega)
    have a1 := h.cell (i := i) (c := 1) (by simpa using hi) (by omega)
    have e : L.toArray[i]! = nthP L i := by rw [nthP_eq L _ hi]; simp [hi]
    rw [e] at a0 a1
    exact ⟨a0.1, a1.1⟩⟩⟩

theorem codSort (N : Nat) (v : Value) (l : List Pr) (w : World) (hN : N ≤ w.heap.size) (h : OwnP 122 w N v (l.map encP)) (hl : l.length ≤ 50) :
    Calls Tryz.prog 83 #[v, .func (.func 84) #[] #[]] w fun e w' => e = .returned (.tuple #[]) ∧ Below N w w' ∧ ∃ a cap, v = .slice a l.length cap ∧ IsP w' a l.length cap (sortL l) := by
  by_cases h0 : l = []
  · subst h0
    obtain ⟨a, cap, rfl, hi⟩ := h.isP
    have hc := AnyF.slices_SortFunc_none Tryz.laySort a cap (.func (.func 84) #[] #[]) w
    change Calls Tryz.prog 83 _ _ _ at hc
    refine hc.mono ?_
    rintro e w' ⟨rfl, rfl⟩
    exact ⟨rfl, Below.refl _ _, a, cap, rfl, hi⟩
  · have hpos : 0 < (l.map encP).length := by rw [List.length_map]; exact List.length_pos_iff.2 h0
    obtain ⟨g, cap, rfl, hb, hg⟩ := World.ownsRow.form h hpos
    have hH := holds_own h
    obtain ⟨a', cap', ev, hi⟩ := h.isP
    cases ev
    have eg : ∀ args w, (callFunc 84 args).run Tryz.prog w = .ok (.enter 84 args) w := enters_of Tryz.func84 (by kernel_rfl) rfl
    have hc := AnyQ.slices_SortFunc_total Tryz.laySort 2 Tryz.isAgg122 Tryz.sizeOf122 prW (fun _ => rfl) (fun x v hv => by simp [prW] at hv; rcases hv with rfl | rfl <;> rfl) cfP swoP 84 #[] g 0 cap (l.map encP).toArray w eg (cmpLaysP g 0 _ w) hH hg (by simp; omega) totP
    change Calls Tryz.prog 83 _ _ _ at hc
    rw [show (l.map encP).toArray.toList = l.map encP from rfl, merge_sort] at hc
    rw [show (l.map encP).toArray.size = (l.map encP).length from by simp] at hc
    refine hc.mono ?_
    rintro e w' ⟨rfl, n, os, rfl⟩
    have hs : (sortL l).toArray.size = (l.map encP).toArray.size := by simp [sortL_length]
    have hH2 := holdsK_sortWorldK_c prW 2 w g 0 (l.map encP).toArray (sortL l).toArray n os hH hg hs
    refine ⟨rfl, ?_, some ⟨g, 0, none⟩, cap, by rw [List.length_map], ?_⟩
    · unfold sortWorldK putRowK
      exact below_grow (below_putRow (Below.refl N w) hb) (by simp [putRow, mapBlock, Sort.ahead]; omega) os
    · have := isP_holds (cap := cap) hH2 (by have := hi.le; rw [sortL_length]; simpa using this) hi.max
      rw [sortL_length] at this
      exact this
end Go.Proofs.YtgjmaeodgcigdaaGreatDoor
namespace Go.Proofs.YtgjmaeodgcigdaaGreatDoor
open Go.RowKit

set_option maxHeartbeats 1000000 in
theorem codPlain (c : UInt8) (w : World) :
    Calls Tryz.prog 82 #[.int .u8 (c.toNat : Int)] w fun e w' => e = .returned (.bool (plainB c)) ∧ w' = w := by
  obtain ⟨n, hn⟩ : ∃ n, n = c.toNat := ⟨_, rfl⟩
  have H : Hid (plainB c = plainN n) := by unfold Hid plainB; rw [hn]
  have h256 : n < 256 := by rw [hn]; exact c.toNat_lt
  rw [← hn]
  clear hn
  by_cases c1 : n < 45
  · have i1 : (n : Int) < 45 := by omega
    clear c1
    go_enter Tryz.func82, Tryz.ntmps82
    go_wp2
    go_ret
    exact ⟨ret_b (by rw [H.out]; unfold plainN; rw [Bool.eq_iff_iff]; simp <;> omega), rfl⟩
  by_cases c2 : n = 45
  · subst c2
    clear c1
    go_enter Tryz.func82, Tryz.ntmps82
    go_wp2
    go_ret
    exact ⟨ret_b (by rw [H.out]; unfold plainN; rw [Bool.eq_iff_iff]; simp <;> omega), rfl⟩
  by_cases c3 : n = 46
  · subst c3
    clear c1 c2
    go_enter Tryz.func82, Tryz.ntmps82
    go_wp2
    go_ret
    exact ⟨ret_b (by rw [H.out]; unfold plainN; rw [Bool.eq_iff_iff]; simp <;> omega), rfl⟩
  by_cases c4 : n = 47
  · subst c4
    clear c1 c2 c3
    go_enter Tryz.func82, Tryz.ntmps82
    go_wp2
    go_ret
    exact ⟨ret_b (by rw [H.out]; unfold plainN; rw [Bool.eq_iff_iff]; simp <;> omega), rfl⟩
  by_cases c5 : n ≤ 57
  · have i1 : (48 : Int) ≤ (n : Int) := by omega
    have i2 : (n : Int) ≤ 57 := by omega
    clear c1 c2 c3 c4 c5
    go_enter Tryz.func82, Tryz.ntmps82
    go_wp2
    go_ret
    exact ⟨ret_b (by rw [H.out]; unfold plainN; rw [Bool.eq_iff_iff]; simp <;> omega), rfl⟩
  by_cases c6 : n < 65
  · have i1 : (57 : Int) < (n : Int) := by omega
    have i2 : (n : Int) < 65 := by omega
    clear c1 c2 c3 c4 c5 c6
    go_enter Tryz.func82, Tryz.ntmps82
    go_wp2
    go_ret
    exact ⟨ret_b (by rw [H.out]; unfold plainN; rw [Bool.eq_iff_iff]; simp <;> omega), rfl⟩
  by_cases c7 : n ≤ 90
  · have i1 : (65 : Int) ≤ (n : Int) := by omega
    have i2 : (n : Int) ≤ 90 := by omega
    clear c1 c2 c3 c4 c5 c6 c7
    go_enter Tryz.func82, Tryz.ntmps82
    go_wp2
    go_ret
    exact ⟨ret_b (by rw [H.out]; unfold plainN; rw [Bool.eq_iff_iff]; simp <;> omega), rfl⟩
  by_cases c8 : n = 95
  · subst c8
    clear c1 c2 c3 c4 c5 c6 c7
    go_enter Tryz.func82, Tryz.ntmps82
    go_wp2
    go_ret
    exact ⟨ret_b (by rw [H.out]; unfold plainN; rw [Bool.eq_iff_iff]; simp <;> omega), rfl⟩
  by_cases c9 : n < 97
  · have i1 : (90 : Int) < (n : Int) := by omega
    have i2 : (n : Int) < 97 := by omega
    have i3 : ¬ (n : Int) = 95 := by omega
    clear c1 c2 c3 c4 c5 c6 c7 c8 c9
    go_enter Tryz.func82, Tryz.ntmps82
    go_wp2
    go_ret
    exact ⟨ret_b (by rw [H.out]; unfold plainN; rw [Bool.eq_iff_iff]; simp <;> omega), rfl⟩
  by_cases c10 : n ≤ 122
  · have i1 : (97 : Int) ≤ (n : Int) := by omega
    have i2 : (n : Int) ≤ 122 := by omega
    clear c1 c2 c3 c4 c5 c6 c7 c8 c9 c10
    go_enter Tryz.func82, Tryz.ntmps82
    go_wp2
    go_ret
    exact ⟨ret_b (by rw [H.out]; unfold plainN; rw [Bool.eq_iff_iff]; simp <;> omega), rfl⟩
  by_cases c11 : n = 126
  · subst c11
    clear c1 c2 c3 c4 c5 c6 c7 c8 c9 c10
    go_enter Tryz.func82, Tryz.ntmps82
    go_wp2
    go_ret
    exact ⟨ret_b (by rw [H.out]; unfold plainN; rw [Bool.eq_iff_iff]; simp <;> omega), rfl⟩
  have i1 : (122 : Int) < (n : Int) := by omega
  have i3 : ¬ (n : Int) = 126 := by omega
  clear c1 c2 c3 c4 c5 c6 c7 c8 c9 c10 c11
  go_enter Tryz.func82, Tryz.ntmps82
  go_wp2
  go_ret
  exact ⟨ret_b (by rw [H.out]; unfold plainN; rw [Bool.eq_iff_iff]; simp <;> omega), rfl⟩
end Go.Proofs.YtgjmaeodgcigdaaGreatDoor
