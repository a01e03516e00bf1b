/- How uri.Canon holds two pairs against each other. · What the sort leaves, at pairs that the call owns. · What uri.unreserved answers. · What uri.Encode answers. · What uri.Encode answers, at a list of bytes. · The library's contracts at this dump, as the guide's tool lays them. -/
import Derived.Test.YtgjmaeodgcigdaaGreatDoorB2
import Derived.Test.YtgjmaeodgcigdaaGreatDoorShelf1
import Derived.Test.YtgjmaeodgcigdaaGreatDoorB25
import Derived.Test.YtgjmaeodgcigdaaGreatDoorB5
import Derived.Deep.RegionHeld3
import Derived.Test.YtgjmaeodgcigdaaGreatDoorB14
import Derived.Lib.OwnBridge
import Derived.Test.YtgjmaeodgcigdaaGreatDoorB0
import Derived.Test.YtgjmaeodgcigdaaGreatDoorB8
import Derived.Test.YtgjmaeodgcigdaaGreatDoorB15
import Derived.Shelf.Strings.Builder1
import Derived.Shelf.Strings.Builder2
import Derived.Shelf.Strings.OnBuilder
import Derived.Test.YtgjmaeodgcigdaaGreatDoorProg
namespace Go.Proofs.YtgjmaeodgcigdaaGreatDoor
open Go.RowKit Go.Shelf Go.Lib Go.Sort

/-- the first that is not nought -/
def orI (a b : Int) : Int := if a = 0 then b else a

set_option maxHeartbeats 1000000 in
theorem codOr (B : Nat) (c0 c1 : Int) (w : World) (h0 : w.cell? ⟨B, 0, none⟩ = some (.int .i64 c0)) (h1 : w.cell? ⟨B, 1, none⟩ = some (.int .i64 c1)) :
    Calls Tryz.prog 85 #[.slice (some ⟨B, 0, none⟩) 2 2] w fun e w' => e = .returned (.int .i64 (orI c0 c1)) ∧ w' = w := by
  by_cases e0 : c0 = 0
  · have er : orI c0 c1 = c1 := by unfold orI; rw [if_pos e0]
    rw [er]
    subst e0
    clear er
    by_cases e1 : c1 = 0
    · subst e1
      go_enter Tryz.func85, Tryz.ntmps85
      go_wp2
      refine wp_loop_rounds 3 ?_
      rw [rounds_succ]
      go_wp2
      rw [rounds_succ]
      go_wp2
      rw [rounds_succ]
      go_wp2
      go_ret
      exact ⟨rfl, rfl⟩
    · go_enter Tryz.func85, Tryz.ntmps85
      go_wp2
      refine wp_loop_rounds 2 ?_
      rw [rounds_succ]
      go_wp2
      rw [rounds_succ]
      go_wp2
      go_ret
      exact ⟨rfl, rfl⟩
  · have er : orI c0 c1 = c0 := by unfold orI; rw [if_neg e0]
    rw [er]
    clear er
    go_enter Tryz.func85, Tryz.ntmps85
    go_wp2
    refine wp_loop_rounds 1 ?_
    rw [rounds_succ]
    go_wp2
    go_ret
    exact ⟨rfl, rfl⟩

/-- how two pairs are held against each other -/
def cfP (x y : Pr) : Int := orI (Lib.compareBytes x.1 y.1) (Lib.compareBytes x.2 y.2)
def prW (p : Pr) : List Value := [.string (str p.1), .string (str p.2)]

set_option maxHeartbeats 2000000 in
theorem codCanon1 (x y : Pr) (W : World) :
    Calls Tryz.prog 84 #[.agg #[.string (str x.1), .string (str x.2)], .agg #[.string (str y.1), .string (str y.2)]] W fun e w' => e = .returned (.int .i64 (cfP x y)) ∧ ∃ q os', w' = grow (W.drewN q) os' := by
  have HC := fun a b w => Tryz.strings_Compare a b w
  have e1 : cfP x y = orI (Lib.compareBytes (str x.1).data.toList (str y.1).data.toList) (Lib.compareBytes (str x.2).data.toList (str y.2).data.toList) := by rw [str_list, str_list, str_list, str_list]; rfl
  rw [e1]
  clear e1
  generalize str x.1 = s1 at *
  generalize str x.2 = s2 at *
  generalize str y.1 = t1 at *
  generalize str y.2 = t2 at *
  generalize hc1 : Lib.compareBytes s1.data.toList t1.data.toList = c1 at *
  generalize hc2 : Lib.compareBytes s2.data.toList t2.data.toList = c2 at *
  have K1 : ∀ w, Calls Tryz.prog 86 #[.string s1, .string t1] w fun e w' => e = .returned (.int .i64 c1) ∧ w' = w := fun w => by rw [← hc1]; exact HC s1 t1 w
  have K2 : ∀ w, Calls Tryz.prog 86 #[.string s2, .string t2] w fun e w' => e = .returned (.int .i64 c2) ∧ w' = w := fun w => by rw [← hc2]; exact HC s2 t2 w
  clear HC hc1 hc2
  have B1 := (Blk.newAt W W.heap.size 122 _ [.string s1, .string s2] rfl rfl).alloc (.cells #[.string t1, .string t2] 122)
  have B2 := Blk.newAt (W.alloc (.cells #[.string s1, .string s2] 122)) (W.heap.size + 1) 122 _ [.string t1, .string t2] (by simp) rfl
  have g1 := B1.cell 0
  have g2 := B1.cell 1
  have g3 := B2.cell 0
  have g4 := B2.cell 1
  simp only [List.getElem?_cons_zero, List.getElem?_cons_succ] at g1 g2 g3 g4
  have hsz : ((W.alloc (.cells #[.string s1, .string s2] 122)).alloc (.cells #[.string t1, .string t2] 122)).heap.size = W.heap.size + 1 + 1 := by simp
  have HX : Hid (∃ os, ((W.alloc (.cells #[.string s1, .string s2] 122)).alloc (.cells #[.string t1, .string t2] 122)) = grow W os) := ⟨_, by rw [alloc_eq_grow, alloc_eq_grow, grow_grow]⟩
  go_enter Tryz.func84, Tryz.ntmps84
  go_upto_region 1 with fail
  clear B1 B2
  generalize ((W.alloc (.cells #[.string s1, .string s2] 122)).alloc (.cells #[.string t1, .string t2] 122)) = X at *
  go_region_held3 (fun w' => w'.cell? ⟨W.heap.size, 0, none⟩ = some (.string s1) ∧ w'.cell? ⟨W.heap.size, 1, none⟩ = some (.string s2) ∧ w'.cell? ⟨W.heap.size + 1, 0, none⟩ = some (.string t1) ∧ w'.cell? ⟨W.heap.size + 1, 1, none⟩ = some (.string t2))
    (first | exact ⟨g1, g2, g3, g4⟩ | go_keep)
    (first | (go_at_call 86; have hM := M1; refine (K2 _).mono ?_; rintro e w' ⟨rfl, hww⟩; rw [hww]; clear hww w'; have M2 : True := trivial) | (go_at_call 86; refine (K1 _).mono ?_; rintro e w' ⟨rfl, hww⟩; rw [hww]; clear hww w'; have M1 : True := trivial) | (go_at_call 85; refine (codOr _ c1 c2 _ (by exact (Blk.newAt X _ 3 _ [.int .i64 c1, .int .i64 c2] (by first | rfl | exact hsz) rfl).cell 0) (by exact (Blk.newAt X _ 3 _ [.int .i64 c1, .int .i64 c2] (by first | rfl | exact hsz) rfl).cell 1)).mono ?_; rintro e w' ⟨rfl, hww⟩; rw [hww]; clear hww w'))
  all_goals
    go_wp2
    go_ret
    obtain ⟨os, hX⟩ := HX.out
    refine ⟨rfl, 1, os ++ #[.cells #[.int .i64 c1, .int .i64 c2] 3], ?_⟩
    rw [hX, alloc_eq_grow, grow_grow]
    rfl

theorem cmp_lt (x y : List UInt8) : Lib.compareBytes x y < 0 ↔ Op.bytesLess x y = true := by
  induction x generalizing y with
  | nil => cases y <;> simp [Lib.compareBytes, Op.bytesLess]
  | cons a x ih =>
    cases y with
    | nil => simp [Lib.compareBytes, Op.bytesLess]
    | cons b y =>
      rw [Lib.compareBytes, bless_cons]
      rcases u8_tri a b with h | h | h
      · simp [h]
      · subst h
        have : ¬ a < a := UInt8.lt_irrefl a
        simp [this, ih]
      · have h1 : ¬ a < b := fun h2 => UInt8.lt_irrefl a (UInt8.lt_trans h2 h)
        have h2 : ¬ a = b := fun e => by subst e; exact UInt8.lt_irrefl a h
        simp [h, h1, h2]
theorem cmp_eq (x y : List UInt8) : Lib.compareBytes x y = 0 ↔ x = y := by
  induction x generalizing y with
  | nil => cases y <;> simp [Lib.compareBytes]
  | cons a x ih =>
    cases y with
    | nil => simp [Lib.compareBytes]
    | cons b y =>
      rw [Lib.compareBytes]
      rcases u8_tri a b with h | h | h
      · have h2 : ¬ a = b := fun e => by subst e; exact UInt8.lt_irrefl a h
        simp [h, h2]
      · subst h
        have : ¬ a < a := UInt8.lt_irrefl a
        simp [this, ih]
      · have h1 : ¬ a < b := fun h2 => UInt8.lt_irrefl a (UInt8.lt_trans h2 h)
        have h2 : ¬ a = b := fun e => by subst e; exact UInt8.lt_irrefl a h
        simp [h, h1, h2]
theorem lt_gtP (x y : Pr) : ltOf cfP x y = gtP y x := by
  rw [Bool.eq_iff_iff, gtP_iff]
  unfold ltOf cfP orI
  rw [decide_eq_true_eq]
  by_cases h : Lib.compareBytes x.1 y.1 = 0
  · rw [if_pos h, cmp_lt]
    have e := (cmp_eq _ _).1 h
    constructor
    · intro h2; exact .inr ⟨e.symm, h2⟩
    · rintro (h2 | h2)
      · rw [e, bless_irrefl] at h2; cases h2
      · exact h2.2
  · rw [if_neg h, cmp_lt]
    constructor
    · intro h2; exact .inl h2
    · rintro (h2 | h2)
      · exact h2
      · exact absurd ((cmp_eq _ _).2 h2.1.symm) h
theorem ngt_le (x y : Pr) : gtP x y = false ↔ leP x y = true := by unfold leP; cases gtP x y <;> simp
theorem swoP : SWO (ltOf cfP) where
  irrefl x := by rw [lt_gtP]; exact gtP_irrefl x
  trans x y z h1 h2 := by rw [lt_gtP] at *; exact gtP_trans _ _ _ h2 h1
  ntrans x y z h1 h2 := by rw [lt_gtP, ngt_le] at *; exact leP_trans _ _ _ h2 h1
theorem totP (x y : Pr) (h1 : ltOf cfP x y = false) (h2 : ltOf cfP y x = false) : x = y := by
  rw [lt_gtP, ngt_le] at *
  exact leP_antisymm _ _ h2 h1
theorem merge_sort (l : List Pr) : (l.map encP).mergeSort (fun x y => !(ltOf cfP) y x) = sortL l := by
  have e : (fun x y => !(ltOf cfP) y x) = leP := by funext x y; rw [lt_gtP]; rfl
  rw [e]
  refine sorted_one ((List.mergeSort_perm _ _).trans (sortL_perm l).symm) ?_ (sortL_sorted l)
  exact List.pairwise_mergeSort (fun a b c => leP_trans a b c) (fun a b => by simpa using leP_total a b) _
theorem cmpLaysP (blk off size : Nat) (w : World) : CmpLays Tryz.prog 84 #[] prW 2 cfP blk off size w := fun _ _ _ _ x y => codCanon1 x y _
end Go.Proofs.YtgjmaeodgcigdaaGreatDoor
namespace Go.Proofs.YtgjmaeodgcigdaaGreatDoor
open Go.RowKit Go.Shelf Go.Lib Go.Sort

theorem below_grow {B : Nat} {w0 w : World} (h : Below B w0 w) (hB : B ≤ w.heap.size) (os : Array Obj) : Below B w0 (grow w os) :=
  h.trans ⟨rfl, rfl, rfl, by simp, fun k hk => by
    show (w.heap ++ os)[k]? = w.heap[k]?
    rw [Array.getElem?_append_left (by omega)]⟩

theorem pcs_flat (L : List Pr) (t : Nat) (h : t < L.length * 2) : (pcs L)[t]? = some ((prW L.toArray[t / 2]!)[t % 2]!) := by
  have hq : t / 2 < L.length := by omega
  obtain ⟨p1, p2⟩ := pcs_at L (t / 2) hq
  have e : L.toArray[t / 2]! = nthP L (t / 2) := by
    rw [nthP_eq L _ hq]; simp [hq]
  rw [e]
  rcases Nat.mod_two_eq_zero_or_one t with hm | hm
  · have : t = t / 2 * 2 := by omega
    rw [hm]
    rw [this, show t / 2 * 2 / 2 = t / 2 by omega, p1]; rfl
  · have : t = t / 2 * 2 + 1 := by omega
    rw [hm]
    rw [this, show (t / 2 * 2 + 1) / 2 = t / 2 by omega, p2]; rfl

theorem holds_own {e : TypeId} {w : World} {N g cap : Nat} {L : List Pr} (h : OwnP e w N (.slice (some ⟨g, 0, none⟩) L.length cap) L) : HoldsK prW 2 w g 0 L.toArray := by
  intro t ht
  rw [size_flatK] at ht
  have ht' : t < L.length * 2 := by simpa using ht
  rw [get_flatK _ _ _ t (by simpa using ht'), Nat.zero_add]
  have hown : w.ownsRow N e 2 (.slice (some ⟨g, 0, none⟩) L.length cap) L.length (pcs L) := h
  refine ⟨?_, hown.frozenAt t⟩
  rw [hown.cellAt t ht', pcs_flat L t ht']; rfl

theorem isP_holds {w : World} {g cap : Nat} {L : List Pr} (h : HoldsK prW 2 w g 0 L.toArray) (h1 : L.length ≤ cap) (h2 : cap ≤ maxLen) : IsP w (some ⟨g, 0, none⟩) L.length cap L :=
  ⟨rfl, h1, h2, fun e => (by cases e), fun _ => ⟨g, 0, rfl, fun i hi => by
    have a0 := h.cell (i := i) (c := 0) (by simpa using hi) (by omega)
    have a1 := h.cell (i := i) (c := 1) (by simpa using hi) (by omega)
    have e : L.toArray[i]! = nthP L i := by rw [nthP_eq L _ hi]; simp [hi]
    rw [e] at a0 a1
    exact ⟨a0.1, a1.1⟩⟩⟩

theorem codSort (N : Nat) (v : Value) (l : List Pr) (w : World) (hN : N ≤ w.heap.size) (h : OwnP 122 w N v (l.map encP)) (hl : l.length ≤ 50) :
    Calls Tryz.prog 83 #[v, .func (.func 84) #[] #[]] w fun e w' => e = .returned (.tuple #[]) ∧ Below N w w' ∧ ∃ a cap, v = .slice a l.length cap ∧ IsP w' a l.length cap (sortL l) := by
  by_cases h0 : l = []
  · subst h0
    obtain ⟨a, cap, rfl, hi⟩ := h.isP
    have hc := AnyF.slices_SortFunc_none Tryz.laySort a cap (.func (.func 84) #[] #[]) w
    change Calls Tryz.prog 83 _ _ _ at hc
    refine hc.mono ?_
    rintro e w' ⟨rfl, rfl⟩
    exact ⟨rfl, Below.refl _ _, a, cap, rfl, hi⟩
  · have hpos : 0 < (l.map encP).length := by rw [List.length_map]; exact List.length_pos_iff.2 h0
    obtain ⟨g, cap, rfl, hb, hg⟩ := World.ownsRow.form h hpos
    have hH := holds_own h
    obtain ⟨a', cap', ev, hi⟩ := h.isP
    cases ev
    have eg : ∀ args w, (callFunc 84 args).run Tryz.prog w = .ok (.enter 84 args) w := enters_of Tryz.func84 (by kernel_rfl) rfl
    have hc := AnyQ.slices_SortFunc_total Tryz.laySort 2 Tryz.isAgg122 Tryz.sizeOf122 prW (fun _ => rfl) (fun x v hv => by simp [prW] at hv; rcases hv with rfl | rfl <;> rfl) cfP swoP 84 #[] g 0 cap (l.map encP).toArray w eg (cmpLaysP g 0 _ w) hH hg (by simp; omega) totP
    change Calls Tryz.prog 83 _ _ _ at hc
    rw [show (l.map encP).toArray.toList = l.map encP from rfl, merge_sort] at hc
    rw [show (l.map encP).toArray.size = (l.map encP).length from by simp] at hc
    refine hc.mono ?_
    rintro e w' ⟨rfl, n, os, rfl⟩
    have hs : (sortL l).toArray.size = (l.map encP).toArray.size := by simp [sortL_length]
    have hH2 := holdsK_sortWorldK_c prW 2 w g 0 (l.map encP).toArray (sortL l).toArray n os hH hg hs
    refine ⟨rfl, ?_, some ⟨g, 0, none⟩, cap, by rw [List.length_map], ?_⟩
    · unfold sortWorldK putRowK
      exact below_grow (below_putRow (Below.refl N w) hb) (by simp [putRow, mapBlock, Sort.ahead]; omega) os
    · have := isP_holds (cap := cap) hH2 (by have := hi.le; rw [sortL_length]; simpa using this) hi.max
      rw [sortL_length] at this
      exact this
end Go.Proofs.YtgjmaeodgcigdaaGreatDoor
namespace Go.Proofs.YtgjmaeodgcigdaaGreatDoor
open Go.RowKit

set_option maxHeartbeats 1000000 in
theorem codPlain (c : UInt8) (w : World) :
    Calls Tryz.prog 82 #[.int .u8 (c.toNat : Int)] w fun e w' => e = .returned (.bool (plainB c)) ∧ w' = w := by
  obtain ⟨n, hn⟩ : ∃ n, n = c.toNat := ⟨_, rfl⟩
  have H : Hid (plainB c = plainN n) := by unfold Hid plainB; rw [hn]
  have h256 : n < 256 := by rw [hn]; exact c.toNat_lt
  rw [← hn]
  clear hn
  by_cases c1 : n < 45
  · have i1 : (n : Int) < 45 := by omega
    clear c1
    go_enter Tryz.func82, Tryz.ntmps82
    go_wp2
    go_ret
    exact ⟨ret_b (by rw [H.out]; unfold plainN; rw [Bool.eq_iff_iff]; simp <;> omega), rfl⟩
  by_cases c2 : n = 45
  · subst c2
    clear c1
    go_enter Tryz.func82, Tryz.ntmps82
    go_wp2
    go_ret
    exact ⟨ret_b (by rw [H.out]; unfold plainN; rw [Bool.eq_iff_iff]; simp <;> omega), rfl⟩
  by_cases c3 : n = 46
  · subst c3
    clear c1 c2
    go_enter Tryz.func82, Tryz.ntmps82
    go_wp2
    go_ret
    exact ⟨ret_b (by rw [H.out]; unfold plainN; rw [Bool.eq_iff_iff]; simp <;> omega), rfl⟩
  by_cases c4 : n = 47
  · subst c4
    clear c1 c2 c3
    go_enter Tryz.func82, Tryz.ntmps82
    go_wp2
    go_ret
    exact ⟨ret_b (by rw [H.out]; unfold plainN; rw [Bool.eq_iff_iff]; simp <;> omega), rfl⟩
  by_cases c5 : n ≤ 57
  · have i1 : (48 : Int) ≤ (n : Int) := by omega
    have i2 : (n : Int) ≤ 57 := by omega
    clear c1 c2 c3 c4 c5
    go_enter Tryz.func82, Tryz.ntmps82
    go_wp2
    go_ret
    exact ⟨ret_b (by rw [H.out]; unfold plainN; rw [Bool.eq_iff_iff]; simp <;> omega), rfl⟩
  by_cases c6 : n < 65
  · have i1 : (57 : Int) < (n : Int) := by omega
    have i2 : (n : Int) < 65 := by omega
    clear c1 c2 c3 c4 c5 c6
    go_enter Tryz.func82, Tryz.ntmps82
    go_wp2
    go_ret
    exact ⟨ret_b (by rw [H.out]; unfold plainN; rw [Bool.eq_iff_iff]; simp <;> omega), rfl⟩
  by_cases c7 : n ≤ 90
  · have i1 : (65 : Int) ≤ (n : Int) := by omega
    have i2 : (n : Int) ≤ 90 := by omega
    clear c1 c2 c3 c4 c5 c6 c7
    go_enter Tryz.func82, Tryz.ntmps82
    go_wp2
    go_ret
    exact ⟨ret_b (by rw [H.out]; unfold plainN; rw [Bool.eq_iff_iff]; simp <;> omega), rfl⟩
  by_cases c8 : n = 95
  · subst c8
    clear c1 c2 c3 c4 c5 c6 c7
    go_enter Tryz.func82, Tryz.ntmps82
    go_wp2
    go_ret
    exact ⟨ret_b (by rw [H.out]; unfold plainN; rw [Bool.eq_iff_iff]; simp <;> omega), rfl⟩
  by_cases c9 : n < 97
  · have i1 : (90 : Int) < (n : Int) := by omega
    have i2 : (n : Int) < 97 := by omega
    have i3 : ¬ (n : Int) = 95 := by omega
    clear c1 c2 c3 c4 c5 c6 c7 c8 c9
    go_enter Tryz.func82, Tryz.ntmps82
    go_wp2
    go_ret
    exact ⟨ret_b (by rw [H.out]; unfold plainN; rw [Bool.eq_iff_iff]; simp <;> omega), rfl⟩
  by_cases c10 : n ≤ 122
  · have i1 : (97 : Int) ≤ (n : Int) := by omega
    have i2 : (n : Int) ≤ 122 := by omega
    clear c1 c2 c3 c4 c5 c6 c7 c8 c9 c10
    go_enter Tryz.func82, Tryz.ntmps82
    go_wp2
    go_ret
    exact ⟨ret_b (by rw [H.out]; unfold plainN; rw [Bool.eq_iff_iff]; simp <;> omega), rfl⟩
  by_cases c11 : n = 126
  · subst c11
    clear c1 c2 c3 c4 c5 c6 c7 c8 c9 c10
    go_enter Tryz.func82, Tryz.ntmps82
    go_wp2
    go_ret
    exact ⟨ret_b (by rw [H.out]; unfold plainN; rw [Bool.eq_iff_iff]; simp <;> omega), rfl⟩
  have i1 : (122 : Int) < (n : Int) := by omega
  have i3 : ¬ (n : Int) = 126 := by omega
  clear c1 c2 c3 c4 c5 c6 c7 c8 c9 c10 c11
  go_enter Tryz.func82, Tryz.ntmps82
  go_wp2
  go_ret
  exact ⟨ret_b (by rw [H.out]; unfold plainN; rw [Bool.eq_iff_iff]; simp <;> omega), rfl⟩
end Go.Proofs.YtgjmaeodgcigdaaGreatDoor
namespace Go.Proofs.YtgjmaeodgcigdaaGreatDoor
open Go.RowKit

attribute [local go_sem ↓] ixs ixU

theorem and_lo8 (x : UInt8) : bits .and .u8 (x.toNat : Int) 15 = ((x.toNat % 16 : Nat) : Int) := by
  have h := bits_and8 x 15
  have e : (x &&& 15).toNat = x.toNat % 16 := by
    rw [UInt8.toNat_and]
    exact Nat.and_two_pow_sub_one_eq_mod x.toNat 4
  rw [e] at h; exact h
theorem codPlain47 (w : World) : Calls Tryz.prog 82 #[.int .u8 47] w fun e w' => e = .returned (.bool false) ∧ w' = w := codPlain 47 w

set_option maxHeartbeats 2000000 in
theorem codEncode (s : ByteArray) (sl : Bool) (w : World) (hs : s.size ≤ 40000000000000) :
    Calls Tryz.prog 35 #[.string s, .bool sl] w fun e w' => e = .returned (.string ⟨(encL sl s.data.toList).toArray⟩) ∧ Below w.heap.size w w' := by
  obtain ⟨l, hl⟩ : ∃ l, l = s.data.toList := ⟨_, rfl⟩
  have Hl : Hid (l = s.data.toList) := hl
  have HL : Hid (l.length = s.size) := by unfold Hid; rw [hl]; rfl
  rw [← hl]
  clear hl
  go_enter Tryz.func35, Tryz.ntmps35
  go_wp2_with (at_make; refine make_own8 _ rfl _ _ rfl w.heap.size .i64 .i64 _ s.size rfl rfl (by omega) (by omega) (Nat.le_refl _) ?_; intro w1 hown1 hgrow1)
  go_loopw [5, 13] (fun v i wr => ∃ k : Nat, k ≤ s.size ∧ i = .int .i64 k ∧ OwnB wr w.heap.size v (encL sl (l.take k)) ∧ Below w.heap.size w wr) (fun _ i _ => s.size - (intOf i).toNat)
  case atStart => exact ⟨0, Nat.zero_le _, rfl, hown1, (Below.refl _ _).grown hgrow1 (Nat.le_refl _) (fun k h => by cases h)⟩
  case round =>
    obtain ⟨k, hk, rfl, hown, hbel⟩ := hrel
    clear hown1 hgrow1
    by_cases hlt : k < s.size
    · have hb0 : (0 : Int) ≤ (k : Int) := by omega
      have hb1 : (k : Int) < (s.size : Int) := by omega
      have hcn : nth l k = sb s (k : Int) := by rw [Hl.out]; rfl
      have hkl : k < l.length := by rw [HL.out]; exact hlt
      have HK : Hid ((encL sl (l.take k)).length ≤ 3 * k) := by
        have := encL_length sl (l.take k)
        rw [List.length_take] at this
        unfold Hid
        omega
      have HB := hown.blk
      have Hkept := enc_kept sl l k _ hkl hcn
      have Hhex := enc_hex sl l k _ hkl hcn
      clear hkl hcn
      by_cases hp : plainB (sb s (k : Int)) = true
      · have HT : Hid (encL sl (l.take (k + 1)) = encL sl (l.take k) ++ [sb s (k : Int)]) := Hkept (by unfold keptB; rw [hp]; rfl)
        clear Hkept Hhex
        go_wp2_with (first | (go_at_call 82; refine (codPlain _ _).mono ?_; rintro e w' ⟨rfl, hww⟩; rw [hww, hp]; clear hww w') | (at_builtin; refine list_app1 _ rfl _ _ rfl w.heap.size _ (encL sl (l.take k)) rfl (hown.alloc _) wr.heap.size 1 [sb s (k : Int)] rfl rfl (heap_alloc_new wr _) (by have := HK.out; omega) (by have := hbel.size; simp; omega) ?_; intro v1 w1 hown1 hgrow))
        go_roundw
        case rel => exact ⟨k + 1, by omega, by go_num, by rw [HT.out]; exact hown1, (hbel.alloc hbel.size _).grown hgrow (by have := hbel.size; simp; omega) (fun j hj => (HB j hj).1)⟩
        case measure => simp [intOf]; omega
      · have hp' : plainB (sb s (k : Int)) = false := by simpa using hp
        clear hp
        cases sl with
        | true =>
          by_cases hq : sb s (k : Int) = 47
          · have HT : Hid (encL true (l.take (k + 1)) = encL true (l.take k) ++ [47]) := by have := Hkept (by unfold keptB; rw [hq]; simp); rw [hq] at this; exact this
            have hq' : ((sb s (k : Int)).toNat : Int) = 47 := by rw [hq]; rfl
            clear Hkept Hhex hq hp'
            go_wp2_with (first | (go_at_call 82; refine (codPlain47 _).mono ?_; rintro e w' ⟨rfl, hww⟩; rw [hww]; clear hww w') | (at_builtin; refine list_app1 _ rfl _ _ rfl w.heap.size _ (encL true (l.take k)) rfl (hown.alloc _) wr.heap.size 1 [47] rfl rfl (heap_alloc_new wr _) (by have := HK.out; omega) (by have := hbel.size; simp; omega) ?_; intro v1 w1 hown1 hgrow))
            go_roundw
            case rel => exact ⟨k + 1, by omega, by go_num, by rw [HT.out]; exact hown1, (hbel.alloc hbel.size _).grown hgrow (by have := hbel.size; simp; omega) (fun j hj => (HB j hj).1)⟩
            case measure => simp [intOf]; omega
          · have hq' : ¬ ((sb s (k : Int)).toNat : Int) = 47 := by intro e; exact hq (UInt8.toNat_inj.1 (by have : (47 : UInt8).toNat = 47 := rfl; omega))
            have HT : Hid (encL true (l.take (k + 1)) = encL true (l.take k) ++ [37, hexU ((sb s (k : Int)).toNat / 16), hexU ((sb s (k : Int)).toNat % 16)]) := Hhex (by unfold keptB; rw [hp']; simp [hq])
            clear Hkept Hhex
            have hx0 : (0 : Int) ≤ ((sb s (k : Int)).toNat : Int) := by omega
            have hx1 : ((sb s (k : Int)).toNat : Int) ≤ 255 := by have := (sb s (k : Int)).toNat_lt; omega
            obtain ⟨hi, hhi⟩ : ∃ n, n = (sb s (k : Int)).toNat / 16 := ⟨_, rfl⟩
            obtain ⟨lo, hlo⟩ : ∃ n, n = (sb s (k : Int)).toNat % 16 := ⟨_, rfl⟩
            have hq1 : ((sb s (k : Int)).toNat : Int) / 16 = (hi : Int) := by omega
            have hq2 : bits .and .u8 ((sb s (k : Int)).toNat : Int) 15 = (lo : Int) := by rw [and_lo8, hlo]
            have hq3 : hi < 16 := by omega
            have hq4 : lo < 16 := by omega
            have hw := wrap8_nat hi (by omega)
            rw [← hhi, ← hlo] at HT
            clear hhi hlo
            go_wp2_with (go_at_call 82; refine (codPlain _ _).mono ?_; rintro e w' ⟨rfl, hww⟩; rw [hww, hp']; clear hww w')
            go_region_held3 (fun w' => True) (trivial)
              ((refine step_app8 _ (by rfl) _ _ (by rfl) w.heap.size _ (encL true (l.take k)) (by rfl) ((hown.alloc _).heap rfl) wr.heap.size 3 3 [37, hexU hi, hexU lo] (by rfl) (by rfl) (heap_alloc_new wr _) (by omega) (by have := HK.out; omega) (by have := hbel.size; simp; omega) (wr.heap.size + 1) (by simp) ?_; intro gg cap w1 hown1 hgrow hat hlt1))
            all_goals
              go_wp2
              go_roundw
              case rel => exact ⟨k + 1, by omega, by go_num, by rw [HT.out]; exact hown1, ((hbel.alloc hbel.size _).drew).grown hgrow (by have := hbel.size; simp; omega) (fun j hj => (HB j hj).1)⟩
              case measure => simp [intOf]; omega
        | false =>
          have HT : Hid (encL false (l.take (k + 1)) = encL false (l.take k) ++ [37, hexU ((sb s (k : Int)).toNat / 16), hexU ((sb s (k : Int)).toNat % 16)]) := Hhex (by unfold keptB; rw [hp']; rfl)
          clear Hkept Hhex
          have hx0 : (0 : Int) ≤ ((sb s (k : Int)).toNat : Int) := by omega
          have hx1 : ((sb s (k : Int)).toNat : Int) ≤ 255 := by have := (sb s (k : Int)).toNat_lt; omega
          obtain ⟨hi, hhi⟩ : ∃ n, n = (sb s (k : Int)).toNat / 16 := ⟨_, rfl⟩
          obtain ⟨lo, hlo⟩ : ∃ n, n = (sb s (k : Int)).toNat % 16 := ⟨_, rfl⟩
          have hq1 : ((sb s (k : Int)).toNat : Int) / 16 = (hi : Int) := by omega
          have hq2 : bits .and .u8 ((sb s (k : Int)).toNat : Int) 15 = (lo : Int) := by rw [and_lo8, hlo]
          have hq3 : hi < 16 := by omega
          have hq4 : lo < 16 := by omega
          have hw := wrap8_nat hi (by omega)
          rw [← hhi, ← hlo] at HT
          clear hhi hlo
          go_wp2_with (go_at_call 82; refine (codPlain _ _).mono ?_; rintro e w' ⟨rfl, hww⟩; rw [hww, hp']; clear hww w')
          go_region_held3 (fun w' => True) (trivial)
            ((refine step_app8 _ (by rfl) _ _ (by rfl) w.heap.size _ (encL false (l.take k)) (by rfl) ((hown.alloc _).heap rfl) wr.heap.size 3 3 [37, hexU hi, hexU lo] (by rfl) (by rfl) (heap_alloc_new wr _) (by omega) (by have := HK.out; omega) (by have := hbel.size; simp; omega) (wr.heap.size + 1) (by simp) ?_; intro gg cap w1 hown1 hgrow hat hlt1))
          all_goals
            go_wp2
            go_roundw
            case rel => exact ⟨k + 1, by omega, by go_num, by rw [HT.out]; exact hown1, ((hbel.alloc hbel.size _).drew).grown hgrow (by have := hbel.size; simp; omega) (fun j hj => (HB j hj).1)⟩
            case measure => simp [intOf]; omega
    · have hcv := conv_own wr w.heap.size _ _ hown
      go_wp2
      go_ret
      have : k = s.size := by omega
      subst this
      exact ⟨ret_str (by rw [List.take_of_length_le (by rw [HL.out]; exact Nat.le_refl _)]), hbel⟩
end Go.Proofs.YtgjmaeodgcigdaaGreatDoor
namespace Go.Proofs.YtgjmaeodgcigdaaGreatDoor
open Go.RowKit

theorem codEncodeL (l : List UInt8) (sl : Bool) (w : World) (hs : l.length ≤ 40000000000000) :
    Calls Tryz.prog 35 #[.string (str l), .bool sl] w fun e w' => e = .returned (.string (str (encL sl l))) ∧ Below w.heap.size w w' := by
  have h := codEncode (str l) sl w (by rw [str_size]; exact hs)
  rw [str_list] at h
  exact h
end Go.Proofs.YtgjmaeodgcigdaaGreatDoor
namespace Go.Proofs
open Go.Shelf
def Tryz.lays169_ren : Go.Shelf.Ren := ⟨fun | 169 => 77 | n => n, fun | 70 => 107 | 9 => 9 | 0 => 0 | 72 => 109 | 37 => 23 | 127 => 166 | 3 => 3 | 5 => 5 | n => n, fun | n => n⟩
theorem Tryz.lays169 : Go.Proofs.Lays.n169 Tryz.prog Tryz.lays169_ren := {
  mixed := by kernel_rfl
  f169 := Tryz.func77.trans (congrArg some (by kernel_rfl))
  t0 := Tryz.underlying0
  a0 := Tryz.isAgg0
  z0 := Tryz.sizeOf0
  v0 := Tryz.zeroValue0
  t3 := Tryz.underlying3
  a3 := Tryz.isAgg3
  z3 := Tryz.sizeOf3
  v3 := Tryz.zeroValue3
  t9 := Tryz.underlying9
  a9 := Tryz.isAgg9
  z9 := Tryz.sizeOf9
  v9 := Tryz.zeroValue9
  t37 := Tryz.underlying23
  a37 := Tryz.isAgg23
  z37 := Tryz.sizeOf23
  v37 := Tryz.zeroValue23
  t70 := Tryz.underlying107
  a70 := Tryz.isAgg107
  z70 := Tryz.sizeOf107
  v70 := Tryz.zeroValue107
  t72 := Tryz.underlying109
  a72 := Tryz.isAgg109
  z72 := Tryz.sizeOf109
  v72 := Tryz.zeroValue109
  t127 := Tryz.underlying166
  a127 := Tryz.isAgg166
  z127 := Tryz.sizeOf166
  v127 := Tryz.zeroValue166 }
theorem Tryz.Builder_Extra_169 : Builder.Extra Tryz.prog Tryz.lays169_ren := {
  sizeBuilder := by kernel_rfl
  liesBuilder := by kernel_rfl
  t5 := Tryz.underlying5
  a5 := Tryz.isAgg5
  z5 := Tryz.sizeOf5
  v5 := Tryz.zeroValue5
  infoByte := by kernel_rfl
  cellsByte := by kernel_rfl
  sizeByte := by kernel_rfl
  neB5 := by decide }
open Go.RowKit in
theorem Tryz.Builder_String (B b : Nat) (l : List UInt8) (w : World) (h : Lib.IsBuilder 109 5 B b (Lib.byteCells l) w) (h0 : l ≠ []) :
    Calls Tryz.prog 77 #[.pointer (some ⟨b, 0, none⟩)] w fun e w' => e = .returned (.string ⟨l.toArray⟩) ∧ Below B w w' := Any.Builder_String Tryz.lays169 Tryz.Builder_Extra_169 B b l w h h0
open Go.RowKit in
theorem Tryz.Builder_String_empty (B b : Nat) (w : World) (h : Lib.IsBuilder 109 5 B b [] w) (hBw : B ≤ w.heap.size) :
    Calls Tryz.prog 77 #[.pointer (some ⟨b, 0, none⟩)] w fun e w' => e = .returned (.string ⟨#[]⟩) ∧ Below B w w' := Any.Builder_String_empty Tryz.lays169 Tryz.Builder_Extra_169 B b w h hBw
open Go.RowKit in
theorem Tryz.Builder_String_any (B b : Nat) (l : List UInt8) (w : World) (h : Lib.IsBuilder 109 5 B b (Lib.byteCells l) w) (hBw : B ≤ w.heap.size) :
    Calls Tryz.prog 77 #[.pointer (some ⟨b, 0, none⟩)] w fun e w' => e = .returned (.string ⟨l.toArray⟩) ∧ Below B w w' := Any.Builder_String_any Tryz.lays169 Tryz.Builder_Extra_169 B b l w h hBw
def Tryz.lays241_ren : Go.Shelf.Ren := ⟨fun | 241 => 130 | 277 => 161 | n => n, fun | 70 => 107 | 3 => 3 | 0 => 0 | 72 => 109 | 37 => 23 | 5 => 5 | n => n, fun | n => n⟩
theorem Tryz.lays241 : Go.Proofs.Lays.n241 Tryz.prog Tryz.lays241_ren := {
  mixed := by kernel_rfl
  f241 := Tryz.func130.trans (congrArg some (by kernel_rfl))
  f277 := Tryz.func161.trans (congrArg some (by kernel_rfl))
  t0 := Tryz.underlying0
  a0 := Tryz.isAgg0
  z0 := Tryz.sizeOf0
  v0 := Tryz.zeroValue0
  t3 := Tryz.underlying3
  a3 := Tryz.isAgg3
  z3 := Tryz.sizeOf3
  v3 := Tryz.zeroValue3
  t37 := Tryz.underlying23
  a37 := Tryz.isAgg23
  z37 := Tryz.sizeOf23
  v37 := Tryz.zeroValue23
  t70 := Tryz.underlying107
  a70 := Tryz.isAgg107
  z70 := Tryz.sizeOf107
  v70 := Tryz.zeroValue107
  t72 := Tryz.underlying109
  a72 := Tryz.isAgg109
  z72 := Tryz.sizeOf109
  v72 := Tryz.zeroValue109 }
theorem Tryz.Builder_Extra_241 : Builder.Extra Tryz.prog Tryz.lays241_ren := {
  sizeBuilder := by kernel_rfl
  liesBuilder := by kernel_rfl
  t5 := Tryz.underlying5
  a5 := Tryz.isAgg5
  z5 := Tryz.sizeOf5
  v5 := Tryz.zeroValue5
  infoByte := by kernel_rfl
  cellsByte := by kernel_rfl
  sizeByte := by kernel_rfl
  neB5 := by decide }
open Go.RowKit in
theorem Tryz.Builder_grow_fresh (B b n : Nat) (w : World) (hB : B ≤ b) (hbk : w.heap[b]? = some (.cells #[.pointer (some ⟨b, 0, none⟩), .slice none 0 0] 109 (0, 0))) (hBw : B ≤ w.heap.size) (hn : n ≤ 281474976710656) :
    Calls Tryz.prog 130 #[.pointer (some ⟨b, 0, none⟩), .int .i64 n] w fun e w' => e = .returned (.tuple #[]) ∧ (Lib.BuilderAt 109 5 B b (.pointer (some ⟨b, 0, none⟩)) [] w' ∧ Below B w w') := Any.Builder_grow_fresh Tryz.lays241 Tryz.Builder_Extra_241 B b n w hB hbk hBw hn
def Tryz.lays165_ren : Go.Shelf.Ren := ⟨fun | 165 => 87 | 240 => 122 | 241 => 130 | 276 => 149 | 277 => 161 | n => n, fun | 70 => 107 | 3 => 3 | 0 => 0 | 4 => 4 | 9 => 9 | 20 => 20 | 72 => 109 | 37 => 23 | 164 => 193 | 5 => 5 | n => n, fun | n => n⟩
theorem Tryz.lays165 : Go.Proofs.Lays.n165 Tryz.prog Tryz.lays165_ren := {
  mixed := by kernel_rfl
  f165 := Tryz.func87.trans (congrArg some (by kernel_rfl))
  f240 := Tryz.func122.trans (congrArg some (by kernel_rfl))
  f241 := Tryz.func130.trans (congrArg some (by kernel_rfl))
  f276 := Tryz.func149.trans (congrArg some (by kernel_rfl))
  f277 := Tryz.func161.trans (congrArg some (by kernel_rfl))
  t0 := Tryz.underlying0
  a0 := Tryz.isAgg0
  z0 := Tryz.sizeOf0
  v0 := Tryz.zeroValue0
  t3 := Tryz.underlying3
  a3 := Tryz.isAgg3
  z3 := Tryz.sizeOf3
  v3 := Tryz.zeroValue3
  t4 := Tryz.underlying4
  a4 := Tryz.isAgg4
  z4 := Tryz.sizeOf4
  v4 := Tryz.zeroValue4
  t9 := Tryz.underlying9
  a9 := Tryz.isAgg9
  z9 := Tryz.sizeOf9
  v9 := Tryz.zeroValue9
  t20 := Tryz.underlying20
  a20 := Tryz.isAgg20
  z20 := Tryz.sizeOf20
  v20 := Tryz.zeroValue20
  t37 := Tryz.underlying23
  a37 := Tryz.isAgg23
  z37 := Tryz.sizeOf23
  v37 := Tryz.zeroValue23
  t70 := Tryz.underlying107
  a70 := Tryz.isAgg107
  z70 := Tryz.sizeOf107
  v70 := Tryz.zeroValue107
  t72 := Tryz.underlying109
  a72 := Tryz.isAgg109
  z72 := Tryz.sizeOf109
  v72 := Tryz.zeroValue109
  t164 := Tryz.underlying193
  a164 := Tryz.isAgg193
  z164 := Tryz.sizeOf193
  v164 := Tryz.zeroValue193 }
theorem Tryz.Builder_Extra_165 : Builder.Extra Tryz.prog Tryz.lays165_ren := {
  sizeBuilder := by kernel_rfl
  liesBuilder := by kernel_rfl
  t5 := Tryz.underlying5
  a5 := Tryz.isAgg5
  z5 := Tryz.sizeOf5
  v5 := Tryz.zeroValue5
  infoByte := by kernel_rfl
  cellsByte := by kernel_rfl
  sizeByte := by kernel_rfl
  neB5 := by decide }
open Go.RowKit in
theorem Tryz.Builder_Grow_fresh (B b n : Nat) (w : World) (hB : B ≤ b) (hbk : w.heap[b]? = some (.cells #[.pointer none, .slice none 0 0] 109 (0, 0))) (hBw : B ≤ w.heap.size) (hn : n ≤ 281474976710656) :
    Calls Tryz.prog 87 #[.pointer (some ⟨b, 0, none⟩), .int .i64 n] w fun e w' => e = .returned (.tuple #[]) ∧ (Lib.BuilderAt 109 5 B b (.pointer (some ⟨b, 0, none⟩)) [] w' ∧ Below B w w') := Any.Builder_Grow_fresh Tryz.lays165 Tryz.Builder_Extra_165 B b n w hB hbk hBw hn
def Tryz.lays156_ren : Go.Shelf.Ren := ⟨fun | 156 => 37 | 165 => 87 | 166 => 76 | 169 => 77 | 240 => 122 | 241 => 130 | 276 => 149 | 277 => 161 | n => n, fun | 31 => 26 | 9 => 9 | 3 => 3 | 4 => 4 | 0 => 0 | 20 => 20 | 72 => 109 | 76 => 113 | 70 => 107 | 37 => 23 | 75 => 112 | 127 => 166 | 164 => 193 | 5 => 5 | 80 => 115 | n => n, fun | n => n⟩
theorem Tryz.lays156 : Go.Proofs.Lays.n156 Tryz.prog Tryz.lays156_ren := {
  mixed := by kernel_rfl
  f156 := Tryz.func37.trans (congrArg some (by kernel_rfl))
  f165 := Tryz.func87.trans (congrArg some (by kernel_rfl))
  f166 := Tryz.func76.trans (congrArg some (by kernel_rfl))
  f169 := Tryz.func77.trans (congrArg some (by kernel_rfl))
  f240 := Tryz.func122.trans (congrArg some (by kernel_rfl))
  f241 := Tryz.func130.trans (congrArg some (by kernel_rfl))
  f276 := Tryz.func149.trans (congrArg some (by kernel_rfl))
  f277 := Tryz.func161.trans (congrArg some (by kernel_rfl))
  t0 := Tryz.underlying0
  a0 := Tryz.isAgg0
  z0 := Tryz.sizeOf0
  v0 := Tryz.zeroValue0
  t3 := Tryz.underlying3
  a3 := Tryz.isAgg3
  z3 := Tryz.sizeOf3
  v3 := Tryz.zeroValue3
  t4 := Tryz.underlying4
  a4 := Tryz.isAgg4
  z4 := Tryz.sizeOf4
  v4 := Tryz.zeroValue4
  t9 := Tryz.underlying9
  a9 := Tryz.isAgg9
  z9 := Tryz.sizeOf9
  v9 := Tryz.zeroValue9
  t20 := Tryz.underlying20
  a20 := Tryz.isAgg20
  z20 := Tryz.sizeOf20
  v20 := Tryz.zeroValue20
  t31 := Tryz.underlying26
  a31 := Tryz.isAgg26
  z31 := Tryz.sizeOf26
  v31 := Tryz.zeroValue26
  t37 := Tryz.underlying23
  a37 := Tryz.isAgg23
  z37 := Tryz.sizeOf23
  v37 := Tryz.zeroValue23
  t70 := Tryz.underlying107
  a70 := Tryz.isAgg107
  z70 := Tryz.sizeOf107
  v70 := Tryz.zeroValue107
  t72 := Tryz.underlying109
  a72 := Tryz.isAgg109
  z72 := Tryz.sizeOf109
  v72 := Tryz.zeroValue109
  t75 := Tryz.underlying112
  a75 := Tryz.isAgg112
  z75 := Tryz.sizeOf112
  v75 := Tryz.zeroValue112
  t76 := Tryz.underlying113
  a76 := Tryz.isAgg113
  z76 := Tryz.sizeOf113
  v76 := Tryz.zeroValue113
  t127 := Tryz.underlying166
  a127 := Tryz.isAgg166
  z127 := Tryz.sizeOf166
  v127 := Tryz.zeroValue166
  t164 := Tryz.underlying193
  a164 := Tryz.isAgg193
  z164 := Tryz.sizeOf193
  v164 := Tryz.zeroValue193 }
theorem Tryz.Builder_Extra_156 : Builder.Extra Tryz.prog Tryz.lays156_ren := {
  sizeBuilder := by kernel_rfl
  liesBuilder := by kernel_rfl
  t5 := Tryz.underlying5
  a5 := Tryz.isAgg5
  z5 := Tryz.sizeOf5
  v5 := Tryz.zeroValue5
  infoByte := by kernel_rfl
  cellsByte := by kernel_rfl
  sizeByte := by kernel_rfl
  neB5 := by decide }
open Go.RowKit in
theorem Tryz.strings_Join_none (a : Option Addr) (c : Nat) (sep : ByteArray) (w : World) :
    Calls Tryz.prog 37 #[.slice a 0 c, .string sep] w fun e w' => e = .returned (.string ⟨#[]⟩) ∧ w' = w := Any.strings_Join_none Tryz.lays156 Tryz.Builder_Extra_156 a c sep w
open Go.RowKit in
theorem Tryz.strings_Join (bk o c : Nat) (xs : List ByteArray) (sep : ByteArray) (w : World) (hcells : ∀ (j : Nat) x, xs[j]? = some x → w.cell? ⟨bk, o + j, none⟩ = some (.string x)) (hbk : bk < w.heap.size) (hN : xs.length ≤ 140737488355328) (hcap : xs.length ≤ c) (hlen : (Lib.join (xs.map (·.data.toList)) sep.data.toList).length ≤ 140737488355328) :
    Calls Tryz.prog 37 #[.slice (some ⟨bk, o, none⟩) xs.length c, .string sep] w fun e w' => e = .returned (.string ⟨(Lib.join (xs.map (·.data.toList)) sep.data.toList).toArray⟩) ∧ Below w.heap.size w w' := Any.strings_Join Tryz.lays156 Tryz.Builder_Extra_156 bk o c xs sep w hcells hbk hN hcap hlen
end Go.Proofs
