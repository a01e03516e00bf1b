/- How uri.Canon holds two pairs against each other. -/
import Derived.Test.YtabhifhmhojpbabUri5
import Derived.Test.YtabhifhmhojpbabShelf1
import Derived.Test.YtabhifhmhojpbabShelf3
import Derived.Test.YtabhifhmhojpbabBlk
import Derived.Deep.RegionHeld3
namespace Go.Proofs.Ytabhifhmhojpbab
open Go.RowKit Go.Shelf Go.Lib Go.Sort

/-- the first that is not nought -/
def orI (a b : Int) : Int := if a = 0 then b else a

set_option maxHeartbeats 1000000 in
theorem codOr (B : Nat) (c0 c1 : Int) (w : World) (h0 : w.cell? ⟨B, 0, none⟩ = some (.int .i64 c0)) (h1 : w.cell? ⟨B, 1, none⟩ = some (.int .i64 c1)) :
    Calls Try.prog 15 #[.slice (some ⟨B, 0, none⟩) 2 2] w fun e w' => e = .returned (.int .i64 (orI c0 c1)) ∧ w' = w := by
  by_cases e0 : c0 = 0
  · have er : orI c0 c1 = c1 := by unfold orI; rw [if_pos e0]
    rw [er]
    subst e0
    clear er
    by_cases e1 : c1 = 0
    · subst e1
      go_enter Try.func15, Try.ntmps15
      go_wp2
      refine wp_loop_rounds 3 ?_
      rw [rounds_succ]
      go_wp2
      rw [rounds_succ]
      go_wp2
      rw [rounds_succ]
      go_wp2
      go_ret
      exact ⟨rfl, rfl⟩
    · go_enter Try.func15, Try.ntmps15
      go_wp2
      refine wp_loop_rounds 2 ?_
      rw [rounds_succ]
      go_wp2
      rw [rounds_succ]
      go_wp2
      go_ret
      exact ⟨rfl, rfl⟩
  · have er : orI c0 c1 = c0 := by unfold orI; rw [if_neg e0]
    rw [er]
    clear er
    go_enter Try.func15, Try.ntmps15
    go_wp2
    refine wp_loop_rounds 1 ?_
    rw [rounds_succ]
    go_wp2
    go_ret
    exact ⟨rfl, rfl⟩

/-- how two pairs are held against each other -/
def cfP (x y : Pr) : Int := orI (Lib.compareBytes x.1 y.1) (Lib.compareBytes x.2 y.2)
def prW (p : Pr) : List Value := [.string (str p.1), .string (str p.2)]

set_option maxHeartbeats 2000000 in
theorem codCanon1 (x y : Pr) (W : World) :
    Calls Try.prog 14 #[.agg #[.string (str x.1), .string (str x.2)], .agg #[.string (str y.1), .string (str y.2)]] W fun e w' => e = .returned (.int .i64 (cfP x y)) ∧ ∃ q os', w' = grow (W.drewN q) os' := by
  have HC := fun a b w => Try.strings_Compare a b w
  have e1 : cfP x y = orI (Lib.compareBytes (str x.1).data.toList (str y.1).data.toList) (Lib.compareBytes (str x.2).data.toList (str y.2).data.toList) := by rw [str_list, str_list, str_list, str_list]; rfl
  rw [e1]
  clear e1
  generalize str x.1 = s1 at *
  generalize str x.2 = s2 at *
  generalize str y.1 = t1 at *
  generalize str y.2 = t2 at *
  generalize hc1 : Lib.compareBytes s1.data.toList t1.data.toList = c1 at *
  generalize hc2 : Lib.compareBytes s2.data.toList t2.data.toList = c2 at *
  have K1 : ∀ w, Calls Try.prog 16 #[.string s1, .string t1] w fun e w' => e = .returned (.int .i64 c1) ∧ w' = w := fun w => by rw [← hc1]; exact HC s1 t1 w
  have K2 : ∀ w, Calls Try.prog 16 #[.string s2, .string t2] w fun e w' => e = .returned (.int .i64 c2) ∧ w' = w := fun w => by rw [← hc2]; exact HC s2 t2 w
  clear HC hc1 hc2
  have B1 := (Blk.newAt W W.heap.size 29 _ [.string s1, .string s2] rfl rfl).alloc (.cells #[.string t1, .string t2] 29)
  have B2 := Blk.newAt (W.alloc (.cells #[.string s1, .string s2] 29)) (W.heap.size + 1) 29 _ [.string t1, .string t2] (by simp) rfl
  have g1 := B1.cell 0
  have g2 := B1.cell 1
  have g3 := B2.cell 0
  have g4 := B2.cell 1
  simp only [List.getElem?_cons_zero, List.getElem?_cons_succ] at g1 g2 g3 g4
  have hsz : ((W.alloc (.cells #[.string s1, .string s2] 29)).alloc (.cells #[.string t1, .string t2] 29)).heap.size = W.heap.size + 1 + 1 := by simp
  have HX : Hid (∃ os, ((W.alloc (.cells #[.string s1, .string s2] 29)).alloc (.cells #[.string t1, .string t2] 29)) = grow W os) := ⟨_, by rw [alloc_eq_grow, alloc_eq_grow, grow_grow]⟩
  go_enter Try.func14, Try.ntmps14
  go_upto_region 1 with fail
  clear B1 B2
  generalize ((W.alloc (.cells #[.string s1, .string s2] 29)).alloc (.cells #[.string t1, .string t2] 29)) = X at *
  go_region_held3 (fun w' => w'.cell? ⟨W.heap.size, 0, none⟩ = some (.string s1) ∧ w'.cell? ⟨W.heap.size, 1, none⟩ = some (.string s2) ∧ w'.cell? ⟨W.heap.size + 1, 0, none⟩ = some (.string t1) ∧ w'.cell? ⟨W.heap.size + 1, 1, none⟩ = some (.string t2))
    (first | exact ⟨g1, g2, g3, g4⟩ | go_keep)
    (first | (go_at_call 16; have hM := M1; refine (K2 _).mono ?_; rintro e w' ⟨rfl, hww⟩; rw [hww]; clear hww w'; have M2 : True := trivial) | (go_at_call 16; refine (K1 _).mono ?_; rintro e w' ⟨rfl, hww⟩; rw [hww]; clear hww w'; have M1 : True := trivial) | (go_at_call 15; refine (codOr _ c1 c2 _ (by exact (Blk.newAt X _ 3 _ [.int .i64 c1, .int .i64 c2] (by first | rfl | exact hsz) rfl).cell 0) (by exact (Blk.newAt X _ 3 _ [.int .i64 c1, .int .i64 c2] (by first | rfl | exact hsz) rfl).cell 1)).mono ?_; rintro e w' ⟨rfl, hww⟩; rw [hww]; clear hww w'))
  all_goals
    go_wp2
    go_ret
    obtain ⟨os, hX⟩ := HX.out
    refine ⟨rfl, 1, os ++ #[.cells #[.int .i64 c1, .int .i64 c2] 3], ?_⟩
    rw [hX, alloc_eq_grow, grow_grow]
    rfl

theorem cmp_lt (x y : List UInt8) : Lib.compareBytes x y < 0 ↔ Op.bytesLess x y = true := by
  induction x generalizing y with
  | nil => cases y <;> simp [Lib.compareBytes, Op.bytesLess]
  | cons a x ih =>
    cases y with
    | nil => simp [Lib.compareBytes, Op.bytesLess]
    | cons b y =>
      rw [Lib.compareBytes, bless_cons]
      rcases u8_tri a b with h | h | h
      · simp [h]
      · subst h
        have : ¬ a < a := UInt8.lt_irrefl a
        simp [this, ih]
      · have h1 : ¬ a < b := fun h2 => UInt8.lt_irrefl a (UInt8.lt_trans h2 h)
        have h2 : ¬ a = b := fun e => by subst e; exact UInt8.lt_irrefl a h
        simp [h, h1, h2]
theorem cmp_eq (x y : List UInt8) : Lib.compareBytes x y = 0 ↔ x = y := by
  induction x generalizing y with
  | nil => cases y <;> simp [Lib.compareBytes]
  | cons a x ih =>
    cases y with
    | nil => simp [Lib.compareBytes]
    | cons b y =>
      rw [Lib.compareBytes]
      rcases u8_tri a b with h | h | h
      · have h2 : ¬ a = b := fun e => by subst e; exact UInt8.lt_irrefl a h
        simp [h, h2]
      · subst h
        have : ¬ a < a := UInt8.lt_irrefl a
        simp [this, ih]
      · have h1 : ¬ a < b := fun h2 => UInt8.lt_irrefl a (UInt8.lt_trans h2 h)
        have h2 : ¬ a = b := fun e => by subst e; exact UInt8.lt_irrefl a h
        simp [h, h1, h2]
theorem lt_gtP (x y : Pr) : ltOf cfP x y = gtP y x := by
  rw [Bool.eq_iff_iff, gtP_iff]
  unfold ltOf cfP orI
  rw [decide_eq_true_eq]
  by_cases h : Lib.compareBytes x.1 y.1 = 0
  · rw [if_pos h, cmp_lt]
    have e := (cmp_eq _ _).1 h
    constructor
    · intro h2; exact .inr ⟨e.symm, h2⟩
    · rintro (h2 | h2)
      · rw [e, bless_irrefl] at h2; cases h2
      · exact h2.2
  · rw [if_neg h, cmp_lt]
    constructor
    · intro h2; exact .inl h2
    · rintro (h2 | h2)
      · exact h2
      · exact absurd ((cmp_eq _ _).2 h2.1.symm) h
theorem ngt_le (x y : Pr) : gtP x y = false ↔ leP x y = true := by unfold leP; cases gtP x y <;> simp
theorem swoP : SWO (ltOf cfP) where
  irrefl x := by rw [lt_gtP]; exact gtP_irrefl x
  trans x y z h1 h2 := by rw [lt_gtP] at *; exact gtP_trans _ _ _ h2 h1
  ntrans x y z h1 h2 := by rw [lt_gtP, ngt_le] at *; exact leP_trans _ _ _ h2 h1
theorem totP (x y : Pr) (h1 : ltOf cfP x y = false) (h2 : ltOf cfP y x = false) : x = y := by
  rw [lt_gtP, ngt_le] at *
  exact leP_antisymm _ _ h2 h1
theorem merge_sort (l : List Pr) : (l.map encP).mergeSort (fun x y => !(ltOf cfP) y x) = sortL l := by
  have e : (fun x y => !(ltOf cfP) y x) = leP := by funext x y; rw [lt_gtP]; rfl
  rw [e]
  refine sorted_one ((List.mergeSort_perm _ _).trans (sortL_perm l).symm) ?_ (sortL_sorted l)
  exact List.pairwise_mergeSort (fun a b c => leP_trans a b c) (fun a b => by simpa using leP_total a b) _
theorem cmpLaysP (blk off size : Nat) (w : World) : CmpLays Try.prog 14 #[] prW 2 cfP blk off size w := fun _ _ _ _ x y => codCanon1 x y _
end Go.Proofs.Ytabhifhmhojpbab
