/- What uri.decodeBoth and uri.Path answer. What uri.pair answers. -/
import Derived.Test.YtbknabmcelknmaaGreatDoorJ13
import Derived.Test.YtbknabmcelknmaaGreatDoorJ11
import Derived.Test.YtbknabmcelknmaaGreatDoorJ6
import Derived.Laws.ResultCell
import Derived.Laws.Rows
namespace Go.Proofs.YtbknabmcelknmaaGreatDoor
open Go.RowKit

/-- two texts decoded; none: one of them can't be -/
def bothL (l m : List UInt8) : Option (List UInt8 × List UInt8) :=
  match decL l, decL m with
  | some a, some b => some (a, b)
  | _, _ => none
def bothA (l m : List UInt8) : List UInt8 := ((bothL l m).getD ([], [])).1
def bothB (l m : List UInt8) : List UInt8 := ((bothL l m).getD ([], [])).2
def bothC (l m : List UInt8) : Int := if (bothL l m).isSome then 0 else 13
def BothR (l m : List UInt8) : Ending := .returned (.tuple #[.string (str (bothA l m)), .string (str (bothB l m)), .int .i64 (bothC l m)])
theorem both_none {l m : List UInt8} (h : bothL l m = none) : Ending.returned (.tuple #[.string ⟨#[]⟩, .string ⟨#[]⟩, .int .i64 13]) = BothR l m := by
  unfold BothR bothA bothB bothC; rw [h]; rfl
theorem both_some {l m a b : List UInt8} (h : bothL l m = some (a, b)) : Ending.returned (.tuple #[.string (str a), .string (str b), .int .i64 0]) = BothR l m := by
  unfold BothR bothA bothB bothC; rw [h]; rfl

theorem codDecodeL (l : List UInt8) (w : World) (hs : l.length ≤ 40000000000000) :
    Calls Tryz.prog 124 #[.string (str l)] w fun e w' => e = .returned (.tuple #[.string (str (decS l)), .int .i64 (decC l)]) ∧ Below w.heap.size w w' := by
  have h := codDecode (str l) w (by rw [str_size]; exact hs)
  rw [str_list] at h
  exact h

set_option maxHeartbeats 1000000 in
theorem codBoth (l m : List UInt8) (w : World) (hl : l.length ≤ 40000000000000) (hm : m.length ≤ 40000000000000) :
    Calls Tryz.prog 96 #[.string (str l), .string (str m)] w fun e w' => e = BothR l m ∧ Below w.heap.size w w' := by
  have HA := fun w => codDecodeL l w hl
  have HK := fun w => codDecodeL m w hm
  have N := @both_none l m
  have Y := @both_some l m
  unfold bothL at N Y
  generalize BothR l m = R at *
  clear hl hm
  cases d1 : decL l with
  | none =>
    have FF : Hid (_ = R) := N (by rw [d1])
    rw [decS_none d1, decC_none d1] at HA
    clear d1 N Y HK
    generalize str l = s1 at *
    generalize str m = s2 at *
    go_enter Tryz.func96, Tryz.ntmps96
    go_wp2_with fail
    refine (HA w).mono ?_
    rintro e x1 ⟨rfl, b1⟩
    go_wp2_with fail
    go_ret3
    exact ⟨FF.out, b1⟩
  | some a =>
    rw [decS_some d1, decC_some d1] at HA
    cases d2 : decL m with
    | none =>
      have FF : Hid (_ = R) := N (by rw [d1, d2])
      rw [decS_none d2, decC_none d2] at HK
      clear d1 d2 N Y
      generalize str l = s1 at *
      generalize str m = s2 at *
      generalize str a = s3 at *
      go_enter Tryz.func96, Tryz.ntmps96
      go_wp2_with fail
      refine (HA w).mono ?_
      rintro e x1 ⟨rfl, b1⟩
      go_wp2_with fail
      refine (HK x1).mono ?_
      rintro e x2 ⟨rfl, c2⟩
      have b2 := b1.trans (c2.mono b1.size)
      go_wp2_with fail
      go_ret3
      exact ⟨FF.out, b2⟩
    | some b =>
      have FF : Hid (_ = R) := Y (a := a) (b := b) (by rw [d1, d2])
      rw [decS_some d2, decC_some d2] at HK
      clear d1 d2 N Y
      generalize str l = s1 at *
      generalize str m = s2 at *
      generalize str a = s3 at *
      generalize str b = s4 at *
      go_enter Tryz.func96, Tryz.ntmps96
      go_wp2_with fail
      refine (HA w).mono ?_
      rintro e x1 ⟨rfl, b1⟩
      go_wp2_with fail
      refine (HK x1).mono ?_
      rintro e x2 ⟨rfl, c2⟩
      have b2 := b1.trans (c2.mono b1.size)
      go_wp2_with fail
      go_ret3
      exact ⟨FF.out, b2⟩

theorem decL_nil {l : List UInt8} (h : decL l = some []) : l = [] := by
  match l with
  | [] => rfl
  | c :: l =>
    exfalso
    by_cases hc : c = 37
    · subst hc
      match l with
      | [] => rw [decL_short _ (by simp)] at h; cases h
      | [a] => rw [decL_short _ (by simp)] at h; cases h
      | a :: b :: k =>
        by_cases hd : digB a < 16 ∧ digB b < 16
        · rw [decL_hex a b k hd.1 hd.2] at h
          obtain ⟨m', hm, e⟩ := Option.map_eq_some_iff.1 h
          cases e
        · rw [decL_bad a b k hd] at h; cases h
    · rw [decL_cons c l hc] at h
      obtain ⟨m', hm, e⟩ := Option.map_eq_some_iff.1 h
      cases e

def PathR (l : List UInt8) : Ending := .returned (.tuple #[.string (str (pathB l)), .string (str (pathK l)), .int .i64 (pathC l)])
theorem path_both {t : List UInt8} (h : ¬ (headL 47 t = [] ∧ ¬ tailL 47 t = [])) : BothR (headL 47 t) (tailL 47 t) = PathR (47 :: t) := by
  have hp : pathL (47 :: t) = bothL (headL 47 t) (tailL 47 t) := by
    unfold pathL bothL
    rw [if_neg (by rintro (e | e); cases e; exact e rfl)]
    show (match decL (headL 47 t), decL (tailL 47 t) with
      | some b, some k => if b = [] ∧ ¬ k = [] then none else some (b, k)
      | _, _ => none) = _
    cases d1 : decL (headL 47 t) with
    | none => rfl
    | some b =>
      cases d2 : decL (tailL 47 t) with
      | none => rfl
      | some k =>
        show (if b = [] ∧ ¬ k = [] then none else some (b, k)) = some (b, k)
        rw [if_neg]
        rintro ⟨rfl, hk⟩
        refine h ⟨decL_nil d1, fun e => hk ?_⟩
        rw [e] at d2
        have : decL [] = some [] := by rw [decL]
        rw [this] at d2
        exact (Option.some.inj d2).symm
  unfold BothR PathR bothA bothB bothC pathB pathK pathC
  rw [hp]
theorem path_bad {t : List UInt8} (h1 : headL 47 t = []) (h2 : ¬ tailL 47 t = []) : pathL (47 :: t) = none := by
  unfold pathL
  rw [if_neg (by rintro (e | e); cases e; exact e rfl)]
  show (match decL (headL 47 t), decL (tailL 47 t) with
      | some b, some k => if b = [] ∧ ¬ k = [] then none else some (b, k)
      | _, _ => none) = _
  have d1 : decL (headL 47 t) = some [] := by rw [h1, decL]
  rw [d1]
  cases d2 : decL (tailL 47 t) with
  | none => rfl
  | some k =>
    show (if ([] : List UInt8) = [] ∧ ¬ k = [] then none else some ([], k)) = none
    rw [if_pos ⟨rfl, fun e => h2 (decL_nil (by rw [d2, e]))⟩]

theorem str_full {l : List UInt8} (h : ¬ l = []) : (str l).toList.isEmpty = false := by
  rw [str_empty]; cases l with
  | nil => exact absurd rfl h
  | cons a l => rfl
theorem str_none {l : List UInt8} (h : l = []) : (str l).toList.isEmpty = true := by rw [h, str_empty]; rfl

set_option maxHeartbeats 1000000 in
theorem codPath (l : List UInt8) (w : World) (hs : l.length ≤ 40000000000000) :
    Calls Tryz.prog 69 #[.string (str l)] w fun e w' => e = PathR l ∧ Below w.heap.size w w' := by
  have HP := fun w => Tryz.strings_CutPrefix (str l) ⟨#[47]⟩ w
  rw [str_list] at HP
  change ∀ w, Calls Tryz.prog 95 #[.string (str l), .string ⟨#[47]⟩] w fun e w' => e = .returned (.tuple #[.string (str (Lib.trimPrefix l [47])), .bool (Lib.hasPrefix l [47])]) ∧ w' = w at HP
  by_cases h : l = [] ∨ ¬ nth l 0 = 47
  · have FF : Hid (Ending.returned (.tuple #[.string ⟨#[]⟩, .string ⟨#[]⟩, .int .i64 13]) = PathR l) := ret_no (by unfold pathL; rw [if_pos h])
    have hp : Lib.hasPrefix l [47] = false := by
      unfold Lib.hasPrefix
      cases l with
      | nil => rfl
      | cons a t =>
        have : ¬ a = 47 := by rcases h with h | h; cases h; exact h
        have : (47 == a) = false := by simpa using Ne.symm this
        simp [List.isPrefixOf, this]
    rw [hp] at HP
    generalize PathR l = R at *
    clear h hp
    generalize str (Lib.trimPrefix l [47]) = s1 at *
    generalize str l = s at *
    go_enter Tryz.func69, Tryz.ntmps69
    go_wp2_with (go_at_call 95; refine (HP _).mono ?_; rintro e w' ⟨rfl, hww⟩; rw [hww]; clear hww w')
    go_ret3
    exact ⟨FF.out, Below.refl _ _⟩
  · obtain ⟨t, rfl⟩ : ∃ t, l = 47 :: t := by
      cases l with
      | nil => exact absurd (.inl rfl) h
      | cons a t => exact ⟨t, by rw [show a = 47 from Classical.byContradiction fun e => h (.inr e)]⟩
    have hp : Lib.hasPrefix (47 :: t) [47] = true := by simp [Lib.hasPrefix, List.isPrefixOf]
    have ht : Lib.trimPrefix (47 :: t) [47] = t := by unfold Lib.trimPrefix; rw [if_pos hp]; rfl
    rw [hp, ht] at HP
    have lt : t.length ≤ 40000000000000 := by simp at hs; omega
    have HC := fun w => codCut t 47 w lt
    have l1 := headL_length 47 t
    have l2 := tailL_length 47 t
    have HB := fun w => codBoth (headL 47 t) (tailL 47 t) w (by omega) (by omega)
    by_cases hb : headL 47 t = [] ∧ ¬ tailL 47 t = []
    · have FF : Hid (Ending.returned (.tuple #[.string ⟨#[]⟩, .string ⟨#[]⟩, .int .i64 13]) = PathR (47 :: t)) := ret_no (path_bad hb.1 hb.2)
      have e1 := str_none hb.1
      have e2 := str_full hb.2
      clear h hp ht hb HB l1 l2 lt hs
      generalize PathR (47 :: t) = R at *
      generalize str (47 :: t) = s at *
      generalize str (headL 47 t) = s1 at *
      generalize str (tailL 47 t) = s2 at *
      generalize str t = s3 at *
      generalize hasL 47 t = b3 at *
      go_enter Tryz.func69, Tryz.ntmps69
      go_wp2_with (first | (go_at_call 95; refine (HP _).mono ?_; rintro e w' ⟨rfl, hww⟩; rw [hww]; clear hww w') | (go_at_call 65; refine (HC _).mono ?_; rintro e x1 ⟨rfl, b1⟩))
      go_ret3
      exact ⟨FF.out, b1⟩
    · have FF : Hid (BothR (headL 47 t) (tailL 47 t) = PathR (47 :: t)) := path_both hb
      have e1 : (str (headL 47 t)).toList.isEmpty = false ∨ (str (headL 47 t)).toList.isEmpty = true ∧ (str (tailL 47 t)).toList.isEmpty = true := by
        by_cases h1 : headL 47 t = []
        · exact .inr ⟨str_none h1, str_none (Classical.byContradiction fun e => hb ⟨h1, e⟩)⟩
        · exact .inl (str_full h1)
      clear h hp ht hb l1 l2 lt hs
      unfold BothR at FF HB
      generalize PathR (47 :: t) = R at *
      generalize str (47 :: t) = s at *
      generalize str (bothA (headL 47 t) (tailL 47 t)) = r1 at *
      generalize str (bothB (headL 47 t) (tailL 47 t)) = r2 at *
      generalize bothC (headL 47 t) (tailL 47 t) = r3 at *
      generalize str (headL 47 t) = s1 at *
      generalize str (tailL 47 t) = s2 at *
      generalize str t = s3 at *
      generalize hasL 47 t = b3 at *
      rcases e1 with e1 | ⟨e1, e2⟩
      all_goals
        go_enter Tryz.func69, Tryz.ntmps69
        go_wp2_with (first | (go_at_call 95; refine (HP _).mono ?_; rintro e w' ⟨rfl, hww⟩; rw [hww]; clear hww w') | (go_at_call 65; refine (HC _).mono ?_; rintro e x1 ⟨rfl, b1⟩) | (go_at_call 96; refine (HB _).mono ?_; rintro e x2 ⟨rfl, c2⟩))
        go_ret3
        exact ⟨FF.out, b1.trans (c2.mono b1.size)⟩
end Go.Proofs.YtbknabmcelknmaaGreatDoor
namespace Go.Proofs.YtbknabmcelknmaaGreatDoor
open Go.RowKit

theorem results_cellrow_tmp {P : Program} {fn : Func} {p u : Tmp} {ty : TypeId} (h : fn.results = #[.cell p ty, .tmp u]) (tmps : Array Value) (w : World) (g : Nat) (t : TypeId) (cs : Array Value) (fr : Nat × Nat) (d : TypeDesc)
    (hp : tmps.getD p undef = .pointer (some ⟨g, 0, none⟩)) (hg : w.heap[g]? = some (.cells cs t fr))
    (hu : P.underlying ty = some d) (hd : (match d with | .struct _ | .array _ _ => true | _ => false) = true) (hi : (P.info? ty).map (·.size) = some cs.size) :
    (results fn tmps).run P w = .ok (.tuple #[.agg cs, tmps.getD u undef]) w := by
  rw [results_cell_tmp h, hp]
  simp [asAddr, Result.andThen, run_loadVar_row w g t ty cs fr d hg hu hd hi]

def PairR (l m : List UInt8) : Ending := .returned (.tuple #[.agg #[.string (str (bothA l m)), .string (str (bothB l m))], .int .i64 (bothC l m)])

set_option maxHeartbeats 1000000 in
theorem codPair (p : List UInt8) (w : World) (hs : p.length ≤ 40000000000000) :
    Calls Tryz.prog 98 #[.string (str p)] w fun e w' => e = PairR (headL 61 p) (tailL 61 p) ∧ Below w.heap.size w w' := by
  have HC := fun w => codCut p 61 w hs
  have l1 := headL_length 61 p
  have l2 := tailL_length 61 p
  have HB := fun w => codBoth (headL 61 p) (tailL 61 p) w (by omega) (by omega)
  unfold PairR
  unfold BothR at HB
  clear hs l1 l2
  generalize str (bothA (headL 61 p) (tailL 61 p)) = r1 at *
  generalize str (bothB (headL 61 p) (tailL 61 p)) = r2 at *
  generalize bothC (headL 61 p) (tailL 61 p) = r3 at *
  generalize str (headL 61 p) = s1 at *
  generalize str (tailL 61 p) = s2 at *
  generalize str p = s3 at *
  generalize hasL 61 p = b3 at *
  go_enter Tryz.func98, Tryz.ntmps98
  go_wp2_with (go_at_call 65; refine (HC _).mono ?_; rintro e x1 ⟨rfl, b1⟩)
  have K1 := (Blk.newAt w w.heap.size 142 _ [.string ⟨#[]⟩, .string ⟨#[]⟩] rfl rfl).on b1
  have T1 : Below w.heap.size w x1 := ((Below.refl _ w).alloc (Nat.le_refl _) _).trans (b1.mono (by simp))
  refine (HB x1).mono ?_
  rintro e x2 ⟨rfl, c2⟩
  have K2 := K1.on c2
  have T2 := T1.trans (c2.mono T1.size)
  have g0 : x2.cell? ⟨w.heap.size, 0, none⟩ = some (.string ⟨#[]⟩) := K2.cell 0
  have g1 : x2.cell? ⟨w.heap.size, 1, none⟩ = some (.string ⟨#[]⟩) := K2.cell 1
  have f0 := K2.frozen 0
  have f1 := K2.frozen 1
  clear c2 T1 K1 b1 HB HC
  go_wp2
  have K4 : Blk ((x2.setCell ⟨w.heap.size, 0, none⟩ (.string r1)).setCell ⟨w.heap.size, 1, none⟩ (.string r2)) w.heap.size 142 [.string r1, .string r2] := (K2.set 0 (.string r1)).set 1 (.string r2)
  (try simp only [Exit.inBlock, Exit.then])
  refine bodyPost_ret (results_cellrow_tmp (P := Tryz.prog) rfl _ _ w.heap.size 142 #[.string r1, .string r2] (0, 0) _ rfl K4 Tryz.underlying142 rfl (by kernel_rfl)) rfl ⟨rfl, ?_⟩
  exact (T2.setCell (p := ⟨w.heap.size, 0, none⟩) (Nat.le_refl _) _).setCell (p := ⟨w.heap.size, 1, none⟩) (Nat.le_refl _) _
end Go.Proofs.YtbknabmcelknmaaGreatDoor
