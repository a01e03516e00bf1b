/- What uri.parts hands back: a sequence of the parts of a text. · What uri.pair answers. · Plain facts: a query read part by part. · Plain facts, and laws: pairs of a query, two of them swapped. · Worlds in which all is as it was, but for one block. · The statements' Own: a request as the program's; the document's Get. -/
import Derived.RangeFuncNested
import Derived.RangeFuncBound
import Derived.RangeFuncCalls
import Derived.RangeFuncLeaves
import Derived.Shelf.Abstract
import Derived.Shelf.RegionOpen
import Derived.WalkKit
import Derived.OwnWalkIn
import Derived.TacticsInMore
import Derived.LoopNIn
import Derived.LoopIn
import Derived.Sort.QuietIn
import Derived.Test.YtgjmaeodgcigdaaGreatDoorB18
import Derived.Test.YtgjmaeodgcigdaaGreatDoorB4
import Derived.Test.YtgjmaeodgcigdaaGreatDoorB5
import Derived.Laws.ResultCell
import Derived.Laws.Rows
import Derived.Test.YtgjmaeodgcigdaaGreatDoorB14
import Derived.Test.YtgjmaeodgcigdaaGreatDoorB15
import Derived.RangeFuncBox
import Derived.Test.YtgjmaeodgcigdaaGreatDoorB0
namespace Go.Proofs.YtgjmaeodgcigdaaGreatDoor
open Go.RowKit Go.Shelf
attribute [local go_sem] Oper.semAt_some

theorem cut_acc (c : UInt8) (l : List UInt8) (acc : List (List UInt8)) (p : List UInt8) : l.foldl (cutStep c) (acc ++ [p]) = acc ++ l.foldl (cutStep c) [p] := by
  have gen : ∀ (l : List UInt8) (acc m : List (List UInt8)), 0 < m.length → l.foldl (cutStep c) (acc ++ m) = acc ++ l.foldl (cutStep c) m := by
    intro l
    induction l with
    | nil => intro acc m _; rfl
    | cons x l ih =>
      intro acc m hm
      have e : cutStep c (acc ++ m) x = acc ++ cutStep c m x := by
        unfold cutStep
        split
        · rw [List.append_assoc]
        · have h1 : (acc ++ m).length - 1 = acc.length + (m.length - 1) := by simp; omega
          rw [h1, List.set_append_right _ _ (by omega)]
          congr 1
          have h2 : acc.length + (m.length - 1) - acc.length = m.length - 1 := by omega
          rw [h2]
          congr 2
          rw [nthT_eq _ _ (by simp; omega), nthT_eq _ _ (by omega), List.getElem_append_right (by omega)]
          congr 1
      rw [List.foldl_cons, List.foldl_cons, e]
      exact ih acc _ (cutStep_pos c m x hm)
  exact gen l acc [p] (by simp)
theorem cut_from (c : UInt8) (l : List UInt8) (p : List UInt8) : l.foldl (cutStep c) [p] = (p ++ headL c l) :: (if hasL c l then cutL c (tailL c l) else []) := by
  induction l generalizing p with
  | nil => simp [headL, hasL]
  | cons x l ih =>
    by_cases hx : x = c
    · subst hx
      have e : cutStep x [p] x = [p] ++ [[]] := by unfold cutStep; rw [if_pos rfl]
      rw [List.foldl_cons, e, cut_acc]
      simp [headL, tailL, hasL, cutL]
    · have e : cutStep c [p] x = [p ++ [x]] := by unfold cutStep; rw [if_neg hx]; rfl
      have e1 : headL c (x :: l) = x :: headL c l := by unfold headL; rw [List.takeWhile_cons_of_pos (by simpa using hx)]
      have e2 : tailL c (x :: l) = tailL c l := by unfold tailL; rw [List.dropWhile_cons_of_pos (by simpa using hx)]
      have e3 : hasL c (x :: l) = hasL c l := by unfold hasL; simp [Ne.symm hx]
      rw [List.foldl_cons, e, ih, e1, e2, e3]
      simp
theorem cut_head (c : UInt8) (l : List UInt8) : cutL c l = headL c l :: (if hasL c l then cutL c (tailL c l) else []) := by
  unfold cutL
  have := cut_from c l []
  simpa [cutL] using this
theorem tail_lt {c : UInt8} {l : List UInt8} (h : hasL c l = true) : (tailL c l).length < l.length := by
  rcases idx_cases c l with ⟨_, _, _, h4⟩ | ⟨k, hk, _, _, h3, _⟩
  · rw [h4] at h; cases h
  · rw [h3, List.length_drop]; omega

/-- the parts of a text; none of the empty one -/
def partsL (l : List UInt8) : List (List UInt8) := if l = [] then [] else cutL 38 l
/-- what is yet to come -/
def restL (more : Bool) (l : List UInt8) : List (List UInt8) := if more then cutL 38 l else []
theorem partsL_rest (l : List UInt8) : partsL l = restL (!l.isEmpty) l := by
  unfold partsL restL
  cases l with
  | nil => rfl
  | cons a l => rfl
/-- texts that are not too long -/
abbrev Txt := { x : List UInt8 // x.length ≤ 40000000000000 }
def lenV : Value → Nat
  | .string s => s.size
  | _ => 0
def boolV : Value → Nat
  | .bool true => 1
  | _ => 0

theorem below_grown {w w' : World} (h : Below w.heap.size w w') : w.grownBy w' none := ⟨h.1, h.2, h.3, h.4, fun k hk _ => h.5 k hk⟩

set_option maxRecDepth 100000 in
set_option maxHeartbeats 2000000 in
theorem parts1_in (n : Nat) (hn : 1 ≤ n) (l0 Bn : Nat) (l : List UInt8) (hl : l.length ≤ 40000000000000) (J Jx : List Txt → World → Prop) (W : World) (hJ : AbidesFrom W.heap.size J)
    (hY : ∀ pre x W, J pre W → pre.length < l.length + 1 → YieldAt Fence.wide (n - 1) Tryz.prog l0 #[.string (str x.1)] W fun e W' =>
      (e = .returned (.bool true) ∧ J (pre ++ [x]) W' ∧ KeepsWalks W W') ∨ (e = .returned (.bool false) ∧ Jx (pre ++ [x]) W'))
    (hBn : W.cell? ⟨Bn, 0, none⟩ = some (.string (str l))) (h0 : J [] W) :
    CallsIn Fence.wide n Tryz.prog 123 #[.func (.yield l0) #[] #[], .pointer (some ⟨Bn, 0, none⟩)] W fun e W' => (∃ v, e = .returned v) ∧
      ((∃ ys : List Txt, ys.map (·.1) = partsL l ∧ J ys W') ∨ (∃ pre : List Txt, pre.map (·.1) <+: partsL l ∧ Jx pre W')) := by
  refine callsIn_of_wp Tryz.func123 rfl trivial ?_ rfl
  simp only [Tryz.ntmps123, List.size_toArray, List.length_cons, List.length_nil, Nat.reduceAdd, Nat.reduceSub, Array.replicate_succ, Array.replicate_zero, List.push_toArray, List.append_toArray, List.nil_append, List.cons_append]
  gi_wp2
  gi_quiet (fail)
  have h1 : J [] (W.drewN nq) := hJ [] W _ none h0 (below_grown (bel_drewN (Below.refl _ _) nq)) (fun r e => by cases e)
  have hm0 : (!(str l).toList.isEmpty) = !l.isEmpty := by rw [str_empty]
  rw [hm0]
  clear hm0 h0 hBn
  generalize W.drewN nq = W1 at *
  have hlen : ∀ pre rest : List (List UInt8), partsL l = pre ++ rest → 0 < rest.length → pre.length < l.length + 1 := fun pre rest h hr => by
    have h2 : (partsL l).length ≤ l.length + 1 := by
      unfold partsL; split
      · simp
      · exact cutL_len 38 l
    rw [h, List.length_append] at h2; omega
  have hstart : partsL l = [] ++ restL (!l.isEmpty) l := partsL_rest l
  generalize hm : (!l.isEmpty) = m0 at *
  have Hlen : Hid (∀ pre rest : List (List UInt8), partsL l = pre ++ rest → 0 < rest.length → pre.length < l.length + 1) := hlen
  have Hst : Hid (partsL l = [] ++ restL m0 l) := hstart
  clear hlen hstart hm
  gi_wp2
  gi_loopw [3, 4, 5] (fun s3 s4 s5 wr => ∃ (pre : List Txt) (lf : List UInt8) (m : Bool), s3 = .string (str lf) ∧ s4 = .bool m ∧ lf.length ≤ 40000000000000 ∧ Hid (partsL l = pre.map (·.1) ++ restL m lf) ∧ J pre wr)
    (fun s3 s4 _ _ => lenV s3 + boolV s4)
  case atStart => exact ⟨[], l, m0, rfl, rfl, hl, Hst, h1⟩
  case round =>
    obtain ⟨pre, lf, m, rfl, rfl, hlf, Hp, hJs⟩ := hrel
    cases m with
    | false =>
      gi_wp2
      go_end0
      exact ⟨⟨_, rfl⟩, .inl ⟨pre, by rw [Hp.out]; simp [restL], hJs⟩⟩
    | true =>
      have hh : (headL 38 lf).length ≤ 40000000000000 := by have := headL_length 38 lf; omega
      have ht : (tailL 38 lf).length ≤ 40000000000000 := by have := tailL_length 38 lf; omega
      have hlt : pre.length < l.length + 1 := by
        have := Hlen.out _ _ Hp.out (by unfold restL; rw [if_pos rfl]; exact cutL_pos 38 lf)
        simpa using this
      have HP2 : Hid (partsL l = (pre ++ [(⟨headL 38 lf, hh⟩ : Txt)]).map (·.1) ++ restL (hasL 38 lf) (tailL 38 lf)) := by
        unfold Hid; rw [Hp.out]; unfold restL; rw [if_pos rfl, cut_head]; simp
      have HM : Hid (lenV (.string (str (tailL 38 lf))) + boolV (.bool (hasL 38 lf)) < lenV (.string (str lf)) + boolV (.bool true)) := by
        unfold Hid
        show (str (tailL 38 lf)).size + _ < (str lf).size + 1
        rw [str_size, str_size]
        cases hb : hasL 38 lf with
        | true => have := tail_lt hb; show _ + 1 < _; omega
        | false => have := tailL_length 38 lf; show _ + 0 < _; omega
      have HC := fun w => codCut lf 38 w hlf
      have HX : ∀ w', J pre w' → YieldAt Fence.wide (n - 1) Tryz.prog l0 #[.string (str (headL 38 lf))] w' fun e W' => (e = .returned (.bool true) ∧ J (pre ++ [(⟨headL 38 lf, hh⟩ : Txt)]) W' ∧ KeepsWalks w' W') ∨ (e = .returned (.bool false) ∧ Jx (pre ++ [(⟨headL 38 lf, hh⟩ : Txt)]) W') := fun w' hj => hY pre ⟨headL 38 lf, hh⟩ w' hj hlt
      clear hY hlt
      generalize (⟨headL 38 lf, hh⟩ : Txt) = x at *
      clear hh
      have HS : Hid (∃ tl : List UInt8, str (tailL 38 lf) = str tl ∧ tl.length ≤ 40000000000000 ∧ partsL l = (pre ++ [x]).map (·.1) ++ restL (hasL 38 lf) tl) := ⟨_, rfl, ht, HP2.out⟩
      clear HP2 ht Hp
      generalize hasL 38 lf = b at *
      generalize str (headL 38 lf) = s1 at *
      generalize str (tailL 38 lf) = s2 at *
      generalize str lf = s0 at *
      gi_wp2_with (refine ⟨trivial, ?_⟩; gi_at_call 57; refine (callsIn_wide.2 (HC _)).mono ?_; rintro e w' ⟨rfl, hbw⟩; have hJ' := hJ pre wr w' none hJs (below_grown hbw) (fun r e => by cases e); obtain ⟨fn, tmps, assign, body, hy, hR⟩ := HX w' hJ')
      --@@
      refine hR.mono ?_
      rintro e W3 (⟨rfl, hJ3, hk3⟩ | ⟨rfl, hJx3⟩)
      · gi_wp2
        go_roundw
        case rel =>
          obtain ⟨tl, e1, e2, e3⟩ := HS.out
          exact ⟨pre ++ [x], tl, b, by rw [e1], rfl, e2, e3, hJ3⟩
        case measure => exact HM.out
      · gi_wp2
        refine bodyPost_ret (results_none rfl _ _ _) rfl ?_
        obtain ⟨tl, e1, e2, e3⟩ := HS.out
        exact ⟨⟨_, rfl⟩, .inr ⟨pre ++ [x], ⟨_, e3.symm⟩, hJx3⟩⟩

set_option maxHeartbeats 1000000 in
theorem codParts (n : Nat) (s : ByteArray) (w : World) :
    CallsIn Fence.wide n Tryz.prog 79 #[.string s] w fun e w' => e = .returned (.func (.func 123) #[] #[.pointer (some ⟨w.heap.size, 0, none⟩)]) ∧ w' = w.alloc (.cells #[.string s] 9) := by
  refine callsIn_of_wp Tryz.func79 rfl trivial ?_ rfl
  simp only [Tryz.ntmps79, List.size_toArray, List.length_cons, List.length_nil, Nat.reduceAdd, Nat.reduceSub, Array.replicate_succ, Array.replicate_zero, List.push_toArray, List.append_toArray, List.nil_append, List.cons_append]
  gi_wp2
  go_ret
  exact ⟨rfl, rfl⟩

theorem parts_stops (n : Nat) (hn : 1 ≤ n) (Bn : Nat) (l : List UInt8) (hl : l.length ≤ 40000000000000) (w : World) (hBn : Bn < w.heap.size) (hc : w.cell? ⟨Bn, 0, none⟩ = some (.string (str l))) :
    SeqStopsK Fence.wide n Tryz.prog 123 #[.pointer (some ⟨Bn, 0, none⟩)] (fun x : Txt => #[Value.string (str x.1)]) KeepsWalks (fun ys => ys.map (·.1) = partsL l) (fun pre => pre.map (·.1) <+: partsL l) (l.length + 1) w := fun l0 J Jx W hW hJ _ hY h0 =>
  parts1_in n hn l0 Bn l hl J Jx W hJ hY ((hW.cell (p := ⟨Bn, 0, none⟩) hBn).trans hc) h0
end Go.Proofs.YtgjmaeodgcigdaaGreatDoor
namespace Go.Proofs.YtgjmaeodgcigdaaGreatDoor
open Go.RowKit

theorem results_cellrow_tmp {P : Program} {fn : Func} {p u : Tmp} {ty : TypeId} (h : fn.results = #[.cell p ty, .tmp u]) (tmps : Array Value) (w : World) (g : Nat) (t : TypeId) (cs : Array Value) (fr : Nat × Nat) (d : TypeDesc)
    (hp : tmps.getD p undef = .pointer (some ⟨g, 0, none⟩)) (hg : w.heap[g]? = some (.cells cs t fr))
    (hu : P.underlying ty = some d) (hd : (match d with | .struct _ | .array _ _ => true | _ => false) = true) (hi : (P.info? ty).map (·.size) = some cs.size) :
    (results fn tmps).run P w = .ok (.tuple #[.agg cs, tmps.getD u undef]) w := by
  rw [results_cell_tmp h, hp]
  simp [asAddr, Result.andThen, run_loadVar_row w g t ty cs fr d hg hu hd hi]

def PairR (l m : List UInt8) : Ending := .returned (.tuple #[.agg #[.string (str (bothA l m)), .string (str (bothB l m))], .int .i64 (bothC l m)])

set_option maxHeartbeats 1000000 in
theorem codPair (p : List UInt8) (w : World) (hs : p.length ≤ 40000000000000) :
    Calls Tryz.prog 80 #[.string (str p)] w fun e w' => e = PairR (headL 61 p) (tailL 61 p) ∧ Below w.heap.size w w' := by
  have HC := fun w => codCut p 61 w hs
  have l1 := headL_length 61 p
  have l2 := tailL_length 61 p
  have HB := fun w => codBoth (headL 61 p) (tailL 61 p) w (by omega) (by omega)
  unfold PairR
  unfold BothR at HB
  clear hs l1 l2
  generalize str (bothA (headL 61 p) (tailL 61 p)) = r1 at *
  generalize str (bothB (headL 61 p) (tailL 61 p)) = r2 at *
  generalize bothC (headL 61 p) (tailL 61 p) = r3 at *
  generalize str (headL 61 p) = s1 at *
  generalize str (tailL 61 p) = s2 at *
  generalize str p = s3 at *
  generalize hasL 61 p = b3 at *
  go_enter Tryz.func80, Tryz.ntmps80
  go_wp2_with (go_at_call 57; refine (HC _).mono ?_; rintro e x1 ⟨rfl, b1⟩)
  have K1 := (Blk.newAt w w.heap.size 122 _ [.string ⟨#[]⟩, .string ⟨#[]⟩] rfl rfl).on b1
  have T1 : Below w.heap.size w x1 := ((Below.refl _ w).alloc (Nat.le_refl _) _).trans (b1.mono (by simp))
  refine (HB x1).mono ?_
  rintro e x2 ⟨rfl, c2⟩
  have K2 := K1.on c2
  have T2 := T1.trans (c2.mono T1.size)
  have g0 : x2.cell? ⟨w.heap.size, 0, none⟩ = some (.string ⟨#[]⟩) := K2.cell 0
  have g1 : x2.cell? ⟨w.heap.size, 1, none⟩ = some (.string ⟨#[]⟩) := K2.cell 1
  have f0 := K2.frozen 0
  have f1 := K2.frozen 1
  clear c2 T1 K1 b1 HB HC
  go_wp2
  have K4 : Blk ((x2.setCell ⟨w.heap.size, 0, none⟩ (.string r1)).setCell ⟨w.heap.size, 1, none⟩ (.string r2)) w.heap.size 122 [.string r1, .string r2] := (K2.set 0 (.string r1)).set 1 (.string r2)
  (try simp only [Exit.inBlock, Exit.then])
  refine bodyPost_ret (results_cellrow_tmp (P := Tryz.prog) rfl _ _ w.heap.size 122 #[.string r1, .string r2] (0, 0) _ rfl K4 Tryz.underlying122 rfl (by kernel_rfl)) rfl ⟨rfl, ?_⟩
  exact (T2.setCell (p := ⟨w.heap.size, 0, none⟩) (Nat.le_refl _) _).setCell (p := ⟨w.heap.size, 1, none⟩) (Nat.le_refl _) _
end Go.Proofs.YtgjmaeodgcigdaaGreatDoor
namespace Go.Proofs.YtgjmaeodgcigdaaGreatDoor
open Go.RowKit

def accL (pre : List Txt) : Option (List Pr) := (pre.map (·.1)).foldl qStep (some [])
def outL (pre : List Txt) : List Pr := (accL pre).getD []
theorem acc_snoc (pre : List Txt) (x : Txt) : accL (pre ++ [x]) = qStep (accL pre) x.1 := by unfold accL; rw [List.map_append, List.foldl_append]; rfl
theorem out_some {pre : List Txt} {out : List Pr} (h : accL pre = some out) : outL pre = out := by unfold outL; rw [h]; rfl
theorem both_dec {l m : List UInt8} : bothL l m = (match decL l, decL m with | some a, some b => some (a, b) | _, _ => none) := rfl
theorem q_none {out : List Pr} {p : List UInt8} (h : bothL (headL 61 p) (tailL 61 p) = none) : qStep (some out) p = none := by
  unfold qStep
  unfold bothL at h
  cases d1 : decL (headL 61 p) with
  | none => rfl
  | some a =>
    cases d2 : decL (tailL 61 p) with
    | none => rfl
    | some b => rw [d1, d2] at h; cases h
theorem q_some {out : List Pr} {p n v : List UInt8} (h : bothL (headL 61 p) (tailL 61 p) = some (n, v)) : qStep (some out) p = if n = [] ∨ (findL out n).isSome = true then none else some (out ++ [(n, v)]) := by
  unfold qStep
  unfold bothL at h
  cases d1 : decL (headL 61 p) with
  | none => rw [d1] at h; cases h
  | some a =>
    cases d2 : decL (tailL 61 p) with
    | none => rw [d1, d2] at h; cases h
    | some b =>
      rw [d1, d2] at h
      cases h
      rfl
theorem q_len (ps : List (List UInt8)) (o out : List Pr) (h : ps.foldl qStep (some o) = some out) : out.length = o.length + ps.length := by
  induction ps generalizing o with
  | nil => rw [List.foldl_nil] at h; cases h; rfl
  | cons p ps ih =>
    rw [List.foldl_cons] at h
    cases hb : bothL (headL 61 p) (tailL 61 p) with
    | none => rw [q_none hb, qStep_none] at h; cases h
    | some nv =>
      obtain ⟨n, v⟩ := nv
      rw [q_some hb] at h
      split at h
      · rw [qStep_none] at h; cases h
      · have := ih _ h
        simp at this ⊢; omega
theorem acc_len {pre : List Txt} {out : List Pr} (h : accL pre = some out) : out.length = pre.length := by
  have := q_len _ _ _ h
  simpa using this
theorem q_stop {l : List UInt8} {pre : List Txt} (hp : pre.map (·.1) <+: partsL l) (h : 24 < pre.length ∨ accL pre = none) : queryL l = none := by
  obtain ⟨t, ht⟩ := hp
  have hl : ¬ l = [] := by
    rintro rfl
    have e : pre.map (·.1) ++ t = [] := ht
    have e2 : pre.map (·.1) = [] := (List.append_eq_nil_iff.1 e).1
    have e3 : pre = [] := List.map_eq_nil_iff.1 e2
    subst e3
    rcases h with h | h
    · simp at h
    · cases h
  have hc : cutL 38 l = pre.map (·.1) ++ t := by rw [ht]; unfold partsL; rw [if_neg hl]
  unfold queryL
  rw [if_neg hl]
  by_cases h24 : 24 < (cutL 38 l).length
  · rw [if_pos h24]
  · rw [if_neg h24]
    rcases h with h | h
    · exfalso; apply h24; rw [hc, List.length_append, List.length_map]; omega
    · rw [hc, List.foldl_append]
      have : (pre.map (·.1)).foldl qStep (some []) = none := h
      rw [this, qStep_none]
theorem q_done {l : List UInt8} {xs : List Txt} {out : List Pr} (hp : xs.map (·.1) = partsL l) (h : accL xs = some out) (h24 : xs.length ≤ 24) : queryL l = some out := by
  unfold queryL
  by_cases hl : l = []
  · rw [if_pos hl]
    have e : xs = [] := List.map_eq_nil_iff.1 (by rw [hp, hl]; rfl)
    rw [e] at h
    exact h
  · have hc : cutL 38 l = xs.map (·.1) := by rw [hp]; unfold partsL; rw [if_neg hl]
    rw [if_neg hl, hc, if_neg (by rw [List.length_map]; omega)]
    exact h
theorem keeps_below {W W' : World} (h : Below W.heap.size W W') : KeepsOthers W W' := ⟨h.4, fun k _ hk _ => (h.5 k (Array.getElem?_eq_some_iff.1 hk).1).trans hk⟩
theorem boxed_below {W W' : World} {B : Nat} {t : TypeId} {v : Value} (h : Boxed W B t v) (hb : Below W.heap.size W W') : Boxed W' B t v := h.kept (below_grown hb) (by simp)
theorem boxed_alloc_cell {W : World} {B : Nat} {t : TypeId} {v : Value} (h : Boxed W B t v) (o : Obj) : (W.alloc o).cell? ⟨B, 0, none⟩ = some v := (h.alloc o).cell
end Go.Proofs.YtgjmaeodgcigdaaGreatDoor
namespace Go.Proofs.YtgjmaeodgcigdaaGreatDoor
open Go.RowKit

/-- no text of a query is longer than it -/
theorem fold_len (m : Nat) (ps : List (List UInt8)) (hp : ∀ p ∈ ps, p.length ≤ m) : ∀ (o out : List Pr), (∀ q ∈ o, q.1.length ≤ m ∧ q.2.length ≤ m) → ps.foldl qStep (some o) = some out → ∀ q ∈ out, q.1.length ≤ m ∧ q.2.length ≤ m := by
  induction ps with
  | nil => intro o out ho h; rw [List.foldl_nil] at h; cases h; exact ho
  | cons p ps ih =>
    intro o out ho h
    rw [List.foldl_cons] at h
    cases hb : bothL (headL 61 p) (tailL 61 p) with
    | none => rw [q_none hb, qStep_none] at h; cases h
    | some nv =>
      obtain ⟨n, v⟩ := nv
      rw [q_some hb] at h
      split at h
      · rw [qStep_none] at h; cases h
      · refine ih (fun q hq => hp q (List.mem_cons_of_mem _ hq)) _ out ?_ h
        intro q hq
        rcases List.mem_append.1 hq with hq | hq
        · exact ho q hq
        · rw [List.mem_singleton.1 hq]
          have hpl := hp p List.mem_cons_self
          have l1 := headL_length 61 p
          have l2 := tailL_length 61 p
          unfold bothL at hb
          cases d1 : decL (headL 61 p) with
          | none => rw [d1] at hb; cases hb
          | some a =>
            cases d2 : decL (tailL 61 p) with
            | none => rw [d1, d2] at hb; cases hb
            | some b =>
              rw [d1, d2] at hb
              cases hb
              have r1 := decL_length _ _ _ (Nat.le_refl _) d1
              have r2 := decL_length _ _ _ (Nat.le_refl _) d2
              exact ⟨by show n.length ≤ m; omega, by show v.length ≤ m; omega⟩
theorem query_len {s : List UInt8} {l : List Pr} (h : queryL s = some l) : ∀ q ∈ l, q.1.length ≤ s.length ∧ q.2.length ≤ s.length := by
  unfold queryL at h
  by_cases h0 : s = []
  · rw [if_pos h0] at h; cases h; intro q hq; cases hq
  · rw [if_neg h0] at h
    by_cases h24 : 24 < (cutL 38 s).length
    · rw [if_pos h24] at h; cases h
    · rw [if_neg h24] at h
      exact fold_len s.length _ (cutL_part 38 s) [] l (fun q hq => by cases hq) h

/-- two of them swapped -/
def swpL (l : List Pr) (i k : Nat) : List Pr := (l.set i (nthP l k)).set k (nthP l i)
theorem swpL_perm (l : List Pr) (i k : Nat) (hi : i < l.length) (hk : k < l.length) : (swpL l i k).Perm l := by
  unfold swpL
  rw [nthP_eq l i hi, nthP_eq l k hk]
  exact List.set_set_perm hi hk

theorem pcs_set (l : List Pr) (i : Nat) (p : Pr) : pcs (l.set i p) = ((pcs l).set (i * 2) (sv p.1)).set (i * 2 + 1) (sv p.2) := by
  induction l generalizing i with
  | nil => rfl
  | cons q l ih =>
    cases i with
    | zero => rfl
    | succ i =>
      rw [List.set_cons_succ]
      simp only [pcs]
      rw [ih, show (i + 1) * 2 = i * 2 + 1 + 1 by omega, List.set_cons_succ, List.set_cons_succ, List.set_cons_succ, List.set_cons_succ]
theorem OwnP.set {e : TypeId} {w : World} {N g cap n : Nat} {l : List Pr} (h : OwnP e w N (.slice (some ⟨g, 0, none⟩) n cap) l) (hn : l.length = n) (i : Nat) (p : Pr) :
    OwnP e ((w.setCell ⟨g, i * 2, none⟩ (.string (str p.1))).setCell ⟨g, i * 2 + 1, none⟩ (.string (str p.2))) N (.slice (some ⟨g, 0, none⟩) n cap) (l.set i p) := by
  subst hn
  have h1 := (World.ownsRow.stored h (i * 2) (.string (str p.1))).1
  have h2 := (World.ownsRow.stored h1 (i * 2 + 1) (.string (str p.2))).1
  unfold OwnP
  rw [List.length_set, pcs_set]
  exact h2
theorem OwnP.cellAt {e : TypeId} {w : World} {N g cap n : Nat} {l : List Pr} (h : OwnP e w N (.slice (some ⟨g, 0, none⟩) n cap) l) (hn : l.length = n) (i : Nat) (hi : i < n) : w.cell? ⟨g, i * 2, none⟩ = some (.string (str (nthP l i).1)) ∧ w.cell? ⟨g, i * 2 + 1, none⟩ = some (.string (str (nthP l i).2)) := by
  subst hn
  obtain ⟨p1, p2⟩ := pcs_at l i hi
  have hown : w.ownsRow N e 2 (.slice (some ⟨g, 0, none⟩) l.length cap) l.length (pcs l) := h
  rw [hown.cellAt (i * 2) (by omega), hown.cellAt (i * 2 + 1) (by omega)]
  exact ⟨p1, p2⟩
theorem OwnP.frozenAt {e : TypeId} {w : World} {N g cap n : Nat} {l : List Pr} (h : OwnP e w N (.slice (some ⟨g, 0, none⟩) n cap) l) (hn : l.length = n) (j : Nat) : w.frozen? ⟨g, j, none⟩ = false := by
  subst hn
  exact World.ownsRow.frozenAt h j
/-- append(l, m...), at an operation of a list -/
theorem list_appV {ops : Array Oper} {rest : List Oper} {o : Oper} {a : Act} {Q : Exit → Act → World → Prop} (st e : TypeId) (hu : Tryz.prog.underlying st = some (.slice e))
    (hinfo : (Tryz.prog.info? e).map (fun i => (i.zero, i.size, i.bytes)) = some (some (.agg #[.string ⟨#[]⟩, .string ⟨#[]⟩]), 2, 32)) (w : World) (hgd : o.guard = none) (s x : Operand)
    (ho : o.op = .call { callee := .builtin .append, args := #[s, x], argTypes := #[st, st] }) (base : Nat)
    (v : Value) (l : List Pr) (hs : a.eval s = v) (hown : OwnP e w base v l) (vx : Value) (m : List Pr) (hx : a.eval x = vx) (hm : IsPV w vx m)
    (hbytes : (l.length + m.length) * 32 ≤ 140737488355328) (hbase : base ≤ w.heap.size)
    (h : ∀ v' w', OwnP e w' base v' (l ++ m) → w.grownBy w' v.ownBlock → wpList Tryz.prog ops Q rest (a.put o.dst v') w') :
    wpList Tryz.prog ops Q (o :: rest) a w :=
  wpList_plain hgd fun _ hK => wp_appV st e hu hinfo w s x ho base v l hs hown vx m hx hm hbytes hbase fun v' w' h1 h2 => hK _ _ (h v' w' h1 h2)
end Go.Proofs.YtgjmaeodgcigdaaGreatDoor
namespace Go.Proofs.YtgjmaeodgcigdaaGreatDoor
open Go.RowKit

/-- all that was there is as it was, but for the block B -/
def Moved (B : Nat) (w w' : World) : Prop := w.grownBy w' (some B)
theorem Moved.size {B : Nat} {w w' : World} (h : Moved B w w') : w.heap.size ≤ w'.heap.size := h.4
theorem Moved.block {B : Nat} {w w' : World} (h : Moved B w w') (k : Nat) (hk : k < w.heap.size) (hne : k ≠ B) : w'.heap[k]? = w.heap[k]? := h.5 k hk (by intro e; exact hne (Option.some.inj e))
theorem Moved.of {B : Nat} {w w' : World} (h : Below w.heap.size w w') : Moved B w w' := ⟨h.1, h.2, h.3, h.4, fun k hk _ => h.5 k hk⟩
theorem Moved.refl (B : Nat) (w : World) : Moved B w w := .of (Below.refl _ _)
theorem Moved.trans {B : Nat} {w w1 w2 : World} (h : Moved B w w1) (k : Moved B w1 w2) : Moved B w w2 :=
  ⟨by first | exact k.1.trans h.1 | exact h.1.trans k.1, by first | exact k.2.trans h.2 | exact h.2.trans k.2, by first | exact k.3.trans h.3 | exact h.3.trans k.3, Nat.le_trans h.4 k.4, fun i hi hne => (k.5 i (Nat.lt_of_lt_of_le hi h.4) hne).trans (h.5 i hi hne)⟩
theorem Moved.blk {B : Nat} {w w' : World} (h : Moved B w w') {C t : Nat} {cs : List Value} (hc : Blk w C t cs) (hne : C ≠ B) : Blk w' C t cs := by
  unfold Blk at *; rw [h.block C (Blk.lt hc) hne]; exact hc
theorem Moved.below {B : Nat} {w w' : World} (h : Moved B w w') {n : Nat} (hn : n ≤ B) (hs : n ≤ w.heap.size) : Below n w w' := ⟨h.1, h.2, h.3, h.4, fun k hk => h.block k (by omega) (by omega)⟩
theorem Moved.set (B : Nat) (w : World) (v : Value) : Moved B w (w.setCell ⟨B, 0, none⟩ v) := grownBy_setCell' w B v
theorem Moved.cell {B : Nat} {w w' : World} (h : Moved B w w') (p : Addr) (hp : p.block < w.heap.size) (hne : p.block ≠ B) : w'.cell? p = w.cell? p := by
  unfold World.cell?; rw [h.block _ hp hne]
theorem OwnP.moved {e : TypeId} {w w' : World} {base B : Nat} {v : Value} {l : List Pr} (h : OwnP e w base v l) (hb : Moved B w w') (hB : B < base) : OwnP e w' base v l := by
  refine ⟨h.1, ?_⟩
  rcases h.2 with h2 | ⟨g, cap, cur, h3, h4, h5, h6⟩
  · exact .inl h2
  · exact .inr ⟨g, cap, cur, h3, h4, by rw [hb.block g (Array.getElem?_eq_some_iff.1 h5).1 (by omega)]; exact h5, h6⟩
theorem bp_panic {P : Program} {fn : Func} {Q : Ending → World → Prop} {chain : List PanicEntry} {tmps : Array Value} {w : World} (h : Q (.panicked chain) w) : bodyPost P fn Q (.panic chain) { tmps := tmps, defers := [] } w := by
  exact ⟨rfl, h⟩
theorem IsB.moved {g : Nat} {w w' : World} {a : Option Addr} {len cap : Nat} {l : List UInt8} (h : IsB w a len cap l) (hb : Moved g w w') (hne : ∀ b off, a = some ⟨b, off, none⟩ → b ≠ g) : IsB w' a len cap l :=
  ⟨h.len_eq, h.le, h.max, h.nil, fun hp => by
    obtain ⟨b, off, e, hc⟩ := h.cells hp
    refine ⟨b, off, e, fun i hi => ?_⟩
    have := hc i hi
    rw [hb.cell ⟨b, off + i, none⟩ (cell_lt this) (hne b off e)]; exact this⟩
theorem Moved.setAny (g : Nat) (w : World) (j : Nat) (v : Value) : Moved g w (w.setCell ⟨g, j, none⟩ v) := by
  have hb : Below g w (w.setCell ⟨g, j, none⟩ v) := (Below.refl g w).setCell (p := ⟨g, j, none⟩) (Nat.le_refl _) _
  refine ⟨hb.1, hb.2, hb.3, hb.4, fun k hk hne => ?_⟩
  have : k ≠ g := fun e => hne (by rw [e])
  exact heap_setCell_other w _ k v this

theorem IsP.small {w : World} {a : Option Addr} {n cap : Nat} {l : List Pr} (h : IsP w a n cap l) (o : Obj) : IsP (w.alloc o) a n cap l := h.below ((Below.refl _ w).alloc (Nat.le_refl _) _) rfl

end Go.Proofs.YtgjmaeodgcigdaaGreatDoor
namespace Go.Proofs.YtgjmaeodgcigdaaGreatDoor
open Go.RowKit

set_option maxRecDepth 20000 in
set_option maxHeartbeats 2000000 in
theorem refGet (m p q bd : Value) (a : Option Addr) (n cap : Nat) (l : List Pr) (nm : List UInt8) (w : World) (h : IsP w a n cap l) :
    Calls Tryz.prog 41 #[.agg #[m, p, q, .slice a n cap, bd], .string (str nm)] w fun e w' => e = .returned (.tuple #[.string (str ((findL l nm).getD [])), .bool (findL l nm).isSome]) ∧ Below w.heap.size w w' := by
  have HL : Hid (l.length = n) := h.len_eq
  have H : Hid (IsP w a n cap l) := h
  have hn : n ≤ 9223372036854775807 := by have := h.le; have := h.max; unfold maxLen at this; omega
  clear h
  have T0 : Below w.heap.size w (w.alloc (.cells #[m, p, q, .slice a n cap, bd] 25)) := (Below.refl _ w).alloc (Nat.le_refl _) _
  have K0 := Blk.newAt w w.heap.size 25 _ [m, p, q, .slice a n cap, bd] rfl rfl
  have k3 : (w.alloc (.cells #[m, p, q, .slice a n cap, bd] 25)).cell? ⟨w.heap.size, 3, none⟩ = some (.slice a n cap) := K0.cell 3
  generalize hrs : str ((findL l nm).getD []) = rs
  generalize hrb : (findL l nm).isSome = rb
  have HR1 : Hid (str ((findL l nm).getD []) = rs) := hrs
  have HR2 : Hid ((findL l nm).isSome = rb) := hrb
  clear hrs hrb
  go_enter Tryz.func41, Tryz.ntmps41
  go_wp2
  have HW : Hid (∀ x, Below w.heap.size w x → ∀ i, i < n → ∃ b off, a = some ⟨b, off, none⟩ ∧ x.cell? ⟨b, off + i * 2, none⟩ = some (.string (str (nthP l i).1)) ∧ x.cell? ⟨b, off + i * 2 + 1, none⟩ = some (.string (str (nthP l i).2))) := fun x hb i hi => by
    obtain ⟨b, off, e, hc⟩ := H.out.cells (by omega)
    obtain ⟨c1, c2⟩ := hc i hi
    exact ⟨b, off, e, (hb.cell (p := ⟨b, off + i * 2, none⟩) (cell_lt c1)).trans c1, (hb.cell (p := ⟨b, off + i * 2 + 1, none⟩) (cell_lt c2)).trans c2⟩
  generalize hW0 : (w.alloc (.cells #[m, p, q, .slice a n cap, bd] 25)) = W0 at *
  clear hW0
  go_loopw [6] (fun i wr => ∃ (k : Nat), k ≤ n ∧ i = .int .i64 k ∧ Hid (∀ j, j < k → ¬ (nthP l j).1 = nm) ∧ wr = W0) (fun i _ => n - (intOf i).toNat)
  case atStart => exact ⟨0, Nat.zero_le _, rfl, (fun j hj => absurd hj (Nat.not_lt_zero _)), rfl⟩
  case round =>
    obtain ⟨k, hk, rfl, HD, rfl⟩ := hrel
    by_cases hlt : k < n
    · obtain ⟨b, off, rfl, c1, c2⟩ := HW.out _ T0 k hlt
      have hb0 : (0 : Int) ≤ (k : Int) := by omega
      have hb1 : (k : Int) < (n : Int) := by omega
      have hkl : k < l.length := by rw [HL.out]; exact hlt
      by_cases he : (nthP l k).1 = nm
      · have HF : Hid (findL l nm = some (nthP l k).2) := find_at l nm k hkl HD.out he
        have hq : ((str (nthP l k).1).toList == (str nm).toList) = true := by rw [str_beq, he]; simp
        have e1 : Hid (str (nthP l k).2 = rs) := by unfold Hid; rw [← HR1.out, HF.out]; rfl
        have e2 : Hid (true = rb) := by unfold Hid; rw [← HR2.out, HF.out]; rfl
        clear HF hkl he HR1 HR2
        generalize str (nthP l k).1 = s1 at *
        generalize str (nthP l k).2 = s2 at *
        generalize str nm = s3 at *
        go_wp2
        go_ret2
        exact ⟨ret_sb e1.out e2.out, T0⟩
      · have hq : ((str (nthP l k).1).toList == (str nm).toList) = false := by rw [str_beq, beq_dec, decide_eq_false he]
        have HD1 : Hid (∀ j, j < k + 1 → ¬ (nthP l j).1 = nm) := fun j hj => by
          rcases Nat.lt_or_ge j k with h | h
          · exact HD.out j h
          · rw [show j = k by omega]; exact he
        have HK : Hid (k < n) := hlt
        clear HD hkl he
        generalize str (nthP l k).1 = s1 at *
        generalize str (nthP l k).2 = s2 at *
        generalize hs3 : str nm = s3 at *
        go_wp2
        go_roundw
        case rel => exact ⟨k + 1, HK.out, by go_num, HD1, by first | rfl | trivial⟩
        case measure => have := HK.out; simp [intOf]; omega
    · have hge : ¬ (k : Int) < (n : Int) := by omega
      have HF : Hid (findL l nm = none) := find_none l nm (fun i hi => HD.out i (by have := HL.out; omega))
      have e1 : Hid ((⟨#[]⟩ : ByteArray) = rs) := by unfold Hid; rw [← HR1.out, HF.out]; rfl
      have e2 : Hid (false = rb) := by unfold Hid; rw [← HR2.out, HF.out]; rfl
      clear HF HD HR1 HR2
      go_wp2
      go_ret2
      exact ⟨ret_sb e1.out e2.out, T0⟩

theorem infoH5 : (Tryz.prog.info? 68).map (fun i => (i.zero, i.size, i.bytes)) = some (some (.agg #[.string ⟨#[]⟩, .string ⟨#[]⟩]), 2, 32) := by kernel_rfl
theorem takeP5 (l : List Pr) (k : Nat) (h : k < l.length) : l.take (k + 1) = l.take k ++ [((nthP l k).1, (nthP l k).2)] := by
  rw [nthP_eq l k h, ← List.take_append_getElem h]

end Go.Proofs.YtgjmaeodgcigdaaGreatDoor
