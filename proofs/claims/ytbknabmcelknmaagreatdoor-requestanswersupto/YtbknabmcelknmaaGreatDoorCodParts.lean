/- What uri.parts hands back: a sequence of the parts of a text. -/
import Derived.RangeFuncNested
import Derived.RangeFuncBound
import Derived.RangeFuncCalls
import Derived.RangeFuncLeaves
import Derived.Shelf.Abstract
import Derived.Shelf.RegionOpen
import Derived.WalkKit
import Derived.OwnWalkIn
import Derived.TacticsInMore
import Derived.LoopNIn
import Derived.LoopIn
import Derived.Sort.QuietIn
import Derived.Test.YtbknabmcelknmaaGreatDoorJ11
import Derived.Test.YtbknabmcelknmaaGreatDoorJ5
import Derived.Test.YtbknabmcelknmaaGreatDoorJ14
namespace Go.Proofs.YtbknabmcelknmaaGreatDoor
open Go.RowKit Go.Shelf
attribute [local go_sem] Oper.semAt_some

theorem cut_acc (c : UInt8) (l : List UInt8) (acc : List (List UInt8)) (p : List UInt8) : l.foldl (cutStep c) (acc ++ [p]) = acc ++ l.foldl (cutStep c) [p] := by
  have gen : ∀ (l : List UInt8) (acc m : List (List UInt8)), 0 < m.length → l.foldl (cutStep c) (acc ++ m) = acc ++ l.foldl (cutStep c) m := by
    intro l
    induction l with
    | nil => intro acc m _; rfl
    | cons x l ih =>
      intro acc m hm
      have e : cutStep c (acc ++ m) x = acc ++ cutStep c m x := by
        unfold cutStep
        split
        · rw [List.append_assoc]
        · have h1 : (acc ++ m).length - 1 = acc.length + (m.length - 1) := by simp; omega
          rw [h1, List.set_append_right _ _ (by omega)]
          congr 1
          have h2 : acc.length + (m.length - 1) - acc.length = m.length - 1 := by omega
          rw [h2]
          congr 2
          rw [nthT_eq _ _ (by simp; omega), nthT_eq _ _ (by omega), List.getElem_append_right (by omega)]
          congr 1
      rw [List.foldl_cons, List.foldl_cons, e]
      exact ih acc _ (cutStep_pos c m x hm)
  exact gen l acc [p] (by simp)
theorem cut_from (c : UInt8) (l : List UInt8) (p : List UInt8) : l.foldl (cutStep c) [p] = (p ++ headL c l) :: (if hasL c l then cutL c (tailL c l) else []) := by
  induction l generalizing p with
  | nil => simp [headL, hasL]
  | cons x l ih =>
    by_cases hx : x = c
    · subst hx
      have e : cutStep x [p] x = [p] ++ [[]] := by unfold cutStep; rw [if_pos rfl]
      rw [List.foldl_cons, e, cut_acc]
      simp [headL, tailL, hasL, cutL]
    · have e : cutStep c [p] x = [p ++ [x]] := by unfold cutStep; rw [if_neg hx]; rfl
      have e1 : headL c (x :: l) = x :: headL c l := by unfold headL; rw [List.takeWhile_cons_of_pos (by simpa using hx)]
      have e2 : tailL c (x :: l) = tailL c l := by unfold tailL; rw [List.dropWhile_cons_of_pos (by simpa using hx)]
      have e3 : hasL c (x :: l) = hasL c l := by unfold hasL; simp [Ne.symm hx]
      rw [List.foldl_cons, e, ih, e1, e2, e3]
      simp
theorem cut_head (c : UInt8) (l : List UInt8) : cutL c l = headL c l :: (if hasL c l then cutL c (tailL c l) else []) := by
  unfold cutL
  have := cut_from c l []
  simpa [cutL] using this
theorem tail_lt {c : UInt8} {l : List UInt8} (h : hasL c l = true) : (tailL c l).length < l.length := by
  rcases idx_cases c l with ⟨_, _, _, h4⟩ | ⟨k, hk, _, _, h3, _⟩
  · rw [h4] at h; cases h
  · rw [h3, List.length_drop]; omega

/-- the parts of a text; none of the empty one -/
def partsL (l : List UInt8) : List (List UInt8) := if l = [] then [] else cutL 38 l
/-- what is yet to come -/
def restL (more : Bool) (l : List UInt8) : List (List UInt8) := if more then cutL 38 l else []
theorem partsL_rest (l : List UInt8) : partsL l = restL (!l.isEmpty) l := by
  unfold partsL restL
  cases l with
  | nil => rfl
  | cons a l => rfl
/-- texts that are not too long -/
abbrev Txt := { x : List UInt8 // x.length ≤ 40000000000000 }
def lenV : Value → Nat
  | .string s => s.size
  | _ => 0
def boolV : Value → Nat
  | .bool true => 1
  | _ => 0

theorem below_grown {w w' : World} (h : Below w.heap.size w w') : w.grownBy w' none := ⟨h.1, h.2, h.3, h.4, fun k hk _ => h.5 k hk⟩

set_option maxRecDepth 100000 in
set_option maxHeartbeats 2000000 in
theorem parts1_in (n : Nat) (hn : 1 ≤ n) (l0 Bn : Nat) (l : List UInt8) (hl : l.length ≤ 40000000000000) (J Jx : List Txt → World → Prop) (W : World) (hJ : AbidesFrom W.heap.size J)
    (hY : ∀ pre x W, J pre W → pre.length < l.length + 1 → YieldAt Fence.wide (n - 1) Tryz.prog l0 #[.string (str x.1)] W fun e W' =>
      (e = .returned (.bool true) ∧ J (pre ++ [x]) W' ∧ KeepsWalks W W') ∨ (e = .returned (.bool false) ∧ Jx (pre ++ [x]) W'))
    (hBn : W.cell? ⟨Bn, 0, none⟩ = some (.string (str l))) (h0 : J [] W) :
    CallsIn Fence.wide n Tryz.prog 125 #[.func (.yield l0) #[] #[], .pointer (some ⟨Bn, 0, none⟩)] W fun e W' => (∃ v, e = .returned v) ∧
      ((∃ ys : List Txt, ys.map (·.1) = partsL l ∧ J ys W') ∨ (∃ pre : List Txt, pre.map (·.1) <+: partsL l ∧ Jx pre W')) := by
  refine callsIn_of_wp Tryz.func125 rfl trivial ?_ rfl
  simp only [Tryz.ntmps125, List.size_toArray, List.length_cons, List.length_nil, Nat.reduceAdd, Nat.reduceSub, Array.replicate_succ, Array.replicate_zero, List.push_toArray, List.append_toArray, List.nil_append, List.cons_append]
  gi_wp2
  gi_quiet (fail)
  have h1 : J [] (W.drewN nq) := hJ [] W _ none h0 (below_grown (bel_drewN (Below.refl _ _) nq)) (fun r e => by cases e)
  have hm0 : (!(str l).toList.isEmpty) = !l.isEmpty := by rw [str_empty]
  rw [hm0]
  clear hm0 h0 hBn
  generalize W.drewN nq = W1 at *
  have hlen : ∀ pre rest : List (List UInt8), partsL l = pre ++ rest → 0 < rest.length → pre.length < l.length + 1 := fun pre rest h hr => by
    have h2 : (partsL l).length ≤ l.length + 1 := by
      unfold partsL; split
      · simp
      · exact cutL_len 38 l
    rw [h, List.length_append] at h2; omega
  have hstart : partsL l = [] ++ restL (!l.isEmpty) l := partsL_rest l
  generalize hm : (!l.isEmpty) = m0 at *
  have Hlen : Hid (∀ pre rest : List (List UInt8), partsL l = pre ++ rest → 0 < rest.length → pre.length < l.length + 1) := hlen
  have Hst : Hid (partsL l = [] ++ restL m0 l) := hstart
  clear hlen hstart hm
  gi_wp2
  gi_loopw [3, 4, 5] (fun s3 s4 s5 wr => ∃ (pre : List Txt) (lf : List UInt8) (m : Bool), s3 = .string (str lf) ∧ s4 = .bool m ∧ lf.length ≤ 40000000000000 ∧ Hid (partsL l = pre.map (·.1) ++ restL m lf) ∧ J pre wr)
    (fun s3 s4 _ _ => lenV s3 + boolV s4)
  case atStart => exact ⟨[], l, m0, rfl, rfl, hl, Hst, h1⟩
  case round =>
    obtain ⟨pre, lf, m, rfl, rfl, hlf, Hp, hJs⟩ := hrel
    cases m with
    | false =>
      gi_wp2
      go_end0
      exact ⟨⟨_, rfl⟩, .inl ⟨pre, by rw [Hp.out]; simp [restL], hJs⟩⟩
    | true =>
      have hh : (headL 38 lf).length ≤ 40000000000000 := by have := headL_length 38 lf; omega
      have ht : (tailL 38 lf).length ≤ 40000000000000 := by have := tailL_length 38 lf; omega
      have hlt : pre.length < l.length + 1 := by
        have := Hlen.out _ _ Hp.out (by unfold restL; rw [if_pos rfl]; exact cutL_pos 38 lf)
        simpa using this
      have HP2 : Hid (partsL l = (pre ++ [(⟨headL 38 lf, hh⟩ : Txt)]).map (·.1) ++ restL (hasL 38 lf) (tailL 38 lf)) := by
        unfold Hid; rw [Hp.out]; unfold restL; rw [if_pos rfl, cut_head]; simp
      have HM : Hid (lenV (.string (str (tailL 38 lf))) + boolV (.bool (hasL 38 lf)) < lenV (.string (str lf)) + boolV (.bool true)) := by
        unfold Hid
        show (str (tailL 38 lf)).size + _ < (str lf).size + 1
        rw [str_size, str_size]
        cases hb : hasL 38 lf with
        | true => have := tail_lt hb; show _ + 1 < _; omega
        | false => have := tailL_length 38 lf; show _ + 0 < _; omega
      have HC := fun w => codCut lf 38 w hlf
      have HX : ∀ w', J pre w' → YieldAt Fence.wide (n - 1) Tryz.prog l0 #[.string (str (headL 38 lf))] w' fun e W' => (e = .returned (.bool true) ∧ J (pre ++ [(⟨headL 38 lf, hh⟩ : Txt)]) W' ∧ KeepsWalks w' W') ∨ (e = .returned (.bool false) ∧ Jx (pre ++ [(⟨headL 38 lf, hh⟩ : Txt)]) W') := fun w' hj => hY pre ⟨headL 38 lf, hh⟩ w' hj hlt
      clear hY hlt
      generalize (⟨headL 38 lf, hh⟩ : Txt) = x at *
      clear hh
      have HS : Hid (∃ tl : List UInt8, str (tailL 38 lf) = str tl ∧ tl.length ≤ 40000000000000 ∧ partsL l = (pre ++ [x]).map (·.1) ++ restL (hasL 38 lf) tl) := ⟨_, rfl, ht, HP2.out⟩
      clear HP2 ht Hp
      generalize hasL 38 lf = b at *
      generalize str (headL 38 lf) = s1 at *
      generalize str (tailL 38 lf) = s2 at *
      generalize str lf = s0 at *
      gi_wp2_with (refine ⟨trivial, ?_⟩; gi_at_call 65; refine (callsIn_wide.2 (HC _)).mono ?_; rintro e w' ⟨rfl, hbw⟩; have hJ' := hJ pre wr w' none hJs (below_grown hbw) (fun r e => by cases e); obtain ⟨fn, tmps, assign, body, hy, hR⟩ := HX w' hJ')
      --@@
      refine hR.mono ?_
      rintro e W3 (⟨rfl, hJ3, hk3⟩ | ⟨rfl, hJx3⟩)
      · gi_wp2
        go_roundw
        case rel =>
          obtain ⟨tl, e1, e2, e3⟩ := HS.out
          exact ⟨pre ++ [x], tl, b, by rw [e1], rfl, e2, e3, hJ3⟩
        case measure => exact HM.out
      · gi_wp2
        refine bodyPost_ret (results_none rfl _ _ _) rfl ?_
        obtain ⟨tl, e1, e2, e3⟩ := HS.out
        exact ⟨⟨_, rfl⟩, .inr ⟨pre ++ [x], ⟨_, e3.symm⟩, hJx3⟩⟩

set_option maxHeartbeats 1000000 in
theorem codParts (n : Nat) (s : ByteArray) (w : World) :
    CallsIn Fence.wide n Tryz.prog 97 #[.string s] w fun e w' => e = .returned (.func (.func 125) #[] #[.pointer (some ⟨w.heap.size, 0, none⟩)]) ∧ w' = w.alloc (.cells #[.string s] 9) := by
  refine callsIn_of_wp Tryz.func97 rfl trivial ?_ rfl
  simp only [Tryz.ntmps97, List.size_toArray, List.length_cons, List.length_nil, Nat.reduceAdd, Nat.reduceSub, Array.replicate_succ, Array.replicate_zero, List.push_toArray, List.append_toArray, List.nil_append, List.cons_append]
  gi_wp2
  go_ret
  exact ⟨rfl, rfl⟩

theorem parts_stops (n : Nat) (hn : 1 ≤ n) (Bn : Nat) (l : List UInt8) (hl : l.length ≤ 40000000000000) (w : World) (hBn : Bn < w.heap.size) (hc : w.cell? ⟨Bn, 0, none⟩ = some (.string (str l))) :
    SeqStopsK Fence.wide n Tryz.prog 125 #[.pointer (some ⟨Bn, 0, none⟩)] (fun x : Txt => #[Value.string (str x.1)]) KeepsWalks (fun ys => ys.map (·.1) = partsL l) (fun pre => pre.map (·.1) <+: partsL l) (l.length + 1) w := fun l0 J Jx W hW hJ _ hY h0 =>
  parts1_in n hn l0 Bn l hl J Jx W hJ hY ((hW.cell (p := ⟨Bn, 0, none⟩) hBn).trans hc) h0
end Go.Proofs.YtbknabmcelknmaaGreatDoor
