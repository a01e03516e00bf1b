/- What strings.SplitSeq hands back: a sequence of the parts of a text. -/
import Derived.Shelf.Abstract
import Derived.Shelf.RegionOpen
import Derived.WalkKit
import Derived.OwnWalkIn
import Derived.TacticsInMore
import Derived.LoopNIn
import Derived.LoopIn
import Derived.Sort.QuietIn
import Derived.Test.YtihfpoclflppnaaDoorRngBox
import Derived.Test.YtihfpoclflppnaaDoorB8
import Derived.Test.YtihfpoclflppnaaDoorShelf1
import Derived.Test.YtihfpoclflppnaaDoorB2
namespace Go.Proofs.YtihfpoclflppnaaDoor
open Go.RowKit Go.Shelf
attribute [local go_sem] Oper.semAt_some

set_option maxHeartbeats 1000000 in
theorem codSplit_seq (n : Nat) (s p : ByteArray) (z : Int) (w : World) :
    CallsIn Fence.wide n Tryd.prog 35 #[.string s, .string p, .int .i64 z] w fun e w' => e = .returned (.func (.func 47) #[] #[.pointer (some ⟨w.heap.size + 1, 0, none⟩), .pointer (some ⟨w.heap.size, 0, none⟩), .pointer (some ⟨w.heap.size + 1 + 1, 0, none⟩)]) ∧ w' = ((w.alloc (.cells #[.string s] 9)).alloc (.cells #[.string p] 9)).alloc (.cells #[.int .i64 z] 3) := by
  refine callsIn_of_wp Tryd.func35 rfl trivial ?_ rfl
  simp only [Tryd.ntmps35, List.size_toArray, List.length_cons, List.length_nil, Nat.reduceAdd, Nat.reduceSub, Array.replicate_succ, Array.replicate_zero, List.push_toArray, List.append_toArray, List.nil_append, List.cons_append]
  gi_wp2
  go_ret
  exact ⟨rfl, rfl⟩
set_option maxHeartbeats 1000000 in
theorem codSplitSeq (n : Nat) (hn : 1 ≤ n) (s p : ByteArray) (w : World) :
    CallsIn Fence.wide n Tryd.prog 24 #[.string s, .string p] w fun e w' => e = .returned (.func (.func 47) #[] #[.pointer (some ⟨w.heap.size + 1, 0, none⟩), .pointer (some ⟨w.heap.size, 0, none⟩), .pointer (some ⟨w.heap.size + 1 + 1, 0, none⟩)]) ∧ w' = ((w.alloc (.cells #[.string s] 9)).alloc (.cells #[.string p] 9)).alloc (.cells #[.int .i64 0] 3) := by
  refine callsIn_of_wp Tryd.func24 rfl trivial ?_ rfl
  simp only [Tryd.ntmps24, List.size_toArray, List.length_cons, List.length_nil, Nat.reduceAdd, Nat.reduceSub, Array.replicate_succ, Array.replicate_zero, List.push_toArray, List.append_toArray, List.nil_append, List.cons_append]
  gi_wp2_with (refine ⟨trivial, ?_⟩; gi_at_call 35; refine (codSplit_seq _ _ _ _ _).mono ?_; rintro e w' ⟨rfl, rfl⟩)
  go_ret
  exact ⟨rfl, rfl⟩

/-- texts that are not too long -/
abbrev Txt8 := { x : List UInt8 // x.length ≤ 100000 }
/-- how long the text in a variable is -/
def boxLen (W : World) (B : Nat) : Nat := match W.cell? ⟨B, 0, none⟩ with | some (.string s) => s.size | _ => 0
theorem boxLen_eq {W : World} {B t : Nat} {s : ByteArray} (h : Boxed W B t (.string s)) : boxLen W B = s.size := by unfold boxLen; rw [h.cell]
/-- the closure's three variables -/
def Vars8 (Bs : Nat) (l : List UInt8) (W : World) : Prop := Boxed W Bs 9 (.string (str l)) ∧ Boxed W (Bs + 1) 9 (.string ⟨#[59]⟩) ∧ Boxed W (Bs + 1 + 1) 3 (.int .i64 0)
/-- what a round leaves -/
def Keep8 (Bs : Nat) (A B : World) : Prop := ∀ l, Vars8 Bs l A → Vars8 Bs l B
set_option maxRecDepth 100000 in
set_option maxHeartbeats 2000000 in
theorem seq8 (n : Nat) (hn : 1 ≤ n) (Bs : Nat) (l : List UInt8) (hl : l.length ≤ 100000) :
    SeqBox n Tryd.prog 47 #[.pointer (some ⟨Bs + 1, 0, none⟩), .pointer (some ⟨Bs, 0, none⟩), .pointer (some ⟨Bs + 1 + 1, 0, none⟩)] (fun x : Txt8 => #[Value.string (str x.1)]) (Keep8 Bs)
      (fun ys => ys.map (·.1) = cutL 59 l) (fun pre => pre.map (·.1) <+: cutL 59 l) (l.length + 1) Bs (Vars8 Bs l) := by
  intro l0 J Jx W hV hJb hJs hY h0
  have Hlen : Hid (∀ pre rest : List (List UInt8), cutL 59 l = pre ++ rest → 0 < rest.length → pre.length < l.length + 1) := fun pre rest h hr => by
    have h2 := cutL_len 59 l
    rw [h, List.length_append] at h2; omega
  have HJb : Hid (∀ pre A B, J pre A → Below A.heap.size A B → J pre B) := hJb
  have HJs : Hid (∀ pre A v, J pre A → J pre (A.setCell ⟨Bs, 0, none⟩ v)) := hJs
  have HY : Hid (∀ pre x A, J pre A → pre.length < l.length + 1 → YieldAt Fence.wide (n - 1) Tryd.prog l0 #[Value.string (str x.1)] A fun e B => (e = .returned (.bool true) ∧ J (pre ++ [x]) B ∧ Keep8 Bs A B) ∨ (e = .returned (.bool false) ∧ Jx (pre ++ [x]) B)) := hY
  obtain ⟨v1, v2, v3⟩ := hV
  have HV : Hid (Vars8 Bs l W) := ⟨v1, v2, v3⟩
  have c1 := v1.cell
  have c2 := v2.cell
  have c3 := v3.cell
  clear hJb hJs hY v1 v2 v3
  show CallsIn Fence.wide n Tryd.prog 47 #[.func (.yield l0) #[] #[], .pointer (some ⟨Bs + 1, 0, none⟩), .pointer (some ⟨Bs, 0, none⟩), .pointer (some ⟨Bs + 1 + 1, 0, none⟩)] W _
  refine callsIn_of_wp Tryd.func47 rfl trivial ?_ rfl
  simp only [Tryd.ntmps47, List.size_toArray, List.length_cons, List.length_nil, Nat.reduceAdd, Nat.reduceSub, Array.replicate_succ, Array.replicate_zero, List.push_toArray, List.append_toArray, List.nil_append, List.cons_append]
  gi_wp2
  clear c1 c2 c3
  gi_loopw [7, 8] (fun _ _ wr => ∃ (pre : List Txt8) (lf : List UInt8), lf.length ≤ 100000 ∧ Hid (Vars8 Bs lf wr) ∧ Hid (cutL 59 l = pre.map (·.1) ++ cutL 59 lf) ∧ Hid (J pre wr)) (fun _ _ wr => boxLen wr Bs)
  case atStart => exact ⟨[], l, hl, HV, rfl, h0⟩
  case round =>
    obtain ⟨pre, lf, hlf, HVr, Hp, hJr⟩ := hrel
    clear HV h0
    have c1 := HVr.out.1.cell
    have c2 := HVr.out.2.1.cell
    have c3 := HVr.out.2.2.cell
    have hz : (str lf).size = lf.length := str_size lf
    have HI := fun W => Tryd.strings_Index_one (str lf) 59 W
    rw [str_list] at HI
    have hlt : pre.length < l.length + 1 := by
      have := Hlen.out _ _ Hp.out (cutL_pos 59 lf)
      simpa using this
    by_cases hm : (59 : UInt8) ∈ lf
    · obtain ⟨x, y, he, hx⟩ := psplit_at 59 lf hm
      have hix : Lib.indexByte lf 59 = (x.length : Int) := by rw [he]; exact idx8 59 x y hx
      rw [hix] at HI
      have e1 : (str lf).extract 0 x.length = str x := by rw [ext_take, str_list, he, List.take_left]
      have e2 : (str lf).extract (x.length + 1) (str lf).size = str y := by
        rw [ext_drop, str_list, he, show x ++ 59 :: y = (x ++ [59]) ++ y by simp, show x.length + 1 = (x ++ [59]).length by simp, List.drop_left]
      have hxl : x.length < lf.length := by rw [he, List.length_append, List.length_cons]; omega
      have hyl : y.length < lf.length := by rw [he, List.length_append, List.length_cons]; omega
      have hxz : x.length ≤ 100000 := by omega
      have HP2 : Hid (cutL 59 l = (pre ++ [(⟨x, hxz⟩ : Txt8)]).map (·.1) ++ cutL 59 y) := by
        unfold Hid; rw [Hp.out, he, cutL_at 59 x y hx]; simp
      have HX := HY.out pre ⟨x, hxz⟩ wr hJr.out hlt
      have HX : YieldAt Fence.wide (n - 1) Tryd.prog l0 #[Value.string ((str lf).extract 0 x.length)] wr fun e B => (e = .returned (.bool true) ∧ J (pre ++ [(⟨x, hxz⟩ : Txt8)]) B ∧ Keep8 Bs wr B) ∨ (e = .returned (.bool false) ∧ Jx (pre ++ [(⟨x, hxz⟩ : Txt8)]) B) := by rw [e1]; exact HX
      have HE2 : Hid ((str lf).extract (x.length + 1) (str lf).size = str y) := e2
      have HM : Hid ((str y).size < (str lf).size) := by unfold Hid; rw [str_size, str_size]; exact hyl
      have HVL : Hid (Boxed wr Bs 9 (.string (str lf))) := HVr.out.1
      have hyz : y.length ≤ 100000 := by omega
      have hxs : x.length + 1 ≤ (str lf).size := by rw [hz]; omega
      clear hix e1 e2 hyl hlt Hp hJr hm he hx HY Hlen HJb hz hxl
      generalize (⟨x, hxz⟩ : Txt8) = X at *
      generalize x.length = k at *
      obtain ⟨fn, tmps, assign, body, hy, hR⟩ := HX
      have HVs : Hid (∀ B, Keep8 Bs wr B → Boxed B Bs 9 (.string (str lf)) ∧ Boxed B (Bs + 1) 9 (.string ⟨#[59]⟩) ∧ Boxed B (Bs + 1 + 1) 3 (.int .i64 0)) := fun B hB => hB lf HVr.out
      clear HVr
      generalize str lf = s0 at *
      gi_wp2_with (refine ⟨trivial, ?_⟩; gi_at_call 49; refine (callsIn_wide.2 (HI _)).mono ?_; rintro e w' ⟨rfl, hw⟩; obtain rfl := hw.symm)
      refine hR.mono ?_
      rintro e W3 (⟨rfl, hJ3, hk3⟩ | ⟨rfl, hJx3⟩)
      · obtain ⟨g1, g2, g3⟩ := HVs.out W3 hk3
        have d1 := g1.cell
        have d2 := g2.cell
        have d3 := g3.cell
        have f1 := g1.frozen
        have G1 : Hid (Boxed W3 Bs 9 (.string s0)) := g1
        have G2 : Hid (Boxed W3 (Bs + 1) 9 (.string ⟨#[59]⟩)) := g2
        have G3 : Hid (Boxed W3 (Bs + 1 + 1) 3 (.int .i64 0)) := g3
        clear c1 c2 c3 HVs g1 g2 g3
        gi_wp2
        go_roundw
        case rel =>
          have hb := G1.out.set (.string (s0.extract (k + 1) s0.size))
          rw [HE2.out] at hb
          have hb : Boxed (W3.setCell ⟨Bs, 0, none⟩ (.string (str y))) Bs 9 (.string (str y)) := hb
          rw [HE2.out]
          exact ⟨pre ++ [X], y, hyz, ⟨hb, G2.out.other (by omega) _, G3.out.other (by omega) _⟩, HP2.out, HJs.out _ _ _ hJ3⟩
        case measure =>
          rw [boxLen_eq (G1.out.set _), boxLen_eq HVL.out, HE2.out]
          exact HM.out
      · gi_wp2
        refine bodyPost_ret (results_none rfl _ _ _) rfl ?_
        exact ⟨⟨_, rfl⟩, .inr ⟨pre ++ [X], ⟨_, HP2.out.symm⟩, hJx3⟩⟩
    · have hix : Lib.indexByte lf 59 = -1 := idx8_no 59 lf hm
      rw [hix] at HI
      have HP2 : Hid (cutL 59 l = (pre ++ [(⟨lf, hlf⟩ : Txt8)]).map (·.1)) := by
        unfold Hid; rw [Hp.out, cutL_none 59 lf hm]; simp
      have HX := HY.out pre ⟨lf, hlf⟩ wr hJr.out hlt
      change YieldAt _ _ _ _ #[Value.string (str lf)] _ _ at HX
      clear hix hlt Hp hJr hm HY Hlen HJb HJs HVr hz
      generalize (⟨lf, hlf⟩ : Txt8) = X at *
      obtain ⟨fn, tmps, assign, body, hy, hR⟩ := HX
      generalize str lf = s0 at *
      gi_wp2_with (refine ⟨trivial, ?_⟩; gi_at_call 49; refine (callsIn_wide.2 (HI _)).mono ?_; rintro e w' ⟨rfl, hw⟩; obtain rfl := hw.symm)
      refine hR.mono ?_
      rintro e W3 (⟨rfl, hJ3, _⟩ | ⟨rfl, hJx3⟩)
      · gi_wp2
        go_end0
        exact ⟨⟨_, rfl⟩, .inl ⟨pre ++ [X], HP2.out.symm, hJ3⟩⟩
      · gi_wp2
        go_end0
        exact ⟨⟨_, rfl⟩, .inr ⟨pre ++ [X], ⟨[], by rw [List.append_nil]; exact HP2.out.symm⟩, hJx3⟩⟩
end Go.Proofs.YtihfpoclflppnaaDoor
