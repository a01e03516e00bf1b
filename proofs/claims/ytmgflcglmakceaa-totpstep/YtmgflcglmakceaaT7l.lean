/- What totp.Check answers. -/
import Derived.Test.YtmgflcglmakceaaT7k
namespace Go.Proofs.Ytmgflcglmakceaa
open Go.RowKit

theorem OwnT.below7 {w w' : World} {base : Nat} {v : Value} {l : List (List UInt8)} (h : OwnT w base v l) (hb : Below w.heap.size w w') : OwnT w' base v l := by
  have hk := h.blk
  refine ⟨h.1, ?_⟩
  rcases h.2 with h2 | ⟨g, cap, cur, h3, h4, h5, h6⟩
  · exact .inl h2
  · exact .inr ⟨g, cap, cur, h3, h4, by rw [hb.block g (hk g (by rw [h3]; rfl)).2]; exact h5, h6⟩
/-- is l the code of step p, or of one beside it -/
def chkL (key : List UInt8) (p : Nat) (l : List UInt8) : Bool := eqB l (hotL key p) || (decide (0 < p) && eqB l (hotL key (p - 1))) || (decide (p < 614891469123651720) && eqB l (hotL key (p + 1)))
theorem chk_first (key l : List UInt8) : hitTo [hotL key 0, hotL key 1] l 2 = chkL key 0 l := by
  have e1 : chkL key 0 l = (eqB l (hotL key 0) || (false && eqB l (hotL key 0)) || (true && eqB l (hotL key 1))) := rfl
  have e2 : hitTo [hotL key 0, hotL key 1] l 2 = if eqB l (hotL key 1) = true then true else if eqB l (hotL key 0) = true then true else false := rfl
  rw [e1, e2]
  cases eqB l (hotL key 0) <;> cases eqB l (hotL key 1) <;> rfl
theorem chk_mid (key l : List UInt8) (p q r : Nat) (h0 : p = q + 1) (hr : r = p + 1) (h1 : p < 614891469123651720) : hitTo [hotL key p, hotL key q, hotL key r] l 3 = chkL key p l := by
  unfold chkL
  rw [decide_eq_true (show 0 < p by omega), decide_eq_true h1, show p - 1 = q by omega, ← hr]
  have e2 : hitTo [hotL key p, hotL key q, hotL key r] l 3 = if eqB l (hotL key r) = true then true else if eqB l (hotL key q) = true then true else if eqB l (hotL key p) = true then true else false := rfl
  rw [e2]
  cases eqB l (hotL key p) <;> cases eqB l (hotL key q) <;> cases eqB l (hotL key r) <;> rfl
theorem chk_last (key l : List UInt8) (p q : Nat) (h0 : p = q + 1) (h1 : ¬ p < 614891469123651720) : hitTo [hotL key p, hotL key q] l 2 = chkL key p l := by
  unfold chkL
  rw [decide_eq_true (show 0 < p by omega), decide_eq_false h1, show p - 1 = q by omega]
  have e2 : hitTo [hotL key p, hotL key q] l 2 = if eqB l (hotL key q) = true then true else if eqB l (hotL key p) = true then true else false := rfl
  rw [e2]
  cases eqB l (hotL key p) <;> cases eqB l (hotL key q) <;> cases eqB l (hotL key (p + 1)) <;> rfl
theorem bool_ret {a b : Bool} (h : a = b) : Ending.returned (.bool a) = .returned (.bool b) := by rw [h]

theorem hot_len (key : List UInt8) (l : List Nat) (j : Nat) : (nthT (l.map (hotL key)) j).length ≤ 100 := by
  by_cases h : j < (l.map (hotL key)).length
  · rw [nthT_eq _ _ h, List.getElem_map, hotL_length]; omega
  · unfold nthT; rw [List.getD_eq_getElem?_getD, List.getElem?_eq_none (by omega)]; simp

/-- the codes that hold, asked -/
theorem ask (key : List UInt8) (ps : List Nat) (s : ByteArray) (w x : World) (v : Value) (hb : Below w.heap.size w x) (ho : OwnT x w.heap.size v (ps.map (hotL key))) (h0 : 0 < ps.length) (hn : ps.length ≤ 1000) (hsz : s.size ≤ maxLen) :
    Calls Try.prog 24 #[.string s, v] x fun e w' => e = .returned (.bool (hitTo (ps.map (hotL key)) (sL s) ps.length)) ∧ Below w.heap.size w w' := by
  obtain ⟨g, cap, rfl, hg1, hg2⟩ := ho.form (by simpa using h0)
  have hl : (ps.map (hotL key)).length = ps.length := by simp
  rw [hl] at ho ⊢
  refine (codIsOneOf s g ps.length cap (ps.map (hotL key)) x hg2 (fun j hj => ho.cellAt hl j hj) hsz (fun j _ => hot_len key ps j) hn).mono ?_
  rintro e w' ⟨rfl, t⟩
  exact ⟨rfl, hb.trans (t.mono hb.size)⟩

set_option maxRecDepth 20000 in
set_option maxHeartbeats 2000000 in
theorem codCheck (a0 : Option Addr) (len0 cap0 : Nat) (key : List UInt8) (t : Nat) (s : ByteArray) (w : World) (w0 : IsB w a0 len0 cap0 key) (ht : t < 18446744073709551616) (hs : len0 ≤ 1000000) (hsz : s.size ≤ maxLen) :
    Calls Try.prog 12 #[.slice a0 len0 cap0, .int .u64 (t : Int), .string s] w fun e w' => e = .returned (.bool (chkL key (t / 30) (sL s))) ∧ Below w.heap.size w w' := by
  obtain ⟨p, hp⟩ : ∃ p, p = t / 30 := ⟨_, rfl⟩
  have hp1 : (t : Int) / 30 = (p : Int) := by omega
  have hp2 : IntKind.u64.wrap ((t : Int) / 30) = (p : Int) := by rw [hp1]; exact wrap64_nat _ (by omega)
  have hpl : p ≤ 614891469123651720 := by omega
  rw [← hp]
  clear hp
  have B0 : Hid (IsB w a0 len0 cap0 key) := w0
  clear w0
  by_cases hp0 : p = 0
  · subst hp0
    have HR : Hid (hitTo ([0, 1].map (hotL key)) (sL s) ([0, 1] : List Nat).length = chkL key 0 (sL s)) := chk_first key (sL s)
    have HA := fun x v hb ho => ask key [0, 1] s w x v hb ho (by simp) (by simp) hsz
    have C0 := fun w h => codHotp a0 len0 cap0 key 0 w h hs
    have C1 := fun w h => codHotp a0 len0 cap0 key 1 w h hs
    clear hsz hpl
    go_enter Try.func12, Try.ntmps12
    go_wp2_with fail
    refine (C0 w B0.out).mono ?_
    rintro e x1 ⟨rfl, t1⟩
    have o1 : OwnT (x1.alloc (.cells #[.string (str (hotL key 0))] 9)) w.heap.size (.slice (some ⟨x1.heap.size, 0, none⟩) 1 1) [hotL key 0] := OwnT.one x1 w.heap.size (hotL key 0) t1.size
    have T1 : Below w.heap.size w (x1.alloc (.cells #[.string (str (hotL key 0))] 9)) := t1.alloc t1.size _
    go_wp2_with fail
    generalize hy1 : x1.alloc (.cells #[.string (str (hotL key 0))] 9) = y1 at *
    clear hy1
    refine (C1 y1 (B0.out.below T1 rfl)).mono ?_
    rintro e x2 ⟨rfl, t2⟩
    have o2 := o1.below7 t2
    have T2 : Below w.heap.size w x2 := T1.trans (t2.mono T1.size)
    clear o1 t2
    go_wp2_with (at_builtin; refine list_appX _ rfl (.tmp 26) (.tmp 31) rfl w.heap.size _ [hotL key 0] rfl (o2.alloc _) x2.heap.size (hotL key 1) rfl (heap_alloc_new x2 _) (by simp) (by have := T2.size; simp; omega) ?_; intro v3 x3 o3 g3)
    have T3 : Below w.heap.size w x3 := (T2.alloc T2.size _).grown g3 (by have := T2.size; simp; omega) (fun q hq => (o2.blk q hq).1)
    refine (HA x3 v3 T3 o3).mono ?_
    rintro e x4 ⟨rfl, T4⟩
    go_wp2_with fail
    go_ret
    exact ⟨bool_ret HR.out, T4⟩
  · obtain ⟨q, hq⟩ : ∃ q, p = q + 1 := ⟨p - 1, by omega⟩
    have hq1 : (p : Int) - 1 = (q : Int) := by omega
    have hq2 : IntKind.u64.wrap ((p : Int) - 1) = (q : Int) := by rw [hq1]; exact wrap64_nat _ (by omega)
    have hqw : IntKind.u64.wrap (q : Int) = (q : Int) := wrap64_nat _ (by omega)
    have hp3 : (0 : Int) < (p : Int) := by omega
    have C0 := fun w h => codHotp a0 len0 cap0 key p w h hs
    have C1 := fun w h => codHotp a0 len0 cap0 key q w h hs
    by_cases hlt : p < 614891469123651720
    · obtain ⟨r, hr⟩ : ∃ r, r = p + 1 := ⟨_, rfl⟩
      have HR1 : Hid ((p : Int) + 1 = (r : Int)) := by unfold Hid; omega
      have HRW : Hid (IntKind.u64.wrap (r : Int) = (r : Int)) := wrap64_nat _ (by omega)
      have HLT : ∀ n : Nat, n = 7 → decide ((p : Int) < 614891469123651720) = true := fun _ _ => decide_eq_true (by omega)
      have C2 := fun w h => codHotp a0 len0 cap0 key r w h hs
      have HR : Hid (hitTo ([p, q, r].map (hotL key)) (sL s) ([p, q, r] : List Nat).length = chkL key p (sL s)) := chk_mid key (sL s) p q r hq hr hlt
      have HA := fun x v hb ho => ask key [p, q, r] s w x v hb ho (by simp) (by simp) hsz
      clear hsz hpl hp0 hlt hq hr ht hp1
      go_enter Try.func12, Try.ntmps12
      go_wp2_with fail
      refine (C0 w B0.out).mono ?_
      rintro e x1 ⟨rfl, t1⟩
      have o1 : OwnT (x1.alloc (.cells #[.string (str (hotL key p))] 9)) w.heap.size (.slice (some ⟨x1.heap.size, 0, none⟩) 1 1) [hotL key p] := OwnT.one x1 w.heap.size (hotL key p) t1.size
      have T1 : Below w.heap.size w (x1.alloc (.cells #[.string (str (hotL key p))] 9)) := t1.alloc t1.size _
      go_wp2_with fail
      generalize hy1 : x1.alloc (.cells #[.string (str (hotL key p))] 9) = y1 at *
      clear hy1
      refine (C1 y1 (B0.out.below T1 rfl)).mono ?_
      rintro e x2 ⟨rfl, t2⟩
      have o2 := o1.below7 t2
      have T2 : Below w.heap.size w x2 := T1.trans (t2.mono T1.size)
      clear o1 t2 hq1 hq2 hp2
      have hr1 := HR1.out
      have hrw := HRW.out
      have hlt' := HLT 7 rfl
      clear HLT
      go_wp2_with (at_builtin; refine list_appX _ rfl (.tmp 17) (.tmp 22) rfl w.heap.size _ [hotL key p] rfl (o2.alloc _) x2.heap.size (hotL key q) rfl (heap_alloc_new x2 _) (by simp) (by have := T2.size; simp; omega) ?_; intro v3 x3 o3 g3)
      have T3 : Below w.heap.size w x3 := (T2.alloc T2.size _).grown g3 (by have := T2.size; simp; omega) (fun q hq => (o2.blk q hq).1)
      clear g3 o2
      refine (C2 x3 (B0.out.below T3 rfl)).mono ?_
      rintro e x4 ⟨rfl, t4⟩
      have o4 := o3.below7 t4
      have T4 : Below w.heap.size w x4 := T3.trans (t4.mono T3.size)
      clear o3 t4
      go_wp2_with (at_builtin; refine list_appX _ rfl (.tmp 26) (.tmp 31) rfl w.heap.size _ ([hotL key p] ++ [hotL key q]) rfl (o4.alloc _) x4.heap.size (hotL key r) rfl (heap_alloc_new x4 _) (by simp) (by have := T4.size; simp; omega) ?_; intro v5 x5 o5 g5)
      have T5 : Below w.heap.size w x5 := (T4.alloc T4.size _).grown g5 (by have := T4.size; simp; omega) (fun q hq => (o4.blk q hq).1)
      refine (HA x5 v5 T5 o5).mono ?_
      rintro e x6 ⟨rfl, T6⟩
      go_wp2_with fail
      go_ret
      exact ⟨bool_ret HR.out, T6⟩
    · have HLT : ∀ n : Nat, n = 7 → decide ((p : Int) < 614891469123651720) = false := fun _ _ => decide_eq_false (by omega)
      have HR : Hid (hitTo ([p, q].map (hotL key)) (sL s) ([p, q] : List Nat).length = chkL key p (sL s)) := chk_last key (sL s) p q hq hlt
      have HA := fun x v hb ho => ask key [p, q] s w x v hb ho (by simp) (by simp) hsz
      clear hsz hpl hp0 hlt hq ht hp1
      go_enter Try.func12, Try.ntmps12
      go_wp2_with fail
      refine (C0 w B0.out).mono ?_
      rintro e x1 ⟨rfl, t1⟩
      have o1 : OwnT (x1.alloc (.cells #[.string (str (hotL key p))] 9)) w.heap.size (.slice (some ⟨x1.heap.size, 0, none⟩) 1 1) [hotL key p] := OwnT.one x1 w.heap.size (hotL key p) t1.size
      have T1 : Below w.heap.size w (x1.alloc (.cells #[.string (str (hotL key p))] 9)) := t1.alloc t1.size _
      go_wp2_with fail
      generalize hy1 : x1.alloc (.cells #[.string (str (hotL key p))] 9) = y1 at *
      clear hy1
      refine (C1 y1 (B0.out.below T1 rfl)).mono ?_
      rintro e x2 ⟨rfl, t2⟩
      have o2 := o1.below7 t2
      have T2 : Below w.heap.size w x2 := T1.trans (t2.mono T1.size)
      clear o1 t2 hq1 hq2 hp2
      have hlt' := HLT 7 rfl
      clear HLT
      go_wp2_with (at_builtin; refine list_appX _ rfl (.tmp 17) (.tmp 22) rfl w.heap.size _ [hotL key p] rfl (o2.alloc _) x2.heap.size (hotL key q) rfl (heap_alloc_new x2 _) (by simp) (by have := T2.size; simp; omega) ?_; intro v3 x3 o3 g3)
      have T3 : Below w.heap.size w x3 := (T2.alloc T2.size _).grown g3 (by have := T2.size; simp; omega) (fun q hq => (o2.blk q hq).1)
      refine (HA x3 v3 T3 o3).mono ?_
      rintro e x4 ⟨rfl, T4⟩
      go_wp2_with fail
      go_ret
      exact ⟨bool_ret HR.out, T4⟩
end Go.Proofs.Ytmgflcglmakceaa
