/- Slices of pairs that a call makes. · What Query hands out. · What the document's Query answers. -/
import Derived.Test.YtgjmaeodgcigdaaGreatDoorB2
import Derived.Test.YtgjmaeodgcigdaaGreatDoorB4
import Derived.Test.YtgjmaeodgcigdaaGreatDoorB13
namespace Go.Proofs.YtgjmaeodgcigdaaGreatDoor
open Go.RowKit

/-- pairs as cells -/
def pcs : List Pr → List Value
  | [] => []
  | p :: l => sv p.1 :: sv p.2 :: pcs l
theorem pcs_append (l m : List Pr) : pcs (l ++ m) = pcs l ++ pcs m := by
  induction l with
  | nil => rfl
  | cons p l ih => simp only [List.cons_append, pcs, ih]
theorem pcs_length (l : List Pr) : (pcs l).length = l.length * 2 := by
  induction l with
  | nil => rfl
  | cons p l ih => simp only [pcs, List.length_cons, ih]; omega
theorem pcs_one (l : List Pr) : ∀ u ∈ pcs l, u.oneCell' = true := by
  induction l with
  | nil => intro u hu; cases hu
  | cons p l ih =>
    intro u hu
    simp only [pcs, List.mem_cons] at hu
    rcases hu with rfl | rfl | hu
    · rfl
    · rfl
    · exact ih u hu
theorem pcs_at (l : List Pr) (i : Nat) (h : i < l.length) : (pcs l)[i * 2]? = some (.string (str (nthP l i).1)) ∧ (pcs l)[i * 2 + 1]? = some (.string (str (nthP l i).2)) := by
  induction l generalizing i with
  | nil => simp at h
  | cons p l ih =>
    cases i with
    | zero => exact ⟨rfl, rfl⟩
    | succ i =>
      have := ih i (by simpa using h)
      rw [show (i + 1) * 2 = i * 2 + 1 + 1 by omega]
      exact this
/-- v owns the pairs l, in blocks from base on; e: the pairs' type -/
def OwnP (e : TypeId) (w : World) (base : Nat) (v : Value) (l : List Pr) : Prop := w.ownsRow base e 2 v l.length (pcs l)
theorem OwnP.nil (e : TypeId) (w : World) (base : Nat) : OwnP e w base (.slice none 0 0) [] := World.ownsRow_nil _ _ _ _
theorem OwnP.blk {e : TypeId} {w : World} {base : Nat} {v : Value} {l : List Pr} (h : OwnP e w base v l) : ∀ k, v.ownBlock = some k → base ≤ k ∧ k < w.heap.size := World.ownsRow.lt h
theorem OwnP.alloc {e : TypeId} {w : World} {base : Nat} {v : Value} {l : List Pr} (h : OwnP e w base v l) (o : Obj) : OwnP e (w.alloc o) base v l := World.ownsRow.alloc h o
theorem OwnP.heap {e : TypeId} {w w' : World} {base : Nat} {v : Value} {l : List Pr} (h : OwnP e w base v l) (eq : w'.heap = w.heap) : OwnP e w' base v l := by
  unfold OwnP World.ownsRow at *; rw [eq]; exact h
theorem OwnP.on {e : TypeId} {w w' : World} {base : Nat} {v : Value} {l : List Pr} (h : OwnP e w base v l) (hb : Below w.heap.size w w') : OwnP e w' base v l := by
  refine ⟨h.1, ?_⟩
  rcases h.2 with h2 | ⟨g, cap, cur, h3, h4, h5, h6⟩
  · exact .inl h2
  · exact .inr ⟨g, cap, cur, h3, h4, by rw [hb.block g (Array.getElem?_eq_some_iff.1 h5).1]; exact h5, h6⟩
theorem OwnT.on {w w' : World} {base n : Nat} {v : Value} {l : List (List UInt8)} (h : OwnT w base v l) (hb : Below n w w') (hn : n = w.heap.size) : OwnT w' base v l := by
  subst hn
  refine ⟨h.1, ?_⟩
  rcases h.2 with h2 | ⟨g, cap, cur, h3, h4, h5, h6⟩
  · exact .inl h2
  · exact .inr ⟨g, cap, cur, h3, h4, by rw [hb.block g (Array.getElem?_eq_some_iff.1 h5).1]; exact h5, h6⟩
theorem OwnP.isP {e : TypeId} {w : World} {base : Nat} {v : Value} {l : List Pr} (h : OwnP e w base v l) : ∃ a cap, v = .slice a l.length cap ∧ IsP w a l.length cap l := by
  obtain ⟨h1, h2⟩ := h
  rcases h2 with ⟨rfl, h0⟩ | ⟨g, cap, cur, rfl, hb, hg, hle, hmax, hsz, htk⟩
  · have : l = [] := List.eq_nil_of_length_eq_zero h0
    subst this
    exact ⟨none, 0, rfl, rfl, Nat.le_refl _, Nat.zero_le _, fun _ => rfl, fun hp => absurd hp (Nat.lt_irrefl 0)⟩
  · refine ⟨_, cap, rfl, rfl, hle, hmax, fun e => (by cases e), fun hp => ⟨g, 0, rfl, fun i hi => ?_⟩⟩
    have hown : w.ownsRow base e 2 (.slice (some ⟨g, 0, none⟩) l.length cap) l.length (pcs l) := ⟨h1, .inr ⟨g, cap, cur, rfl, hb, hg, hle, hmax, hsz, htk⟩⟩
    obtain ⟨p1, p2⟩ := pcs_at l i hi
    rw [Nat.zero_add, World.ownsRow.cellAt hown (i * 2) (by omega), World.ownsRow.cellAt hown (i * 2 + 1) (by omega)]
    exact ⟨p1, p2⟩
theorem OwnP.base {e : TypeId} {w : World} {base base' : Nat} {v : Value} {l : List Pr} (h : OwnP e w base v l) (hb : base' ≤ base) : OwnP e w base' v l := by
  refine ⟨h.1, ?_⟩
  rcases h.2 with h2 | ⟨g, cap, cur, h3, h4, h5⟩
  · exact .inl h2
  · exact .inr ⟨g, cap, cur, h3, Nat.le_trans hb h4, h5⟩
theorem isP_nil (w : World) : IsP w none 0 0 [] := ⟨rfl, Nat.le_refl _, Nat.zero_le _, fun _ => rfl, fun h => absurd h (Nat.lt_irrefl 0)⟩

/-- append(l, p), p a pair -/
theorem list_appQ {ops : Array Oper} {rest : List Oper} {o : Oper} {a : Act} {Q : Exit → Act → World → Prop} (st e : TypeId) (hu : Tryz.prog.underlying st = some (.slice e))
    (hinfo : (Tryz.prog.info? e).map (fun i => (i.zero, i.size, i.bytes)) = some (some (.agg #[.string ⟨#[]⟩, .string ⟨#[]⟩]), 2, 32)) (w : World) (hgd : o.guard = none) (s x : Operand)
    (ho : o.op = .call { callee := .builtin .append, args := #[s, x], argTypes := #[st, st] }) (base : Nat)
    (v : Value) (l : List Pr) (hs : a.eval s = v) (hown : OwnP e w base v l) (B : Nat) (n1 n2 : List UInt8) (hx : a.eval x = .slice (some ⟨B, 0, none⟩) 1 1)
    (hb : w.heap[B]? = some (.cells #[.string (str n1), .string (str n2)] e (0, 0))) (hbytes : (l.length + 1) * 32 ≤ 140737488355328) (hbase : base ≤ w.heap.size)
    (h : ∀ v' w', OwnP e w' base v' (l ++ [(n1, n2)]) → w.grownBy w' v.ownBlock → wpList Tryz.prog ops Q rest (a.put o.dst v') w') :
    wpList Tryz.prog ops Q (o :: rest) a w := by
  obtain ⟨i0, hi, hz0, hz1, hz2⟩ := info_parts hinfo
  refine wpList_append_own w hgd s x st ho base e i0 (.agg #[.string ⟨#[]⟩, .string ⟨#[]⟩]) 2 32 hu hi hz0 hz1 hz2 rfl (by omega) v l.length (pcs l) hs hown ⟨B, 0, none⟩ 1 1 [.string (str n1), .string (str n2)] hx rfl
    (fun j u hu => World.news_of_block hb j u (by simpa using hu)) (by intro u hu; simp only [List.mem_cons, List.not_mem_nil, or_false] at hu; rcases hu with rfl | rfl <;> rfl) (by unfold maxLen; omega) hbytes hbase ?_
  intro v' w' h1 h2 _
  exact h v' w' (by unfold OwnP; rw [pcs_append, List.length_append]; exact h1) h2
/-- the same in a region that draws -/
theorem step_appQ {ops : Array Oper} {o : Oper} {a : Act} {K : Act → World → Prop} {Q : Exit → Act → World → Prop} {E : Prop} (st e : TypeId) (hu : Tryz.prog.underlying st = some (.slice e))
    (hinfo : (Tryz.prog.info? e).map (fun i => (i.zero, i.size, i.bytes)) = some (some (.agg #[.string ⟨#[]⟩, .string ⟨#[]⟩]), 2, 32)) (w : World) (hgd : o.guard = none) (s x : Operand)
    (ho : o.op = .call { callee := .builtin .append, args := #[s, x], argTypes := #[st, st] }) (base : Nat)
    (v : Value) (l : List Pr) (hs : a.eval s = v) (hown : OwnP e w base v l) (B : Nat) (n1 n2 : List UInt8) (hx : a.eval x = .slice (some ⟨B, 0, none⟩) 1 1)
    (hb : w.heap[B]? = some (.cells #[.string (str n1), .string (str n2)] e (0, 0))) (hbytes : (l.length + 1) * 32 ≤ 140737488355328) (hbase : base ≤ w.heap.size) (H : Nat) (hH : w.heap.size = H)
    (h : ∀ g cap w', OwnP e w' base (.slice (some ⟨g, 0, none⟩) (l.length + 1) cap) (l ++ [(n1, n2)]) → w.grownBy w' v.ownBlock → (v.ownBlock = some g ∨ g = H) → g < w'.heap.size → K (a.put o.dst (.slice (some ⟨g, 0, none⟩) (l.length + 1) cap)) w') :
    if Region.wanted o (yielded ops a.tmps) = true then Oper.wp Tryz.prog o a w K Q else E := by
  obtain ⟨i0, hi, hz0, hz1, hz2⟩ := info_parts hinfo
  refine step_append_lies w hgd s x st ho base e i0 (.agg #[.string ⟨#[]⟩, .string ⟨#[]⟩]) 2 32 hu hi hz0 hz1 hz2 rfl (by omega) v l.length (pcs l) hs hown ⟨B, 0, none⟩ 1 1 [.string (str n1), .string (str n2)] hx rfl
    (fun j u hu => World.news_of_block hb j u (by simpa using hu)) (by intro u hu; simp only [List.mem_cons, List.not_mem_nil, or_false] at hu; rcases hu with rfl | rfl <;> rfl) (by omega) (by unfold maxLen; omega) hbytes hbase H hH ?_
  intro g cap w' h1 h2 h3 h4
  exact h g cap w' (by unfold OwnP; rw [pcs_append, List.length_append]; exact h1) h2 h3 h4
end Go.Proofs.YtgjmaeodgcigdaaGreatDoor
namespace Go.Proofs.YtgjmaeodgcigdaaGreatDoor
open Go.RowKit

/-- what Query hands out -/
def QOut (l : List UInt8) (e : Ending) (w' : World) : Prop := ∃ a n cap, e = .returned (.tuple #[.slice a n cap, .int .i64 (queryC l)]) ∧ IsP w' a n cap (queryP l)
theorem QOut.none {l : List UInt8} {w' : World} (h : queryL l = none) : QOut l (.returned (.tuple #[.slice none 0 0, .int .i64 13])) w' := by
  obtain ⟨h1, h2⟩ := query_none h
  exact ⟨Option.none, 0, 0, by rw [h2], by rw [h1]; exact isP_nil w'⟩
theorem QOut.some {l : List UInt8} {w' : World} {out : List Pr} {a : Option Addr} {n cap : Nat} (h : queryL l = Option.some out) (hp : IsP w' a n cap out) : QOut l (.returned (.tuple #[.slice a n cap, .int .i64 0])) w' := by
  obtain ⟨h1, h2⟩ := query_some h
  exact ⟨a, n, cap, by rw [h2], by rw [h1]; exact hp⟩
end Go.Proofs.YtgjmaeodgcigdaaGreatDoor
namespace Go.Proofs.YtgjmaeodgcigdaaGreatDoor
open Go.RowKit

theorem infoRP : (Tryz.prog.info? 143).map (fun i => (i.zero, i.size, i.bytes)) = some (some (.agg #[.string ⟨#[]⟩, .string ⟨#[]⟩]), 2, 32) := by kernel_rfl

theorem refFirst61 (l : List UInt8) (w : World) (hs : l.length ≤ 40000000000000) :
    Calls Tryz.prog 92 #[.string (str l), .int .u8 61] w fun e w' => e = .returned (.tuple #[.string (str (headL 61 l)), .string (str (tailL 61 l))]) ∧ Below w.heap.size w w' := by
  have := refFirst (str l) 61 w (by rw [str_size]; exact hs)
  rw [str_list] at this
  exact this
theorem refDecodeL (l : List UInt8) (w : World) (hs : l.length ≤ 40000000000000) :
    Calls Tryz.prog 42 #[.string (str l)] w fun e w' => e = .returned (.tuple #[.string (str (decS l)), .int .i64 (decC l)]) ∧ Below w.heap.size w w' := by
  have := refDecode (str l) w (by rw [str_size]; exact hs)
  rw [str_list] at this
  exact this
theorem refCut38 (s : ByteArray) (w : World) (hs : s.size ≤ 4000000000000) :
    Calls Tryz.prog 61 #[.string s, .int .u8 38] w fun e w' => ∃ v, e = .returned v ∧ OwnT w' w.heap.size v (cutL 38 s.data.toList) ∧ Below w.heap.size w w' := refCut s 38 w hs

set_option maxHeartbeats 4000000 in
theorem refQuery (s : ByteArray) (w : World) (hs : s.size ≤ 4000000000000) :
    Calls Tryz.prog 43 #[.string s] w fun e w' => QOut s.data.toList e w' ∧ Below w.heap.size w w' := by
  obtain ⟨l, hl⟩ : ∃ l, l = s.data.toList := ⟨_, rfl⟩
  have HL : Hid (l.length = s.size) := by unfold Hid; rw [hl]; rfl
  have hcut := fun w => refCut38 s w hs
  rw [← hl] at hcut ⊢
  by_cases h0 : l = []
  · have e : s.toList.isEmpty = true := by rw [ByteArray.toList_eq, ← hl, h0]; rfl
    have HQ : Hid (queryL l = some []) := by unfold Hid queryL; rw [if_pos h0]
    clear hl hcut h0
    go_enter Tryz.func43, Tryz.ntmps43
    go_wp2
    go_ret2
    obtain ⟨h1, h2⟩ := query_some HQ.out
    exact ⟨⟨none, 0, 0, by rw [h2]; rfl, by rw [h1]; exact isP_nil _⟩, Below.refl _ _⟩
  have e : s.toList.isEmpty = false := by rw [ByteArray.toList_eq, ← hl]; cases hh : l with
    | nil => exact absurd hh h0
    | cons a m => rfl
  have hpos := cutL_pos 38 l
  have hparts := cutL_part 38 l
  have hlen := cutL_len 38 l
  rw [HL.out] at hlen hparts
  have HQ : Hid (queryL l = if 24 < (cutL 38 l).length then none else (cutL 38 l).foldl qStep (some [])) := by unfold Hid queryL; rw [if_neg h0]
  have HP : Hid (∀ k, k < (cutL 38 l).length → (nthT (cutL 38 l) k).length ≤ s.size) := fun k hk => by rw [nthT_eq _ _ hk]; exact hparts _ (List.getElem_mem _)
  clear hl h0 hparts
  generalize hps : cutL 38 l = ps at *
  clear hps
  go_enter Tryz.func43, Tryz.ntmps43
  go_wp2_with fail
  refine (hcut w).mono ?_
  rintro e x ⟨v, rfl, hT, hbel⟩
  obtain ⟨g, cap, rfl, hg1, hg2⟩ := hT.form hpos
  have hcap := hT.cap rfl
  unfold maxLen at hcap
  have HC : Hid (∀ k, k < ps.length → x.cell? ⟨g, k, none⟩ = some (.string (str (nthT ps k)))) := fun k hk => hT.cellAt rfl k hk
  clear hT hcut
  obtain ⟨N, hN⟩ : ∃ N, ps.length = N := ⟨_, rfl⟩
  have HN : Hid (ps.length = N) := hN
  rw [hN] at hcap HQ HP HC hlen hpos ⊢
  clear hN
  by_cases hbig : 24 < N
  · have HF : Hid (queryL l = none) := by unfold Hid; rw [HQ.out, if_pos hbig]
    have hbig' : (24 : Int) < (N : Int) := by omega
    go_wp2
    go_ret2
    exact ⟨QOut.none HF.out, hbel⟩
  have hbig' : ¬ (24 : Int) < (N : Int) := by omega
  have HQ2 : Hid (queryL l = ps.foldl qStep (some [])) := by unfold Hid; rw [HQ.out, if_neg hbig]
  clear HQ
  go_wp2_with fail
  go_loopw [5, 6] (fun v i wr => ∃ (k : Nat) (out : List Pr), k ≤ N ∧ out.length ≤ k ∧ i = .int .i64 k ∧ OwnP 143 wr x.heap.size v out ∧ Hid (QTo ps out k) ∧ Below x.heap.size x wr) (fun _ i _ => N - (intOf i).toNat)
  case atStart => exact ⟨0, [], Nat.zero_le _, Nat.le_refl _, rfl, OwnP.nil _ _ _, QTo.zero ps, Below.refl _ _⟩
  case round =>
    obtain ⟨k, out, hk, hol, rfl, hown, HT, hb2⟩ := hrel
    by_cases hlt : k < N
    · have hb0 : (0 : Int) ≤ (k : Int) := by omega
      have hb1 : (k : Int) < (N : Int) := by omega
      have c1 := (hb2.cell (p := ⟨g, k, none⟩) hg2).trans (HC.out k hlt)
      have lp := HP.out k hlt
      have la := headL_length 61 (nthT ps k)
      have lb := tailL_length 61 (nthT ps k)
      have Hnext := fun out' => HT.out.next (out' := out') (by rw [HN.out]; exact hlt)
      have Hfail := HT.out.fail (by rw [HN.out]; exact hlt)
      unfold qStep at Hnext Hfail
      have RF := fun w => refFirst61 (nthT ps k) w (by omega)
      have RA := fun w => refDecodeL (headL 61 (nthT ps k)) w (by omega)
      have RB := fun w => refDecodeL (tailL 61 (nthT ps k)) w (by omega)
      have BX := hbel.trans (hb2.mono hbel.size)
      clear lp la lb
      generalize hpa : headL 61 (nthT ps k) = pa at *
      generalize hpb : tailL 61 (nthT ps k) = pb at *
      generalize nthT ps k = part at *
      clear hpa hpb
      go_wp2_with fail
      refine (RF wr).mono ?_
      rintro e x1 ⟨rfl, b1⟩
      go_wp2_with fail
      refine (RA x1).mono ?_
      rintro e x2 ⟨rfl, b2⟩
      have b2' := b1.trans (b2.mono b1.size)
      clear b1 b2
      go_wp2_with fail
      refine (RB x2).mono ?_
      rintro e x3 ⟨rfl, b3⟩
      have b3' := b2'.trans (b3.mono b2'.size)
      clear b2' b3 RF RA RB c1
      have hown3 := hown.on b3'
      have B3 := hb2.trans (b3'.mono hb2.size)
      have BX3 := BX.trans (b3'.mono BX.size)
      have sz3 : x.heap.size ≤ x3.heap.size := B3.size
      cases d1 : decL pa with
      | none =>
        have HF : Hid (queryL l = none) := by unfold Hid; rw [HQ2.out]; exact Hfail (by rw [d1])
        rw [decC_none d1, decS_none d1]
        clear Hnext Hfail d1
        generalize str (decS pb) = k2
        generalize decC pb = e2
        go_wp2_with fail
        go_ret2
        exact ⟨QOut.none HF.out, BX3⟩
      | some nm =>
        rw [decC_some d1, decS_some d1]
        cases d2 : decL pb with
        | none =>
          have HF : Hid (queryL l = none) := by unfold Hid; rw [HQ2.out]; exact Hfail (by rw [d1, d2])
          rw [decC_none d2, decS_none d2]
          clear Hnext Hfail d1 d2
          go_wp2_with fail
          go_ret2
          exact ⟨QOut.none HF.out, BX3⟩
        | some vl =>
          rw [decC_some d2, decS_some d2]
          have en : (str nm).toList.isEmpty = nm.isEmpty := str_empty nm
          by_cases hnm : nm = []
          · have HF : Hid (queryL l = none) := by unfold Hid; rw [HQ2.out]; exact Hfail (by rw [d1, d2]; exact if_pos (.inl hnm))
            have en' : (str nm).toList.isEmpty = true := by rw [en, hnm]; rfl
            clear Hnext Hfail d1 d2 en hnm
            go_wp2_with fail
            go_ret2
            exact ⟨QOut.none HF.out, BX3⟩
          · have en' : (str nm).toList.isEmpty = false := by rw [en]; cases nm with
              | nil => exact absurd rfl hnm
              | cons a m => rfl
            clear en
            obtain ⟨a, cap2, ev, hi⟩ := hown3.isP
            have RFi := refFind a out.length cap2 out nm x3 hi
            cases hf : (findL out nm).isSome with
            | true =>
              have HF : Hid (queryL l = none) := by unfold Hid; rw [HQ2.out]; exact Hfail (by rw [d1, d2]; exact if_pos (.inr hf))
              rw [hf] at RFi
              rw [ev]
              clear Hnext Hfail d1 d2 hnm hf
              go_wp2_with fail
              refine RFi.mono ?_
              rintro e w' ⟨rfl, hww⟩
              rw [hww]; clear hww w'
              go_wp2_with fail
              go_ret2
              exact ⟨QOut.none HF.out, BX3⟩
            | false =>
              have HT2 : Hid (QTo ps (out ++ [(nm, vl)]) (k + 1)) := Hnext _ (by rw [d1, d2]; exact if_neg (by rw [hf]; simpa using hnm))
              rw [hf] at RFi
              clear Hnext Hfail d1 d2 hnm hf
              rw [ev] at hown3 ⊢
              have HB := hown3.blk
              go_wp2_with fail
              refine RFi.mono ?_
              rintro e w' ⟨rfl, hww⟩
              rw [hww]; clear hww w'
              go_wp2_with (at_builtin; refine list_appQ 82 143 Tryz.underlying82 infoRP _ rfl _ _ rfl x.heap.size _ out rfl (hown3.alloc _) x3.heap.size nm vl rfl (heap_alloc_new x3 _) (by omega) (by simp; omega) ?_; intro v1 w1 hown1 hgrow)
              go_roundw
              case rel => exact ⟨k + 1, out ++ [(nm, vl)], by omega, by simp; omega, by go_num, hown1, HT2, (B3.alloc B3.size _).grown hgrow (by simp; omega) (fun j hj => (HB j hj).1)⟩
              case measure => simp [intOf]; omega
    · have HF : Hid (queryL l = some out) := by unfold Hid; rw [HQ2.out]; exact HT.out.done (by rw [HN.out]; omega)
      have BX := hbel.trans (hb2.mono hbel.size)
      obtain ⟨a, cap2, ev, hi⟩ := hown.isP
      rw [ev]
      go_wp2
      go_ret2
      obtain ⟨h1, h2⟩ := query_some HF.out
      exact ⟨⟨a, _, cap2, by rw [h2]; rfl, by rw [h1]; exact hi⟩, BX⟩
end Go.Proofs.YtgjmaeodgcigdaaGreatDoor
