/- Rules: a whole slice of them appended, and what stays; one stored. -/
import Derived.Test.YtihfpoclflppnaaDoorOwnR
import Derived.Test.YtihfpoclflppnaaDoorBlk
import Derived.Deep.RegionHeld3
import Derived.Laws.AppendOwnNone
namespace Go.Proofs.YtihfpoclflppnaaDoor
open Go.RowKit

theorem rcs_one (l : List Ru) : ∀ u ∈ rcs l, u.oneCell' = true := by
  induction l with
  | nil => intro u hu; cases hu
  | cons r l ih =>
    intro u hu
    simp only [rcs, List.mem_cons] at hu
    rcases hu with rfl | rfl | rfl | rfl | hu
    · rfl
    · rfl
    · rfl
    · rfl
    · exact ih u hu
theorem OwnR.empty (e : TypeId) (w : World) (base : Nat) (hb : base ≤ w.heap.size) : OwnR e (w.alloc (.cells #[] e)) base (.slice (some ⟨w.heap.size, 0, none⟩) 0 0) [] :=
  World.ownsRow_made w #[] 0 hb (Nat.zero_le _) rfl
/-- the cells of rules that lie in a slice -/
theorem IsRs.news {w : World} {ad : Addr} {cap : Nat} {m : List Ru} (hp : IsRs w (some ad) m.length cap m) : ∀ j u, (rcs m)[j]? = some u → w.cell? (ad.add j) = some u := by
  intro j u hj
  have hjl : j < m.length * 4 := by
    rcases Nat.lt_or_ge j (m.length * 4) with h | h
    · exact h
    · rw [List.getElem?_eq_none (by rw [rcs_length]; exact h)] at hj; cases hj
  obtain ⟨b, off, e1, hc⟩ := hp.cells (by omega)
  have e1 := Option.some.inj e1
  obtain ⟨h0, h1, h2, h3⟩ := hc (j / 4) (by omega)
  obtain ⟨p0, p1, p2, p3⟩ := rcs_at m (j / 4) (by omega)
  rw [e1, Addr.add_lit]
  have hm4 : j % 4 = 0 ∨ j % 4 = 1 ∨ j % 4 = 2 ∨ j % 4 = 3 := by omega
  rcases hm4 with h | h | h | h
  · have ej : j / 4 * 4 = j := by omega
    rw [ej] at h0 p0
    rw [h0, ← p0]; exact hj
  · have ej : j / 4 * 4 + 1 = j := by omega
    have ej2 : off + j / 4 * 4 + 1 = off + j := by omega
    rw [ej2] at h1
    rw [ej] at p1
    rw [h1, ← p1]; exact hj
  · have ej : j / 4 * 4 + 2 = j := by omega
    have ej2 : off + j / 4 * 4 + 2 = off + j := by omega
    rw [ej2] at h2
    rw [ej] at p2
    rw [h2, ← p2]; exact hj
  · have ej : j / 4 * 4 + 3 = j := by omega
    have ej2 : off + j / 4 * 4 + 3 = off + j := by omega
    rw [ej2] at h3
    rw [ej] at p3
    rw [h3, ← p3]; exact hj
/-- an append leaves the cells that were owned as they were -/
theorem app_keepsR (st e ty : TypeId) (hu : Tryd.prog.underlying st = some (.slice e)) (hinfo : (Tryd.prog.info? e).map (fun i => (i.zero, i.size, i.bytes)) = some (some ruZ, 4, 56)) (w : World) (base g cap : Nat) (l : List Ru)
    (hown : OwnR e w base (.slice (some ⟨g, 0, none⟩) l.length cap) l) (a : Addr) (c : Nat) (m : List Ru) (hnews : ∀ j u, (rcs m)[j]? = some u → w.cell? (a.add j) = some u) (hb : (l.length + m.length) * 56 ≤ 140737488355328) {v' : Value} {w' : World}
    (hr : (Builtin.append_ #[st, st] ty #[.slice (some ⟨g, 0, none⟩) l.length cap, .slice (some a) m.length c]).run Tryd.prog w = .ok v' w') (j : Nat) (hj : j < l.length * 4) : w'.cell? ⟨g, j, none⟩ = w.cell? ⟨g, j, none⟩ := by
  obtain ⟨i0, hi, hz0, hz1, hz2⟩ := info_parts hinfo
  have hglt : g < w.heap.size := (hown.blk g rfl).2
  rcases hown.2 with ⟨h, _⟩ | ⟨g', cap', cur, h, hbg, hg, hnc, hcm, hcs, htake⟩
  · cases h
  · simp only [Value.slice.injEq, Option.some.injEq, Addr.mk.injEq, and_true, true_and] at h
    obtain ⟨rfl, rfl⟩ := h
    by_cases hroom : l.length + m.length ≤ cap
    · have hr2 := run_append_room (P := Tryd.prog) w st ty e i0 hu hi g l.length cap cur hg a m.length c (rcs m) (by rw [rcs_length, hz1]) hnews (rcs_one m) hroom (by rw [rcs_length, hz1]; omega)
      rw [hr2] at hr
      have hw := (Result.ok.inj hr).2
      rw [← hw, cell_setRow_same w g j cur _ _ _ hg, cell_of_row w g j cur _ _ hg, hz1]
      simp only [List.getElem?_toArray, List.append_assoc]
      have hcl : cur.toList.length = cap * 4 := by rw [Array.length_toList]; exact hcs
      rw [List.getElem?_append_left (by rw [List.length_take]; omega), List.getElem?_take, if_pos hj]
      simp
    · have holds : ∀ j u, (rcs l)[j]? = some u → w.cell? ((⟨g, 0, none⟩ : Addr).add j) = some u := World.ownsRow.cells hown (g := g) rfl
      have hr2 := run_append_grow (P := Tryd.prog) w st ty e i0 ruZ hu hi hz0 ⟨g, 0, none⟩ l.length cap (rcs l) (by rw [rcs_length, hz1]) holds a m.length c (rcs m) (by rw [rcs_length, hz1]) hnews (by omega) (by first | omega | (unfold maxLen; omega)) (growslice_fits (by omega) (by rw [hz2]; omega))
      rw [hr2] at hr
      have hw := (Result.ok.inj hr).2
      rw [← hw]
      exact World.cell?_alloc_lt _ _ _ hglt
/-- what stays of rules that were appended to -/
def KeptR (w w' : World) (v : Value) (l : List Ru) : Prop := ∀ g, v.ownBlock = some g → ∀ j, j < l.length * 4 → w'.cell? ⟨g, j, none⟩ = w.cell? ⟨g, j, none⟩
/-- append(l, m...), at an operation -/
theorem wp_appRs {o : Oper} {a : Act} {K : Act → World → Prop} {Q : Exit → Act → World → Prop} (st e : TypeId) (hu : Tryd.prog.underlying st = some (.slice e))
    (hinfo : (Tryd.prog.info? e).map (fun i => (i.zero, i.size, i.bytes)) = some (some ruZ, 4, 56)) (w : World) (s x : Operand)
    (ho : o.op = .call { callee := .builtin .append, args := #[s, x], argTypes := #[st, st] }) (base : Nat)
    (v : Value) (l : List Ru) (hs : a.eval s = v) (hown : OwnR e w base v l) (ad : Option Addr) (cap : Nat) (m : List Ru) (hx : a.eval x = .slice ad m.length cap) (hp : IsRs w ad m.length cap m)
    (hbytes : (l.length + m.length) * 56 ≤ 140737488355328) (hbase : base ≤ w.heap.size)
    (h : ∀ v' w', OwnR e w' base v' (l ++ m) → w.grownBy w' v.ownBlock → KeptR w w' v l → K (a.put o.dst v') w') : o.wp Tryd.prog a w K Q := by
  obtain ⟨i0, hi, hz0, hz1, hz2⟩ := info_parts hinfo
  cases ad with
  | none =>
    have h0 := hp.nil rfl
    have hle := hp.le
    have hn : m = [] := List.eq_nil_of_length_eq_zero (by omega)
    subst hn h0
    have hrun := run_append_owned_none (P := Tryd.prog) (w := w) base st o.type e i0 4 hu hi v l.length (rcs l) hown
    unfold Oper.wp
    simp only [List.length_nil] at hx
    simp [execOp, ho, resolve, invoke, builtin, hs, hx, hrun, Result.andThen]
    exact h v w (by rw [List.append_nil]; exact hown) (World.grownBy.refl _ _) (fun _ _ _ _ => rfl)
  | some ad =>
    obtain ⟨v', w', hrun, r1, r2, r3⟩ := run_append_own (P := Tryd.prog) w base st o.type e i0 ruZ 4 56 hu hi hz0 hz1 hz2 rfl (by omega) v l.length (rcs l) hown ad m.length cap (rcs m) (rcs_length m) hp.news (rcs_one m) (by unfold maxLen; omega) hbytes hbase
    have hk : KeptR w w' v l := fun g hg j hj => by
      obtain ⟨a0, c0, e0, _⟩ := hown.isRs
      subst e0
      cases a0 with
      | none => simp [Value.ownBlock] at hg
      | some ad0 =>
        obtain ⟨b0, o0, sp0⟩ := ad0
        have hform : o0 = 0 ∧ sp0 = none := by
          rcases hown.2 with ⟨h, _⟩ | ⟨g', cap', cur, h, _⟩
          · cases h
          · simp only [Value.slice.injEq, Option.some.injEq, Addr.mk.injEq] at h
            exact ⟨h.1.2.1, h.1.2.2⟩
        obtain ⟨rfl, rfl⟩ := hform
        have hbg : b0 = g := by simpa [Value.ownBlock] using hg
        subst hbg
        exact app_keepsR st e o.type hu hinfo w base b0 c0 l hown ad cap m hp.news hbytes hrun j hj
    unfold Oper.wp execOp
    simp only [ho, resolve, invoke, builtin, Sem.run_bind, Sem.run_pure, Result.andThen_ok, List.map_toArray, List.map_cons, List.map_nil, hs, hx, hrun]
    exact h v' w' (by unfold OwnR; rw [rcs_append, List.length_append]; exact r1) r2 hk
theorem step_appRs {ops : Array Oper} {o : Oper} {a : Act} {K : Act → World → Prop} {Q : Exit → Act → World → Prop} {E : Prop} (st e : TypeId) (hu : Tryd.prog.underlying st = some (.slice e))
    (hinfo : (Tryd.prog.info? e).map (fun i => (i.zero, i.size, i.bytes)) = some (some ruZ, 4, 56)) (w : World) (hgd : o.guard = none) (s x : Operand)
    (ho : o.op = .call { callee := .builtin .append, args := #[s, x], argTypes := #[st, st] }) (base : Nat)
    (v : Value) (l : List Ru) (hs : a.eval s = v) (hown : OwnR e w base v l) (ad : Option Addr) (cap : Nat) (m : List Ru) (hx : a.eval x = .slice ad m.length cap) (hp : IsRs w ad m.length cap m)
    (hbytes : (l.length + m.length) * 56 ≤ 140737488355328) (hbase : base ≤ w.heap.size)
    (h : ∀ v' w', OwnR e w' base v' (l ++ m) → w.grownBy w' v.ownBlock → KeptR w w' v l → K (a.put o.dst v') w') :
    if Region.wanted o (yielded ops a.tmps) = true then Oper.wp Tryd.prog o a w K Q else E := by
  have hw : Region.wanted o (yielded ops a.tmps) = true := by simp [Region.wanted, hgd]
  rw [if_pos hw]
  exact wp_appRs st e hu hinfo w s x ho base v l hs hown ad cap m hx hp hbytes hbase h
theorem list_appRs {ops : Array Oper} {rest : List Oper} {o : Oper} {a : Act} {Q : Exit → Act → World → Prop} (st e : TypeId) (hu : Tryd.prog.underlying st = some (.slice e))
    (hinfo : (Tryd.prog.info? e).map (fun i => (i.zero, i.size, i.bytes)) = some (some ruZ, 4, 56)) (w : World) (hgd : o.guard = none) (s x : Operand)
    (ho : o.op = .call { callee := .builtin .append, args := #[s, x], argTypes := #[st, st] }) (base : Nat)
    (v : Value) (l : List Ru) (hs : a.eval s = v) (hown : OwnR e w base v l) (ad : Option Addr) (cap : Nat) (m : List Ru) (hx : a.eval x = .slice ad m.length cap) (hp : IsRs w ad m.length cap m)
    (hbytes : (l.length + m.length) * 56 ≤ 140737488355328) (hbase : base ≤ w.heap.size)
    (h : ∀ v' w', OwnR e w' base v' (l ++ m) → w.grownBy w' v.ownBlock → KeptR w w' v l → wpList Tryd.prog ops Q rest (a.put o.dst v') w') :
    wpList Tryd.prog ops Q (o :: rest) a w :=
  wpList_plain hgd fun _ hK => wp_appRs st e hu hinfo w s x ho base v l hs hown ad cap m hx hp hbytes hbase fun v' w' h2 h3 h4 => hK _ _ (h v' w' h2 h3 h4)
/-- one rule in a block of its own -/
theorem isRs_one {w : World} {B : Nat} {e : TypeId} (r : Ru) (hb : w.heap[B]? = some (.cells (ruc r).toArray e (0, 0))) : IsRs w (some ⟨B, 0, none⟩) [r].length 1 [r] := by
  refine ⟨rfl, Nat.le_refl _, by unfold maxLen; decide, fun e => (by cases e), fun _ => ⟨B, 0, rfl, fun i hi => ?_⟩⟩
  have : i = 0 := by simpa using hi
  subst this
  unfold RuAt
  rw [cell_of_row w B _ _ _ _ hb, cell_of_row w B _ _ _ _ hb, cell_of_row w B _ _ _ _ hb, cell_of_row w B _ _ _ _ hb]
  exact ⟨rfl, rfl, rfl, rfl⟩
/-- rules that were kept, and appended to, still are those -/
theorem KeptR.isRs {w w' : World} {g n cap : Nat} {l : List Ru} (h : KeptR w w' (.slice (some ⟨g, 0, none⟩) n cap) l) (hi : IsRs w (some ⟨g, 0, none⟩) n cap l) : IsRs w' (some ⟨g, 0, none⟩) n cap l :=
  ⟨hi.len_eq, hi.le, hi.max, hi.nil, fun hp => by
    obtain ⟨b, off, e, hc⟩ := hi.cells hp
    simp only [Option.some.injEq, Addr.mk.injEq, and_true] at e
    obtain ⟨rfl, rfl⟩ := e
    refine ⟨g, 0, rfl, fun i hin => ?_⟩
    obtain ⟨h0, h1, h2, h3⟩ := hc i hin
    have hl := hi.len_eq
    unfold RuAt
    rw [Nat.zero_add] at *
    rw [h g rfl (i * 4) (by omega), h g rfl (i * 4 + 1) (by omega), h g rfl (i * 4 + 2) (by omega), h g rfl (i * 4 + 3) (by omega)]
    exact ⟨h0, h1, h2, h3⟩⟩
/-- one rule stored -/
theorem rcs_set (l : List Ru) (i : Nat) (r : Ru) : rcs (l.set i r) = ((((rcs l).set (i * 4) (.bool r.deny)).set (i * 4 + 1) (sv r.who)).set (i * 4 + 2) (sv r.act)).set (i * 4 + 3) (sv r.res) := by
  induction l generalizing i with
  | nil => rfl
  | cons p l ih =>
    cases i with
    | zero => rfl
    | succ i =>
      rw [List.set_cons_succ, rcs, ih i, rcs, show (i + 1) * 4 = i * 4 + 1 + 1 + 1 + 1 by omega]
      simp only [List.set_cons_succ, show i * 4 + 1 + 1 + 1 + 1 + 1 = (i * 4 + 1) + 1 + 1 + 1 + 1 by omega, show i * 4 + 1 + 1 + 1 + 1 + 2 = (i * 4 + 2) + 1 + 1 + 1 + 1 by omega, show i * 4 + 1 + 1 + 1 + 1 + 3 = (i * 4 + 3) + 1 + 1 + 1 + 1 by omega]
theorem OwnR.set {e : TypeId} {w : World} {N g cap n : Nat} {l : List Ru} (h : OwnR e w N (.slice (some ⟨g, 0, none⟩) n cap) l) (hn : l.length = n) (i : Nat) (r : Ru) :
    OwnR e ((((w.setCell ⟨g, i * 4, none⟩ (.bool r.deny)).setCell ⟨g, i * 4 + 1, none⟩ (.string (str r.who))).setCell ⟨g, i * 4 + 2, none⟩ (.string (str r.act))).setCell ⟨g, i * 4 + 3, none⟩ (.string (str r.res))) N (.slice (some ⟨g, 0, none⟩) n cap) (l.set i r) := by
  subst hn
  have h1 := (World.ownsRow.stored h (i * 4) (.bool r.deny)).1
  have h2 := (World.ownsRow.stored h1 (i * 4 + 1) (.string (str r.who))).1
  have h3 := (World.ownsRow.stored h2 (i * 4 + 2) (.string (str r.act))).1
  have h4 := (World.ownsRow.stored h3 (i * 4 + 3) (.string (str r.res))).1
  unfold OwnR
  rw [List.length_set, rcs_set]
  exact h4
theorem IsRs.alloc1 {w : World} {a : Option Addr} {m cap : Nat} {l : List Ru} (h : IsRs w a m cap l) (o : Obj) : IsRs (w.alloc o) a m cap l := h.below ((Below.refl _ w).alloc (Nat.le_refl _) o) rfl
/-- the same, with what was owned told again -/
theorem step_appRt {ops : Array Oper} {o : Oper} {a : Act} {K : Act → World → Prop} {Q : Exit → Act → World → Prop} {E : Prop} (st e : TypeId) (hu : Tryd.prog.underlying st = some (.slice e))
    (hinfo : (Tryd.prog.info? e).map (fun i => (i.zero, i.size, i.bytes)) = some (some ruZ, 4, 56)) (w : World) (hgd : o.guard = none) (s x : Operand)
    (ho : o.op = .call { callee := .builtin .append, args := #[s, x], argTypes := #[st, st] }) (base : Nat)
    (v : Value) (l : List Ru) (hs : a.eval s = v) (hown : OwnR e w base v l) (ad : Option Addr) (cap : Nat) (m : List Ru) (hx : a.eval x = .slice ad m.length cap) (hp : IsRs w ad m.length cap m)
    (hbytes : (l.length + m.length) * 56 ≤ 140737488355328) (hbase : base ≤ w.heap.size)
    (h : ∀ v' w', OwnR e w base v l → OwnR e w' base v' (l ++ m) → w.grownBy w' v.ownBlock → K (a.put o.dst v') w') :
    if Region.wanted o (yielded ops a.tmps) = true then Oper.wp Tryd.prog o a w K Q else E :=
  step_appRs st e hu hinfo w hgd s x ho base v l hs hown ad cap m hx hp hbytes hbase fun v' w' h1 h2 _ => h v' w' hown h1 h2
theorem OwnR.emptyAt {e : TypeId} {w : World} {base g : Nat} (h : Blk w g e []) (hb : base ≤ g) : OwnR e w base (.slice (some ⟨g, 0, none⟩) 0 0) [] :=
  ⟨rfl, .inr ⟨g, 0, #[], rfl, hb, h, Nat.le_refl _, Nat.zero_le _, rfl, rfl⟩⟩
theorem OwnR.drew0 {e : TypeId} {w : World} {base : Nat} {v : Value} {l : List Ru} (h : OwnR e w base v l) : OwnR e w.drew base v l := h.heap rfl
theorem Blk.drew0 {w : World} {B t : Nat} {cs : List Value} (h : Blk w B t cs) : Blk w.drew B t cs := h
/-- a block of another type stays where rules are appended -/
theorem Blk.keptR {e t : TypeId} {w w' : World} {base B : Nat} {v : Value} {l : List Ru} {cs : List Value} (hg : w.grownBy w' v.ownBlock) (ho : OwnR e w base v l) (ht : t ≠ e) (h : Blk w B t cs) : Blk w' B t cs :=
  (hg.block B h.lt (fun eb => by
    rcases ho.2 with ⟨rfl, _⟩ | ⟨g, cap, cur, rfl, _, hgb, _⟩
    · simp [Value.ownBlock] at eb
    · have hBg : B = g := by simpa [Value.ownBlock] using eb
      subst hBg
      have h2 : some (Obj.cells cs.toArray t (0, 0)) = some (.cells cur e (0, 0)) := h.symm.trans hgb
      injection h2 with h3
      injection h3 with _ h4 _
      exact ht h4)).trans h
/-- another block of that type stays -/
theorem Blk.keptI {t : TypeId} {w w' : World} {B g n cap : Nat} {cs : List Value} (hg : w.grownBy w' (Value.slice (some ⟨g, 0, none⟩) n cap).ownBlock) (hne : B ≠ g) (h : Blk w B t cs) : Blk w' B t cs :=
  (hg.block B h.lt (fun eb => hne (by simpa [Value.ownBlock] using eb))).trans h
end Go.Proofs.YtihfpoclflppnaaDoor
