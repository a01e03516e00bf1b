/- Slices of pairs: cut, and appended to one that the call owns. -/
import Derived.Test.YtbknabmcelknmaaGreatDoorOwnP
import Derived.Laws.AppendOwnNone
namespace Go.Proofs.YtbknabmcelknmaaGreatDoor
open Go.RowKit

/-- a value that is a slice of these pairs -/
def IsPV (w : World) (v : Value) (l : List Pr) : Prop := ∃ a cap, v = .slice a l.length cap ∧ IsP w a l.length cap l
theorem IsPV.below {w w' : World} {n : Nat} {v : Value} {l : List Pr} (h : IsPV w v l) (hb : Below n w w') (hn : n = w.heap.size) : IsPV w' v l := by
  obtain ⟨a, cap, e, hi⟩ := h
  exact ⟨a, cap, e, hi.below hb hn⟩
theorem OwnP.isPV {e : TypeId} {w : World} {base : Nat} {v : Value} {l : List Pr} (h : OwnP e w base v l) : IsPV w v l := h.isP
theorem nthP_take (l : List Pr) (k i : Nat) (h : i < k) : nthP (l.take k) i = nthP l i := by
  unfold nthP; rw [List.getD_eq_getElem?_getD, List.getD_eq_getElem?_getD, List.getElem?_take, if_pos h]
theorem nthP_drop (l : List Pr) (k i : Nat) : nthP (l.drop k) i = nthP l (k + i) := by
  unfold nthP; rw [List.getD_eq_getElem?_getD, List.getD_eq_getElem?_getD, List.getElem?_drop]

theorem run_size (st e : TypeId) (hinfo : (Tryz.prog.info? e).map (fun i => (i.zero, i.size, i.bytes)) = some (some (.agg #[.string ⟨#[]⟩, .string ⟨#[]⟩]), 2, 32)) (he : Tryz.prog.elem st = e) (w : World) : (sizeOf (Tryz.prog.elem st)).run Tryz.prog w = .ok 2 w := by
  obtain ⟨i0, hi, hz0, hz1, hz2⟩ := info_parts hinfo
  rw [he]; simp [sizeOf, typeInfo, hi, hz1]
/-- l[:k] -/
theorem cutHead (st e : TypeId) (hu : Tryz.prog.underlying st = some (.slice e)) (hinfo : (Tryz.prog.info? e).map (fun i => (i.zero, i.size, i.bytes)) = some (some (.agg #[.string ⟨#[]⟩, .string ⟨#[]⟩]), 2, 32)) (he : Tryz.prog.elem st = e)
    {w : World} {v : Value} {l : List Pr} (h : IsPV w v l) (k : Nat) (hk : k ≤ l.length) : ∃ v1, (∀ u, (Instr.slice st v none (some (.int .i64 (k : Int))) none).run Tryz.prog u = .ok v1 u) ∧ IsPV w v1 (l.take k) := by
  obtain ⟨a, cap, rfl, hi⟩ := h
  have hle := hi.le
  refine ⟨.slice a k cap, fun u => ?_, a, cap, by rw [List.length_take, Nat.min_eq_left hk], ?_⟩
  · rw [run_slice_h u st a l.length cap (by rw [he]; exact hu) .i64 (k : Int) (by omega) (by omega), run_size st e hinfo he]
    simp only [Result.andThen, sliced, Int.toNat_natCast, Nat.zero_mul, Nat.sub_zero]
    cases a with
    | none => simp
    | some x =>
      obtain ⟨b, o, s⟩ := x
      simp only [Option.map_some]
      have : (⟨b, o, s⟩ : Addr).add 0 = ⟨b, o, s⟩ := by unfold Addr.add; split <;> simp_all
      rw [this]; simp
  · refine ⟨rfl, by rw [List.length_take]; omega, hi.max, hi.nil, fun hp => ?_⟩
    rw [List.length_take] at hp
    obtain ⟨b, off, e1, hc⟩ := hi.cells (by omega)
    refine ⟨b, off, e1, fun i hi2 => ?_⟩
    rw [List.length_take] at hi2
    rw [nthP_take l k i (by omega)]
    exact hc i (by omega)
/-- l[k:] -/
theorem cutTail (st e : TypeId) (hu : Tryz.prog.underlying st = some (.slice e)) (hinfo : (Tryz.prog.info? e).map (fun i => (i.zero, i.size, i.bytes)) = some (some (.agg #[.string ⟨#[]⟩, .string ⟨#[]⟩]), 2, 32)) (he : Tryz.prog.elem st = e)
    {w : World} {v : Value} {l : List Pr} (h : IsPV w v l) (k : Nat) (hk : k ≤ l.length) : ∃ v1, (∀ u, (Instr.slice st v (some (.int .i64 (k : Int))) none none).run Tryz.prog u = .ok v1 u) ∧ IsPV w v1 (l.drop k) := by
  obtain ⟨a, cap, rfl, hi⟩ := h
  have hle := hi.le
  have hmx := hi.max
  refine ⟨sliced a k l.length cap 2, fun u => ?_, if cap = k then a else a.map (·.add (k * 2)), cap - k, ?_, ?_⟩
  · rw [run_slice_l u st a l.length cap (by rw [he]; exact hu) .i64 (k : Int) (by omega) (by omega), run_size st e hinfo he]
    simp only [Result.andThen, Int.toNat_natCast]
  · unfold sliced; rw [List.length_drop]
  · refine ⟨rfl, by rw [List.length_drop]; omega, by omega, fun e1 => ?_, fun hp => ?_⟩
    · by_cases hc : cap = k
      · omega
      · rw [if_neg hc] at e1
        cases a with
        | none => have := hi.nil rfl; omega
        | some x => simp at e1
    · rw [List.length_drop] at hp
      obtain ⟨b, off, e1, hc⟩ := hi.cells (by omega)
      subst e1
      refine ⟨b, off + k * 2, ?_, fun i hi2 => ?_⟩
      · rw [if_neg (by omega), Option.map_some, Addr.add_lit]
      · rw [List.length_drop] at hi2
        have := hc (k + i) (by omega)
        rw [nthP_drop, show off + k * 2 + i * 2 = off + (k + i) * 2 by omega]
        exact this

theorem OwnP.empty (e : TypeId) (w : World) (base : Nat) (hb : base ≤ w.heap.size) : OwnP e (w.alloc (.cells #[] e)) base (.slice (some ⟨w.heap.size, 0, none⟩) 0 0) [] :=
  World.ownsRow_made w #[] 0 hb (Nat.zero_le _) rfl

/-- append(l, m...), at an operation -/
theorem wp_appV {o : Oper} {a : Act} {K : Act → World → Prop} {Q : Exit → Act → World → Prop} (st e : TypeId) (hu : Tryz.prog.underlying st = some (.slice e))
    (hinfo : (Tryz.prog.info? e).map (fun i => (i.zero, i.size, i.bytes)) = some (some (.agg #[.string ⟨#[]⟩, .string ⟨#[]⟩]), 2, 32)) (w : World) (s x : Operand)
    (ho : o.op = .call { callee := .builtin .append, args := #[s, x], argTypes := #[st, st] }) (base : Nat)
    (v : Value) (l : List Pr) (hs : a.eval s = v) (hown : OwnP e w base v l) (vx : Value) (m : List Pr) (hx : a.eval x = vx) (hm : IsPV w vx m)
    (hbytes : (l.length + m.length) * 32 ≤ 140737488355328) (hbase : base ≤ w.heap.size)
    (h : ∀ v' w', OwnP e w' base v' (l ++ m) → w.grownBy w' v.ownBlock → K (a.put o.dst v') w') : o.wp Tryz.prog a w K Q := by
  obtain ⟨i0, hi, hz0, hz1, hz2⟩ := info_parts hinfo
  obtain ⟨ad, cap, rfl, hp⟩ := hm
  cases ad with
  | none =>
    have h0 := hp.nil rfl
    have hle := hp.le
    have hn : m = [] := List.eq_nil_of_length_eq_zero (by omega)
    subst hn h0
    have hrun := run_append_owned_none (P := Tryz.prog) (w := w) base st o.type e i0 2 hu hi v l.length (pcs l) hown
    unfold Oper.wp
    simp only [List.length_nil] at hx
    simp [execOp, ho, resolve, invoke, builtin, hs, hx, hrun, Result.andThen]
    exact h v w (by rw [List.append_nil]; exact hown) (World.grownBy.refl _ _)
  | some ad =>
    refine wp_append_own w s x st ho base e i0 (.agg #[.string ⟨#[]⟩, .string ⟨#[]⟩]) 2 32 hu hi hz0 hz1 hz2 rfl (by omega) v l.length (pcs l) hs hown ad m.length cap (pcs m) hx (pcs_length m) ?_ (pcs_one m) (by unfold maxLen; omega) hbytes hbase ?_
    · intro j u hj
      have hjl : j < m.length * 2 := by
        rcases Nat.lt_or_ge j (m.length * 2) with h | h
        · exact h
        · rw [List.getElem?_eq_none (by rw [pcs_length]; exact h)] at hj; cases hj
      obtain ⟨b, off, e1, hc⟩ := hp.cells (by omega)
      have e1 := Option.some.inj e1
      have hcj := hc (j / 2) (by omega)
      have hpj := pcs_at m (j / 2) (by omega)
      rw [e1, Addr.add_lit]
      rcases Nat.mod_two_eq_zero_or_one j with h0 | h0
      · have ej : j / 2 * 2 = j := by omega
        rw [ej] at hcj hpj
        rw [hcj.1, ← hpj.1]; exact hj
      · have ej : j / 2 * 2 + 1 = j := by omega
        have ej2 : off + j / 2 * 2 + 1 = off + j := by omega
        rw [ej2] at hcj
        rw [ej] at hpj
        rw [hcj.2, ← hpj.2]; exact hj
    · intro v' w' h1 h2 _
      exact h v' w' (by unfold OwnP; rw [pcs_append, List.length_append]; exact h1) h2
/-- the same at a step of a region that draws -/
theorem step_appV {ops : Array Oper} {o : Oper} {a : Act} {K : Act → World → Prop} {Q : Exit → Act → World → Prop} {E : Prop} (st e : TypeId) (hu : Tryz.prog.underlying st = some (.slice e))
    (hinfo : (Tryz.prog.info? e).map (fun i => (i.zero, i.size, i.bytes)) = some (some (.agg #[.string ⟨#[]⟩, .string ⟨#[]⟩]), 2, 32)) (w : World) (hgd : o.guard = none) (s x : Operand)
    (ho : o.op = .call { callee := .builtin .append, args := #[s, x], argTypes := #[st, st] }) (base : Nat)
    (v : Value) (l : List Pr) (hs : a.eval s = v) (hown : OwnP e w base v l) (vx : Value) (m : List Pr) (hx : a.eval x = vx) (hm : IsPV w vx m)
    (hbytes : (l.length + m.length) * 32 ≤ 140737488355328) (hbase : base ≤ w.heap.size)
    (h : ∀ v' w', OwnP e w' base v' (l ++ m) → w.grownBy w' v.ownBlock → K (a.put o.dst v') w') :
    if Region.wanted o (yielded ops a.tmps) = true then Oper.wp Tryz.prog o a w K Q else E := by
  have hw : Region.wanted o (yielded ops a.tmps) = true := by simp [Region.wanted, hgd]
  rw [if_pos hw]
  exact wp_appV st e hu hinfo w s x ho base v l hs hown vx m hx hm hbytes hbase h
/-- one pair in a block of its own -/
theorem isPV_one {w : World} {B : Nat} {e : TypeId} (n1 n2 : List UInt8) (hb : w.heap[B]? = some (.cells #[.string (str n1), .string (str n2)] e (0, 0))) : IsPV w (.slice (some ⟨B, 0, none⟩) 1 1) [(n1, n2)] := by
  refine ⟨some ⟨B, 0, none⟩, 1, rfl, rfl, Nat.le_refl _, by unfold maxLen; decide, fun e => (by cases e), fun _ => ⟨B, 0, rfl, fun i hi => ?_⟩⟩
  have : i = 0 := by simpa using hi
  subst this
  rw [cell_of_row w B _ _ _ _ hb, cell_of_row w B _ _ _ _ hb]
  exact ⟨rfl, rfl⟩
end Go.Proofs.YtbknabmcelknmaaGreatDoor
