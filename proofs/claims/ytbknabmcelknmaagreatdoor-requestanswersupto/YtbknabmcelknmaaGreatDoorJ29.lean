/- Slices of pairs: cut, and appended to one that the call owns. The statements' Own: a request as the program's; the document's Get. Regions that draw their order, by hand. -/
import Derived.Test.YtbknabmcelknmaaGreatDoorJ11
import Derived.Laws.AppendOwnNone
import Derived.Test.YtbknabmcelknmaaGreatDoorJ28
import Derived.Test.YtbknabmcelknmaaGreatDoorJ0
import Derived.Deep.RegionHeld3
namespace Go.Proofs.YtbknabmcelknmaaGreatDoor
open Go.RowKit

/-- a value that is a slice of these pairs -/
def IsPV (w : World) (v : Value) (l : List Pr) : Prop := ∃ a cap, v = .slice a l.length cap ∧ IsP w a l.length cap l
theorem IsPV.below {w w' : World} {n : Nat} {v : Value} {l : List Pr} (h : IsPV w v l) (hb : Below n w w') (hn : n = w.heap.size) : IsPV w' v l := by
  obtain ⟨a, cap, e, hi⟩ := h
  exact ⟨a, cap, e, hi.below hb hn⟩
theorem OwnP.isPV {e : TypeId} {w : World} {base : Nat} {v : Value} {l : List Pr} (h : OwnP e w base v l) : IsPV w v l := h.isP
theorem nthP_take (l : List Pr) (k i : Nat) (h : i < k) : nthP (l.take k) i = nthP l i := by
  unfold nthP; rw [List.getD_eq_getElem?_getD, List.getD_eq_getElem?_getD, List.getElem?_take, if_pos h]
theorem nthP_drop (l : List Pr) (k i : Nat) : nthP (l.drop k) i = nthP l (k + i) := by
  unfold nthP; rw [List.getD_eq_getElem?_getD, List.getD_eq_getElem?_getD, List.getElem?_drop]

theorem run_size (st e : TypeId) (hinfo : (Tryz.prog.info? e).map (fun i => (i.zero, i.size, i.bytes)) = some (some (.agg #[.string ⟨#[]⟩, .string ⟨#[]⟩]), 2, 32)) (he : Tryz.prog.elem st = e) (w : World) : (sizeOf (Tryz.prog.elem st)).run Tryz.prog w = .ok 2 w := by
  obtain ⟨i0, hi, hz0, hz1, hz2⟩ := info_parts hinfo
  rw [he]; simp [sizeOf, typeInfo, hi, hz1]
/-- l[:k] -/
theorem cutHead (st e : TypeId) (hu : Tryz.prog.underlying st = some (.slice e)) (hinfo : (Tryz.prog.info? e).map (fun i => (i.zero, i.size, i.bytes)) = some (some (.agg #[.string ⟨#[]⟩, .string ⟨#[]⟩]), 2, 32)) (he : Tryz.prog.elem st = e)
    {w : World} {v : Value} {l : List Pr} (h : IsPV w v l) (k : Nat) (hk : k ≤ l.length) : ∃ v1, (∀ u, (Instr.slice st v none (some (.int .i64 (k : Int))) none).run Tryz.prog u = .ok v1 u) ∧ IsPV w v1 (l.take k) := by
  obtain ⟨a, cap, rfl, hi⟩ := h
  have hle := hi.le
  refine ⟨.slice a k cap, fun u => ?_, a, cap, by rw [List.length_take, Nat.min_eq_left hk], ?_⟩
  · rw [run_slice_h u st a l.length cap (by rw [he]; exact hu) .i64 (k : Int) (by omega) (by omega), run_size st e hinfo he]
    simp only [Result.andThen, sliced, Int.toNat_natCast, Nat.zero_mul, Nat.sub_zero]
    cases a with
    | none => simp
    | some x =>
      obtain ⟨b, o, s⟩ := x
      simp only [Option.map_some]
      have : (⟨b, o, s⟩ : Addr).add 0 = ⟨b, o, s⟩ := by unfold Addr.add; split <;> simp_all
      rw [this]; simp
  · refine ⟨rfl, by rw [List.length_take]; omega, hi.max, hi.nil, fun hp => ?_⟩
    rw [List.length_take] at hp
    obtain ⟨b, off, e1, hc⟩ := hi.cells (by omega)
    refine ⟨b, off, e1, fun i hi2 => ?_⟩
    rw [List.length_take] at hi2
    rw [nthP_take l k i (by omega)]
    exact hc i (by omega)
/-- l[k:] -/
theorem cutTail (st e : TypeId) (hu : Tryz.prog.underlying st = some (.slice e)) (hinfo : (Tryz.prog.info? e).map (fun i => (i.zero, i.size, i.bytes)) = some (some (.agg #[.string ⟨#[]⟩, .string ⟨#[]⟩]), 2, 32)) (he : Tryz.prog.elem st = e)
    {w : World} {v : Value} {l : List Pr} (h : IsPV w v l) (k : Nat) (hk : k ≤ l.length) : ∃ v1, (∀ u, (Instr.slice st v (some (.int .i64 (k : Int))) none none).run Tryz.prog u = .ok v1 u) ∧ IsPV w v1 (l.drop k) := by
  obtain ⟨a, cap, rfl, hi⟩ := h
  have hle := hi.le
  have hmx := hi.max
  refine ⟨sliced a k l.length cap 2, fun u => ?_, if cap = k then a else a.map (·.add (k * 2)), cap - k, ?_, ?_⟩
  · rw [run_slice_l u st a l.length cap (by rw [he]; exact hu) .i64 (k : Int) (by omega) (by omega), run_size st e hinfo he]
    simp only [Result.andThen, Int.toNat_natCast]
  · unfold sliced; rw [List.length_drop]
  · refine ⟨rfl, by rw [List.length_drop]; omega, by omega, fun e1 => ?_, fun hp => ?_⟩
    · by_cases hc : cap = k
      · omega
      · rw [if_neg hc] at e1
        cases a with
        | none => have := hi.nil rfl; omega
        | some x => simp at e1
    · rw [List.length_drop] at hp
      obtain ⟨b, off, e1, hc⟩ := hi.cells (by omega)
      subst e1
      refine ⟨b, off + k * 2, ?_, fun i hi2 => ?_⟩
      · rw [if_neg (by omega), Option.map_some, Addr.add_lit]
      · rw [List.length_drop] at hi2
        have := hc (k + i) (by omega)
        rw [nthP_drop, show off + k * 2 + i * 2 = off + (k + i) * 2 by omega]
        exact this

theorem OwnP.empty (e : TypeId) (w : World) (base : Nat) (hb : base ≤ w.heap.size) : OwnP e (w.alloc (.cells #[] e)) base (.slice (some ⟨w.heap.size, 0, none⟩) 0 0) [] :=
  World.ownsRow_made w #[] 0 hb (Nat.zero_le _) rfl

/-- append(l, m...), at an operation -/
theorem wp_appV {o : Oper} {a : Act} {K : Act → World → Prop} {Q : Exit → Act → World → Prop} (st e : TypeId) (hu : Tryz.prog.underlying st = some (.slice e))
    (hinfo : (Tryz.prog.info? e).map (fun i => (i.zero, i.size, i.bytes)) = some (some (.agg #[.string ⟨#[]⟩, .string ⟨#[]⟩]), 2, 32)) (w : World) (s x : Operand)
    (ho : o.op = .call { callee := .builtin .append, args := #[s, x], argTypes := #[st, st] }) (base : Nat)
    (v : Value) (l : List Pr) (hs : a.eval s = v) (hown : OwnP e w base v l) (vx : Value) (m : List Pr) (hx : a.eval x = vx) (hm : IsPV w vx m)
    (hbytes : (l.length + m.length) * 32 ≤ 140737488355328) (hbase : base ≤ w.heap.size)
    (h : ∀ v' w', OwnP e w' base v' (l ++ m) → w.grownBy w' v.ownBlock → K (a.put o.dst v') w') : o.wp Tryz.prog a w K Q := by
  obtain ⟨i0, hi, hz0, hz1, hz2⟩ := info_parts hinfo
  obtain ⟨ad, cap, rfl, hp⟩ := hm
  cases ad with
  | none =>
    have h0 := hp.nil rfl
    have hle := hp.le
    have hn : m = [] := List.eq_nil_of_length_eq_zero (by omega)
    subst hn h0
    have hrun := run_append_owned_none (P := Tryz.prog) (w := w) base st o.type e i0 2 hu hi v l.length (pcs l) hown
    unfold Oper.wp
    simp only [List.length_nil] at hx
    simp [execOp, ho, resolve, invoke, builtin, hs, hx, hrun, Result.andThen]
    exact h v w (by rw [List.append_nil]; exact hown) (World.grownBy.refl _ _)
  | some ad =>
    refine wp_append_own w s x st ho base e i0 (.agg #[.string ⟨#[]⟩, .string ⟨#[]⟩]) 2 32 hu hi hz0 hz1 hz2 rfl (by omega) v l.length (pcs l) hs hown ad m.length cap (pcs m) hx (pcs_length m) ?_ (pcs_one m) (by unfold maxLen; omega) hbytes hbase ?_
    · intro j u hj
      have hjl : j < m.length * 2 := by
        rcases Nat.lt_or_ge j (m.length * 2) with h | h
        · exact h
        · rw [List.getElem?_eq_none (by rw [pcs_length]; exact h)] at hj; cases hj
      obtain ⟨b, off, e1, hc⟩ := hp.cells (by omega)
      have e1 := Option.some.inj e1
      have hcj := hc (j / 2) (by omega)
      have hpj := pcs_at m (j / 2) (by omega)
      rw [e1, Addr.add_lit]
      rcases Nat.mod_two_eq_zero_or_one j with h0 | h0
      · have ej : j / 2 * 2 = j := by omega
        rw [ej] at hcj hpj
        rw [hcj.1, ← hpj.1]; exact hj
      · have ej : j / 2 * 2 + 1 = j := by omega
        have ej2 : off + j / 2 * 2 + 1 = off + j := by omega
        rw [ej2] at hcj
        rw [ej] at hpj
        rw [hcj.2, ← hpj.2]; exact hj
    · intro v' w' h1 h2 _
      exact h v' w' (by unfold OwnP; rw [pcs_append, List.length_append]; exact h1) h2
/-- the same at a step of a region that draws -/
theorem step_appV {ops : Array Oper} {o : Oper} {a : Act} {K : Act → World → Prop} {Q : Exit → Act → World → Prop} {E : Prop} (st e : TypeId) (hu : Tryz.prog.underlying st = some (.slice e))
    (hinfo : (Tryz.prog.info? e).map (fun i => (i.zero, i.size, i.bytes)) = some (some (.agg #[.string ⟨#[]⟩, .string ⟨#[]⟩]), 2, 32)) (w : World) (hgd : o.guard = none) (s x : Operand)
    (ho : o.op = .call { callee := .builtin .append, args := #[s, x], argTypes := #[st, st] }) (base : Nat)
    (v : Value) (l : List Pr) (hs : a.eval s = v) (hown : OwnP e w base v l) (vx : Value) (m : List Pr) (hx : a.eval x = vx) (hm : IsPV w vx m)
    (hbytes : (l.length + m.length) * 32 ≤ 140737488355328) (hbase : base ≤ w.heap.size)
    (h : ∀ v' w', OwnP e w' base v' (l ++ m) → w.grownBy w' v.ownBlock → K (a.put o.dst v') w') :
    if Region.wanted o (yielded ops a.tmps) = true then Oper.wp Tryz.prog o a w K Q else E := by
  have hw : Region.wanted o (yielded ops a.tmps) = true := by simp [Region.wanted, hgd]
  rw [if_pos hw]
  exact wp_appV st e hu hinfo w s x ho base v l hs hown vx m hx hm hbytes hbase h
/-- one pair in a block of its own -/
theorem isPV_one {w : World} {B : Nat} {e : TypeId} (n1 n2 : List UInt8) (hb : w.heap[B]? = some (.cells #[.string (str n1), .string (str n2)] e (0, 0))) : IsPV w (.slice (some ⟨B, 0, none⟩) 1 1) [(n1, n2)] := by
  refine ⟨some ⟨B, 0, none⟩, 1, rfl, rfl, Nat.le_refl _, by unfold maxLen; decide, fun e => (by cases e), fun _ => ⟨B, 0, rfl, fun i hi => ?_⟩⟩
  have : i = 0 := by simpa using hi
  subst this
  rw [cell_of_row w B _ _ _ _ hb, cell_of_row w B _ _ _ _ hb]
  exact ⟨rfl, rfl⟩
end Go.Proofs.YtbknabmcelknmaaGreatDoor
namespace Go.Proofs.YtbknabmcelknmaaGreatDoor
open Go.RowKit

set_option maxRecDepth 20000 in
set_option maxHeartbeats 2000000 in
theorem refGet (m p q bd : Value) (a : Option Addr) (n cap : Nat) (l : List Pr) (nm : List UInt8) (w : World) (h : IsP w a n cap l) :
    Calls Tryz.prog 19 #[.agg #[m, p, q, .slice a n cap, bd], .string (str nm)] w fun e w' => e = .returned (.tuple #[.string (str ((findL l nm).getD [])), .bool (findL l nm).isSome]) ∧ Below w.heap.size w w' := by
  have HL : Hid (l.length = n) := h.len_eq
  have H : Hid (IsP w a n cap l) := h
  have hn : n ≤ 9223372036854775807 := by have := h.le; have := h.max; unfold maxLen at this; omega
  clear h
  have T0 : Below w.heap.size w (w.alloc (.cells #[m, p, q, .slice a n cap, bd] 31)) := (Below.refl _ w).alloc (Nat.le_refl _) _
  have K0 := Blk.newAt w w.heap.size 31 _ [m, p, q, .slice a n cap, bd] rfl rfl
  have k3 : (w.alloc (.cells #[m, p, q, .slice a n cap, bd] 31)).cell? ⟨w.heap.size, 3, none⟩ = some (.slice a n cap) := K0.cell 3
  generalize hrs : str ((findL l nm).getD []) = rs
  generalize hrb : (findL l nm).isSome = rb
  have HR1 : Hid (str ((findL l nm).getD []) = rs) := hrs
  have HR2 : Hid ((findL l nm).isSome = rb) := hrb
  clear hrs hrb
  go_enter Tryz.func19, Tryz.ntmps19
  go_wp2
  have HW : Hid (∀ x, Below w.heap.size w x → ∀ i, i < n → ∃ b off, a = some ⟨b, off, none⟩ ∧ x.cell? ⟨b, off + i * 2, none⟩ = some (.string (str (nthP l i).1)) ∧ x.cell? ⟨b, off + i * 2 + 1, none⟩ = some (.string (str (nthP l i).2))) := fun x hb i hi => by
    obtain ⟨b, off, e, hc⟩ := H.out.cells (by omega)
    obtain ⟨c1, c2⟩ := hc i hi
    exact ⟨b, off, e, (hb.cell (p := ⟨b, off + i * 2, none⟩) (cell_lt c1)).trans c1, (hb.cell (p := ⟨b, off + i * 2 + 1, none⟩) (cell_lt c2)).trans c2⟩
  generalize hW0 : (w.alloc (.cells #[m, p, q, .slice a n cap, bd] 31)) = W0 at *
  clear hW0
  go_loopw [6] (fun i wr => ∃ (k : Nat), k ≤ n ∧ i = .int .i64 k ∧ Hid (∀ j, j < k → ¬ (nthP l j).1 = nm) ∧ wr = W0) (fun i _ => n - (intOf i).toNat)
  case atStart => exact ⟨0, Nat.zero_le _, rfl, (fun j hj => absurd hj (Nat.not_lt_zero _)), rfl⟩
  case round =>
    obtain ⟨k, hk, rfl, HD, rfl⟩ := hrel
    by_cases hlt : k < n
    · obtain ⟨b, off, rfl, c1, c2⟩ := HW.out _ T0 k hlt
      have hb0 : (0 : Int) ≤ (k : Int) := by omega
      have hb1 : (k : Int) < (n : Int) := by omega
      have hkl : k < l.length := by rw [HL.out]; exact hlt
      by_cases he : (nthP l k).1 = nm
      · have HF : Hid (findL l nm = some (nthP l k).2) := find_at l nm k hkl HD.out he
        have hq : ((str (nthP l k).1).toList == (str nm).toList) = true := by rw [str_beq, he]; simp
        have e1 : Hid (str (nthP l k).2 = rs) := by unfold Hid; rw [← HR1.out, HF.out]; rfl
        have e2 : Hid (true = rb) := by unfold Hid; rw [← HR2.out, HF.out]; rfl
        clear HF hkl he HR1 HR2
        generalize str (nthP l k).1 = s1 at *
        generalize str (nthP l k).2 = s2 at *
        generalize str nm = s3 at *
        go_wp2
        go_ret2
        exact ⟨ret_sb e1.out e2.out, T0⟩
      · have hq : ((str (nthP l k).1).toList == (str nm).toList) = false := by rw [str_beq, beq_dec, decide_eq_false he]
        have HD1 : Hid (∀ j, j < k + 1 → ¬ (nthP l j).1 = nm) := fun j hj => by
          rcases Nat.lt_or_ge j k with h | h
          · exact HD.out j h
          · rw [show j = k by omega]; exact he
        have HK : Hid (k < n) := hlt
        clear HD hkl he
        generalize str (nthP l k).1 = s1 at *
        generalize str (nthP l k).2 = s2 at *
        generalize hs3 : str nm = s3 at *
        go_wp2
        go_roundw
        case rel => exact ⟨k + 1, HK.out, by go_num, HD1, by first | rfl | trivial⟩
        case measure => have := HK.out; simp [intOf]; omega
    · have hge : ¬ (k : Int) < (n : Int) := by omega
      have HF : Hid (findL l nm = none) := find_none l nm (fun i hi => HD.out i (by have := HL.out; omega))
      have e1 : Hid ((⟨#[]⟩ : ByteArray) = rs) := by unfold Hid; rw [← HR1.out, HF.out]; rfl
      have e2 : Hid (false = rb) := by unfold Hid; rw [← HR2.out, HF.out]; rfl
      clear HF HD HR1 HR2
      go_wp2
      go_ret2
      exact ⟨ret_sb e1.out e2.out, T0⟩

theorem infoH5 : (Tryz.prog.info? 73).map (fun i => (i.zero, i.size, i.bytes)) = some (some (.agg #[.string ⟨#[]⟩, .string ⟨#[]⟩]), 2, 32) := by kernel_rfl
theorem takeP5 (l : List Pr) (k : Nat) (h : k < l.length) : l.take (k + 1) = l.take k ++ [((nthP l k).1, (nthP l k).2)] := by
  rw [nthP_eq l k h, ← List.take_append_getElem h]

end Go.Proofs.YtbknabmcelknmaaGreatDoor
namespace Go.Proofs.YtbknabmcelknmaaGreatDoor
open Go.RowKit

/-- an operation of a region is taken first, its temporary told -/
theorem takeH {P : Program} {md : Region.Mode} {ops : Array Oper} {Q : Exit → Act → World → Prop} {S : World → Prop} {i : Nat} {oi : Oper} {v : Value} {fuel : Nat} {listed : Array Bool} {a : Act} {w : World} (d : Option Tmp) (hi : ops[i]? = some oi)
    (hs : Region.noSelect ops = true) (hf : Region.free md ops listed i = true) (hr : (Region.ready md ops listed).contains i = true)
    (hQ : ∀ c a w, Q (.panic c) (a.put oi.dst v) w → Q (.panic c) a w) (hy : YieldsIf P ops S oi v a) (hS : S w) (hd : oi.dst = d)
    (h : wpAnyH P md ops Q S fuel (listed.setIfInBounds i true) (a.put d v) w) : wpAnyH P md ops Q S (fuel + 1) listed a w := by
  subst hd; exact wpAnyH_take hi hs hf hr hQ hy hS h
/-- the one that comes up -/
theorem oneH {P : Program} {md : Region.Mode} {ops : Array Oper} {Q : Exit → Act → World → Prop} {S : World → Prop} {fuel : Nat} {listed : Array Bool} {a : Act} {w : World} (i : Nat) {oi : Oper} (hi : ops[i]? = some oi)
    (hr : Region.ready md ops listed = [i]) (hw : Region.wanted oi (yielded ops a.tmps) = true)
    (h : oi.wp P a w (fun a' w' => S w' ∧ wpAnyH P md ops Q S fuel (listed.setIfInBounds i true) a' w') Q) : wpAnyH P md ops Q S (fuel + 1) listed a w := by
  refine wpAnyH_all hr (by simp) fun j hj => ?_
  have : j = i := by simpa using hj
  subst this
  unfold wpOp
  simp only [hi, hw, if_true]
  exact .inl h
end Go.Proofs.YtbknabmcelknmaaGreatDoor
