/- Plain facts, and laws: pairs of a query, two of them swapped. -/
import Derived.Test.YtabhifhmhojpbabUri6
import Derived.Test.YtabhifhmhojpbabOwnPS
import Derived.Test.YtabhifhmhojpbabCodQ0
namespace Go.Proofs.Ytabhifhmhojpbab
open Go.RowKit

/-- no text of a query is longer than it -/
theorem fold_len (m : Nat) (ps : List (List UInt8)) (hp : ∀ p ∈ ps, p.length ≤ m) : ∀ (o out : List Pr), (∀ q ∈ o, q.1.length ≤ m ∧ q.2.length ≤ m) → ps.foldl qStep (some o) = some out → ∀ q ∈ out, q.1.length ≤ m ∧ q.2.length ≤ m := by
  induction ps with
  | nil => intro o out ho h; rw [List.foldl_nil] at h; cases h; exact ho
  | cons p ps ih =>
    intro o out ho h
    rw [List.foldl_cons] at h
    cases hb : bothL (headL 61 p) (tailL 61 p) with
    | none => rw [q_none hb, qStep_none] at h; cases h
    | some nv =>
      obtain ⟨n, v⟩ := nv
      rw [q_some hb] at h
      split at h
      · rw [qStep_none] at h; cases h
      · refine ih (fun q hq => hp q (List.mem_cons_of_mem _ hq)) _ out ?_ h
        intro q hq
        rcases List.mem_append.1 hq with hq | hq
        · exact ho q hq
        · rw [List.mem_singleton.1 hq]
          have hpl := hp p List.mem_cons_self
          have l1 := headL_length 61 p
          have l2 := tailL_length 61 p
          unfold bothL at hb
          cases d1 : decL (headL 61 p) with
          | none => rw [d1] at hb; cases hb
          | some a =>
            cases d2 : decL (tailL 61 p) with
            | none => rw [d1, d2] at hb; cases hb
            | some b =>
              rw [d1, d2] at hb
              cases hb
              have r1 := decL_length _ _ _ (Nat.le_refl _) d1
              have r2 := decL_length _ _ _ (Nat.le_refl _) d2
              exact ⟨by show n.length ≤ m; omega, by show v.length ≤ m; omega⟩
theorem query_len {s : List UInt8} {l : List Pr} (h : queryL s = some l) : ∀ q ∈ l, q.1.length ≤ s.length ∧ q.2.length ≤ s.length := by
  unfold queryL at h
  by_cases h0 : s = []
  · rw [if_pos h0] at h; cases h; intro q hq; cases hq
  · rw [if_neg h0] at h
    by_cases h24 : 24 < (cutL 38 s).length
    · rw [if_pos h24] at h; cases h
    · rw [if_neg h24] at h
      exact fold_len s.length _ (cutL_part 38 s) [] l (fun q hq => by cases hq) h

/-- two of them swapped -/
def swpL (l : List Pr) (i k : Nat) : List Pr := (l.set i (nthP l k)).set k (nthP l i)
theorem swpL_perm (l : List Pr) (i k : Nat) (hi : i < l.length) (hk : k < l.length) : (swpL l i k).Perm l := by
  unfold swpL
  rw [nthP_eq l i hi, nthP_eq l k hk]
  exact List.set_set_perm hi hk

theorem pcs_set (l : List Pr) (i : Nat) (p : Pr) : pcs (l.set i p) = ((pcs l).set (i * 2) (sv p.1)).set (i * 2 + 1) (sv p.2) := by
  induction l generalizing i with
  | nil => rfl
  | cons q l ih =>
    cases i with
    | zero => rfl
    | succ i =>
      rw [List.set_cons_succ]
      simp only [pcs]
      rw [ih, show (i + 1) * 2 = i * 2 + 1 + 1 by omega, List.set_cons_succ, List.set_cons_succ, List.set_cons_succ, List.set_cons_succ]
theorem OwnP.set {e : TypeId} {w : World} {N g cap n : Nat} {l : List Pr} (h : OwnP e w N (.slice (some ⟨g, 0, none⟩) n cap) l) (hn : l.length = n) (i : Nat) (p : Pr) :
    OwnP e ((w.setCell ⟨g, i * 2, none⟩ (.string (str p.1))).setCell ⟨g, i * 2 + 1, none⟩ (.string (str p.2))) N (.slice (some ⟨g, 0, none⟩) n cap) (l.set i p) := by
  subst hn
  have h1 := (World.ownsRow.stored h (i * 2) (.string (str p.1))).1
  have h2 := (World.ownsRow.stored h1 (i * 2 + 1) (.string (str p.2))).1
  unfold OwnP
  rw [List.length_set, pcs_set]
  exact h2
theorem OwnP.cellAt {e : TypeId} {w : World} {N g cap n : Nat} {l : List Pr} (h : OwnP e w N (.slice (some ⟨g, 0, none⟩) n cap) l) (hn : l.length = n) (i : Nat) (hi : i < n) : w.cell? ⟨g, i * 2, none⟩ = some (.string (str (nthP l i).1)) ∧ w.cell? ⟨g, i * 2 + 1, none⟩ = some (.string (str (nthP l i).2)) := by
  subst hn
  obtain ⟨p1, p2⟩ := pcs_at l i hi
  have hown : w.ownsRow N e 2 (.slice (some ⟨g, 0, none⟩) l.length cap) l.length (pcs l) := h
  rw [hown.cellAt (i * 2) (by omega), hown.cellAt (i * 2 + 1) (by omega)]
  exact ⟨p1, p2⟩
theorem OwnP.frozenAt {e : TypeId} {w : World} {N g cap n : Nat} {l : List Pr} (h : OwnP e w N (.slice (some ⟨g, 0, none⟩) n cap) l) (hn : l.length = n) (j : Nat) : w.frozen? ⟨g, j, none⟩ = false := by
  subst hn
  exact World.ownsRow.frozenAt h j
/-- append(l, m...), at an operation of a list -/
theorem list_appV {ops : Array Oper} {rest : List Oper} {o : Oper} {a : Act} {Q : Exit → Act → World → Prop} (st e : TypeId) (hu : Try.prog.underlying st = some (.slice e))
    (hinfo : (Try.prog.info? e).map (fun i => (i.zero, i.size, i.bytes)) = some (some (.agg #[.string ⟨#[]⟩, .string ⟨#[]⟩]), 2, 32)) (w : World) (hgd : o.guard = none) (s x : Operand)
    (ho : o.op = .call { callee := .builtin .append, args := #[s, x], argTypes := #[st, st] }) (base : Nat)
    (v : Value) (l : List Pr) (hs : a.eval s = v) (hown : OwnP e w base v l) (vx : Value) (m : List Pr) (hx : a.eval x = vx) (hm : IsPV w vx m)
    (hbytes : (l.length + m.length) * 32 ≤ 140737488355328) (hbase : base ≤ w.heap.size)
    (h : ∀ v' w', OwnP e w' base v' (l ++ m) → w.grownBy w' v.ownBlock → wpList Try.prog ops Q rest (a.put o.dst v') w') :
    wpList Try.prog ops Q (o :: rest) a w :=
  wpList_plain hgd fun _ hK => wp_appV st e hu hinfo w s x ho base v l hs hown vx m hx hm hbytes hbase fun v' w' h1 h2 => hK _ _ (h v' w' h1 h2)
end Go.Proofs.Ytabhifhmhojpbab
