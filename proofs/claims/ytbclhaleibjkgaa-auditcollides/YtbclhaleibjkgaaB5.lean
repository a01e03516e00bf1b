/- What the document's Crash does. · Regions that draw their order, by hand. · Appends of bytes and of a write, at a step of a region that draws. · What the document's Write does. -/
import Derived.Test.YtbclhaleibjkgaaB4
import Derived.Test.YtbclhaleibjkgaaB0
import Derived.Deep.RegionHeld3
import Derived.Test.YtbclhaleibjkgaaDk1
namespace Go.Proofs.Ytbclhaleibjkgaa
open Go.RowKit

/-- a slice of truths in a world -/
structure IsKs (w : World) (a : Option Addr) (n cap : Nat) (l : List Bool) : Prop where
  len_eq : l.length = n
  cells : 0 < n → ∃ b off, a = some ⟨b, off, none⟩ ∧ ∀ i, i < n → w.cell? ⟨b, off + i, none⟩ = some (.bool (l.getD i false))
theorem keptW_step (C : List Wg) (ks : List Bool) (k : Nat) (hC : k < C.length) (hk : k < ks.length) : keptW (C.take (k + 1)) (ks.take (k + 1)) = keptW (C.take k) (ks.take k) ++ (if ks.getD k false = true then [nthG C k] else []) := by
  induction k generalizing C ks with
  | zero =>
    match C, ks, hC, hk with
    | g :: C, b :: ks, _, _ =>
      cases b <;> simp [keptW, nthG]
  | succ k ih =>
    match C, ks, hC, hk with
    | g :: C, b :: ks, hC, hk =>
      have := ih C ks (by simpa using hC) (by simpa using hk)
      rw [List.take_succ_cons, List.take_succ_cons, keptW, this, List.take_succ_cons, List.take_succ_cons, keptW]
      have e1 : nthG (g :: C) (k + 1) = nthG C k := rfl
      have e2 : (b :: ks).getD (k + 1) false = ks.getD k false := rfl
      rw [e1, e2]
      cases b <;> simp
theorem keptW_stop (C : List Wg) (ks : List Bool) (k : Nat) (h : k = C.length ∨ k = ks.length) : keptW (C.take k) (ks.take k) = keptW C ks := by
  induction k generalizing C ks with
  | zero =>
    rcases h with h | h
    · rw [List.eq_nil_of_length_eq_zero h.symm]; simp [keptW]
    · rw [List.eq_nil_of_length_eq_zero h.symm]; simp [keptW]
  | succ k ih =>
    match C, ks with
    | [], ks => simp [keptW]
    | g :: C, [] => simp [keptW]
    | g :: C, b :: ks =>
      rw [List.take_succ_cons, List.take_succ_cons, keptW, ih C ks (by simpa using h), keptW]
theorem keptW_len (C : List Wg) (ks : List Bool) : (keptW C ks).length ≤ C.length := by
  induction C generalizing ks with
  | nil => simp [keptW]
  | cons g C ih =>
    cases ks with
    | nil => simp [keptW]
    | cons b ks =>
      have := ih ks
      rw [keptW]
      split
      · simp; exact this
      · simp; omega
def crashR (r : Rd) (ks : List Bool) : Rd := { r with S := (keptW r.C ks).foldl settleW r.S, C := [], off := false, armed := false, left := 0 }

end Go.Proofs.Ytbclhaleibjkgaa
namespace Go.Proofs.Ytbclhaleibjkgaa
open Go.RowKit

/-- an operation of a region is taken first, its temporary told -/
theorem takeH {P : Program} {md : Region.Mode} {ops : Array Oper} {Q : Exit → Act → World → Prop} {S : World → Prop} {i : Nat} {oi : Oper} {v : Value} {fuel : Nat} {listed : Array Bool} {a : Act} {w : World} (d : Option Tmp) (hi : ops[i]? = some oi)
    (hs : Region.noSelect ops = true) (hf : Region.free md ops listed i = true) (hr : (Region.ready md ops listed).contains i = true)
    (hQ : ∀ c a w, Q (.panic c) (a.put oi.dst v) w → Q (.panic c) a w) (hy : YieldsIf P ops S oi v a) (hS : S w) (hd : oi.dst = d)
    (h : wpAnyH P md ops Q S fuel (listed.setIfInBounds i true) (a.put d v) w) : wpAnyH P md ops Q S (fuel + 1) listed a w := by
  subst hd; exact wpAnyH_take hi hs hf hr hQ hy hS h
/-- the one that comes up -/
theorem oneH {P : Program} {md : Region.Mode} {ops : Array Oper} {Q : Exit → Act → World → Prop} {S : World → Prop} {fuel : Nat} {listed : Array Bool} {a : Act} {w : World} (i : Nat) {oi : Oper} (hi : ops[i]? = some oi)
    (hr : Region.ready md ops listed = [i]) (hw : Region.wanted oi (yielded ops a.tmps) = true)
    (h : oi.wp P a w (fun a' w' => S w' ∧ wpAnyH P md ops Q S fuel (listed.setIfInBounds i true) a' w') Q) : wpAnyH P md ops Q S (fuel + 1) listed a w := by
  refine wpAnyH_all hr (by simp) fun j hj => ?_
  have : j = i := by simpa using hj
  subst this
  unfold wpOp
  simp only [hi, hw, if_true]
  exact .inl h
end Go.Proofs.Ytbclhaleibjkgaa
namespace Go.Proofs.Ytbclhaleibjkgaa
open Go.RowKit

theorem wp_appB {o : Oper} {a : Act} {K : Act → World → Prop} {Q : Exit → Act → World → Prop} (w : World) (s x : Operand)
    (ho : o.op = .call { callee := .builtin .append, args := #[s, x], argTypes := #[24, 24] }) (base : Nat)
    (v : Value) (l : List UInt8) (hs : a.eval s = v) (hown : OwnB w base v l) (sa : Option Addr) (m c : Nat) (news : List UInt8) (hx : a.eval x = .slice sa m c) (hB : IsB w sa m c news)
    (hbytes : l.length + m ≤ 140737488355328) (hbase : base ≤ w.heap.size)
    (h : ∀ v' w', OwnB w' base v' (l ++ news) → w.grownBy w' v.ownBlock → K (a.put o.dst v') w') : o.wp Try.prog a w K Q := by
  obtain ⟨i0, hi, hz0, hz1, hz2⟩ := info_parts info8
  have hlen := hB.len_eq
  cases sa with
  | none =>
    have h0 := hB.nil rfl
    have hle := hB.le
    have hn : news = [] := List.eq_nil_of_length_eq_zero (by omega)
    subst hn
    have hm0 : m = 0 := by simpa using hlen.symm
    subst hm0 h0
    have hrun := run_append_owned_none (P := Try.prog) (w := w) base 24 o.type 5 i0 1 Try.underlying24 hi v l.length (bv l) hown
    unfold Oper.wp
    simp [execOp, ho, resolve, invoke, builtin, hs, hx, hrun, Result.andThen]
    exact h v w (by rw [List.append_nil]; exact hown) (World.grownBy.refl _ _)
  | some ad =>
    have hc : ∀ j u, (bv news)[j]? = some u → w.cell? (ad.add j) = some u := fun j u hj => by
      have hjl : j < news.length := by
        rcases Nat.lt_or_ge j news.length with h | h
        · exact h
        · rw [List.getElem?_eq_none (by rw [bv_length]; exact h)] at hj; cases hj
      obtain ⟨b, off, e1, hcc⟩ := hB.cells (by omega)
      have e1 := Option.some.inj e1
      rw [e1, Addr.add_lit, hcc j (by omega), ← bv_at news j hjl]
      exact hj
    obtain ⟨v', w', hrun, r1, r2, r3⟩ := run_append_own (P := Try.prog) w base 24 o.type 5 i0 (.int .u8 0) 1 1 Try.underlying24 hi hz0 hz1 hz2 rfl (by omega) v l.length (bv l) hown ad m c (bv news) (by rw [bv_length]; omega) hc (bv_one news) (by unfold maxLen; omega) (by omega) hbase
    unfold Oper.wp execOp
    simp only [ho, resolve, invoke, builtin, Sem.run_bind, Sem.run_pure, Result.andThen_ok, List.map_toArray, List.map_cons, List.map_nil, hs, hx, hrun]
    exact h v' w' (by unfold OwnB; rw [bv_append, List.length_append, hlen]; exact r1) r2
theorem step_appB {ops : Array Oper} {o : Oper} {a : Act} {K : Act → World → Prop} {Q : Exit → Act → World → Prop} {E : Prop} (w : World) (hgd : o.guard = none) (s x : Operand)
    (ho : o.op = .call { callee := .builtin .append, args := #[s, x], argTypes := #[24, 24] }) (base : Nat)
    (v : Value) (l : List UInt8) (hs : a.eval s = v) (hown : OwnB w base v l) (sa : Option Addr) (m c : Nat) (news : List UInt8) (hx : a.eval x = .slice sa m c) (hB : IsB w sa m c news)
    (hbytes : l.length + m ≤ 140737488355328) (hbase : base ≤ w.heap.size) (d : Tmp) (hd : o.dst = some d)
    (h : ∀ v' w', OwnB w' base v' (l ++ news) → w.grownBy w' v.ownBlock → K (a.put (some d) v') w') :
    if Region.wanted o (yielded ops a.tmps) = true then Oper.wp Try.prog o a w K Q else E := by
  have hw : Region.wanted o (yielded ops a.tmps) = true := by simp [Region.wanted, hgd]
  rw [if_pos hw]
  exact wp_appB w s x ho base v l hs hown sa m c news hx hB hbytes hbase (by rw [hd]; exact h)
/-- append(l, g), and where the new row lies -/
theorem step_appGl {ops : Array Oper} {o : Oper} {a : Act} {K : Act → World → Prop} {Q : Exit → Act → World → Prop} {E : Prop} (st e : TypeId) (hu : Try.prog.underlying st = some (.slice e))
    (hinfo : (Try.prog.info? e).map (fun i => (i.zero, i.size, i.bytes)) = some (some wgZ, 2, 32)) (w : World) (hgd : o.guard = none) (s x : Operand)
    (ho : o.op = .call { callee := .builtin .append, args := #[s, x], argTypes := #[st, st] }) (base : Nat)
    (v : Value) (l : List Wg) (hs : a.eval s = v) (hown : OwnG e w base v l) (B : Nat) (g : Wg) (hx : a.eval x = .slice (some ⟨B, 0, none⟩) 1 1)
    (hb : w.heap[B]? = some (.cells (wgc g).toArray e (0, 0))) (hbytes : (l.length + 1) * 32 ≤ 140737488355328) (hbase : base ≤ w.heap.size) (d : Tmp) (hd : o.dst = some d)
    (h : ∀ k cap w', OwnG e w' base (.slice (some ⟨k, 0, none⟩) (l.length + 1) cap) (l ++ [g]) → w.grownBy w' v.ownBlock → (v.ownBlock = some k ∨ k = w.heap.size) → K (a.put (some d) (.slice (some ⟨k, 0, none⟩) (l.length + 1) cap)) w') :
    if Region.wanted o (yielded ops a.tmps) = true then Oper.wp Try.prog o a w K Q else E := by
  obtain ⟨i0, hi, hz0, hz1, hz2⟩ := info_parts hinfo
  refine step_append_lies w hgd s x st ho base e i0 wgZ 2 32 hu hi hz0 hz1 hz2 rfl (by omega) v l.length (wgs l) hs hown ⟨B, 0, none⟩ 1 1 (wgc g) hx rfl
    (fun j u hu => World.news_of_block hb j u (by simpa using hu)) (wgc_one g) (by omega) (by unfold maxLen; omega) hbytes hbase w.heap.size rfl ?_
  intro k cap w' h1 h2 h3 _
  rw [hd]
  exact h k cap w' (by unfold OwnG; rw [wgs_append, List.length_append]; exact h1) h2 h3
end Go.Proofs.Ytbclhaleibjkgaa
namespace Go.Proofs.Ytbclhaleibjkgaa
open Go.RowKit
attribute [local go_sem ↓] Go.wp_at_zero Go.wp_at_succ

def wrE (r : Rd) (i : Int) (b : List UInt8) : Int := if r.off = true then 51 else if inR r.n i = false then 50 else if b.length ≠ 512 then 1 else if r.armed = true ∧ r.left = 0 then 51 else 0
def nextL (r : Rd) : Nat := if r.armed = true then r.left - 1 else r.left
def WrTo (r : Rd) (i : Int) (b : List UInt8) (r' : Rd) : Prop :=
  (wrE r i b = 0 ∧ ∃ g : Wg, g.at_ = i.toNat ∧ g.b = b ∧ r' = { r with left := nextL r, wr := r.wr + 1, C := r.C ++ [g] }) ∨
  (wrE r i b = 51 ∧ r.off = false ∧ r' = { r with off := true }) ∨ (wrE r i b ≠ 0 ∧ (r.off = true ∨ inR r.n i = false ∨ b.length ≠ 512) ∧ r' = r)

end Go.Proofs.Ytbclhaleibjkgaa
