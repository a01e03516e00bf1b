/- Rows of refs that the statement makes. -/
import Derived.Test.YthjdmfbengpepaaGreatB29
import Derived.Deep.CutBlock
import Derived.Laws.AppendOwnNone
namespace Go.Proofs.YthjdmfbengpepaaGreat
open Go.RowKit

abbrev Rq := Rf × RfA
def rfs : List Rq → List Value
  | [] => []
  | x :: l => rfc x.1 x.2 ++ rfs l
theorem rfc_len (x : Rq) : (rfc x.1 x.2).length = 3 := rfl
theorem rfs_length (l : List Rq) : (rfs l).length = l.length * 3 := by
  induction l with
  | nil => rfl
  | cons x l ih => rw [rfs, List.length_append, ih, rfc_len, List.length_cons]; omega
theorem rfs_append (l m : List Rq) : rfs (l ++ m) = rfs l ++ rfs m := by
  induction l with
  | nil => rfl
  | cons x l ih => rw [List.cons_append, rfs, rfs, ih, List.append_assoc]
theorem rfs_take (l : List Rq) (k : Nat) : rfs (l.take k) = (rfs l).take (k * 3) := by
  induction k generalizing l with
  | zero => rfl
  | succ k ih =>
    cases l with
    | nil => rfl
    | cons x l =>
      rw [List.take_succ_cons, rfs, rfs, ih, List.take_append, rfc_len, List.take_of_length_le (l := rfc x.1 x.2) (by rw [rfc_len]; omega), show (k + 1) * 3 - 3 = k * 3 by omega]
theorem rfs_drop (l : List Rq) (k : Nat) : rfs (l.drop k) = (rfs l).drop (k * 3) := by
  induction k generalizing l with
  | zero => rfl
  | succ k ih =>
    cases l with
    | nil => rfl
    | cons x l =>
      rw [List.drop_succ_cons, rfs, ih, List.drop_append, rfc_len, List.drop_of_length_le (l := rfc x.1 x.2) (by rw [rfc_len]; omega), List.nil_append, show (k + 1) * 3 - 3 = k * 3 by omega]
theorem rfs_at (l : List Rq) (k j : Nat) (hk : k < l.length) (hj : j < 3) : (rfs l)[k * 3 + j]? = (rfc (l[k]).1 (l[k]).2)[j]? := by
  have e : (rfs l)[k * 3 + j]? = ((rfs l).drop (k * 3))[j]? := by rw [List.getElem?_drop]
  rw [e, ← rfs_drop, List.drop_eq_getElem_cons hk, rfs, List.getElem?_append_left (by rw [rfc_len]; exact hj)]
theorem rfs_one (l : List Rq) : ∀ u ∈ rfs l, u.oneCell' = true := by
  induction l with
  | nil => intro u hu; cases hu
  | cons x l ih =>
    intro u hu
    rw [rfs] at hu
    rcases List.mem_append.1 hu with hu | hu
    · unfold rfc at hu
      simp only [List.mem_cons, List.not_mem_nil, or_false] at hu
      rcases hu with rfl | rfl | rfl <;> rfl
    · exact ih u hu
def OwnF (w : World) (base : Nat) (v : Value) (l : List Rq) : Prop := w.ownsRow base 46 3 v l.length (rfs l)
theorem OwnF.nil (w : World) (base : Nat) : OwnF w base (.slice none 0 0) [] := World.ownsRow_nil _ _ _ _
theorem OwnF.empty (w : World) (base : Nat) (hb : base ≤ w.heap.size) : OwnF (w.alloc (.cells #[] 46)) base (.slice (some ⟨w.heap.size, 0, none⟩) 0 0) [] :=
  World.ownsRow_made w #[] 0 hb (Nat.zero_le _) rfl
theorem OwnF.on {w w' : World} {base : Nat} {v : Value} {l : List Rq} (h : OwnF w base v l) (hb : Below w.heap.size w w') : OwnF w' base v l := own_keepO (us := [46]) (KeepO.of_below hb) h (by decide)
theorem OwnF.form {w : World} {base : Nat} {v : Value} {l : List Rq} (h : OwnF w base v l) : ∃ a cap, v = .slice a l.length cap ∧ l.length ≤ cap ∧ (a = none ∨ ∃ g, a = some ⟨g, 0, none⟩) ∧
    (0 < l.length → ∃ g, a = some ⟨g, 0, none⟩ ∧ base ≤ g ∧ g < w.heap.size ∧ ∀ k (hk : k < l.length), ∀ j, j < 3 → w.cell? ⟨g, k * 3 + j, none⟩ = (rfc (l[k]).1 (l[k]).2)[j]?) := by
  obtain ⟨h1, h2⟩ := h
  rcases h2 with ⟨rfl, h0⟩ | ⟨g, cap, cur, rfl, hb, hg, hle, hmax, hsz, htk⟩
  · have : l = [] := List.eq_nil_of_length_eq_zero h0
    subst this
    exact ⟨none, 0, rfl, Nat.le_refl _, .inl rfl, fun h => absurd h (Nat.lt_irrefl 0)⟩
  · refine ⟨_, cap, rfl, hle, .inr ⟨g, rfl⟩, fun hp => ⟨g, rfl, hb, (Array.getElem?_eq_some_iff.1 hg).1, fun k hk j hj => ?_⟩⟩
    have hown : w.ownsRow base 46 3 (.slice (some ⟨g, 0, none⟩) l.length cap) l.length (rfs l) := ⟨h1, .inr ⟨g, cap, cur, rfl, hb, hg, hle, hmax, hsz, htk⟩⟩
    rw [World.ownsRow.cellAt hown (k * 3 + j) (by omega), rfs_at l k j hk hj]
theorem OwnF.at_ {w : World} {base n cap : Nat} {a : Option Addr} {ls : List Rq} (h : OwnF w base (.slice a n cap) ls) (k : Nat) (hk : k < ls.length) : ∃ g, a = some ⟨g, 0, none⟩ ∧ base ≤ g ∧ g < w.heap.size ∧ ∀ j, j < 3 → w.cell? ⟨g, k * 3 + j, none⟩ = (rfc (ls[k]).1 (ls[k]).2)[j]? := by
  obtain ⟨a', c', e, _, _, hr⟩ := h.form
  injection e with e1 e2 e3
  obtain ⟨g, e4, h1, h2, h3⟩ := hr (by omega)
  exact ⟨g, e1.trans e4, h1, h2, fun j hj => h3 k hk j hj⟩
theorem KeepT.grownF {w w' : World} {base : Nat} {v : Value} {l : List Rq} (ho : OwnF w base v l) (hg : w.grownBy w' v.ownBlock) : KeepT [46] w w' :=
  ⟨hg.size, fun k o hk hno => by
    refine (hg.block k (Array.getElem?_eq_some_iff.1 hk).1 (fun eb => ?_)).trans hk
    rcases ho.2 with ⟨rfl, _⟩ | ⟨g, cap, cur, rfl, _, hgb, _⟩
    · simp [Value.ownBlock] at eb
    · have hkg : k = g := by simpa [Value.ownBlock] using eb
      subst hkg
      have : o = .cells cur 46 (0, 0) := Option.some.inj (hk.symm.trans hgb)
      exact hno _ _ _ this (by decide)⟩
/-- refs that can be appended -/
structure SrcF (w : World) (sa : Option Addr) (m c : Nat) (l : List Rq) : Prop where
  len : l.length = m
  nil : sa = none → m = 0 ∧ c = 0
  cells : ∀ ad, sa = some ad → ∀ j u, (rfs l)[j]? = some u → w.cell? (ad.add j) = some u
def cutF (a : Option Addr) (cap k : Nat) : Option Addr := if cap = k then a else a.map (·.add (k * 3))
theorem OwnF.src {w : World} {base : Nat} {a : Option Addr} {n cap : Nat} {ls : List Rq} (h : OwnF w base (.slice a n cap) ls) (hn : n = ls.length) (k : Nat) (hk : k ≤ n) :
    SrcF w a k cap (ls.take k) ∧ SrcF w (cutF a cap k) (n - k) (cap - k) (ls.drop k) := by
  subst hn
  rcases h.2 with ⟨h1, h2⟩ | ⟨g, cap', cur, h3, h4, h5, hle, h7⟩
  · injection h1 with e1 e2 e3
    subst e1 e3
    have hk0 : k = 0 := by omega
    subst hk0
    have hl : ls = [] := List.eq_nil_of_length_eq_zero e2
    subst hl
    exact ⟨⟨rfl, fun _ => ⟨rfl, rfl⟩, fun ad e => by cases e⟩, ⟨rfl, fun _ => ⟨rfl, rfl⟩, fun ad e => by cases e⟩⟩
  · injection h3 with e1 e2 e3
    subst e1 e3
    refine ⟨⟨by rw [List.length_take]; omega, (fun e => by cases e), fun ad e j u hu => ?_⟩, ⟨by rw [List.length_drop], fun e => ?_, fun ad e j u hu => ?_⟩⟩
    · obtain rfl := Option.some.inj e
      rw [rfs_take] at hu
      have hj : j < k * 3 := by
        have := (List.getElem?_eq_some_iff.1 hu).1
        rw [List.length_take] at this; omega
      rw [List.getElem?_take_of_lt hj] at hu
      exact World.ownsRow.cells h (g := g) rfl j u hu
    · unfold cutF at e
      split at e
      · cases e
      · cases e
    · rw [rfs_drop, List.getElem?_drop] at hu
      unfold cutF at e
      split at e
      · rename_i hc
        have := (List.getElem?_eq_some_iff.1 hu).1
        rw [rfs_length] at this
        omega
      · have e2 := Option.some.inj e
        rw [← e2]
        show w.cell? (((⟨g, 0, none⟩ : Addr).add (k * 3)).add j) = some u
        rw [Addr.add_lit, Addr.add_lit]
        have := World.ownsRow.cells h (g := g) rfl (k * 3 + j) u hu
        rw [Addr.add_lit] at this
        rw [show 0 + k * 3 + j = 0 + (k * 3 + j) by omega]
        exact this
theorem SrcF.below {w w' : World} {sa : Option Addr} {m c : Nat} {l : List Rq} (h : SrcF w sa m c l) (hb : Below w.heap.size w w') : SrcF w' sa m c l :=
  ⟨h.len, h.nil, fun ad e j u hu => by have := h.cells ad e j u hu; exact (hb.cell (cell_lt this)).trans this⟩
def rfZ : Value := .agg #[.int .i64 0, .slice none 0 0, .slice none 0 0]
theorem infoF : (Tryz.prog.info? 46).map (fun i => (i.zero, i.size, i.bytes)) = some (some rfZ, 3, 56) := by kernel_rfl
/-- append(l, r) -/
theorem list_appF {ops : Array Oper} {rest : List Oper} {o : Oper} {a : Act} {Q : Exit → Act → World → Prop} (w : World) (hgd : o.guard = none) (s x : Operand)
    (ho : o.op = .call { callee := .builtin .append, args := #[s, x], argTypes := #[37, 37] }) (base : Nat)
    (v : Value) (l : List Rq) (hs : a.eval s = v) (hown : OwnF w base v l) (B : Nat) (g : Rq) (hx : a.eval x = .slice (some ⟨B, 0, none⟩) 1 1)
    (hb : w.heap[B]? = some (.cells (rfc g.1 g.2).toArray 46 (0, 0))) (hle : l.length ≤ 4096) (hbase : base ≤ w.heap.size)
    (h : ∀ v' w', OwnF w' base v' (l ++ [g]) → w.grownBy w' v.ownBlock → wpList Tryz.prog ops Q rest (a.put o.dst v') w') :
    wpList Tryz.prog ops Q (o :: rest) a w := by
  obtain ⟨i0, hi, hz0, hz1, hz2⟩ := info_parts infoF
  refine wpList_append_own w hgd s x 37 ho base 46 i0 rfZ 3 56 Tryz.underlying37 hi hz0 hz1 hz2 rfl (by omega) v l.length (rfs l) hs hown ⟨B, 0, none⟩ 1 1 (rfc g.1 g.2) hx rfl
    (fun j u hu => World.news_of_block hb j u (by simpa using hu)) (fun u hu => rfs_one [g] u (by rw [rfs, rfs, List.append_nil]; exact hu)) (by unfold maxLen; omega) (by omega) hbase ?_
  intro v' w' h1 h2 _
  exact h v' w' (by unfold OwnF; rw [rfs_append, List.length_append, rfs, rfs, List.append_nil]; exact h1) h2
/-- append(l, news...) -/
theorem step_appFs {ops : Array Oper} {o : Oper} {a : Act} {K : Act → World → Prop} {Q : Exit → Act → World → Prop} {E : Prop} (w : World) (hgd : o.guard = none) (s x : Operand)
    (ho : o.op = .call { callee := .builtin .append, args := #[s, x], argTypes := #[37, 37] }) (base : Nat)
    (v : Value) (l : List Rq) (hs : a.eval s = v) (hown : OwnF w base v l) (sa : Option Addr) (m c : Nat) (news : List Rq) (hx : a.eval x = .slice sa m c) (hsrc : SrcF w sa m c news)
    (hbytes : l.length + m ≤ 8192) (hbase : base ≤ w.heap.size) (d : Tmp) (hd : o.dst = some d)
    (h : ∀ v' w', OwnF w' base v' (l ++ news) → w.grownBy w' v.ownBlock → K (a.put (some d) v') w') :
    if Region.wanted o (yielded ops a.tmps) = true then Oper.wp Tryz.prog o a w K Q else E := by
  have hw : Region.wanted o (yielded ops a.tmps) = true := by simp [Region.wanted, hgd]
  rw [if_pos hw]
  obtain ⟨i0, hi, hz0, hz1, hz2⟩ := info_parts infoF
  cases sa with
  | none =>
    obtain ⟨hm, hc⟩ := hsrc.nil rfl
    have hn : news = [] := List.eq_nil_of_length_eq_zero (by rw [hsrc.len, hm])
    subst hn hm hc
    have hrun := run_append_owned_none (P := Tryz.prog) (w := w) base 37 o.type 46 i0 3 Tryz.underlying37 hi v l.length (rfs l) hown
    rw [← hd] at h
    unfold Oper.wp
    simp [execOp, ho, resolve, invoke, builtin, hs, hx, hrun, Result.andThen]
    exact h v w (by rw [List.append_nil]; exact hown) (World.grownBy.refl _ _)
  | some ad =>
    refine wp_append_own w s x 37 ho base 46 i0 rfZ 3 56 Tryz.underlying37 hi hz0 hz1 hz2 rfl (by omega) v l.length (rfs l) hs hown ad m c (rfs news) hx (by rw [rfs_length, hsrc.len]) (hsrc.cells ad rfl) (rfs_one news) (by unfold maxLen; omega) (by omega) hbase ?_
    intro v' w' h1 h2 _
    rw [hd]
    exact h v' w' (by unfold OwnF; rw [rfs_append, List.length_append, hsrc.len]; exact h1) h2
/-- the two cuts, as the walk meets them -/
theorem slFh (a : Option Addr) (n cap k : Nat) (hk : k ≤ cap) (ha : a = none ∨ ∃ g, a = some ⟨g, 0, none⟩) (w : World) : (Instr.slice 37 (.slice a n cap) none (some (.int .i64 (k : Int))) none).run Tryz.prog w = .ok (.slice a k cap) w := by
  have he : Tryz.prog.elem 37 = 46 := by kernel_rfl
  have hz : (sizeOf 46).run Tryz.prog w = .ok 3 w := by
    obtain ⟨i0, hi, hz0, hz1, hz2⟩ := info_parts infoF
    simp [sizeOf, typeInfo, hi, hz1]
  rw [run_slice_h w 37 _ n cap (by rw [he]; exact Tryz.underlying37) .i64 (k : Int) (by omega) (by omega), he, hz]
  simp only [Result.andThen, sliced, Int.toNat_natCast, Nat.zero_mul, Nat.sub_zero]
  rcases ha with rfl | ⟨g, rfl⟩
  · split <;> rfl
  · split <;> simp [Addr.add_lit]
theorem slFl (a : Option Addr) (n cap k : Nat) (hk : k ≤ n) (w : World) : (Instr.slice 37 (.slice a n cap) (some (.int .i64 (k : Int))) none none).run Tryz.prog w = .ok (.slice (cutF a cap k) (n - k) (cap - k)) w := by
  have he : Tryz.prog.elem 37 = 46 := by kernel_rfl
  have hz : (sizeOf 46).run Tryz.prog w = .ok 3 w := by
    obtain ⟨i0, hi, hz0, hz1, hz2⟩ := info_parts infoF
    simp [sizeOf, typeInfo, hi, hz1]
  rw [run_slice_l w 37 _ n cap (by rw [he]; exact Tryz.underlying37) .i64 (k : Int) (by omega) (by omega), he, hz]
  simp only [Result.andThen, sliced, Int.toNat_natCast, cutF]
end Go.Proofs.YthjdmfbengpepaaGreat
