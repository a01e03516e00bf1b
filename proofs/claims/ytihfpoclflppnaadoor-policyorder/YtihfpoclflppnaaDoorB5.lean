/- Slices of texts that a call makes: laws at this program's types. · Plain facts: the parts between a sign. -/
import Derived.Test.YtihfpoclflppnaaDoorB2
import Derived.Test.YtihfpoclflppnaaDoorOwnS
namespace Go.Proofs.YtihfpoclflppnaaDoor
open Go.RowKit

theorem infoS : (Tryd.prog.info? 9).map (fun i => (i.zero, i.size, i.bytes)) = some (some (.string ⟨#[]⟩), 1, 16) := by kernel_rfl
def sv (x : List UInt8) : Value := .string (str x)
def nthT (l : List (List UInt8)) (i : Nat) : List UInt8 := l.getD i []
theorem nthT_eq (l : List (List UInt8)) (i : Nat) (h : i < l.length) : nthT l i = l[i] := by
  unfold nthT; rw [List.getD_eq_getElem?_getD, List.getElem?_eq_getElem h]; rfl
theorem sv_at (l : List (List UInt8)) (i : Nat) (h : i < l.length) : (l.map sv)[i]? = some (.string (str (nthT l i))) := by
  rw [nthT_eq l i h]; simp [sv, List.getElem?_eq_getElem h]
theorem sv_one (l : List (List UInt8)) : ∀ u ∈ l.map sv, u.oneCell' = true := by
  intro u hu
  obtain ⟨b, _, rfl⟩ := List.mem_map.1 hu
  rfl
/-- v owns the texts l, in blocks from base on -/
def OwnT (w : World) (base : Nat) (v : Value) (l : List (List UInt8)) : Prop := w.ownsRow base 9 1 v l.length (l.map sv)
theorem OwnT.one (w : World) (base : Nat) (x : List UInt8) (hb : base ≤ w.heap.size) : OwnT (w.alloc (.cells #[.string (str x)] 9)) base (.slice (some ⟨w.heap.size, 0, none⟩) 1 1) [x] :=
  World.ownsRow_lit w #[.string (str x)] 1 hb (by decide) rfl
theorem OwnT.blk {w : World} {base : Nat} {v : Value} {l : List (List UInt8)} (h : OwnT w base v l) : ∀ k, v.ownBlock = some k → base ≤ k ∧ k < w.heap.size := World.ownsRow.lt h
theorem OwnT.alloc {w : World} {base : Nat} {v : Value} {l : List (List UInt8)} (h : OwnT w base v l) (o : Obj) : OwnT (w.alloc o) base v l := World.ownsRow.alloc h o
theorem OwnT.form {w : World} {base : Nat} {v : Value} {l : List (List UInt8)} (h : OwnT w base v l) (hl : 0 < l.length) : ∃ g cap, v = .slice (some ⟨g, 0, none⟩) l.length cap ∧ base ≤ g ∧ g < w.heap.size := World.ownsRow.form h hl
theorem OwnT.cellAt {w : World} {base g cap n : Nat} {l : List (List UInt8)} (h : OwnT w base (.slice (some ⟨g, 0, none⟩) n cap) l) (hn : l.length = n) (j : Nat) (hj : j < n) : w.cell? ⟨g, j, none⟩ = some (.string (str (nthT l j))) := by
  subst hn
  rw [World.ownsRow.cellAt h j (by omega), sv_at l j hj]
theorem OwnT.frozenAt {w : World} {base g cap n : Nat} {l : List (List UInt8)} (h : OwnT w base (.slice (some ⟨g, 0, none⟩) n cap) l) (hn : l.length = n) (j : Nat) : w.frozen? ⟨g, j, none⟩ = false := by
  subst hn
  exact World.ownsRow.frozenAt h j
theorem OwnT.set {w : World} {base g cap n : Nat} {l : List (List UInt8)} (h : OwnT w base (.slice (some ⟨g, 0, none⟩) n cap) l) (hn : l.length = n) (j : Nat) (x : List UInt8) : OwnT (w.setCell ⟨g, j, none⟩ (.string (str x))) base (.slice (some ⟨g, 0, none⟩) n cap) (l.set j x) := by
  subst hn
  have := (World.ownsRow.stored h j (.string (str x))).1
  unfold OwnT
  rw [List.length_set, List.map_set]; exact this
theorem OwnT.cap {w : World} {base g cap n : Nat} {l : List (List UInt8)} (h : OwnT w base (.slice (some ⟨g, 0, none⟩) n cap) l) (hn : l.length = n) : n ≤ cap ∧ cap ≤ maxLen := by
  subst hn
  rcases h.2 with ⟨h', _⟩ | ⟨g', cap', cur, h', _, hg, h1, h2, _⟩
  · simp at h'
  · simp only [Value.slice.injEq, Option.some.injEq, Addr.mk.injEq, and_true, true_and] at h'
    obtain ⟨_, rfl⟩ := h'
    exact ⟨h1, h2⟩

/-- append(l, x), x a text -/
theorem list_appX {ops : Array Oper} {rest : List Oper} {o : Oper} {a : Act} {Q : Exit → Act → World → Prop} (w : World) (hgd : o.guard = none) (s x : Operand)
    (ho : o.op = .call { callee := .builtin .append, args := #[s, x], argTypes := #[50, 50] }) (base : Nat)
    (v : Value) (l : List (List UInt8)) (hs : a.eval s = v) (hown : OwnT w base v l) (B : Nat) (new : List UInt8) (hx : a.eval x = .slice (some ⟨B, 0, none⟩) 1 1)
    (hb : w.heap[B]? = some (.cells #[.string (str new)] 9 (0, 0))) (hbytes : (l.length + 1) * 16 ≤ 140737488355328) (hbase : base ≤ w.heap.size)
    (h : ∀ v' w', OwnT w' base v' (l ++ [new]) → w.grownBy w' v.ownBlock → wpList Tryd.prog ops Q rest (a.put o.dst v') w') :
    wpList Tryd.prog ops Q (o :: rest) a w := by
  obtain ⟨i0, hi, hz0, hz1, hz2⟩ := info_parts infoS
  refine wpList_append_own w hgd s x 50 ho base 9 i0 (.string ⟨#[]⟩) 1 16 Tryd.underlying50 hi hz0 hz1 hz2 rfl (by omega) v l.length (l.map sv) hs hown ⟨B, 0, none⟩ 1 1 [.string (str new)] hx rfl
    (fun j u hu => World.news_of_block hb j u (by simpa using hu)) (by intro u hu; rw [List.mem_singleton.1 hu]; rfl) (by unfold maxLen; omega) hbytes hbase ?_
  intro v' w' h1 h2 _
  exact h v' w' (by unfold OwnT; rw [List.map_append, List.length_append]; exact h1) h2
end Go.Proofs.YtihfpoclflppnaaDoor
namespace Go.Proofs.YtihfpoclflppnaaDoor

/-- one sign more -/
def cutStep (c : UInt8) (acc : List (List UInt8)) (x : UInt8) : List (List UInt8) := if x = c then acc ++ [[]] else acc.set (acc.length - 1) (nthT acc (acc.length - 1) ++ [x])
def cutL (c : UInt8) (l : List UInt8) : List (List UInt8) := l.foldl (cutStep c) [[]]
theorem cutStep_pos (c : UInt8) (acc : List (List UInt8)) (x : UInt8) (h : 0 < acc.length) : 0 < (cutStep c acc x).length := by
  unfold cutStep; split
  · simp
  · rw [List.length_set]; exact h
theorem cutL_snoc (c : UInt8) (l : List UInt8) (x : UInt8) : cutL c (l ++ [x]) = cutStep c (cutL c l) x := by unfold cutL; rw [List.foldl_append]; rfl
theorem cutL_take (c : UInt8) (l : List UInt8) (k : Nat) (h : k < l.length) : cutL c (l.take (k + 1)) = cutStep c (cutL c (l.take k)) (nth l k) := by
  rw [take_nth l k h, cutL_snoc]
theorem snoc_ind {P : List UInt8 → Prop} (h0 : P []) (h1 : ∀ l x, P l → P (l ++ [x])) (l : List UInt8) : P l := by
  have key : ∀ n, ∀ l : List UInt8, l.length = n → P l := by
    intro n
    induction n with
    | zero => intro l hl; rw [List.length_eq_zero_iff.1 hl]; exact h0
    | succ n ih =>
      intro l hl
      have hn : l ≠ [] := by rintro rfl; simp at hl
      rw [← List.dropLast_concat_getLast hn]
      exact h1 _ _ (ih _ (by rw [List.length_dropLast, hl]; rfl))
  exact key l.length l rfl
theorem cutL_pos (c : UInt8) (l : List UInt8) : 0 < (cutL c l).length := by
  induction l using snoc_ind with
  | h0 => exact Nat.zero_lt_one
  | h1 l x ih => rw [cutL_snoc]; exact cutStep_pos c _ x ih
theorem cutL_len (c : UInt8) (l : List UInt8) : (cutL c l).length ≤ l.length + 1 := by
  induction l using snoc_ind with
  | h0 => exact Nat.le_refl _
  | h1 l x ih =>
    rw [cutL_snoc]; unfold cutStep; split
    · simp; omega
    · rw [List.length_set]; simp; omega
/-- no part is longer than the whole -/
theorem cutL_part (c : UInt8) (l : List UInt8) : ∀ p ∈ cutL c l, p.length ≤ l.length := by
  induction l using snoc_ind with
  | h0 => intro p hp; rw [show cutL c [] = [[]] from rfl, List.mem_singleton] at hp; rw [hp]; exact Nat.le_refl _
  | h1 l x ih =>
    intro p hp
    have hpos := cutL_pos c l
    rw [cutL_snoc] at hp; unfold cutStep at hp
    rw [List.length_append]
    split at hp
    · rcases List.mem_append.1 hp with h | h
      · have := ih p h; omega
      · rw [List.mem_singleton.1 h]; simp
    · rcases List.mem_or_eq_of_mem_set hp with h | h
      · have := ih p h; omega
      · rw [h, List.length_append, nthT_eq _ _ (by omega)]
        have := ih _ (List.getElem_mem (l := cutL c l) (n := (cutL c l).length - 1) (by omega))
        simp; omega
theorem cutL_last (c : UInt8) (l : List UInt8) : (nthT (cutL c l) ((cutL c l).length - 1)).length ≤ l.length := by
  have hpos := cutL_pos c l
  rw [nthT_eq _ _ (by omega)]
  exact cutL_part c l _ (List.getElem_mem _)
end Go.Proofs.YtihfpoclflppnaaDoor
