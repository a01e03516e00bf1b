/- Slices of texts that a call makes: laws at this program's types. -/
import Derived.Test.YtmgflcglmakceaaUri2
import Derived.Test.YtmgflcglmakceaaOwnS
namespace Go.Proofs.Ytmgflcglmakceaa
open Go.RowKit

theorem infoS : (Try.prog.info? 9).map (fun i => (i.zero, i.size, i.bytes)) = some (some (.string ⟨#[]⟩), 1, 16) := by kernel_rfl
def sv (x : List UInt8) : Value := .string (str x)
def nthT (l : List (List UInt8)) (i : Nat) : List UInt8 := l.getD i []
theorem nthT_eq (l : List (List UInt8)) (i : Nat) (h : i < l.length) : nthT l i = l[i] := by
  unfold nthT; rw [List.getD_eq_getElem?_getD, List.getElem?_eq_getElem h]; rfl
theorem sv_at (l : List (List UInt8)) (i : Nat) (h : i < l.length) : (l.map sv)[i]? = some (.string (str (nthT l i))) := by
  rw [nthT_eq l i h]; simp [sv, List.getElem?_eq_getElem h]
theorem sv_one (l : List (List UInt8)) : ∀ u ∈ l.map sv, u.oneCell' = true := by
  intro u hu
  obtain ⟨b, _, rfl⟩ := List.mem_map.1 hu
  rfl
/-- v owns the texts l, in blocks from base on -/
def OwnT (w : World) (base : Nat) (v : Value) (l : List (List UInt8)) : Prop := w.ownsRow base 9 1 v l.length (l.map sv)
theorem OwnT.one (w : World) (base : Nat) (x : List UInt8) (hb : base ≤ w.heap.size) : OwnT (w.alloc (.cells #[.string (str x)] 9)) base (.slice (some ⟨w.heap.size, 0, none⟩) 1 1) [x] :=
  World.ownsRow_lit w #[.string (str x)] 1 hb (by decide) rfl
theorem OwnT.blk {w : World} {base : Nat} {v : Value} {l : List (List UInt8)} (h : OwnT w base v l) : ∀ k, v.ownBlock = some k → base ≤ k ∧ k < w.heap.size := World.ownsRow.lt h
theorem OwnT.alloc {w : World} {base : Nat} {v : Value} {l : List (List UInt8)} (h : OwnT w base v l) (o : Obj) : OwnT (w.alloc o) base v l := World.ownsRow.alloc h o
theorem OwnT.form {w : World} {base : Nat} {v : Value} {l : List (List UInt8)} (h : OwnT w base v l) (hl : 0 < l.length) : ∃ g cap, v = .slice (some ⟨g, 0, none⟩) l.length cap ∧ base ≤ g ∧ g < w.heap.size := World.ownsRow.form h hl
theorem OwnT.cellAt {w : World} {base g cap n : Nat} {l : List (List UInt8)} (h : OwnT w base (.slice (some ⟨g, 0, none⟩) n cap) l) (hn : l.length = n) (j : Nat) (hj : j < n) : w.cell? ⟨g, j, none⟩ = some (.string (str (nthT l j))) := by
  subst hn
  rw [World.ownsRow.cellAt h j (by omega), sv_at l j hj]
theorem OwnT.frozenAt {w : World} {base g cap n : Nat} {l : List (List UInt8)} (h : OwnT w base (.slice (some ⟨g, 0, none⟩) n cap) l) (hn : l.length = n) (j : Nat) : w.frozen? ⟨g, j, none⟩ = false := by
  subst hn
  exact World.ownsRow.frozenAt h j
theorem OwnT.set {w : World} {base g cap n : Nat} {l : List (List UInt8)} (h : OwnT w base (.slice (some ⟨g, 0, none⟩) n cap) l) (hn : l.length = n) (j : Nat) (x : List UInt8) : OwnT (w.setCell ⟨g, j, none⟩ (.string (str x))) base (.slice (some ⟨g, 0, none⟩) n cap) (l.set j x) := by
  subst hn
  have := (World.ownsRow.stored h j (.string (str x))).1
  unfold OwnT
  rw [List.length_set, List.map_set]; exact this
theorem OwnT.cap {w : World} {base g cap n : Nat} {l : List (List UInt8)} (h : OwnT w base (.slice (some ⟨g, 0, none⟩) n cap) l) (hn : l.length = n) : n ≤ cap ∧ cap ≤ maxLen := by
  subst hn
  rcases h.2 with ⟨h', _⟩ | ⟨g', cap', cur, h', _, hg, h1, h2, _⟩
  · simp at h'
  · simp only [Value.slice.injEq, Option.some.injEq, Addr.mk.injEq, and_true, true_and] at h'
    obtain ⟨_, rfl⟩ := h'
    exact ⟨h1, h2⟩

/-- append(l, x), x a text -/
theorem list_appX {ops : Array Oper} {rest : List Oper} {o : Oper} {a : Act} {Q : Exit → Act → World → Prop} (w : World) (hgd : o.guard = none) (s x : Operand)
    (ho : o.op = .call { callee := .builtin .append, args := #[s, x], argTypes := #[41, 41] }) (base : Nat)
    (v : Value) (l : List (List UInt8)) (hs : a.eval s = v) (hown : OwnT w base v l) (B : Nat) (new : List UInt8) (hx : a.eval x = .slice (some ⟨B, 0, none⟩) 1 1)
    (hb : w.heap[B]? = some (.cells #[.string (str new)] 9 (0, 0))) (hbytes : (l.length + 1) * 16 ≤ 140737488355328) (hbase : base ≤ w.heap.size)
    (h : ∀ v' w', OwnT w' base v' (l ++ [new]) → w.grownBy w' v.ownBlock → wpList Try.prog ops Q rest (a.put o.dst v') w') :
    wpList Try.prog ops Q (o :: rest) a w := by
  obtain ⟨i0, hi, hz0, hz1, hz2⟩ := info_parts infoS
  refine wpList_append_own w hgd s x 41 ho base 9 i0 (.string ⟨#[]⟩) 1 16 Try.underlying41 hi hz0 hz1 hz2 rfl (by omega) v l.length (l.map sv) hs hown ⟨B, 0, none⟩ 1 1 [.string (str new)] hx rfl
    (fun j u hu => World.news_of_block hb j u (by simpa using hu)) (by intro u hu; rw [List.mem_singleton.1 hu]; rfl) (by unfold maxLen; omega) hbytes hbase ?_
  intro v' w' h1 h2 _
  exact h v' w' (by unfold OwnT; rw [List.map_append, List.length_append]; exact h1) h2
end Go.Proofs.Ytmgflcglmakceaa
