/- Slices of bytes that a call makes: appends of whatever slice, of a text; laws at this program's types. -/
import Derived.Test.YtjmkfkkkjcjplaaOwn
import Derived.Laws.AppendOwnNone
import Derived.Lib.AppendStr
import Derived.Lib.ConvBytes
namespace Go.Proofs.Ytjmkfkkkjcjplaa
open Go.RowKit

theorem OwnB.empty (w : World) (base : Nat) (hb : base ≤ w.heap.size) : OwnB (w.alloc (.cells #[] 5)) base (.slice (some ⟨w.heap.size, 0, none⟩) 0 0) [] :=
  World.ownsRow_made w #[] 0 hb (Nat.zero_le _) rfl
theorem OwnB.length_of {w : World} {base : Nat} {v : Value} {l : List UInt8} (h : OwnB w base v l) : ∃ a cap, v = .slice a l.length cap ∧ l.length ≤ cap ∧ cap ≤ maxLen := by
  obtain ⟨a, cap, e, hb⟩ := h.isB
  exact ⟨a, cap, e, hb.le, hb.max⟩

/-- append(out, b...), of whatever slice -/
theorem list_appS {ops : Array Oper} {rest : List Oper} {o : Oper} {a : Act} {Q : Exit → Act → World → Prop} (w : World) (hgd : o.guard = none) (s x : Operand)
    (ho : o.op = .call { callee := .builtin .append, args := #[s, x], argTypes := #[33, 33] }) (base : Nat)
    (v : Value) (l : List UInt8) (hs : a.eval s = v) (hown : OwnB w base v l) (sa : Option Addr) (m c : Nat) (news : List UInt8) (hx : a.eval x = .slice sa m c) (hB : IsB w sa m c news)
    (hbytes : l.length + m ≤ 140737488355328) (hbase : base ≤ w.heap.size)
    (h : ∀ v' w', OwnB w' base v' (l ++ news) → w.grownBy w' v.ownBlock → wpList Try.prog ops Q rest (a.put o.dst v') w') :
    wpList Try.prog ops Q (o :: rest) a w := by
  obtain ⟨i0, hi, hz0, hz1, hz2⟩ := info_parts info8
  cases sa with
  | none =>
    have h0 := hB.nil rfl
    have hle := hB.le
    have hm : m = 0 := by omega
    subst hm h0
    have hn : news = [] := List.eq_nil_of_length_eq_zero hB.len_eq
    subst hn
    exact wpList_append_own_none hgd s x 33 ho base 5 i0 1 Try.underlying33 hi v l.length (bv l) hs hown hx (h v w (by rw [List.append_nil]; exact hown) (World.grownBy.refl _ _))
  | some ad =>
    refine wpList_append_own w hgd s x 33 ho base 5 i0 (.int .u8 0) 1 1 Try.underlying33 hi hz0 hz1 hz2 rfl (by omega) v l.length (bv l) hs hown ad m c (bv news) hx (by rw [bv_length, hB.len_eq]; omega) ?_ (bv_one news) (by unfold maxLen; omega) (by omega) hbase ?_
    · intro j u hj
      have hjl : j < news.length := by
        rcases Nat.lt_or_ge j news.length with h | h
        · exact h
        · rw [List.getElem?_eq_none (by rw [bv_length]; exact h)] at hj; cases hj
      have hl := hB.len_eq
      obtain ⟨b, off, e, hc⟩ := hB.cells (by omega)
      have e := Option.some.inj e
      rw [bv_at news j hjl] at hj
      rw [e, Addr.add_lit, hc j (by omega)]; exact hj
    · intro v' w' h1 h2 _
      exact h v' w' (by unfold OwnB; rw [bv_append, List.length_append, hB.len_eq]; exact h1) h2

/-- a text's bytes -/
def sL (s : ByteArray) : List UInt8 := s.data.toList
theorem sL_length (s : ByteArray) : (sL s).length = s.size := by unfold sL; rw [Array.length_toList]; rfl
theorem sL_cells (s : ByteArray) : Lib.strCells s = bv (sL s) := rfl

/-- append(out, s...), of a text -/
theorem list_appT {ops : Array Oper} {rest : List Oper} {o : Oper} {a : Act} {Q : Exit → Act → World → Prop} (w : World) (hgd : o.guard = none) (s x : Operand)
    (ho : o.op = .call { callee := .builtin .append, args := #[s, x], argTypes := #[33, 9] }) (base : Nat)
    (v : Value) (l : List UInt8) (hs : a.eval s = v) (hown : OwnB w base v l) (t : ByteArray) (hx : a.eval x = .string t)
    (hbytes : l.length + t.size ≤ 140737488355328) (hbase : base ≤ w.heap.size)
    (h : ∀ v' w', OwnB w' base v' (l ++ sL t) → w.grownBy w' v.ownBlock → wpList Try.prog ops Q rest (a.put o.dst v') w') :
    wpList Try.prog ops Q (o :: rest) a w := by
  obtain ⟨i0, hi, hz0, hz1, hz2⟩ := info_parts info8
  refine Lib.wpList_append_own_string w hgd s x 33 9 ho base 5 i0 Try.underlying33 Try.underlying9 hi hz0 hz1 hz2 v l.length (bv l) hs hown t hx (by unfold maxLen; omega) hbytes hbase ?_
  intro v' w' h1 h2 _
  exact h v' w' (by unfold OwnB; rw [bv_append, List.length_append, sL_length]; exact h1) h2

/-- append(out, x..), of bytes that lie in a block of their own; where the slice lies isn't told -/
theorem list_app1 {ops : Array Oper} {rest : List Oper} {o : Oper} {a : Act} {Q : Exit → Act → World → Prop} (w : World) (hgd : o.guard = none) (s x : Operand)
    (ho : o.op = .call { callee := .builtin .append, args := #[s, x], argTypes := #[33, 33] }) (base : Nat)
    (v : Value) (l : List UInt8) (hs : a.eval s = v) (hown : OwnB w base v l) (B m : Nat) (news : List UInt8) (hx : a.eval x = .slice (some ⟨B, 0, none⟩) m m) (hl : news.length = m)
    (hb : w.heap[B]? = some (.cells (bv news).toArray 5 (0, 0))) (hbytes : l.length + m ≤ 140737488355328) (hbase : base ≤ w.heap.size)
    (h : ∀ v' w', OwnB w' base v' (l ++ news) → w.grownBy w' v.ownBlock → wpList Try.prog ops Q rest (a.put o.dst v') w') :
    wpList Try.prog ops Q (o :: rest) a w := by
  subst hl
  exact list_appS w hgd s x ho base v l hs hown (some ⟨B, 0, none⟩) news.length news.length news hx (IsB.ofBlock news (by unfold maxLen; omega) hb) hbytes hbase h

/-- a value that is a slice of these bytes -/
def IsV (w : World) (v : Value) (l : List UInt8) : Prop := ∃ a cap, v = .slice a l.length cap ∧ IsB w a l.length cap l
theorem IsB.isV {w : World} {a : Option Addr} {len cap : Nat} {l : List UInt8} (h : IsB w a len cap l) : IsV w (.slice a len cap) l := by
  have := h.len_eq
  subst this
  exact ⟨a, cap, rfl, h⟩
theorem OwnB.isV {w : World} {base : Nat} {v : Value} {l : List UInt8} (h : OwnB w base v l) : IsV w v l := h.isB
theorem IsV.below {w w' : World} {n : Nat} {v : Value} {l : List UInt8} (h : IsV w v l) (hb : Below n w w') (hn : n = w.heap.size) : IsV w' v l := by
  obtain ⟨a, cap, e, hi⟩ := h
  exact ⟨a, cap, e, hi.below hb hn⟩
/-- nil, as bytes -/
theorem isB_none (w : World) : IsB w none 0 0 [] := ⟨rfl, Nat.le_refl _, Nat.zero_le _, fun _ => rfl, fun h => absurd h (Nat.lt_irrefl 0)⟩
theorem IsV.nil (w : World) : IsV w (.slice none 0 0) [] := (isB_none w).isV
theorem grow_bel {w w1 w2 : World} {v : Value} {l : List UInt8} (hb : Below w.heap.size w w1) (ho : OwnB w1 w.heap.size v l) (hg : w1.grownBy w2 v.ownBlock) : Below w.heap.size w w2 :=
  hb.grown hg hb.size (fun k hk => (ho.blk k hk).1)
theorem grow_bel1 {w w1 w2 : World} {o : Obj} {v : Value} {l : List UInt8} (hb : Below w.heap.size w w1) (ho : OwnB w1 w.heap.size v l) (hg : (w1.alloc o).grownBy w2 v.ownBlock) : Below w.heap.size w w2 :=
  (hb.alloc hb.size _).grown hg (by have := hb.size; simp; omega) (fun k hk => (ho.blk k hk).1)

/-- []byte(s) -/
theorem conv_str (w : World) (s : ByteArray) : (convert 9 33 (.string s)).run Try.prog w = .ok (.slice (some ⟨w.heap.size, 0, none⟩) s.size (grownCap w s.size 0 5)) (Lib.bytesWorld w 5 s) :=
  Lib.run_convert_string_bytes w 9 33 5 s Try.underlying9 Try.underlying33 Try.underlying5
theorem conv_str_isB (w : World) (s : ByteArray) (hm : s.size ≤ maxLen) : IsB (Lib.bytesWorld w 5 s) (some ⟨w.heap.size, 0, none⟩) s.size (grownCap w s.size 0 5) (sL s) :=
  ⟨sL_length s, grownCap_ge w s.size 0 5, grownCap_le_maxLen w s.size 0 5 hm, fun e => (by cases e), fun _ => ⟨w.heap.size, 0, rfl, fun i hi => by rw [Nat.zero_add, Lib.bytesWorld_cell w 5 s i hi]; rfl⟩⟩
theorem conv_str_bel (w : World) (s : ByteArray) : Below w.heap.size w (Lib.bytesWorld w 5 s) :=
  ⟨by rfl, by rfl, by rfl, by rw [Lib.bytesWorld_size]; omega, fun j hj => Lib.bytesWorld_at_old w 5 s j hj⟩
end Go.Proofs.Ytjmkfkkkjcjplaa
