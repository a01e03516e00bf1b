/- Slices of bytes that a call makes: appends of whatever slice, of a text; laws at this program's types. · Slices of texts that a call makes: laws at this program's types. · Plain facts: pairs in order, and their text. -/
import Derived.Test.YtgjmaeodgcigdaaGreatDoorB1
import Derived.Laws.AppendOwnNone
import Derived.Lib.AppendStr
import Derived.Lib.ConvBytes
import Derived.Test.YtgjmaeodgcigdaaGreatDoorB0
namespace Go.Proofs.YtgjmaeodgcigdaaGreatDoor
open Go.RowKit

theorem OwnB.empty (w : World) (base : Nat) (hb : base ≤ w.heap.size) : OwnB (w.alloc (.cells #[] 5)) base (.slice (some ⟨w.heap.size, 0, none⟩) 0 0) [] :=
  World.ownsRow_made w #[] 0 hb (Nat.zero_le _) rfl
theorem OwnB.length_of {w : World} {base : Nat} {v : Value} {l : List UInt8} (h : OwnB w base v l) : ∃ a cap, v = .slice a l.length cap ∧ l.length ≤ cap ∧ cap ≤ maxLen := by
  obtain ⟨a, cap, e, hb⟩ := h.isB
  exact ⟨a, cap, e, hb.le, hb.max⟩

/-- append(out, b...), of whatever slice -/
theorem list_appS {ops : Array Oper} {rest : List Oper} {o : Oper} {a : Act} {Q : Exit → Act → World → Prop} (w : World) (hgd : o.guard = none) (s x : Operand)
    (ho : o.op = .call { callee := .builtin .append, args := #[s, x], argTypes := #[23, 23] }) (base : Nat)
    (v : Value) (l : List UInt8) (hs : a.eval s = v) (hown : OwnB w base v l) (sa : Option Addr) (m c : Nat) (news : List UInt8) (hx : a.eval x = .slice sa m c) (hB : IsB w sa m c news)
    (hbytes : l.length + m ≤ 140737488355328) (hbase : base ≤ w.heap.size)
    (h : ∀ v' w', OwnB w' base v' (l ++ news) → w.grownBy w' v.ownBlock → wpList Tryz.prog ops Q rest (a.put o.dst v') w') :
    wpList Tryz.prog ops Q (o :: rest) a w := by
  obtain ⟨i0, hi, hz0, hz1, hz2⟩ := info_parts info8
  cases sa with
  | none =>
    have h0 := hB.nil rfl
    have hle := hB.le
    have hm : m = 0 := by omega
    subst hm h0
    have hn : news = [] := List.eq_nil_of_length_eq_zero hB.len_eq
    subst hn
    exact wpList_append_own_none hgd s x 23 ho base 5 i0 1 Tryz.underlying23 hi v l.length (bv l) hs hown hx (h v w (by rw [List.append_nil]; exact hown) (World.grownBy.refl _ _))
  | some ad =>
    refine wpList_append_own w hgd s x 23 ho base 5 i0 (.int .u8 0) 1 1 Tryz.underlying23 hi hz0 hz1 hz2 rfl (by omega) v l.length (bv l) hs hown ad m c (bv news) hx (by rw [bv_length, hB.len_eq]; omega) ?_ (bv_one news) (by unfold maxLen; omega) (by omega) hbase ?_
    · intro j u hj
      have hjl : j < news.length := by
        rcases Nat.lt_or_ge j news.length with h | h
        · exact h
        · rw [List.getElem?_eq_none (by rw [bv_length]; exact h)] at hj; cases hj
      have hl := hB.len_eq
      obtain ⟨b, off, e, hc⟩ := hB.cells (by omega)
      have e := Option.some.inj e
      rw [bv_at news j hjl] at hj
      rw [e, Addr.add_lit, hc j (by omega)]; exact hj
    · intro v' w' h1 h2 _
      exact h v' w' (by unfold OwnB; rw [bv_append, List.length_append, hB.len_eq]; exact h1) h2

/-- a text's bytes -/
def sL (s : ByteArray) : List UInt8 := s.data.toList
theorem sL_length (s : ByteArray) : (sL s).length = s.size := by unfold sL; rw [Array.length_toList]; rfl
theorem sL_cells (s : ByteArray) : Lib.strCells s = bv (sL s) := rfl

/-- append(out, s...), of a text -/
theorem list_appT {ops : Array Oper} {rest : List Oper} {o : Oper} {a : Act} {Q : Exit → Act → World → Prop} (w : World) (hgd : o.guard = none) (s x : Operand)
    (ho : o.op = .call { callee := .builtin .append, args := #[s, x], argTypes := #[23, 9] }) (base : Nat)
    (v : Value) (l : List UInt8) (hs : a.eval s = v) (hown : OwnB w base v l) (t : ByteArray) (hx : a.eval x = .string t)
    (hbytes : l.length + t.size ≤ 140737488355328) (hbase : base ≤ w.heap.size)
    (h : ∀ v' w', OwnB w' base v' (l ++ sL t) → w.grownBy w' v.ownBlock → wpList Tryz.prog ops Q rest (a.put o.dst v') w') :
    wpList Tryz.prog ops Q (o :: rest) a w := by
  obtain ⟨i0, hi, hz0, hz1, hz2⟩ := info_parts info8
  refine Lib.wpList_append_own_string w hgd s x 23 9 ho base 5 i0 Tryz.underlying23 Tryz.underlying9 hi hz0 hz1 hz2 v l.length (bv l) hs hown t hx (by unfold maxLen; omega) hbytes hbase ?_
  intro v' w' h1 h2 _
  exact h v' w' (by unfold OwnB; rw [bv_append, List.length_append, sL_length]; exact h1) h2

/-- append(out, x..), of bytes that lie in a block of their own; where the slice lies isn't told -/
theorem list_app1 {ops : Array Oper} {rest : List Oper} {o : Oper} {a : Act} {Q : Exit → Act → World → Prop} (w : World) (hgd : o.guard = none) (s x : Operand)
    (ho : o.op = .call { callee := .builtin .append, args := #[s, x], argTypes := #[23, 23] }) (base : Nat)
    (v : Value) (l : List UInt8) (hs : a.eval s = v) (hown : OwnB w base v l) (B m : Nat) (news : List UInt8) (hx : a.eval x = .slice (some ⟨B, 0, none⟩) m m) (hl : news.length = m)
    (hb : w.heap[B]? = some (.cells (bv news).toArray 5 (0, 0))) (hbytes : l.length + m ≤ 140737488355328) (hbase : base ≤ w.heap.size)
    (h : ∀ v' w', OwnB w' base v' (l ++ news) → w.grownBy w' v.ownBlock → wpList Tryz.prog ops Q rest (a.put o.dst v') w') :
    wpList Tryz.prog ops Q (o :: rest) a w := by
  subst hl
  exact list_appS w hgd s x ho base v l hs hown (some ⟨B, 0, none⟩) news.length news.length news hx (IsB.ofBlock news (by unfold maxLen; omega) hb) hbytes hbase h

/-- a value that is a slice of these bytes -/
def IsV (w : World) (v : Value) (l : List UInt8) : Prop := ∃ a cap, v = .slice a l.length cap ∧ IsB w a l.length cap l
theorem IsB.isV {w : World} {a : Option Addr} {len cap : Nat} {l : List UInt8} (h : IsB w a len cap l) : IsV w (.slice a len cap) l := by
  have := h.len_eq
  subst this
  exact ⟨a, cap, rfl, h⟩
theorem OwnB.isV {w : World} {base : Nat} {v : Value} {l : List UInt8} (h : OwnB w base v l) : IsV w v l := h.isB
theorem IsV.below {w w' : World} {n : Nat} {v : Value} {l : List UInt8} (h : IsV w v l) (hb : Below n w w') (hn : n = w.heap.size) : IsV w' v l := by
  obtain ⟨a, cap, e, hi⟩ := h
  exact ⟨a, cap, e, hi.below hb hn⟩
/-- nil, as bytes -/
theorem isB_none (w : World) : IsB w none 0 0 [] := ⟨rfl, Nat.le_refl _, Nat.zero_le _, fun _ => rfl, fun h => absurd h (Nat.lt_irrefl 0)⟩
theorem IsV.nil (w : World) : IsV w (.slice none 0 0) [] := (isB_none w).isV
theorem grow_bel {w w1 w2 : World} {v : Value} {l : List UInt8} (hb : Below w.heap.size w w1) (ho : OwnB w1 w.heap.size v l) (hg : w1.grownBy w2 v.ownBlock) : Below w.heap.size w w2 :=
  hb.grown hg hb.size (fun k hk => (ho.blk k hk).1)
theorem grow_bel1 {w w1 w2 : World} {o : Obj} {v : Value} {l : List UInt8} (hb : Below w.heap.size w w1) (ho : OwnB w1 w.heap.size v l) (hg : (w1.alloc o).grownBy w2 v.ownBlock) : Below w.heap.size w w2 :=
  (hb.alloc hb.size _).grown hg (by have := hb.size; simp; omega) (fun k hk => (ho.blk k hk).1)

/-- []byte(s) -/
theorem conv_str (w : World) (s : ByteArray) : (convert 9 23 (.string s)).run Tryz.prog w = .ok (.slice (some ⟨w.heap.size, 0, none⟩) s.size (grownCap w s.size 0 5)) (Lib.bytesWorld w 5 s) :=
  Lib.run_convert_string_bytes w 9 23 5 s Tryz.underlying9 Tryz.underlying23 Tryz.underlying5
theorem conv_str_isB (w : World) (s : ByteArray) (hm : s.size ≤ maxLen) : IsB (Lib.bytesWorld w 5 s) (some ⟨w.heap.size, 0, none⟩) s.size (grownCap w s.size 0 5) (sL s) :=
  ⟨sL_length s, grownCap_ge w s.size 0 5, grownCap_le_maxLen w s.size 0 5 hm, fun e => (by cases e), fun _ => ⟨w.heap.size, 0, rfl, fun i hi => by rw [Nat.zero_add, Lib.bytesWorld_cell w 5 s i hi]; rfl⟩⟩
theorem conv_str_bel (w : World) (s : ByteArray) : Below w.heap.size w (Lib.bytesWorld w 5 s) :=
  ⟨by rfl, by rfl, by rfl, by rw [Lib.bytesWorld_size]; omega, fun j hj => Lib.bytesWorld_at_old w 5 s j hj⟩
end Go.Proofs.YtgjmaeodgcigdaaGreatDoor
namespace Go.Proofs.YtgjmaeodgcigdaaGreatDoor
open Go.RowKit

theorem infoS : (Tryz.prog.info? 9).map (fun i => (i.zero, i.size, i.bytes)) = some (some (.string ⟨#[]⟩), 1, 16) := by kernel_rfl
def sv (x : List UInt8) : Value := .string (str x)
def nthT (l : List (List UInt8)) (i : Nat) : List UInt8 := l.getD i []
theorem nthT_eq (l : List (List UInt8)) (i : Nat) (h : i < l.length) : nthT l i = l[i] := by
  unfold nthT; rw [List.getD_eq_getElem?_getD, List.getElem?_eq_getElem h]; rfl
theorem sv_at (l : List (List UInt8)) (i : Nat) (h : i < l.length) : (l.map sv)[i]? = some (.string (str (nthT l i))) := by
  rw [nthT_eq l i h]; simp [sv, List.getElem?_eq_getElem h]
theorem sv_one (l : List (List UInt8)) : ∀ u ∈ l.map sv, u.oneCell' = true := by
  intro u hu
  obtain ⟨b, _, rfl⟩ := List.mem_map.1 hu
  rfl
/-- v owns the texts l, in blocks from base on -/
def OwnT (w : World) (base : Nat) (v : Value) (l : List (List UInt8)) : Prop := w.ownsRow base 9 1 v l.length (l.map sv)
theorem OwnT.one (w : World) (base : Nat) (x : List UInt8) (hb : base ≤ w.heap.size) : OwnT (w.alloc (.cells #[.string (str x)] 9)) base (.slice (some ⟨w.heap.size, 0, none⟩) 1 1) [x] :=
  World.ownsRow_lit w #[.string (str x)] 1 hb (by decide) rfl
theorem OwnT.blk {w : World} {base : Nat} {v : Value} {l : List (List UInt8)} (h : OwnT w base v l) : ∀ k, v.ownBlock = some k → base ≤ k ∧ k < w.heap.size := World.ownsRow.lt h
theorem OwnT.alloc {w : World} {base : Nat} {v : Value} {l : List (List UInt8)} (h : OwnT w base v l) (o : Obj) : OwnT (w.alloc o) base v l := World.ownsRow.alloc h o
theorem OwnT.form {w : World} {base : Nat} {v : Value} {l : List (List UInt8)} (h : OwnT w base v l) (hl : 0 < l.length) : ∃ g cap, v = .slice (some ⟨g, 0, none⟩) l.length cap ∧ base ≤ g ∧ g < w.heap.size := World.ownsRow.form h hl
theorem OwnT.cellAt {w : World} {base g cap n : Nat} {l : List (List UInt8)} (h : OwnT w base (.slice (some ⟨g, 0, none⟩) n cap) l) (hn : l.length = n) (j : Nat) (hj : j < n) : w.cell? ⟨g, j, none⟩ = some (.string (str (nthT l j))) := by
  subst hn
  rw [World.ownsRow.cellAt h j (by omega), sv_at l j hj]
theorem OwnT.frozenAt {w : World} {base g cap n : Nat} {l : List (List UInt8)} (h : OwnT w base (.slice (some ⟨g, 0, none⟩) n cap) l) (hn : l.length = n) (j : Nat) : w.frozen? ⟨g, j, none⟩ = false := by
  subst hn
  exact World.ownsRow.frozenAt h j
theorem OwnT.set {w : World} {base g cap n : Nat} {l : List (List UInt8)} (h : OwnT w base (.slice (some ⟨g, 0, none⟩) n cap) l) (hn : l.length = n) (j : Nat) (x : List UInt8) : OwnT (w.setCell ⟨g, j, none⟩ (.string (str x))) base (.slice (some ⟨g, 0, none⟩) n cap) (l.set j x) := by
  subst hn
  have := (World.ownsRow.stored h j (.string (str x))).1
  unfold OwnT
  rw [List.length_set, List.map_set]; exact this
theorem OwnT.cap {w : World} {base g cap n : Nat} {l : List (List UInt8)} (h : OwnT w base (.slice (some ⟨g, 0, none⟩) n cap) l) (hn : l.length = n) : n ≤ cap ∧ cap ≤ maxLen := by
  subst hn
  rcases h.2 with ⟨h', _⟩ | ⟨g', cap', cur, h', _, hg, h1, h2, _⟩
  · simp at h'
  · simp only [Value.slice.injEq, Option.some.injEq, Addr.mk.injEq, and_true, true_and] at h'
    obtain ⟨_, rfl⟩ := h'
    exact ⟨h1, h2⟩

/-- append(l, x), x a text -/
theorem list_appX {ops : Array Oper} {rest : List Oper} {o : Oper} {a : Act} {Q : Exit → Act → World → Prop} (w : World) (hgd : o.guard = none) (s x : Operand)
    (ho : o.op = .call { callee := .builtin .append, args := #[s, x], argTypes := #[26, 26] }) (base : Nat)
    (v : Value) (l : List (List UInt8)) (hs : a.eval s = v) (hown : OwnT w base v l) (B : Nat) (new : List UInt8) (hx : a.eval x = .slice (some ⟨B, 0, none⟩) 1 1)
    (hb : w.heap[B]? = some (.cells #[.string (str new)] 9 (0, 0))) (hbytes : (l.length + 1) * 16 ≤ 140737488355328) (hbase : base ≤ w.heap.size)
    (h : ∀ v' w', OwnT w' base v' (l ++ [new]) → w.grownBy w' v.ownBlock → wpList Tryz.prog ops Q rest (a.put o.dst v') w') :
    wpList Tryz.prog ops Q (o :: rest) a w := by
  obtain ⟨i0, hi, hz0, hz1, hz2⟩ := info_parts infoS
  refine wpList_append_own w hgd s x 26 ho base 9 i0 (.string ⟨#[]⟩) 1 16 Tryz.underlying26 hi hz0 hz1 hz2 rfl (by omega) v l.length (l.map sv) hs hown ⟨B, 0, none⟩ 1 1 [.string (str new)] hx rfl
    (fun j u hu => World.news_of_block hb j u (by simpa using hu)) (by intro u hu; rw [List.mem_singleton.1 hu]; rfl) (by unfold maxLen; omega) hbytes hbase ?_
  intro v' w' h1 h2 _
  exact h v' w' (by unfold OwnT; rw [List.map_append, List.length_append]; exact h1) h2
end Go.Proofs.YtgjmaeodgcigdaaGreatDoor
namespace Go.Proofs.YtgjmaeodgcigdaaGreatDoor

theorem bless_irrefl (x : List UInt8) : Op.bytesLess x x = false := by
  induction x with
  | nil => rfl
  | cons a x ih => rw [Op.bytesLess, ih]; simp
theorem bless_cons (a b : UInt8) (x y : List UInt8) : Op.bytesLess (a :: x) (b :: y) = (decide (a < b) || (a == b && Op.bytesLess x y)) := by rw [Op.bytesLess]
theorem bless_trans (x y z : List UInt8) (h1 : Op.bytesLess x y = true) (h2 : Op.bytesLess y z = true) : Op.bytesLess x z = true := by
  induction x generalizing y z with
  | nil =>
    cases y with
    | nil => exact absurd h1 (by decide)
    | cons b y =>
      cases z with
      | nil => exact absurd h2 (by simp [Op.bytesLess])
      | cons c z => rfl
  | cons a x ih =>
    cases y with
    | nil => exact absurd h1 (by simp [Op.bytesLess])
    | cons b y =>
      cases z with
      | nil => exact absurd h2 (by simp [Op.bytesLess])
      | cons c z =>
        rw [bless_cons] at h1 h2 ⊢
        rw [Bool.or_eq_true, Bool.and_eq_true, decide_eq_true_eq, beq_iff_eq] at h1 h2 ⊢
        rcases h1 with h1 | ⟨rfl, h1⟩
        · rcases h2 with h2 | ⟨rfl, h2⟩
          · exact .inl (UInt8.lt_trans h1 h2)
          · exact .inl h1
        · rcases h2 with h2 | ⟨rfl, h2⟩
          · exact .inl h2
          · exact .inr ⟨rfl, ih y z h1 h2⟩
theorem u8_tri (a b : UInt8) : a < b ∨ a = b ∨ b < a := by
  rcases Nat.lt_trichotomy a.toNat b.toNat with h | h | h
  · exact .inl (UInt8.lt_iff_toNat_lt.2 h)
  · exact .inr (.inl (UInt8.toNat_inj.1 h))
  · exact .inr (.inr (UInt8.lt_iff_toNat_lt.2 h))
theorem bless_total (x y : List UInt8) : Op.bytesLess x y = true ∨ x = y ∨ Op.bytesLess y x = true := by
  induction x generalizing y with
  | nil =>
    cases y with
    | nil => exact .inr (.inl rfl)
    | cons b y => exact .inl rfl
  | cons a x ih =>
    cases y with
    | nil => exact .inr (.inr rfl)
    | cons b y =>
      rw [bless_cons, bless_cons]
      rcases u8_tri a b with h | h | h
      · exact .inl (by simp [h])
      · subst h
        rcases ih y with h | h | h
        · exact .inl (by simp [h])
        · exact .inr (.inl (by rw [h]))
        · exact .inr (.inr (by simp [h]))
      · exact .inr (.inr (by simp [h]))

/-- greater, as Go has it: not less, and not the same -/
def bgt (x y : List UInt8) : Bool := !(Op.bytesLess x y || x == y)
theorem bgt_iff (x y : List UInt8) : bgt x y = Op.bytesLess y x := by
  unfold bgt
  rcases bless_total x y with h | h | h
  · rw [h]
    cases h2 : Op.bytesLess y x with
    | false => rfl
    | true => have := bless_trans x y x h h2; rw [bless_irrefl] at this; cases this
  · subst h; rw [bless_irrefl]; simp
  · rw [h]
    have hn : Op.bytesLess x y = false := by
      cases h2 : Op.bytesLess x y with
      | false => rfl
      | true => have := bless_trans x y x h2 h; rw [bless_irrefl] at this; cases this
    rw [hn]
    have : (x == y) = false := by
      rw [beq_eq_false_iff_ne]; rintro rfl; rw [bless_irrefl] at h; cases h
    rw [this]; rfl
theorem less_no {x y : List UInt8} (h : Op.bytesLess y x = true) : Op.bytesLess x y = false := by
  cases h2 : Op.bytesLess x y with
  | false => rfl
  | true => have := bless_trans x y x h2 h; rw [bless_irrefl] at this; cases this
theorem less_ne {x y : List UInt8} (h : Op.bytesLess y x = true) : (x == y) = false := by
  rw [beq_eq_false_iff_ne]; rintro rfl; rw [bless_irrefl] at h; cases h
theorem less_yes {x y : List UInt8} (h1 : ¬ Op.bytesLess y x = true) (h2 : ¬ x = y) : Op.bytesLess x y = true := by
  rcases bless_total x y with h | h | h
  · exact h
  · exact absurd h h2
  · exact absurd h h1
/-- the order of pairs: by names, then values -/
def gtP (p q : Pr) : Bool := bgt p.1 q.1 || (p.1 == q.1 && bgt p.2 q.2)
def leP (p q : Pr) : Bool := !gtP p q
theorem gtP_irrefl (p : Pr) : gtP p p = false := by unfold gtP; rw [bgt_iff, bgt_iff, bless_irrefl, bless_irrefl]; simp
theorem gtP_iff (p q : Pr) : gtP p q = true ↔ (Op.bytesLess q.1 p.1 = true ∨ (p.1 = q.1 ∧ Op.bytesLess q.2 p.2 = true)) := by
  unfold gtP; rw [bgt_iff, bgt_iff, Bool.or_eq_true, Bool.and_eq_true, beq_iff_eq]
theorem gtP_trans (p q r : Pr) (h1 : gtP p q = true) (h2 : gtP q r = true) : gtP p r = true := by
  rw [gtP_iff] at *
  rcases h1 with h1 | ⟨e1, h1⟩
  · rcases h2 with h2 | ⟨e2, h2⟩
    · exact .inl (bless_trans _ _ _ h2 h1)
    · exact .inl (by rw [← e2]; exact h1)
  · rcases h2 with h2 | ⟨e2, h2⟩
    · exact .inl (by rw [e1]; exact h2)
    · exact .inr ⟨e1.trans e2, bless_trans _ _ _ h2 h1⟩
theorem gtP_total (p q : Pr) : gtP p q = true ∨ p = q ∨ gtP q p = true := by
  rw [gtP_iff, gtP_iff]
  rcases bless_total p.1 q.1 with h | h | h
  · exact .inr (.inr (.inl h))
  · rcases bless_total p.2 q.2 with h2 | h2 | h2
    · exact .inr (.inr (.inr ⟨h.symm, h2⟩))
    · exact .inr (.inl (Prod.ext h h2))
    · exact .inl (.inr ⟨h, h2⟩)
  · exact .inl (.inl h)
theorem leP_iff (p q : Pr) : leP p q = true ↔ (p = q ∨ gtP q p = true) := by
  unfold leP
  constructor
  · intro h
    rcases gtP_total p q with h1 | h1 | h1
    · rw [h1] at h; cases h
    · exact .inl h1
    · exact .inr h1
  · rintro (rfl | h)
    · rw [gtP_irrefl]; rfl
    · cases h2 : gtP p q with
      | false => rfl
      | true => have := gtP_trans p q p h2 h; rw [gtP_irrefl] at this; cases this
theorem leP_trans (p q r : Pr) (h1 : leP p q = true) (h2 : leP q r = true) : leP p r = true := by
  rw [leP_iff] at *
  rcases h1 with rfl | h1
  · exact h2
  · rcases h2 with rfl | h2
    · exact .inr h1
    · exact .inr (gtP_trans _ _ _ h2 h1)
theorem leP_antisymm (p q : Pr) (h1 : leP p q = true) (h2 : leP q p = true) : p = q := by
  rw [leP_iff] at *
  rcases h1 with h1 | h1
  · exact h1
  · rcases h2 with h2 | h2
    · exact h2.symm
    · have := gtP_trans _ _ _ h1 h2; rw [gtP_irrefl] at this; cases this
theorem leP_total (p q : Pr) : leP p q = true ∨ leP q p = true := by
  rw [leP_iff, leP_iff]
  rcases gtP_total p q with h | h | h
  · exact .inr (.inr h)
  · exact .inl (.inl h)
  · exact .inl (.inr h)

/-- sorted lists of the same pairs are the same -/
theorem sorted_one {l m : List Pr} (hp : l.Perm m) (hl : l.Pairwise (fun a b => leP a b = true)) (hm : m.Pairwise (fun a b => leP a b = true)) : l = m :=
  hp.eq_of_pairwise (fun a b _ _ h1 h2 => leP_antisymm a b h1 h2) hl hm

/-- where a pair comes to stand, from behind -/
def insK (out : List Pr) (p : Pr) : Nat → Nat
  | 0 => 0
  | k + 1 => if gtP (nthP out k) p then insK out p k else k + 1
def insP (out : List Pr) (p : Pr) : List Pr := out.take (insK out p out.length) ++ p :: out.drop (insK out p out.length)
theorem insK_le (out : List Pr) (p : Pr) (k : Nat) : insK out p k ≤ k := by
  induction k with
  | zero => exact Nat.le_refl _
  | succ k ih => rw [insK]; split <;> omega
theorem insP_perm (out : List Pr) (p : Pr) : (insP out p).Perm (p :: out) := by
  unfold insP
  refine List.perm_middle.trans ?_
  rw [List.take_append_drop]
theorem insP_length (out : List Pr) (p : Pr) : (insP out p).length = out.length + 1 := (insP_perm out p).length_eq
/-- ahead of it none is greater; behind it all are -/
theorem insK_ahead (out : List Pr) (p : Pr) (k : Nat) (h : 0 < insK out p k) : gtP (nthP out (insK out p k - 1)) p = false := by
  induction k with
  | zero => exact absurd h (Nat.lt_irrefl 0)
  | succ k ih =>
    rw [insK] at h ⊢
    by_cases hg : gtP (nthP out k) p = true
    · rw [if_pos hg] at h ⊢; exact ih h
    · rw [if_neg hg]; simpa using hg
theorem insK_behind (out : List Pr) (p : Pr) (k i : Nat) (h1 : insK out p k ≤ i) (h2 : i < k) : gtP (nthP out i) p = true := by
  induction k with
  | zero => omega
  | succ k ih =>
    rw [insK] at h1
    by_cases hg : gtP (nthP out k) p = true
    · rw [if_pos hg] at h1
      rcases Nat.lt_or_ge i k with h | h
      · exact ih h1 h
      · have : i = k := by omega
        subst this; exact hg
    · rw [if_neg hg] at h1; omega
theorem insP_sorted (out : List Pr) (p : Pr) (h : out.Pairwise (fun a b => leP a b = true)) : (insP out p).Pairwise (fun a b => leP a b = true) := by
  have hk := insK_le out p out.length
  unfold insP
  rw [List.pairwise_append]
  have h' := h
  rw [← List.take_append_drop (insK out p out.length) out, List.pairwise_append] at h'
  obtain ⟨s1, s2, s3⟩ := h'
  have behind : ∀ q ∈ out.drop (insK out p out.length), leP p q = true := by
    intro q hq
    obtain ⟨i, hi, rfl⟩ := List.getElem_of_mem hq
    rw [List.length_drop] at hi
    have := insK_behind out p out.length (insK out p out.length + i) (by omega) (by omega)
    rw [List.getElem_drop]
    rw [nthP_eq _ _ (by omega)] at this
    exact (leP_iff _ _).2 (.inr this)
  have ahead : ∀ q ∈ out.take (insK out p out.length), leP q p = true := by
    intro q hq
    obtain ⟨i, hi, rfl⟩ := List.getElem_of_mem hq
    rw [List.length_take] at hi
    have h0 : 0 < insK out p out.length := by omega
    have hl := insK_ahead out p out.length h0
    rw [nthP_eq _ _ (by omega)] at hl
    have hle : leP (out[insK out p out.length - 1]'(by omega)) p = true := by unfold leP; rw [hl]; rfl
    rw [List.getElem_take]
    rcases Nat.lt_or_ge i (insK out p out.length - 1) with hlt | hge
    · exact leP_trans _ _ _ (List.pairwise_iff_getElem.1 h i (insK out p out.length - 1) (by omega) (by omega) hlt) hle
    · have : i = insK out p out.length - 1 := by omega
      subst this; exact hle
  refine ⟨s1, List.pairwise_cons.2 ⟨behind, s2⟩, fun a ha b hb => ?_⟩
  rcases List.mem_cons.1 hb with rfl | hb
  · exact ahead a ha
  · exact s3 a ha b hb

/-- a pair, encoded; pairs, encoded and sorted -/
def encP (p : Pr) : Pr := (encL false p.1, encL false p.2)
def sortL (l : List Pr) : List Pr := l.foldl (fun out p => insP out (encP p)) []
theorem sortL_snoc (l : List Pr) (p : Pr) : sortL (l ++ [p]) = insP (sortL l) (encP p) := by unfold sortL; rw [List.foldl_append]; rfl
theorem take_nthP (l : List Pr) (k : Nat) (h : k < l.length) : l.take (k + 1) = l.take k ++ [nthP l k] := by
  rw [nthP_eq l k h, ← List.take_append_getElem h]
theorem sortL_take (l : List Pr) (k : Nat) (h : k < l.length) : sortL (l.take (k + 1)) = insP (sortL (l.take k)) (encP (nthP l k)) := by
  rw [take_nthP l k h, sortL_snoc]
theorem sort_all (l : List Pr) : ∀ acc : List Pr, acc.Pairwise (fun a b => leP a b = true) → (l.foldl (fun out p => insP out (encP p)) acc).Pairwise (fun a b => leP a b = true) ∧ (l.foldl (fun out p => insP out (encP p)) acc).Perm (acc ++ l.map encP) := by
  induction l with
  | nil => intro acc h; exact ⟨h, by simp⟩
  | cons p l ih =>
    intro acc h
    obtain ⟨h1, h2⟩ := ih (insP acc (encP p)) (insP_sorted acc (encP p) h)
    refine ⟨h1, h2.trans ?_⟩
    have h3 := (insP_perm acc (encP p)).append_right (l.map encP)
    refine h3.trans ?_
    rw [List.map_cons]
    exact (List.perm_middle (a := encP p) (l₁ := acc) (l₂ := l.map encP)).symm
theorem sortL_sorted (l : List Pr) : (sortL l).Pairwise (fun a b => leP a b = true) := (sort_all l [] List.Pairwise.nil).1
theorem sortL_perm (l : List Pr) : (sortL l).Perm (l.map encP) := (sort_all l [] List.Pairwise.nil).2
theorem sortL_length (l : List Pr) : (sortL l).length = l.length := by rw [(sortL_perm l).length_eq, List.length_map]
/-- the text of pairs -/
def joinK (l : List Pr) : Nat → List UInt8
  | 0 => []
  | k + 1 => joinK l k ++ (if 0 < k then [38] else []) ++ (nthP l k).1 ++ [61] ++ (nthP l k).2
def joinL (l : List Pr) : List UInt8 := joinK l l.length
def canonL (l : List Pr) : List UInt8 := joinL (sortL l)
/-- it hangs on no order -/
theorem canonL_perm {l m : List Pr} (h : l.Perm m) : canonL l = canonL m := by
  unfold canonL
  rw [sorted_one ((sortL_perm l).trans ((h.map encP).trans (sortL_perm m).symm)) (sortL_sorted l) (sortL_sorted m)]
end Go.Proofs.YtgjmaeodgcigdaaGreatDoor
