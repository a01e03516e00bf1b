/- The document's Next, once more: how long what it gives stays. · AuditVerifies: the walk. · Rows of records that the call made: appends, cuts; a row that came in as a source. -/
import Derived.Test.YtbclhaleibjkgabAu3b
import Derived.Test.YtbclhaleibjkgabAu20
import Derived.Test.YtbclhaleibjkgabAu12
import Derived.Test.YtbclhaleibjkgabB43
import Derived.Test.YtbclhaleibjkgabB36
import Derived.Deep.CutBlock
import Derived.Laws.AppendOwnNone
namespace Go.Proofs.Ytbclhaleibjkgab
open Go.RowKit

/-- what it gives stays as long as the record's own sum does, and rows of bytes do -/
def NxPostE (w : World) (l : List Rc) (r : Rc) (q : RcA) (e : Ending) (w' : World) : Prop := ∃ p, e = .returned (.agg (rcc (nextRc l r) p).toArray) ∧ (∀ V, IsB V q.a r.sum.length q.c r.sum → KeepO [5] w' V → IsRec V (nextRc l r) p) ∧ Below w.heap.size w w'
theorem nx_nilE14 {w w' : World} {r : Rc} {c : Option Addr} {d : Nat} {b : Option Addr} {m : Nat} (hN : RcN r) (hb : Below w.heap.size w w') :
    NxPostE w [] r ⟨c, d, b, m⟩ (.returned (.agg #[.int .u64 1, .int .u64 (r.clk : Int), .string r.who, .int .i64 r.kind, .string r.bkt, .string r.key, .int .u64 (r.ver : Int), .int .i64 r.err, .slice c r.sum.length d, .slice none 0 0])) w' :=
  ⟨⟨c, d, none, 0⟩, rfl, fun V hV _ => ⟨hV, isB_none V, ⟨by show (1 : Nat) < _; decide, hN.clk, hN.ver, hN.kind0, hN.kind1, hN.err0, hN.err1⟩⟩, hb⟩
theorem nx_consE14 {w w' : World} {l : List Rc} {x r : Rc} (hl : l.getLast? = some x) {c : Option Addr} {d : Nat} {b : Option Addr} {m : Nat} {s : Int} (hs : s = (((x.seq + 1) % 18446744073709551616 : Nat) : Int)) {v : Value} (hv : OwnB w' w.heap.size v (digRc x)) (hN : RcN r) (hb : Below w.heap.size w w') :
    NxPostE w l r ⟨c, d, b, m⟩ (.returned (.agg #[.int .u64 s, .int .u64 (r.clk : Int), .string r.who, .int .i64 r.kind, .string r.bkt, .string r.key, .int .u64 (r.ver : Int), .int .i64 r.err, .slice c r.sum.length d, v])) w' := by
  obtain ⟨va, vc, rfl, hi⟩ := hv.isB
  subst hs
  have e : nextRc l r = { r with seq := (x.seq + 1) % 18446744073709551616, prev := digRc x } := by unfold nextRc; rw [hl]
  refine ⟨⟨c, d, va, vc⟩, ?_, fun V hV hk => ?_, hb⟩
  · rw [e]; rfl
  · rw [e]
    exact ⟨hV, IsV.toB (OwnB.isV (own_keepO (us := [5]) hk hv (by decide))), ⟨Nat.mod_lt _ (by decide), hN.clk, hN.ver, hN.kind0, hN.kind1, hN.err0, hN.err1⟩⟩
set_option maxRecDepth 20000 in
set_option maxHeartbeats 2000000 in
theorem refNextE14 (a : Option Addr) (n cap : Nat) (l : List Rq14) (r : Rc) (q : RcA) (w : World) (h : IsRl w a n l) (hr : IsRec w r q) (hs : ∀ x ∈ l, rcLen x.1 ≤ 20000) (hn : n ≤ 1000000) :
    Calls Try.prog 16 #[.slice a n cap, .agg (rcc r q).toArray] w fun e w' => NxPostE w (l.map Prod.fst) r q e w' := by
  have hN := mkHid hr.num
  clear hr
  obtain ⟨rseq, rclk, rwho, rkind, rbkt, rkey, rver, rerr, rsum, rprev⟩ := r
  obtain ⟨qa, qc, qb, qd⟩ := q
  cases n with
  | zero =>
    have hl : l = [] := List.length_eq_zero_iff.1 h.len
    subst hl
    clear h hs hn
    simp only [rcc]
    go_enter Try.func16, Try.ntmps16
    go_wp2_with fail
    refine bodyPost_ret (results_cellrow (P := Try.prog) rfl _ _ (w.heap.size + 1) 29 _ (0, 0) _ rfl (Blk.newAt _ (w.heap.size + 1) _ _ [_, _, _, _, _, _, _, _, _, _] (World.size_alloc _ _) rfl) Try.underlying29 rfl (by kernel_rfl)) rfl ?_
    have hb := ((Below.refl _ w).alloc (Nat.le_refl _) (.cells #[.int .u64 1, .int .u64 (rclk : Int), .string rwho, .int .i64 rkind, .string rbkt, .string rkey, .int .u64 (rver : Int), .int .i64 rerr, .slice qa rsum.length qc, .slice none 0 0] 29)).alloc (by simp) (.cells #[.int .u64 1, .int .u64 (rclk : Int), .string rwho, .int .i64 rkind, .string rbkt, .string rkey, .int .u64 (rver : Int), .int .i64 rerr, .slice qa rsum.length qc, .slice none 0 0] 29)
    exact nx_nilE14 hN.out hb
  | succ m =>
    obtain ⟨g, off, rfl, hc⟩ := h.cells (by omega)
    obtain ⟨x, hx⟩ : ∃ x, l[m]? = some x := ⟨l[m]'(by have := h.len; omega), List.getElem?_eq_getElem _⟩
    have HL := mkHid (last14 h.len hx)
    have hC := hc m x hx
    have hlen : rcLen x.1 ≤ 20000 := hs x (List.mem_of_getElem? hx)
    have hX := h.recs x (List.mem_of_getElem? hx)
    have HD : ∀ W, Below w.heap.size w W → Calls Try.prog 17 #[.agg (rcc x.1 x.2).toArray] W fun e w' => ∃ v, e = .returned v ∧ OwnB w' W.heap.size v (digRc x.1) ∧ Below W.heap.size W w' := fun W hW => refDigest14 x.1 x.2 W (hX.below hW) hlen
    have HC : ∀ W, Below w.heap.size w W → W.rangeAt g (off + m * 10) (rcc x.1 x.2) := fun W hW => range_below14 hC hW
    have HI := info14 x.1 x.2
    clear hC hlen hX hs hc hx h
    generalize l.map Prod.fst = L at *
    obtain ⟨⟨xseq, xclk, xwho, xkind, xbkt, xkey, xver, xerr, xsum, xprev⟩, ⟨xa, xc, xb, xd⟩⟩ := x
    have hsub : ((m + 1 : Nat) : Int) - 1 = (m : Int) := by omega
    have hpos : (0 : Int) < ((m + 1 : Nat) : Int) := by omega
    simp only [rcc] at *
    go_enter Try.func16, Try.ntmps16
    go_wp2_with (first | (refine wpList_load_mid rfl 29 _ rfl g (off + m * 10) rfl _ _ (HC _ (((Below.refl _ w).alloc (Nat.le_refl _) _).alloc (by simp) _)) Try.underlying29 rfl HI ?_))
    have HBW := mkHid ((((Below.refl _ w).alloc (Nat.le_refl _) (.cells #[.int .u64 (IntKind.u64.wrap ((xseq : Int) + 1)), .int .u64 (rclk : Int), .string rwho, .int .i64 rkind, .string rbkt, .string rkey, .int .u64 (rver : Int), .int .i64 rerr, .slice qa rsum.length qc, .slice none 0 0] 29)).alloc (by simp) (.cells #[.int .u64 0, .int .u64 0, .string { data := #[] }, .int .i64 0, .string { data := #[] }, .string { data := #[] }, .int .u64 0, .int .i64 0, .slice none 0 0, .slice none 0 0] 29)).alloc (by simp; omega) (.cells #[.int .u64 (xseq : Int), .int .u64 (xclk : Int), .string xwho, .int .i64 xkind, .string xbkt, .string xkey, .int .u64 (xver : Int), .int .i64 xerr, .slice xa xsum.length xc, .slice xb xprev.length xd] 29))
    have HK0 := mkHid (((Blk.new w 29 [.int .u64 (IntKind.u64.wrap ((xseq : Int) + 1)), .int .u64 (rclk : Int), .string rwho, .int .i64 rkind, .string rbkt, .string rkey, .int .u64 (rver : Int), .int .i64 rerr, .slice qa rsum.length qc, .slice none 0 0]).alloc (.cells #[.int .u64 0, .int .u64 0, .string { data := #[] }, .int .i64 0, .string { data := #[] }, .string { data := #[] }, .int .u64 0, .int .i64 0, .slice none 0 0, .slice none 0 0] 29)).alloc (.cells #[.int .u64 (xseq : Int), .int .u64 (xclk : Int), .string xwho, .int .i64 xkind, .string xbkt, .string xkey, .int .u64 (xver : Int), .int .i64 xerr, .slice xa xsum.length xc, .slice xb xprev.length xd] 29))
    have HR0 := mkHid ((Blk.newAt (w.alloc (.cells #[.int .u64 (IntKind.u64.wrap ((xseq : Int) + 1)), .int .u64 (rclk : Int), .string rwho, .int .i64 rkind, .string rbkt, .string rkey, .int .u64 (rver : Int), .int .i64 rerr, .slice qa rsum.length qc, .slice none 0 0] 29)) (w.heap.size + 1) 29 _ [.int .u64 0, .int .u64 0, .string { data := #[] }, .int .i64 0, .string { data := #[] }, .string { data := #[] }, .int .u64 0, .int .i64 0, .slice none 0 0, .slice none 0 0] (World.size_alloc _ _) rfl).alloc (.cells #[.int .u64 (xseq : Int), .int .u64 (xclk : Int), .string xwho, .int .i64 xkind, .string xbkt, .string xkey, .int .u64 (xver : Int), .int .i64 xerr, .slice xa xsum.length xc, .slice xb xprev.length xd] 29))
    clear HC HI hpos hsub
    generalize World.alloc _ _ = Y at *
    refine (HD Y HBW.out).mono ?_
    rintro e y1 ⟨v, rfl, ho, hb⟩
    have HB1 := mkHid (HBW.out.trans (hb.mono HBW.out.size))
    have HO1 := mkHid (ho.base HBW.out.size)
    have HK1 := HK0.out.on hb
    have HR1 := HR0.out.on hb
    clear ho hb HD HBW HK0 HR0
    obtain ⟨va, vc, rfl, hi⟩ := HO1.out.isB
    generalize (digRc ⟨xseq, xclk, xwho, xkind, xbkt, xkey, xver, xerr, xsum, xprev⟩).length = dl at *
    have HK2 := mkHid (HK1.set 9 (.slice va dl vc))
    have HR2 := mkHid (HR1.other ⟨w.heap.size, 9, none⟩ (.slice va dl vc) (by show w.heap.size + 1 ≠ w.heap.size; omega))
    have c9 := HK1.cell 9
    have f9 := HK1.frozen 9
    simp only [List.getElem?_cons_zero, List.getElem?_cons_succ, List.set_cons_succ, List.set_cons_zero] at c9 HK2
    have HBs := mkHid (HB1.out.setCell (p := ⟨w.heap.size, 9, none⟩) (Nat.le_refl _) (.slice va dl vc))
    have HKt := mkHid (((KeepT.refl [29] y1).set HK1 (by decide) 9 (.slice va dl vc)).row14 HR2.out (by decide) #[.int .u64 (IntKind.u64.wrap ((xseq : Int) + 1)), .int .u64 (rclk : Int), .string rwho, .int .i64 rkind, .string rbkt, .string rkey, .int .u64 (rver : Int), .int .i64 rerr, .slice qa rsum.length qc, .slice va dl vc])
    clear HK1 HR1 hi HB1
    go_wp2_with (first | (refine wpList_load_row rfl 29 _ rfl _ rfl _ _ _ _ HK2.out Try.underlying29 rfl (by kernel_rfl) ?_) | (refine wpList_store_row rfl 29 _ _ rfl (w.heap.size + 1) #[.int .u64 (IntKind.u64.wrap ((xseq : Int) + 1)), .int .u64 (rclk : Int), .string rwho, .int .i64 rkind, .string rbkt, .string rkey, .int .u64 (rver : Int), .int .i64 rerr, .slice qa rsum.length qc, .slice va dl vc] rfl rfl _ _ HR2.out (by kernel_rfl) rfl (one14 _ _ _ _ _ _ _ _ _ _ _ _ _ _) ?_))
    have HBr := bel_row HBs.out (Nat.le_succ _) #[.int .u64 (IntKind.u64.wrap ((xseq : Int) + 1)), .int .u64 (rclk : Int), .string rwho, .int .i64 rkind, .string rbkt, .string rkey, .int .u64 (rver : Int), .int .i64 rerr, .slice qa rsum.length qc, .slice va dl vc]
    refine bodyPost_ret (results_cellrow (P := Try.prog) rfl _ _ (w.heap.size + 1) 29 _ (0, 0) _ rfl (HR2.out.row [_, _, _, _, _, _, _, _, _, _]) Try.underlying29 rfl (by kernel_rfl)) rfl ?_
    exact nx_consE14 HL.out (mod14 xseq) (own_keepR14 HO1.out HKt.out) hN.out HBr
end Go.Proofs.Ytbclhaleibjkgab
namespace Go.Proofs.Ytbclhaleibjkgab
open Go.RowKit

theorem light_of14 {l : List Rq14} (h : lightR (l.map Prod.fst) = true) : (∀ x ∈ l, rcLen x.1 ≤ 20000) ∧ l.length ≤ 100 := by
  obtain ⟨h1, h2⟩ := light_len h
  exact ⟨fun x hx => h1 x.1 (List.mem_map.2 ⟨x, hx, rfl⟩), by rw [List.length_map] at h2; exact h2⟩
attribute [local go_sem] undef
end Go.Proofs.Ytbclhaleibjkgab
namespace Go.Proofs.Ytbclhaleibjkgab
open Go.RowKit

def rcs : List Rq14 → List Value
  | [] => []
  | x :: l => rcc x.1 x.2 ++ rcs l
theorem rcc_lenP (x : Rq14) : (rcc x.1 x.2).length = 10 := rfl
theorem rcs_length (l : List Rq14) : (rcs l).length = l.length * 10 := by
  induction l with
  | nil => rfl
  | cons x l ih => rw [rcs, List.length_append, ih, rcc_lenP, List.length_cons]; omega
theorem rcs_append (l m : List Rq14) : rcs (l ++ m) = rcs l ++ rcs m := by
  induction l with
  | nil => rfl
  | cons x l ih => rw [List.cons_append, rcs, rcs, ih, List.append_assoc]
theorem rcs_take (l : List Rq14) (k : Nat) : rcs (l.take k) = (rcs l).take (k * 10) := by
  induction k generalizing l with
  | zero => rfl
  | succ k ih =>
    cases l with
    | nil => rfl
    | cons x l =>
      rw [List.take_succ_cons, rcs, rcs, ih, List.take_append, rcc_lenP, List.take_of_length_le (l := rcc x.1 x.2) (by rw [rcc_lenP]; omega), show (k + 1) * 10 - 10 = k * 10 by omega]
theorem rcs_drop (l : List Rq14) (k : Nat) : rcs (l.drop k) = (rcs l).drop (k * 10) := by
  induction k generalizing l with
  | zero => rfl
  | succ k ih =>
    cases l with
    | nil => rfl
    | cons x l =>
      rw [List.drop_succ_cons, rcs, ih, List.drop_append, rcc_lenP, List.drop_of_length_le (l := rcc x.1 x.2) (by rw [rcc_lenP]; omega), List.nil_append, show (k + 1) * 10 - 10 = k * 10 by omega]
theorem rcs_at (l : List Rq14) (k j : Nat) (hk : k < l.length) (hj : j < 10) : (rcs l)[k * 10 + j]? = (rcc (l[k]).1 (l[k]).2)[j]? := by
  have e : (rcs l)[k * 10 + j]? = ((rcs l).drop (k * 10))[j]? := by rw [List.getElem?_drop]
  rw [e, ← rcs_drop, List.drop_eq_getElem_cons hk, rcs, List.getElem?_append_left (by rw [rcc_lenP]; exact hj)]
theorem rcs_one (l : List Rq14) : ∀ u ∈ rcs l, u.oneCell' = true := by
  induction l with
  | nil => intro u hu; cases hu
  | cons x l ih =>
    intro u hu
    rw [rcs] at hu
    rcases List.mem_append.1 hu with hu | hu
    · unfold rcc at hu
      simp only [List.mem_cons, List.not_mem_nil, or_false] at hu
      rcases hu with rfl | rfl | rfl | rfl | rfl | rfl | rfl | rfl | rfl | rfl <;> rfl
    · exact ih u hu
def OwnRc (w : World) (base : Nat) (v : Value) (l : List Rq14) : Prop := w.ownsRow base 29 10 v l.length (rcs l)
theorem OwnRc.nil (w : World) (base : Nat) : OwnRc w base (.slice none 0 0) [] := World.ownsRow_nil _ _ _ _
theorem OwnRc.empty (w : World) (base : Nat) (hb : base ≤ w.heap.size) : OwnRc (w.alloc (.cells #[] 29)) base (.slice (some ⟨w.heap.size, 0, none⟩) 0 0) [] :=
  World.ownsRow_made w #[] 0 hb (Nat.zero_le _) rfl
theorem OwnRc.on {w w' : World} {base : Nat} {v : Value} {l : List Rq14} (h : OwnRc w base v l) (hb : Below w.heap.size w w') : OwnRc w' base v l := own_keepO (us := [29]) (KeepO.of_below hb) h (by decide)
theorem OwnRc.form {w : World} {base : Nat} {v : Value} {l : List Rq14} (h : OwnRc w base v l) : ∃ a cap, v = .slice a l.length cap ∧ l.length ≤ cap ∧ (a = none ∨ ∃ g, a = some ⟨g, 0, none⟩) ∧
    (0 < l.length → ∃ g, a = some ⟨g, 0, none⟩ ∧ base ≤ g ∧ g < w.heap.size ∧ ∀ k (hk : k < l.length), ∀ j, j < 10 → w.cell? ⟨g, k * 10 + j, none⟩ = (rcc (l[k]).1 (l[k]).2)[j]?) := by
  obtain ⟨h1, h2⟩ := h
  rcases h2 with ⟨rfl, h0⟩ | ⟨g, cap, cur, rfl, hb, hg, hle, hmax, hsz, htk⟩
  · have : l = [] := List.eq_nil_of_length_eq_zero h0
    subst this
    exact ⟨none, 0, rfl, Nat.le_refl _, .inl rfl, fun h => absurd h (Nat.lt_irrefl 0)⟩
  · refine ⟨_, cap, rfl, hle, .inr ⟨g, rfl⟩, fun hp => ⟨g, rfl, hb, (Array.getElem?_eq_some_iff.1 hg).1, fun k hk j hj => ?_⟩⟩
    have hown : w.ownsRow base 29 10 (.slice (some ⟨g, 0, none⟩) l.length cap) l.length (rcs l) := ⟨h1, .inr ⟨g, cap, cur, rfl, hb, hg, hle, hmax, hsz, htk⟩⟩
    rw [World.ownsRow.cellAt hown (k * 10 + j) (by omega), rcs_at l k j hk hj]
theorem OwnRc.at_ {w : World} {base n cap : Nat} {a : Option Addr} {ls : List Rq14} (h : OwnRc w base (.slice a n cap) ls) (k : Nat) (hk : k < ls.length) : ∃ g, a = some ⟨g, 0, none⟩ ∧ base ≤ g ∧ g < w.heap.size ∧ ∀ j, j < 10 → w.cell? ⟨g, k * 10 + j, none⟩ = (rcc (ls[k]).1 (ls[k]).2)[j]? := by
  obtain ⟨a', c', e, _, _, hr⟩ := h.form
  injection e with e1 e2 e3
  obtain ⟨g, e4, h1, h2, h3⟩ := hr (by omega)
  exact ⟨g, e1.trans e4, h1, h2, fun j hj => h3 k hk j hj⟩
theorem KeepT.grownRc {w w' : World} {base : Nat} {v : Value} {l : List Rq14} (ho : OwnRc w base v l) (hg : w.grownBy w' v.ownBlock) : KeepT [29] w w' :=
  ⟨hg.size, fun k o hk hno => by
    refine (hg.block k (Array.getElem?_eq_some_iff.1 hk).1 (fun eb => ?_)).trans hk
    rcases ho.2 with ⟨rfl, _⟩ | ⟨g, cap, cur, rfl, _, hgb, _⟩
    · simp [Value.ownBlock] at eb
    · have hkg : k = g := by simpa [Value.ownBlock] using eb
      subst hkg
      have : o = .cells cur 29 (0, 0) := Option.some.inj (hk.symm.trans hgb)
      exact hno _ _ _ this (by decide)⟩
/-- refs that can be appended -/
structure SrcRc (w : World) (sa : Option Addr) (m c : Nat) (l : List Rq14) : Prop where
  len : l.length = m
  nil : sa = none → m = 0 ∧ c = 0
  cells : ∀ ad, sa = some ad → ∀ j u, (rcs l)[j]? = some u → w.cell? (ad.add j) = some u
def cutRc (a : Option Addr) (cap k : Nat) : Option Addr := if cap = k then a else a.map (·.add (k * 10))
theorem OwnRc.src {w : World} {base : Nat} {a : Option Addr} {n cap : Nat} {ls : List Rq14} (h : OwnRc w base (.slice a n cap) ls) (hn : n = ls.length) (k : Nat) (hk : k ≤ n) :
    SrcRc w a k cap (ls.take k) ∧ SrcRc w (cutRc a cap k) (n - k) (cap - k) (ls.drop k) := by
  subst hn
  rcases h.2 with ⟨h1, h2⟩ | ⟨g, cap', cur, h3, h4, h5, hle, h7⟩
  · injection h1 with e1 e2 e3
    subst e1 e3
    have hk0 : k = 0 := by omega
    subst hk0
    have hl : ls = [] := List.eq_nil_of_length_eq_zero e2
    subst hl
    exact ⟨⟨rfl, fun _ => ⟨rfl, rfl⟩, fun ad e => by cases e⟩, ⟨rfl, fun _ => ⟨rfl, rfl⟩, fun ad e => by cases e⟩⟩
  · injection h3 with e1 e2 e3
    subst e1 e3
    refine ⟨⟨by rw [List.length_take]; omega, (fun e => by cases e), fun ad e j u hu => ?_⟩, ⟨by rw [List.length_drop], fun e => ?_, fun ad e j u hu => ?_⟩⟩
    · obtain rfl := Option.some.inj e
      rw [rcs_take] at hu
      have hj : j < k * 10 := by
        have := (List.getElem?_eq_some_iff.1 hu).1
        rw [List.length_take] at this; omega
      rw [List.getElem?_take_of_lt hj] at hu
      exact World.ownsRow.cells h (g := g) rfl j u hu
    · unfold cutRc at e
      split at e
      · cases e
      · cases e
    · rw [rcs_drop, List.getElem?_drop] at hu
      unfold cutRc at e
      split at e
      · rename_i hc
        have := (List.getElem?_eq_some_iff.1 hu).1
        rw [rcs_length] at this
        omega
      · have e2 := Option.some.inj e
        rw [← e2]
        show w.cell? (((⟨g, 0, none⟩ : Addr).add (k * 10)).add j) = some u
        rw [Addr.add_lit, Addr.add_lit]
        have := World.ownsRow.cells h (g := g) rfl (k * 10 + j) u hu
        rw [Addr.add_lit] at this
        rw [show 0 + k * 10 + j = 0 + (k * 10 + j) by omega]
        exact this
theorem SrcRc.below {w w' : World} {sa : Option Addr} {m c : Nat} {l : List Rq14} (h : SrcRc w sa m c l) (hb : Below w.heap.size w w') : SrcRc w' sa m c l :=
  ⟨h.len, h.nil, fun ad e j u hu => by have := h.cells ad e j u hu; exact (hb.cell (cell_lt this)).trans this⟩
def rcZ : Value := .agg #[.int .u64 0, .int .u64 0, .string { data := #[] }, .int .i64 0, .string { data := #[] }, .string { data := #[] }, .int .u64 0, .int .i64 0, .slice none 0 0, .slice none 0 0]
theorem infoRc : (Try.prog.info? 29).map (fun i => (i.zero, i.size, i.bytes)) = some (some rcZ, 10, 136) := by kernel_rfl
/-- append(l, r) -/
theorem list_appRc {ops : Array Oper} {rest : List Oper} {o : Oper} {a : Act} {Q : Exit → Act → World → Prop} (w : World) (hgd : o.guard = none) (s x : Operand)
    (ho : o.op = .call { callee := .builtin .append, args := #[s, x], argTypes := #[22, 22] }) (base : Nat)
    (v : Value) (l : List Rq14) (hs : a.eval s = v) (hown : OwnRc w base v l) (B : Nat) (g : Rq14) (hx : a.eval x = .slice (some ⟨B, 0, none⟩) 1 1)
    (hb : w.heap[B]? = some (.cells (rcc g.1 g.2).toArray 29 (0, 0))) (hle : (l.length + 1) * 136 ≤ 140737488355328) (hbase : base ≤ w.heap.size)
    (h : ∀ v' w', OwnRc w' base v' (l ++ [g]) → w.grownBy w' v.ownBlock → wpList Try.prog ops Q rest (a.put o.dst v') w') :
    wpList Try.prog ops Q (o :: rest) a w := by
  obtain ⟨i0, hi, hz0, hz1, hz2⟩ := info_parts infoRc
  refine wpList_append_own w hgd s x 22 ho base 29 i0 rcZ 10 136 Try.underlying22 hi hz0 hz1 hz2 rfl (by omega) v l.length (rcs l) hs hown ⟨B, 0, none⟩ 1 1 (rcc g.1 g.2) hx rfl
    (fun j u hu => World.news_of_block hb j u (by simpa using hu)) (fun u hu => rcs_one [g] u (by rw [rcs, rcs, List.append_nil]; exact hu)) (by unfold maxLen; omega) (by omega) hbase ?_
  intro v' w' h1 h2 _
  exact h v' w' (by unfold OwnRc; rw [rcs_append, List.length_append, rcs, rcs, List.append_nil]; exact h1) h2
/-- append(l, news...) -/
theorem step_appRcs {ops : Array Oper} {o : Oper} {a : Act} {K : Act → World → Prop} {Q : Exit → Act → World → Prop} {E : Prop} (w : World) (hgd : o.guard = none) (s x : Operand)
    (ho : o.op = .call { callee := .builtin .append, args := #[s, x], argTypes := #[22, 22] }) (base : Nat)
    (v : Value) (l : List Rq14) (hs : a.eval s = v) (hown : OwnRc w base v l) (sa : Option Addr) (m c : Nat) (news : List Rq14) (hx : a.eval x = .slice sa m c) (hsrc : SrcRc w sa m c news)
    (hbytes : (l.length + m) * 136 ≤ 140737488355328) (hbase : base ≤ w.heap.size) (d : Tmp) (hd : o.dst = some d)
    (h : ∀ v' w', OwnRc w' base v' (l ++ news) → w.grownBy w' v.ownBlock → K (a.put (some d) v') w') :
    if Region.wanted o (yielded ops a.tmps) = true then Oper.wp Try.prog o a w K Q else E := by
  have hw : Region.wanted o (yielded ops a.tmps) = true := by simp [Region.wanted, hgd]
  rw [if_pos hw]
  obtain ⟨i0, hi, hz0, hz1, hz2⟩ := info_parts infoRc
  cases sa with
  | none =>
    obtain ⟨hm, hc⟩ := hsrc.nil rfl
    have hn : news = [] := List.eq_nil_of_length_eq_zero (by rw [hsrc.len, hm])
    subst hn hm hc
    have hrun := run_append_owned_none (P := Try.prog) (w := w) base 22 o.type 29 i0 10 Try.underlying22 hi v l.length (rcs l) hown
    rw [← hd] at h
    unfold Oper.wp
    simp [execOp, ho, resolve, invoke, builtin, hs, hx, hrun, Result.andThen]
    exact h v w (by rw [List.append_nil]; exact hown) (World.grownBy.refl _ _)
  | some ad =>
    refine wp_append_own w s x 22 ho base 29 i0 rcZ 10 136 Try.underlying22 hi hz0 hz1 hz2 rfl (by omega) v l.length (rcs l) hs hown ad m c (rcs news) hx (by rw [rcs_length, hsrc.len]) (hsrc.cells ad rfl) (rcs_one news) (by unfold maxLen; omega) (by omega) hbase ?_
    intro v' w' h1 h2 _
    rw [hd]
    exact h v' w' (by unfold OwnRc; rw [rcs_append, List.length_append, hsrc.len]; exact h1) h2
/-- the two cuts, as the walk mercs them -/
theorem slRh (a : Option Addr) (n cap k : Nat) (hk : k ≤ cap) (ha : a = none ∨ ∃ g, a = some ⟨g, 0, none⟩) (w : World) : (Instr.slice 22 (.slice a n cap) none (some (.int .i64 (k : Int))) none).run Try.prog w = .ok (.slice a k cap) w := by
  have he : Try.prog.elem 22 = 29 := by kernel_rfl
  have hz : (sizeOf 29).run Try.prog w = .ok 10 w := by
    obtain ⟨i0, hi, hz0, hz1, hz2⟩ := info_parts infoRc
    simp [sizeOf, typeInfo, hi, hz1]
  rw [run_slice_h w 22 _ n cap (by rw [he]; exact Try.underlying22) .i64 (k : Int) (by omega) (by omega), he, hz]
  simp only [Result.andThen, sliced, Int.toNat_natCast, Nat.zero_mul, Nat.sub_zero]
  rcases ha with rfl | ⟨g, rfl⟩
  · split <;> rfl
  · split <;> simp [Addr.add_lit]
theorem slRl (a : Option Addr) (n cap k : Nat) (hk : k ≤ n) (w : World) : (Instr.slice 22 (.slice a n cap) (some (.int .i64 (k : Int))) none none).run Try.prog w = .ok (.slice (cutRc a cap k) (n - k) (cap - k)) w := by
  have he : Try.prog.elem 22 = 29 := by kernel_rfl
  have hz : (sizeOf 29).run Try.prog w = .ok 10 w := by
    obtain ⟨i0, hi, hz0, hz1, hz2⟩ := info_parts infoRc
    simp [sizeOf, typeInfo, hi, hz1]
  rw [run_slice_l w 22 _ n cap (by rw [he]; exact Try.underlying22) .i64 (k : Int) (by omega) (by omega), he, hz]
  simp only [Result.andThen, sliced, Int.toNat_natCast, cutRc]
theorem IsRl.src {w : World} {a : Option Addr} {n cap : Nat} {l : List Rq14} (h : IsRl w a n l) (ha : a = none → n = 0 ∧ cap = 0) : SrcRc w a n cap l :=
  ⟨h.len, ha, fun ad e j u hu => by
    have hj := (List.getElem?_eq_some_iff.1 hu).1
    rw [rcs_length] at hj
    have hp : 0 < n := by have := h.len; omega
    obtain ⟨g, off, e2, hc⟩ := h.cells hp
    rw [e] at e2
    obtain rfl := Option.some.inj e2
    have hk : j / 10 < l.length := by omega
    have hjj : j = j / 10 * 10 + j % 10 := by omega
    rw [hjj, rcs_at l (j / 10) (j % 10) hk (Nat.mod_lt _ (by decide))] at hu
    have := hc (j / 10) _ (List.getElem?_eq_getElem hk) (j % 10) u hu
    rw [Addr.add_lit]
    rw [show off + j = off + j / 10 * 10 + j % 10 by omega]
    exact this⟩
theorem Blk.srcRc {w : World} {B : Nat} {x : Rq14} (h : Blk w B 29 (rcc x.1 x.2)) : SrcRc w (some ⟨B, 0, none⟩) 1 1 [x] :=
  ⟨rfl, (fun e => by cases e), fun ad e j u hu => by
    obtain rfl := Option.some.inj e
    rw [rcs, rcs, List.append_nil] at hu
    rw [Addr.add_lit, h.cell, Nat.zero_add]
    exact hu⟩
theorem OwnRc.isRl {w : World} {base : Nat} {a : Option Addr} {n cap : Nat} {l : List Rq14} (h : OwnRc w base (.slice a n cap) l) (hr : ∀ x ∈ l, IsRec w x.1 x.2) : IsRl w a n l := by
  obtain ⟨a', c', e, _, _, hc⟩ := h.form
  injection e with e1 e2 e3
  subst e1 e2 e3
  refine ⟨rfl, fun hp => ?_, hr⟩
  obtain ⟨g, e4, _, _, h3⟩ := hc hp
  refine ⟨g, 0, e4, fun k x hx j v hv => ?_⟩
  have hj : j < 10 := by have := (List.getElem?_eq_some_iff.1 hv).1; rw [rcc_len14] at this; exact this
  obtain ⟨hk, rfl⟩ := List.getElem?_eq_some_iff.1 hx
  rw [Nat.zero_add, h3 k hk j hj]
  exact hv
end Go.Proofs.Ytbclhaleibjkgab
