/- The document's Next. -/
import Derived.Test.YtbclhaleibjkgaaB36
namespace Go.Proofs.Ytbclhaleibjkgaa
open Go.RowKit

def NxPost (w : World) (l : List Rc) (r : Rc) (e : Ending) (w' : World) : Prop := ∃ p, e = .returned (.agg (rcc (nextRc l r) p).toArray) ∧ IsRec w' (nextRc l r) p ∧ Below w.heap.size w w'
theorem nx_nil14 {w w' : World} {r : Rc} {c : Option Addr} {d : Nat} (hS : IsB w' c r.sum.length d r.sum) (hN : RcN r) (hb : Below w.heap.size w w') :
    NxPost w [] r (.returned (.agg #[.int .u64 1, .int .u64 (r.clk : Int), .string r.who, .int .i64 r.kind, .string r.bkt, .string r.key, .int .u64 (r.ver : Int), .int .i64 r.err, .slice c r.sum.length d, .slice none 0 0])) w' :=
  ⟨⟨c, d, none, 0⟩, rfl, ⟨hS, isB_none w', ⟨by show (1 : Nat) < _; decide, hN.clk, hN.ver, hN.kind0, hN.kind1, hN.err0, hN.err1⟩⟩, hb⟩
theorem nx_cons14 {w w' : World} {l : List Rc} {x r : Rc} (hl : l.getLast? = some x) {c : Option Addr} {d : Nat} {s : Int} (hs : s = (((x.seq + 1) % 18446744073709551616 : Nat) : Int)) {v : Value} (hv : OwnB w' w.heap.size v (digRc x)) (hS : IsB w' c r.sum.length d r.sum) (hN : RcN r) (hb : Below w.heap.size w w') :
    NxPost w l r (.returned (.agg #[.int .u64 s, .int .u64 (r.clk : Int), .string r.who, .int .i64 r.kind, .string r.bkt, .string r.key, .int .u64 (r.ver : Int), .int .i64 r.err, .slice c r.sum.length d, v])) w' := by
  obtain ⟨va, vc, rfl, hi⟩ := hv.isB
  subst hs
  have e : nextRc l r = { r with seq := (x.seq + 1) % 18446744073709551616, prev := digRc x } := by unfold nextRc; rw [hl]
  refine ⟨⟨c, d, va, vc⟩, ?_, ?_, hb⟩
  · rw [e]; rfl
  · rw [e]
    exact ⟨hS, hi, ⟨Nat.mod_lt _ (by decide), hN.clk, hN.ver, hN.kind0, hN.kind1, hN.err0, hN.err1⟩⟩
set_option maxRecDepth 20000 in
set_option maxHeartbeats 2000000 in
theorem refNext14 (a : Option Addr) (n cap : Nat) (l : List Rq14) (r : Rc) (q : RcA) (w : World) (h : IsRl w a n l) (hr : IsRec w r q) (hs : ∀ x ∈ l, rcLen x.1 ≤ 20000) (hn : n ≤ 1000000) :
    Calls Try.prog 21 #[.slice a n cap, .agg (rcc r q).toArray] w fun e w' => NxPost w (l.map Prod.fst) r e w' := by
  have hS := mkHid hr.sum
  have hN := mkHid hr.num
  clear hr
  obtain ⟨rseq, rclk, rwho, rkind, rbkt, rkey, rver, rerr, rsum, rprev⟩ := r
  obtain ⟨qa, qc, qb, qd⟩ := q
  cases n with
  | zero =>
    have hl : l = [] := List.length_eq_zero_iff.1 h.len
    subst hl
    clear h hs hn
    simp only [rcc]
    go_enter Try.func21, Try.ntmps21
    go_wp2_with fail
    refine bodyPost_ret (results_cellrow (P := Try.prog) rfl _ _ (w.heap.size + 1) 26 _ (0, 0) _ rfl (Blk.newAt _ (w.heap.size + 1) _ _ [_, _, _, _, _, _, _, _, _, _] (World.size_alloc _ _) rfl) Try.underlying26 rfl (by kernel_rfl)) rfl ?_
    have hb := ((Below.refl _ w).alloc (Nat.le_refl _) (.cells #[.int .u64 1, .int .u64 (rclk : Int), .string rwho, .int .i64 rkind, .string rbkt, .string rkey, .int .u64 (rver : Int), .int .i64 rerr, .slice qa rsum.length qc, .slice none 0 0] 26)).alloc (by simp) (.cells #[.int .u64 1, .int .u64 (rclk : Int), .string rwho, .int .i64 rkind, .string rbkt, .string rkey, .int .u64 (rver : Int), .int .i64 rerr, .slice qa rsum.length qc, .slice none 0 0] 26)
    exact nx_nil14 (hS.out.below hb rfl) hN.out hb
  | succ m =>
    obtain ⟨g, off, rfl, hc⟩ := h.cells (by omega)
    obtain ⟨x, hx⟩ : ∃ x, l[m]? = some x := ⟨l[m]'(by have := h.len; omega), List.getElem?_eq_getElem _⟩
    have HL := mkHid (last14 h.len hx)
    have hC := hc m x hx
    have hlen : rcLen x.1 ≤ 20000 := hs x (List.mem_of_getElem? hx)
    have hX := h.recs x (List.mem_of_getElem? hx)
    have HD : ∀ W, Below w.heap.size w W → Calls Try.prog 14 #[.agg (rcc x.1 x.2).toArray] W fun e w' => ∃ v, e = .returned v ∧ OwnB w' W.heap.size v (digRc x.1) ∧ Below W.heap.size W w' := fun W hW => refDigest14 x.1 x.2 W (hX.below hW) hlen
    have HC : ∀ W, Below w.heap.size w W → W.rangeAt g (off + m * 10) (rcc x.1 x.2) := fun W hW => range_below14 hC hW
    have HI := info14 x.1 x.2
    clear hC hlen hX hs hc hx h
    generalize l.map Prod.fst = L at *
    obtain ⟨⟨xseq, xclk, xwho, xkind, xbkt, xkey, xver, xerr, xsum, xprev⟩, ⟨xa, xc, xb, xd⟩⟩ := x
    have hsub : ((m + 1 : Nat) : Int) - 1 = (m : Int) := by omega
    have hpos : (0 : Int) < ((m + 1 : Nat) : Int) := by omega
    simp only [rcc] at *
    go_enter Try.func21, Try.ntmps21
    go_wp2_with (first | (refine wpList_load_mid rfl 26 _ rfl g (off + m * 10) rfl _ _ (HC _ (((Below.refl _ w).alloc (Nat.le_refl _) _).alloc (by simp) _)) Try.underlying26 rfl HI ?_))
    have HBW := mkHid ((((Below.refl _ w).alloc (Nat.le_refl _) (.cells #[.int .u64 (IntKind.u64.wrap ((xseq : Int) + 1)), .int .u64 (rclk : Int), .string rwho, .int .i64 rkind, .string rbkt, .string rkey, .int .u64 (rver : Int), .int .i64 rerr, .slice qa rsum.length qc, .slice none 0 0] 26)).alloc (by simp) (.cells #[.int .u64 0, .int .u64 0, .string { data := #[] }, .int .i64 0, .string { data := #[] }, .string { data := #[] }, .int .u64 0, .int .i64 0, .slice none 0 0, .slice none 0 0] 26)).alloc (by simp; omega) (.cells #[.int .u64 (xseq : Int), .int .u64 (xclk : Int), .string xwho, .int .i64 xkind, .string xbkt, .string xkey, .int .u64 (xver : Int), .int .i64 xerr, .slice xa xsum.length xc, .slice xb xprev.length xd] 26))
    have HK0 := mkHid (((Blk.new w 26 [.int .u64 (IntKind.u64.wrap ((xseq : Int) + 1)), .int .u64 (rclk : Int), .string rwho, .int .i64 rkind, .string rbkt, .string rkey, .int .u64 (rver : Int), .int .i64 rerr, .slice qa rsum.length qc, .slice none 0 0]).alloc (.cells #[.int .u64 0, .int .u64 0, .string { data := #[] }, .int .i64 0, .string { data := #[] }, .string { data := #[] }, .int .u64 0, .int .i64 0, .slice none 0 0, .slice none 0 0] 26)).alloc (.cells #[.int .u64 (xseq : Int), .int .u64 (xclk : Int), .string xwho, .int .i64 xkind, .string xbkt, .string xkey, .int .u64 (xver : Int), .int .i64 xerr, .slice xa xsum.length xc, .slice xb xprev.length xd] 26))
    have HR0 := mkHid ((Blk.newAt (w.alloc (.cells #[.int .u64 (IntKind.u64.wrap ((xseq : Int) + 1)), .int .u64 (rclk : Int), .string rwho, .int .i64 rkind, .string rbkt, .string rkey, .int .u64 (rver : Int), .int .i64 rerr, .slice qa rsum.length qc, .slice none 0 0] 26)) (w.heap.size + 1) 26 _ [.int .u64 0, .int .u64 0, .string { data := #[] }, .int .i64 0, .string { data := #[] }, .string { data := #[] }, .int .u64 0, .int .i64 0, .slice none 0 0, .slice none 0 0] (World.size_alloc _ _) rfl).alloc (.cells #[.int .u64 (xseq : Int), .int .u64 (xclk : Int), .string xwho, .int .i64 xkind, .string xbkt, .string xkey, .int .u64 (xver : Int), .int .i64 xerr, .slice xa xsum.length xc, .slice xb xprev.length xd] 26))
    clear HC HI hpos hsub
    generalize World.alloc _ _ = Y at *
    refine (HD Y HBW.out).mono ?_
    rintro e y1 ⟨v, rfl, ho, hb⟩
    have HB1 := mkHid (HBW.out.trans (hb.mono HBW.out.size))
    have HO1 := mkHid (ho.base HBW.out.size)
    have HK1 := HK0.out.on hb
    have HR1 := HR0.out.on hb
    clear ho hb HD HBW HK0 HR0
    obtain ⟨va, vc, rfl, hi⟩ := HO1.out.isB
    generalize (digRc ⟨xseq, xclk, xwho, xkind, xbkt, xkey, xver, xerr, xsum, xprev⟩).length = dl at *
    have HK2 := mkHid (HK1.set 9 (.slice va dl vc))
    have HR2 := mkHid (HR1.other ⟨w.heap.size, 9, none⟩ (.slice va dl vc) (by show w.heap.size + 1 ≠ w.heap.size; omega))
    have c9 := HK1.cell 9
    have f9 := HK1.frozen 9
    simp only [List.getElem?_cons_zero, List.getElem?_cons_succ, List.set_cons_succ, List.set_cons_zero] at c9 HK2
    have HBs := mkHid (HB1.out.setCell (p := ⟨w.heap.size, 9, none⟩) (Nat.le_refl _) (.slice va dl vc))
    have HKt := mkHid (((KeepT.refl [26] y1).set HK1 (by decide) 9 (.slice va dl vc)).row14 HR2.out (by decide) #[.int .u64 (IntKind.u64.wrap ((xseq : Int) + 1)), .int .u64 (rclk : Int), .string rwho, .int .i64 rkind, .string rbkt, .string rkey, .int .u64 (rver : Int), .int .i64 rerr, .slice qa rsum.length qc, .slice va dl vc])
    clear HK1 HR1 hi HB1
    go_wp2_with (first | (refine wpList_load_row rfl 26 _ rfl _ rfl _ _ _ _ HK2.out Try.underlying26 rfl (by kernel_rfl) ?_) | (refine wpList_store_row rfl 26 _ _ rfl (w.heap.size + 1) #[.int .u64 (IntKind.u64.wrap ((xseq : Int) + 1)), .int .u64 (rclk : Int), .string rwho, .int .i64 rkind, .string rbkt, .string rkey, .int .u64 (rver : Int), .int .i64 rerr, .slice qa rsum.length qc, .slice va dl vc] rfl rfl _ _ HR2.out (by kernel_rfl) rfl (one14 _ _ _ _ _ _ _ _ _ _ _ _ _ _) ?_))
    have HBr := bel_row HBs.out (Nat.le_succ _) #[.int .u64 (IntKind.u64.wrap ((xseq : Int) + 1)), .int .u64 (rclk : Int), .string rwho, .int .i64 rkind, .string rbkt, .string rkey, .int .u64 (rver : Int), .int .i64 rerr, .slice qa rsum.length qc, .slice va dl vc]
    refine bodyPost_ret (results_cellrow (P := Try.prog) rfl _ _ (w.heap.size + 1) 26 _ (0, 0) _ rfl (HR2.out.row [_, _, _, _, _, _, _, _, _, _]) Try.underlying26 rfl (by kernel_rfl)) rfl ?_
    exact nx_cons14 HL.out (mod14 xseq) (own_keepR14 HO1.out HKt.out) (hS.out.below HBr rfl) hN.out HBr
end Go.Proofs.Ytbclhaleibjkgaa
