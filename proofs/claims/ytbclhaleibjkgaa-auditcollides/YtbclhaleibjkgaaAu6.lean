/- slices.Clone of bytes; the program's Next. -/
import Derived.Test.YtbclhaleibjkgaaAu3b
import Derived.Test.YtbclhaleibjkgaaTakeL
import Derived.Lib.SlicesS
namespace Go.Proofs.Ytbclhaleibjkgaa
open Go.RowKit

set_option maxRecDepth 20000 in
set_option maxHeartbeats 1000000 in
theorem codClone14 (a : Option Addr) (n c : Nat) (l : List UInt8) (w : World) (h : IsB w a n c l) (hn : n ≤ 1000000) :
    Calls Try.prog 47 #[.slice a n c] w fun e w' => ∃ v, e = .returned v ∧ OwnB w' w.heap.size v l ∧ Below w.heap.size w w' := by
  have HQ := fun W => eqNil W a n c
  cases a with
  | none =>
    have h0 := h.nil rfl
    have hle := h.le
    have hl := h.len_eq
    have : l = [] := List.eq_nil_of_length_eq_zero (by omega)
    subst this
    change ∀ W, (binOp .eql 24 (.slice none n c) (.slice none 0 0)).run Try.prog W = .ok (.bool true) W at HQ
    clear h h0 hle hl
    go_enter Try.func47, Try.ntmps47
    go_wp2
    go_ret
    exact ⟨_, rfl, OwnB.nil _ _, Below.refl _ _⟩
  | some ad =>
    change ∀ W, (binOp .eql 24 (.slice (some ad) n c) (.slice none 0 0)).run Try.prog W = .ok (.bool false) W at HQ
    have H : Hid (IsB w (some ad) n c l) := h
    clear h
    have O0 : OwnB (w.alloc (.cells #[] 5)) w.heap.size (.slice (some ⟨w.heap.size, 0, none⟩) 0 0) [] := World.ownsRow_made w #[] 0 (Nat.le_refl _) (Nat.zero_le _) rfl
    have B0 : Below w.heap.size w (w.alloc (.cells #[] 5)) := (Below.refl _ w).alloc (Nat.le_refl _) _
    have I0 : IsB (w.alloc (.cells #[] 5)) (some ad) n c l := H.out.below B0 rfl
    go_enter Try.func47, Try.ntmps47
    go_wp2_with (at_builtin; refine list_appS _ rfl _ _ rfl w.heap.size _ [] rfl O0 _ _ _ l rfl I0 (by show 0 + n ≤ _; omega) B0.size ?_; intro v1 y1 ho1 hg1)
    go_ret
    exact ⟨_, rfl, ho1, B0.grown hg1 B0.size (fun i hi => by cases hi; exact Nat.le_refl _)⟩
theorem Blk.whole14 {w : World} {R t : Nat} {cs : List Value} (h : Blk w R t cs) : w.rangeAt R 0 cs := fun j v hv => by rw [h.cell, Nat.zero_add]; exact hv
/-- what both ways of Next leave at its end -/
theorem nx_end14 {w y : World} {l : List Rc} {r : Rc} {s : Int} {c : Option Addr} {n d : Nat} {v : Value} (hc : OwnB y w.heap.size (.slice c n d) r.sum) (hv : IsV y v (nextRc l r).prev) (hs : s = ((nextRc l r).seq : Int)) (hN : RcN (nextRc l r)) (hb : Below w.heap.size w y) :
    NxPost w l r (.returned (.agg #[.int .u64 s, .int .u64 (r.clk : Int), .string r.who, .int .i64 r.kind, .string r.bkt, .string r.key, .int .u64 (r.ver : Int), .int .i64 r.err, .slice c n d, v])) y := by
  obtain ⟨va, vc, rfl, hi⟩ := hv
  obtain ⟨ca, cc, e, hc2⟩ := hc.isB
  injection e with e1 e2 e3
  subst e1 e2 e3 hs
  have f1 : (nextRc l r).clk = r.clk ∧ (nextRc l r).who = r.who ∧ (nextRc l r).kind = r.kind ∧ (nextRc l r).bkt = r.bkt ∧ (nextRc l r).key = r.key ∧ (nextRc l r).ver = r.ver ∧ (nextRc l r).err = r.err ∧ (nextRc l r).sum = r.sum := by
    unfold nextRc; cases l.getLast? <;> exact ⟨rfl, rfl, rfl, rfl, rfl, rfl, rfl, rfl⟩
  obtain ⟨g1, g2, g3, g4, g5, g6, g7, g8⟩ := f1
  refine ⟨⟨c, d, va, vc⟩, ?_, ⟨?_, hi, hN⟩, hb⟩
  · unfold rcc; rw [g1, g2, g3, g4, g5, g6, g7, g8]
  · rw [g8]; exact hc2
theorem nextN14 (l : List Rc) (r : Rc) (hN : RcN r) : RcN (nextRc l r) := by
  unfold nextRc
  cases l.getLast? with
  | none => exact ⟨by show (1 : Nat) < _; decide, hN.clk, hN.ver, hN.kind0, hN.kind1, hN.err0, hN.err1⟩
  | some x => exact ⟨Nat.mod_lt _ (by decide), hN.clk, hN.ver, hN.kind0, hN.kind1, hN.err0, hN.err1⟩
theorem IsV.keepR14 {w w' : World} {base : Nat} {v : Value} {l : List UInt8} (h : OwnB w base v l) (k : KeepT [26] w w') : IsV w' v l := (own_keepR14 h k).isV
set_option maxRecDepth 20000 in
set_option maxHeartbeats 2000000 in
theorem codNext14 (a : Option Addr) (n cap : Nat) (l : List Rq14) (r : Rc) (q : RcA) (w : World) (h : IsRl w a n l) (hr : IsRec w r q) (hs : ∀ x ∈ l, rcLen x.1 ≤ 20000) (hrs : rcLen r ≤ 20000) (hn : n ≤ 1000000) :
    Calls Try.prog 20 #[.slice a n cap, .agg (rcc r q).toArray] w fun e w' => NxPost w (l.map Prod.fst) r e w' := by
  have hS := mkHid hr.sum
  have hN := mkHid hr.num
  have hNx := mkHid (nextN14 (l.map Prod.fst) r hr.num)
  have hsl : Hid (r.sum.length ≤ 1000000) := by unfold Hid; unfold rcLen at hrs; omega
  clear hr hrs
  cases n with
  | zero =>
    have hl : l = [] := List.length_eq_zero_iff.1 h.len
    subst hl
    clear h hs hn
    have hE := fun (c : Option Addr) (n d : Nat) (y : World) => @nx_end14 w y [] r 1 c n d (.slice none 0 0)
    simp only [List.map_nil] at *
    obtain ⟨rseq, rclk, rwho, rkind, rbkt, rkey, rver, rerr, rsum, rprev⟩ := r
    obtain ⟨qa, qc, qb, qd⟩ := q
    simp only [] at hE hS hsl
    have hNp : (nextRc [] ⟨rseq, rclk, rwho, rkind, rbkt, rkey, rver, rerr, rsum, rprev⟩).prev = [] := rfl
    have HSq : Hid ((1 : Int) = ((nextRc [] ⟨rseq, rclk, rwho, rkind, rbkt, rkey, rver, rerr, rsum, rprev⟩).seq : Int)) := rfl
    generalize nextRc [] ⟨rseq, rclk, rwho, rkind, rbkt, rkey, rver, rerr, rsum, rprev⟩ = NR at *
    simp only [rcc]
    have HPv : Hid (∀ W, IsV W (.slice none 0 0) NR.prev) := by unfold Hid; intro W; rw [hNp]; exact IsV.nil W
    generalize hsn : rsum.length = sn at *
    go_enter Try.func20, Try.ntmps20
    go_wp2_with fail
    have HBW := mkHid (((Below.refl _ w).alloc (Nat.le_refl _) (.cells #[.int .u64 1, .int .u64 (rclk : Int), .string rwho, .int .i64 rkind, .string rbkt, .string rkey, .int .u64 (rver : Int), .int .i64 rerr, .slice qa sn qc, .slice none 0 0] 26)).alloc (by simp) (.cells #[.int .u64 0, .int .u64 0, .string { data := #[] }, .int .i64 0, .string { data := #[] }, .string { data := #[] }, .int .u64 0, .int .i64 0, .slice none 0 0, .slice none 0 0] 26))
    have HK0 := mkHid ((Blk.new w 26 [.int .u64 1, .int .u64 (rclk : Int), .string rwho, .int .i64 rkind, .string rbkt, .string rkey, .int .u64 (rver : Int), .int .i64 rerr, .slice qa sn qc, .slice none 0 0]).alloc (.cells #[.int .u64 0, .int .u64 0, .string { data := #[] }, .int .i64 0, .string { data := #[] }, .string { data := #[] }, .int .u64 0, .int .i64 0, .slice none 0 0, .slice none 0 0] 26))
    have HR0 := mkHid (Blk.newAt (w.alloc (.cells #[.int .u64 1, .int .u64 (rclk : Int), .string rwho, .int .i64 rkind, .string rbkt, .string rkey, .int .u64 (rver : Int), .int .i64 rerr, .slice qa sn qc, .slice none 0 0] 26)) (w.heap.size + 1) 26 _ [.int .u64 0, .int .u64 0, .string { data := #[] }, .int .i64 0, .string { data := #[] }, .string { data := #[] }, .int .u64 0, .int .i64 0, .slice none 0 0, .slice none 0 0] (World.size_alloc _ _) rfl)
    generalize World.alloc _ _ = Y at *
    refine (codClone14 qa sn qc rsum Y (hS.out.below HBW.out rfl) hsl.out).mono ?_
    rintro e y1 ⟨v, rfl, ho, hb⟩
    have HB1 := mkHid (HBW.out.trans (hb.mono HBW.out.size))
    have HO1 := mkHid (ho.base HBW.out.size)
    have HK1 := HK0.out.on hb
    have HR1 := HR0.out.on hb
    clear ho hb HBW HK0 HR0
    obtain ⟨va, vc, rfl, hi⟩ := HO1.out.isB
    generalize rsum.length = dl at *
    subst hsn
    have HK2 := mkHid (HK1.set 8 (.slice va dl vc))
    have HR2 := mkHid (HR1.other ⟨w.heap.size, 8, none⟩ (.slice va dl vc) (by show w.heap.size + 1 ≠ w.heap.size; omega))
    have c8 := HK1.cell 8
    have f8 := HK1.frozen 8
    simp only [List.getElem?_cons_zero, List.getElem?_cons_succ, List.set_cons_succ, List.set_cons_zero] at c8 HK2
    have HBs := mkHid (HB1.out.setCell (p := ⟨w.heap.size, 8, none⟩) (Nat.le_refl _) (.slice va dl vc))
    have HKt := mkHid (((KeepT.refl [26] y1).set HK1 (by decide) 8 (.slice va dl vc)).row14 HR2.out (by decide) #[.int .u64 1, .int .u64 (rclk : Int), .string rwho, .int .i64 rkind, .string rbkt, .string rkey, .int .u64 (rver : Int), .int .i64 rerr, .slice va dl vc, .slice none 0 0])
    clear HK1 HR1 hi HB1
    go_wp2_with (first | (refine wpList_load_row rfl 26 _ rfl _ rfl _ _ _ _ HK2.out Try.underlying26 rfl (by kernel_rfl) ?_) | (refine wpList_store_row rfl 26 _ _ rfl (w.heap.size + 1) #[.int .u64 1, .int .u64 (rclk : Int), .string rwho, .int .i64 rkind, .string rbkt, .string rkey, .int .u64 (rver : Int), .int .i64 rerr, .slice va dl vc, .slice none 0 0] rfl rfl _ _ HR2.out (by kernel_rfl) rfl (one14 _ _ _ _ _ _ _ _ _ _ _ _ _ _) ?_))
    have HBr := bel_row HBs.out (Nat.le_succ _) #[.int .u64 1, .int .u64 (rclk : Int), .string rwho, .int .i64 rkind, .string rbkt, .string rkey, .int .u64 (rver : Int), .int .i64 rerr, .slice va dl vc, .slice none 0 0]
    refine bodyPost_ret (results_cellrow (P := Try.prog) rfl _ _ (w.heap.size + 1) 26 _ (0, 0) _ rfl (HR2.out.row [_, _, _, _, _, _, _, _, _, _]) Try.underlying26 rfl (by kernel_rfl)) rfl ?_
    exact hE va dl vc _ (own_keepR14 HO1.out HKt.out) (HPv.out _) HSq.out hNx.out HBr
  | succ m =>
    obtain ⟨g, off, rfl, hc⟩ := h.cells (by omega)
    obtain ⟨x, hx⟩ : ∃ x, l[m]? = some x := ⟨l[m]'(by have := h.len; omega), List.getElem?_eq_getElem _⟩
    have HL := mkHid (last14 h.len hx)
    have hC := hc m x hx
    have hlen : rcLen x.1 ≤ 20000 := hs x (List.mem_of_getElem? hx)
    have hX := h.recs x (List.mem_of_getElem? hx)
    have HD : ∀ W, Below w.heap.size w W → Calls Try.prog 13 #[.agg (rcc x.1 x.2).toArray] W fun e w' => ∃ v, e = .returned v ∧ OwnB w' W.heap.size v (digRc x.1) ∧ Below W.heap.size W w' := fun W hW => codDigest14 x.1 x.2 W (hX.below hW) hlen
    have HC : ∀ W, Below w.heap.size w W → W.rangeAt g (off + m * 10) (rcc x.1 x.2) := fun W hW => range_below14 hC hW
    have HI := info14 x.1 x.2
    have hE := fun (c : Option Addr) (n d : Nat) (v : Value) (y : World) => @nx_end14 w y (l.map Prod.fst) r (((x.1.seq + 1) % 18446744073709551616 : Nat) : Int) c n d v
    have HSq : Hid (((((x.1.seq + 1) % 18446744073709551616 : Nat) : Int)) = ((nextRc (l.map Prod.fst) r).seq : Int)) := by unfold Hid nextRc; rw [HL.out]
    have HPv : Hid ((nextRc (l.map Prod.fst) r).prev = digRc x.1) := by unfold Hid nextRc; rw [HL.out]
    clear hC hlen hX hs hc hx h HL
    generalize l.map Prod.fst = L at *
    obtain ⟨⟨xseq, xclk, xwho, xkind, xbkt, xkey, xver, xerr, xsum, xprev⟩, ⟨xa, xc, xb, xd⟩⟩ := x
    obtain ⟨rseq, rclk, rwho, rkind, rbkt, rkey, rver, rerr, rsum, rprev⟩ := r
    obtain ⟨qa, qc, qb, qd⟩ := q
    have HXs : Hid ((((xseq + 1) % 18446744073709551616 : Nat) : Int) = IntKind.u64.wrap ((xseq : Int) + 1)) := (mod14 xseq).symm
    simp only [] at hE hS hsl HSq HPv
    rw [HXs.out] at hE HSq
    generalize nextRc L ⟨rseq, rclk, rwho, rkind, rbkt, rkey, rver, rerr, rsum, rprev⟩ = NR at *
    have hsub : ((m + 1 : Nat) : Int) - 1 = (m : Int) := by omega
    have hpos : (0 : Int) < ((m + 1 : Nat) : Int) := by omega
    simp only [] at HD
    generalize digRc ⟨xseq, xclk, xwho, xkind, xbkt, xkey, xver, xerr, xsum, xprev⟩ = DG at *
    simp only [rcc] at *
    generalize hsn : rsum.length = sn at *
    generalize xsum.length = xsl at *
    generalize xprev.length = xpl at *
    go_enter Try.func20, Try.ntmps20
    go_upto_region 4 with (first | (refine wpList_load_mid rfl 26 _ rfl g (off + m * 10) rfl _ _ (HC _ (((Below.refl _ w).alloc (Nat.le_refl _) _).alloc (by simp) _)) Try.underlying26 rfl HI ?_))
    have HBW := mkHid ((((Below.refl _ w).alloc (Nat.le_refl _) (.cells #[.int .u64 1, .int .u64 (rclk : Int), .string rwho, .int .i64 rkind, .string rbkt, .string rkey, .int .u64 (rver : Int), .int .i64 rerr, .slice qa sn qc, .slice none 0 0] 26)).alloc (by simp) (.cells #[.int .u64 0, .int .u64 0, .string { data := #[] }, .int .i64 0, .string { data := #[] }, .string { data := #[] }, .int .u64 0, .int .i64 0, .slice none 0 0, .slice none 0 0] 26)).alloc (by simp; omega) (.cells #[.int .u64 (xseq : Int), .int .u64 (xclk : Int), .string xwho, .int .i64 xkind, .string xbkt, .string xkey, .int .u64 (xver : Int), .int .i64 xerr, .slice xa xsl xc, .slice xb xpl xd] 26))
    have HK0 := mkHid (((Blk.new w 26 [.int .u64 1, .int .u64 (rclk : Int), .string rwho, .int .i64 rkind, .string rbkt, .string rkey, .int .u64 (rver : Int), .int .i64 rerr, .slice qa sn qc, .slice none 0 0]).alloc (.cells #[.int .u64 0, .int .u64 0, .string { data := #[] }, .int .i64 0, .string { data := #[] }, .string { data := #[] }, .int .u64 0, .int .i64 0, .slice none 0 0, .slice none 0 0] 26)).alloc (.cells #[.int .u64 (xseq : Int), .int .u64 (xclk : Int), .string xwho, .int .i64 xkind, .string xbkt, .string xkey, .int .u64 (xver : Int), .int .i64 xerr, .slice xa xsl xc, .slice xb xpl xd] 26))
    have HR0 := mkHid ((Blk.newAt (w.alloc (.cells #[.int .u64 1, .int .u64 (rclk : Int), .string rwho, .int .i64 rkind, .string rbkt, .string rkey, .int .u64 (rver : Int), .int .i64 rerr, .slice qa sn qc, .slice none 0 0] 26)) (w.heap.size + 1) 26 _ [.int .u64 0, .int .u64 0, .string { data := #[] }, .int .i64 0, .string { data := #[] }, .string { data := #[] }, .int .u64 0, .int .i64 0, .slice none 0 0, .slice none 0 0] (World.size_alloc _ _) rfl).alloc (.cells #[.int .u64 (xseq : Int), .int .u64 (xclk : Int), .string xwho, .int .i64 xkind, .string xbkt, .string xkey, .int .u64 (xver : Int), .int .i64 xerr, .slice xa xsl xc, .slice xb xpl xd] 26))
    have HX0 := mkHid (Blk.newAt ((w.alloc (.cells #[.int .u64 1, .int .u64 (rclk : Int), .string rwho, .int .i64 rkind, .string rbkt, .string rkey, .int .u64 (rver : Int), .int .i64 rerr, .slice qa sn qc, .slice none 0 0] 26)).alloc (.cells #[.int .u64 0, .int .u64 0, .string { data := #[] }, .int .i64 0, .string { data := #[] }, .string { data := #[] }, .int .u64 0, .int .i64 0, .slice none 0 0, .slice none 0 0] 26)) (w.heap.size + 1 + 1) 26 _ [.int .u64 (xseq : Int), .int .u64 (xclk : Int), .string xwho, .int .i64 xkind, .string xbkt, .string xkey, .int .u64 (xver : Int), .int .i64 xerr, .slice xa xsl xc, .slice xb xpl xd] (by rw [World.size_alloc, World.size_alloc]) rfl)
    clear HC hpos hsub
    generalize World.alloc _ _ = Y at *
    have HBD := mkHid (HBW.out.trans ((bel_drewN (Below.refl _ Y) 1).mono HBW.out.size))
    have hbd : Below Y.heap.size Y Y.drew := bel_drewN (Below.refl _ Y) 1
    have HKD := mkHid (HK0.out.on hbd)
    have HRD := mkHid (HR0.out.on hbd)
    have HXD := mkHid (HX0.out.on hbd)
    clear hbd HBW HK0 HR0 HX0
    refine lk0 (fun w' => Blk w' (w.heap.size + 1 + 1) 26 [.int .u64 (xseq : Int), .int .u64 (xclk : Int), .string xwho, .int .i64 xkind, .string xbkt, .string xkey, .int .u64 (xver : Int), .int .i64 xerr, .slice xa xsl xc, .slice xb xpl xd]) 8 HXD.out (fun hHeld => ?_)
    refine lkT 17 0 (.pointer (some ⟨w.heap.size + 1 + 1, 0, none⟩)) rfl (Or.inl ⟨by rfl, ?_⟩) hHeld ?_
    · intro w1 hSw; go_simp
    (try simp only [Act.put, List.setIfInBounds_toArray, List.set_cons_zero, List.set_cons_succ])
    refine lkT 18 1 (.int .u64 (xseq : Int)) rfl (Or.inl ⟨by rfl, ?_⟩) hHeld ?_
    · intro w1 hSw; have c0 : w1.cell? ⟨w.heap.size + 1 + 1, 0, none⟩ = some (.int .u64 (xseq : Int)) := hSw.cell 0; go_simp
    (try simp only [Act.put, List.setIfInBounds_toArray, List.set_cons_zero, List.set_cons_succ])
    refine lkT 19 2 (.int .u64 (IntKind.u64.wrap ((xseq : Int) + 1))) rfl (Or.inl ⟨by rfl, ?_⟩) hHeld ?_
    · intro w1 hSw; go_simp
    (try simp only [Act.put, List.setIfInBounds_toArray, List.set_cons_zero, List.set_cons_succ])
    refine lkT 20 3 (.agg #[.int .u64 (xseq : Int), .int .u64 (xclk : Int), .string xwho, .int .i64 xkind, .string xbkt, .string xkey, .int .u64 (xver : Int), .int .i64 xerr, .slice xa xsl xc, .slice xb xpl xd]) rfl (yieldsIf_load_mid (by rfl) 26 (.tmp 5) (by rfl) (w.heap.size + 1 + 1) 0 (by rfl) [.int .u64 (xseq : Int), .int .u64 (xclk : Int), .string xwho, .int .i64 xkind, .string xbkt, .string xkey, .int .u64 (xver : Int), .int .i64 xerr, .slice xa xsl xc, .slice xb xpl xd] _ (fun w1 hw1 => Blk.whole14 hw1) Try.underlying26 rfl HI) hHeld ?_
    (try simp only [Act.put, List.setIfInBounds_toArray, List.set_cons_zero, List.set_cons_succ])
    refine lkT 22 5 (.pointer (some ⟨w.heap.size, 0, none⟩)) rfl (Or.inl ⟨by rfl, ?_⟩) hHeld ?_
    · intro w1 hSw; go_simp
    (try simp only [Act.put, List.setIfInBounds_toArray, List.set_cons_zero, List.set_cons_succ])
    refine lk1 4 rfl (fun K hK => ?_)
    go_simp
    go_wp2_with (go_at_call 13; refine (HD _ HBD.out).mono ?_; rintro e y1 ⟨v1, rfl, ho1, hb1⟩)
    refine hK.out _ _ (HXD.out.on hb1) (fun hHeld => ?_)
    (try simp only [Act.put, List.setIfInBounds_toArray, List.set_cons_zero, List.set_cons_succ])
    have HB1 := mkHid (HBD.out.trans (hb1.mono HBD.out.size))
    have HO1 := mkHid (ho1.base HBD.out.size)
    have HK1 := HKD.out.on hb1
    have HR1 := HRD.out.on hb1
    have HX1 := mkHid (HXD.out.on hb1)
    clear hK K ho1 hb1 HBD HKD HRD HXD HD
    obtain ⟨da, dc, rfl, hi⟩ := HO1.out.isB
    clear hi
    generalize hdl : DG.length = dgl at *
    have c0 : y1.cell? ⟨w.heap.size, 0, none⟩ = some (.int .u64 1) := HK1.cell 0
    have f0 := HK1.frozen 0
    refine lk1 6 rfl (fun K hK => ?_)
    go_simp
    have HK2 := HK1.set 0 (.int .u64 (IntKind.u64.wrap ((xseq : Int) + 1)))
    have HR2 := HR1.other ⟨w.heap.size, 0, none⟩ (.int .u64 (IntKind.u64.wrap ((xseq : Int) + 1))) (by show w.heap.size + 1 ≠ w.heap.size; omega)
    have HX2 := HX1.out.other ⟨w.heap.size, 0, none⟩ (.int .u64 (IntKind.u64.wrap ((xseq : Int) + 1))) (by show w.heap.size + 1 + 1 ≠ w.heap.size; omega)
    have HB2 := mkHid (HB1.out.setCell (p := ⟨w.heap.size, 0, none⟩) (Nat.le_refl _) (.int .u64 (IntKind.u64.wrap ((xseq : Int) + 1))))
    have HT2 := mkHid ((KeepT.refl [26] y1).set HK1 (by decide) 0 (.int .u64 (IntKind.u64.wrap ((xseq : Int) + 1))))
    have HO2 := mkHid (own_keepR14 HO1.out HT2.out)
    simp only [List.set_cons_zero] at HK2
    refine hK.out _ _ HX2 (fun hHeld => ?_)
    (try simp only [Act.put, List.setIfInBounds_toArray, List.set_cons_zero, List.set_cons_succ])
    clear hK K HK1 HR1 HX1 HX2 HB1 c0 f0 HT2 HO1
    generalize World.setCell _ _ _ = y2 at *
    refine lkT 23 7 (.pointer (some ⟨w.heap.size, 9, none⟩)) rfl (Or.inl ⟨by rfl, ?_⟩) hHeld ?_
    · intro w1 hSw; go_simp
    (try simp only [Act.put, List.setIfInBounds_toArray, List.set_cons_zero, List.set_cons_succ])
    have c9 : y2.cell? ⟨w.heap.size, 9, none⟩ = some (.slice none 0 0) := HK2.cell 9
    have f9 := HK2.frozen 9
    refine lkZ rfl (fun K hK => ?_)
    go_simp
    refine hK.out _ _ ?_
    (try simp only [Act.put, List.setIfInBounds_toArray, List.set_cons_zero, List.set_cons_succ])
    clear hK K hHeld
    have HK3 := mkHid (HK2.set 9 (.slice da dgl dc))
    have HR3 := mkHid (HR2.other ⟨w.heap.size, 9, none⟩ (.slice da dgl dc) (by show w.heap.size + 1 ≠ w.heap.size; omega))
    have HB3 := mkHid (HB2.out.setCell (p := ⟨w.heap.size, 9, none⟩) (Nat.le_refl _) (.slice da dgl dc))
    have HO3 := mkHid (own_keepR14 HO2.out ((KeepT.refl [26] y2).set HK2 (by decide) 9 (.slice da dgl dc)))
    simp only [List.set_cons_succ, List.set_cons_zero] at HK3
    clear HK2 HR2 HB2 HO2 c9 f9
    generalize World.setCell _ _ _ = Y3 at *
    have c8 : Y3.cell? ⟨w.heap.size, 8, none⟩ = some (.slice qa sn qc) := HK3.out.cell 8
    go_wp2_with fail
    refine (codClone14 qa sn qc rsum Y3 (hS.out.below HB3.out rfl) hsl.out).mono ?_
    rintro e y4 ⟨v, rfl, ho, hb⟩
    have HB4 := mkHid (HB3.out.trans (hb.mono HB3.out.size))
    have HO4 := mkHid (ho.base HB3.out.size)
    have HP4 := mkHid (own_on14 HO3.out hb)
    have HK4 := HK3.out.on hb
    have HR4 := HR3.out.on hb
    clear ho hb HB3 HK3 HR3 HO3 c8
    obtain ⟨va, vc, rfl, hi⟩ := HO4.out.isB
    clear hi
    generalize rsum.length = dl at *
    subst hsn
    have HK5 := mkHid (HK4.set 8 (.slice va dl vc))
    have HR5 := mkHid (HR4.other ⟨w.heap.size, 8, none⟩ (.slice va dl vc) (by show w.heap.size + 1 ≠ w.heap.size; omega))
    have c8 := HK4.cell 8
    have f8 := HK4.frozen 8
    simp only [List.getElem?_cons_zero, List.getElem?_cons_succ, List.set_cons_succ, List.set_cons_zero] at c8 HK5
    have HBs := mkHid (HB4.out.setCell (p := ⟨w.heap.size, 8, none⟩) (Nat.le_refl _) (.slice va dl vc))
    have HKt := mkHid (((KeepT.refl [26] y4).set HK4 (by decide) 8 (.slice va dl vc)).row14 HR5.out (by decide) #[.int .u64 (IntKind.u64.wrap ((xseq : Int) + 1)), .int .u64 (rclk : Int), .string rwho, .int .i64 rkind, .string rbkt, .string rkey, .int .u64 (rver : Int), .int .i64 rerr, .slice va dl vc, .slice da dgl dc])
    clear HK4 HR4 HB4
    go_wp2_with (first | (refine wpList_load_row rfl 26 _ rfl _ rfl _ _ _ _ HK5.out Try.underlying26 rfl (by kernel_rfl) ?_) | (refine wpList_store_row rfl 26 _ _ rfl (w.heap.size + 1) #[.int .u64 (IntKind.u64.wrap ((xseq : Int) + 1)), .int .u64 (rclk : Int), .string rwho, .int .i64 rkind, .string rbkt, .string rkey, .int .u64 (rver : Int), .int .i64 rerr, .slice va dl vc, .slice da dgl dc] rfl rfl _ _ HR5.out (by kernel_rfl) rfl (one14 _ _ _ _ _ _ _ _ _ _ _ _ _ _) ?_))
    have HBr := bel_row HBs.out (Nat.le_succ _) #[.int .u64 (IntKind.u64.wrap ((xseq : Int) + 1)), .int .u64 (rclk : Int), .string rwho, .int .i64 rkind, .string rbkt, .string rkey, .int .u64 (rver : Int), .int .i64 rerr, .slice va dl vc, .slice da dgl dc]
    refine bodyPost_ret (results_cellrow (P := Try.prog) rfl _ _ (w.heap.size + 1) 26 _ (0, 0) _ rfl (HR5.out.row [_, _, _, _, _, _, _, _, _, _]) Try.underlying26 rfl (by kernel_rfl)) rfl ?_
    exact hE va dl vc _ _ (own_keepR14 HO4.out HKt.out) (by rw [HPv.out]; exact (own_keepR14 HP4.out HKt.out).isV) HSq.out hNx.out HBr
end Go.Proofs.Ytbclhaleibjkgaa
