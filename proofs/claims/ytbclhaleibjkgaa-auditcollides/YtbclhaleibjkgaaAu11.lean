/- The program's Verify. -/
import Derived.Test.YtbclhaleibjkgaaB36
import Derived.Test.YtbclhaleibjkgaaAu7
import Derived.Test.YtbclhaleibjkgaaAu6
namespace Go.Proofs.Ytbclhaleibjkgaa
open Go.RowKit Go.Shelf
attribute [local go_sem] Oper.semAt_some

theorem load_er14 (w : World) (g : Nat) (v : Value) (h : Blk w g 23 [v]) : (loadVar 23 ⟨g, 0, none⟩).run Try.prog w = .ok v w := by
  have hc : w.cell? ⟨g, 0, none⟩ = some v := h.cell 0
  simp [loadVar, go_sem, hc]
theorem rev_drop14 {l : List Rq14} {i k : Nat} {x : Rq14} (hi : i + 1 + k = l.length) (hx : l[i]? = some x) : (l.map Prod.fst).reverse.drop k = x.1 :: (l.map Prod.fst).reverse.drop (k + 1) ∧ ((l.map Prod.fst).reverse.drop (k + 1)).length = i := by
  constructor
  · rw [List.drop_eq_getElem_cons (by rw [List.length_reverse, List.length_map]; omega)]
    congr 1
    obtain ⟨hk, e⟩ := List.getElem?_eq_some_iff.1 hx
    rw [List.getElem_reverse, List.getElem_map]
    simp only [List.length_map, show l.length - 1 - k = i by omega, e]
  · rw [List.length_drop, List.length_reverse, List.length_map]; omega
theorem eqB_dec14 (l m : List UInt8) : eqB l m = decide (l = m) := by
  unfold eqB
  rw [Bool.eq_iff_iff, beq_iff_eq, decide_eq_true_iff]
/-- how Verify stands in its loop -/
structure VfAt (w W : World) (S : Value) (R : Nat) (rc : List Value) (hv : Value) : Prop where
  h : Blk W w.heap.size 24 [hv]
  e : Blk W (w.heap.size + 1) 23 [.int .i64 0]
  s : Blk W (w.heap.size + 1 + 1) 36 [S]
  r : Blk W R 26 rc
  lt : w.heap.size + 1 + 1 + 1 ≤ R
  b : Below w.heap.size w W
theorem VfAt.on {w W W' : World} {S : Value} {R : Nat} {rc : List Value} {hv : Value} (h : VfAt w W S R rc hv) (hb : Below W.heap.size W W') : VfAt w W' S R rc hv := ⟨h.h.on hb, h.e.on hb, h.s.on hb, h.r.on hb, h.lt, h.b.trans (hb.mono h.b.size)⟩

set_option maxRecDepth 100000 in
set_option maxHeartbeats 4000000 in
theorem codVerify14 (a : Option Addr) (n cap : Nat) (l : List Rq14) (hv : Value) (hd : List UInt8) (w : World) (h : IsRl w a n l) (hh : IsV w hv hd) (hs : ∀ x ∈ l, rcLen x.1 ≤ 20000) (hn : n ≤ 100000) :
    Calls Try.prog 22 #[.slice a n cap, hv] w fun e w' => e = .returned (.int .i64 (verN (l.map Prod.fst) hd)) ∧ Below w.heap.size w w' := by
  have HL : Hid (l.length = n) := h.len
  have HX := mkHid h
  have HSs := mkHid hs
  have HVN : Hid (verN (l.map Prod.fst) hd = if verB (l.map Prod.fst).reverse hd = true then 0 else 53) := rfl
  obtain ⟨B, off, hBO⟩ : ∃ B off, (0 < n → a = some ⟨B, off, none⟩) ∧ RowsR B off l w ∧ (0 < n → B < w.heap.size) := by
    rcases Nat.eq_zero_or_pos n with h0 | h0
    · have hl0 : l = [] := List.length_eq_zero_iff.1 (h.len.trans h0)
      subst h0 hl0
      exact ⟨0, 0, fun x => absurd x (Nat.lt_irrefl 0), (fun k x hx => by cases hx), fun x => absurd x (Nat.lt_irrefl 0)⟩
    · obtain ⟨B, off, e, hc⟩ := h.cells h0
      obtain ⟨x, hx⟩ : ∃ x, l[0]? = some x := ⟨l[0]'(by rw [h.len]; exact h0), List.getElem?_eq_getElem _⟩
      exact ⟨B, off, fun _ => e, hc, fun _ => cell_lt (a := ⟨B, off + 0 * 10 + 0, none⟩) (hc 0 x hx 0 _ rfl)⟩
  have HBO := mkHid hBO
  clear h hs hBO
  generalize verN (l.map Prod.fst) hd = VN at *
  obtain ⟨ha, hc, rfl, hhb⟩ := hh
  have HH := mkHid hhb.isV
  clear hhb
  generalize hdl : hd.length = hl at *
  clear hdl
  refine (callsIn_wide (n := 6)).1 ?_
  refine callsIn_of_wp_marks Try.func22 rfl trivial ?_ rfl
  refine wpIn_wide.2 ?_
  simp only [Try.ntmps22, List.size_toArray, List.length_cons, List.length_nil, Nat.reduceAdd, Nat.reduceSub, Array.replicate_succ, Array.replicate_zero, List.push_toArray, List.append_toArray, List.nil_append, List.cons_append]
  go_wp2_with fail
  have hbZ : Below w.heap.size w ((w.alloc (.cells #[.slice ha hl hc] 24)).alloc (.cells #[.int .i64 0] 23)) := ((Below.refl _ w).alloc (Nat.le_refl _) _).alloc (by simp) _
  have hkH := (Blk.new w 24 [.slice ha hl hc]).alloc (.cells #[.int .i64 0] 23)
  have hkE := Blk.newAt (w.alloc (.cells #[.slice ha hl hc] 24)) (w.heap.size + 1) 23 _ [.int .i64 0] (World.size_alloc _ _) rfl
  have hzs : ((w.alloc (.cells #[.slice ha hl hc] 24)).alloc (.cells #[.int .i64 0] 23)).heap.size = w.heap.size + 1 + 1 := by rw [World.size_alloc, World.size_alloc]
  generalize (w.alloc (.cells #[.slice ha hl hc] 24)).alloc (.cells #[.int .i64 0] 23) = Z at *
  refine (callsIn_wide.1 (codBackward14 5 a n cap Z)).mono ?_
  rintro e V ⟨rfl, hV⟩
  have hbV : Below Z.heap.size Z V := by rw [hV]; exact (Below.refl _ Z).alloc (Nat.le_refl _) _
  have hkB : Blk V Z.heap.size 36 [.slice a n cap] := by rw [hV]; exact Blk.new Z _ [_]
  have hVs : V.heap.size = w.heap.size + 1 + 1 + 1 := by rw [hV, World.size_alloc, hzs]
  rw [hzs] at hkB ⊢
  have HB0 := mkHid (hbZ.trans (hbV.mono hbZ.size))
  have HK0 := mkHid (hkH.on hbV)
  have HE0 := mkHid (hkE.on hbV)
  have HS0 := mkHid hkB
  have HVs := mkHid hVs
  clear hV hbV hkB hVs hbZ hkH hkE hzs
  go_wp2_with fail
  have HSeq := seqBackwardA14 5 (by omega) (w.heap.size + 1 + 1) B off a n cap l HL.out hn HBO.out.1
  refine (wpIn_wide (n := 6)).1 ?_
  refine range_m (by omega) (gf := 66) (lb := #[.pointer (some ⟨w.heap.size + 1 + 1, 0, none⟩)]) rfl (enters_of Try.func66 (by kernel_rfl) rfl)
    HSeq (fun W hW => ⟨HS0.out.on hW, fun k x hx => range_below14 (HBO.out.2.1 k x hx) (HB0.out.trans (hW.mono HB0.out.size))⟩) (fun A B C h1 h2 h => h2 (h1 h)) (fun W l o hl hv => hv.keepO (World.putObj_heap_other (by have := HVs.out; omega)) (fun hp => World.putObj_heap_other (by have := HVs.out; have := HBO.out.2.2 (by have := HL.out; omega); omega))) (fun k => by rw [enB_size]; rfl)
    (fun k W => ∃ hv' g, Blk W w.heap.size 24 [hv'] ∧ IsV w hv' g ∧ Blk W (w.heap.size + 1) 23 [.int .i64 0] ∧ Blk W (w.heap.size + 1 + 1) 36 [.slice a n cap] ∧ Below w.heap.size w W ∧ verB (l.map Prod.fst).reverse hd = verB ((l.map Prod.fst).reverse.drop k) g)
    (fun k W => Blk W (w.heap.size + 1) 23 [.int .i64 53] ∧ Below w.heap.size w W ∧ VN = 53)
    ?hI ?hIx ?h0
    (fun k b W => ∃ i x R, i + 1 + k = l.length ∧ l[i]? = some x ∧ b = { tmps := #[.slice a n cap, .slice ha hl hc, undef, .pointer (some ⟨w.heap.size, 0, none⟩), .pointer (some ⟨w.heap.size + 1, 0, none⟩), .int .i64 (i : Int), .pointer (some ⟨R, 0, none⟩), .slice a n cap, .func (.func 66) #[] #[.pointer (some ⟨w.heap.size + 1 + 1, 0, none⟩)], .int .i64 (i : Int), .agg (rcc x.1 x.2).toArray, undef, undef, undef, undef, undef, undef, undef, undef, undef, undef, undef, undef, undef, undef, undef, undef, undef, undef, undef, undef, undef, undef, undef], defers := [] } ∧ Blk W R 26 (rcc x.1 x.2) ∧ w.heap.size + 1 + 1 + 1 ≤ R)
    ?hAs ?hKa ?assign ?body ?done ?stop
  case hI =>
    rintro k A C ⟨hv', g, h1, h2, h3, h4, h5, h6⟩ hT
    exact ⟨hv', g, hT.same _ _ h1 rfl, h2, hT.same _ _ h3 rfl, hT.same _ _ h4 rfl, h5.trans (hT.b.mono HB0.out.size), h6⟩
  case hIx =>
    rintro k A C ⟨h1, h2, h3⟩ hT
    exact ⟨hT.same _ _ h1 rfl, h2.trans (hT.b.mono HB0.out.size), h3⟩
  case h0 => exact ⟨_, hd, HK0.out, HH.out, HE0.out, HS0.out, HB0.out, rfl⟩
  case hAs =>
    rintro k b A C ⟨i, x, R, h1, h2, h3, h4, h5⟩ hT
    exact ⟨i, x, R, h1, h2, h3, hT.same _ _ h4 rfl, h5⟩
  case hKa => exact fun A C hb _ hv => hv.on hb
  case assign =>
    intro l0 k W K hi hk hK
    obtain ⟨_, _, _, _, _, hbW, _, _⟩ := hi
    have hbW := hbW.lt
    obtain ⟨i, hi⟩ : ∃ i : Nat, i + 1 + k = l.length := ⟨l.length - 1 - k, by have := HL.out; omega⟩
    obtain ⟨x, hx⟩ : ∃ x, l[i]? = some x := ⟨l[i]'(by omega), List.getElem?_eq_getElem _⟩
    have hKK := hK { tmps := #[.slice a n cap, .slice ha hl hc, undef, .pointer (some ⟨w.heap.size, 0, none⟩), .pointer (some ⟨w.heap.size + 1, 0, none⟩), .int .i64 (i : Int), .pointer (some ⟨W.heap.size, 0, none⟩), .slice a n cap, .func (.func 66) #[] #[.pointer (some ⟨w.heap.size + 1 + 1, 0, none⟩)], .int .i64 (i : Int), .agg (rcc x.1 x.2).toArray, undef, undef, undef, undef, undef, undef, undef, undef, undef, undef, undef, undef, undef, undef, undef, undef, undef, undef, undef, undef, undef, undef, undef], defers := [] } (W.alloc (.cells (rcc x.1 x.2).toArray 26)) ((Below.refl _ W).alloc (Nat.le_refl _) _) ⟨i, x, W.heap.size, hi, hx, rfl, Blk.new W _ _, hbW⟩
    rw [enB_eq hi hx]
    have HKK := mkHid hKK
    clear hK hKK hbW hi hx HSeq
    obtain ⟨⟨xseq, xclk, xwho, xkind, xbkt, xkey, xver, xerr, xsum, xprev⟩, ⟨xa, xc, xb, xd⟩⟩ := x
    simp only [rcc] at HKK ⊢
    gi_wp2
    exact HKK.out
  case body =>
    rintro l0 k b W ⟨hv', g, h1, h2, h3, h4, h5, h6⟩ ⟨i, x, R, hi, hx, rfl, hkR, hR⟩ hlt
    obtain ⟨d1, d2⟩ := rev_drop14 hi hx
    have hlen : rcLen x.1 ≤ 20000 := HSs.out x (List.mem_of_getElem? hx)
    have hX := HX.out.recs x (List.mem_of_getElem? hx)
    have HD : ∀ W, Below w.heap.size w W → Calls Try.prog 13 #[.agg (rcc x.1 x.2).toArray] W fun e w' => ∃ v, e = .returned v ∧ OwnB w' W.heap.size v (digRc x.1) ∧ Below W.heap.size W w' := fun W hW => codDigest14 x.1 x.2 W (hX.below hW) hlen
    have HR : ∀ W, Calls Try.prog 43 #[.agg (rcc x.1 x.2).toArray] W fun e w' => e = .returned (.bool (rightRc x.1)) ∧ Below W.heap.size W w' := fun W => codRight14 x.1 x.2 W
    have HP : Hid (IsV w (.slice x.2.b x.1.prev.length x.2.d) x.1.prev) := hX.prev.isV
    have HI := info14 x.1 x.2
    have HVr : Hid (verB (l.map Prod.fst).reverse hd = (rightRc x.1 && decide (x.1.seq = i + 1) && decide (digRc x.1 = g) && verB ((l.map Prod.fst).reverse.drop (k + 1)) x.1.prev)) := by
      unfold Hid; rw [h6, d1, verB, d2]
    have HW : Hid (VfAt w W (.slice a n cap) R (rcc x.1 x.2) hv') := ⟨h1, h3, h4, hkR, hR, h5⟩
    have HGv := mkHid h2
    have hi100 : i ≤ 100000 := by have := HL.out; omega
    have HSm : ∀ W v, Below w.heap.size w W → IsV W v (digRc x.1) → Calls Try.prog 36 #[v, hv'] W fun e w' => e = .returned (.bool (eqB (digRc x.1) g)) ∧ Below W.heap.size W w' := fun W v hW hv => (digSameV v hv' _ g W hv (h2.below hW rfl)).mono (fun e w' ⟨h, n, hn⟩ => ⟨h, by rw [hn]; exact bel_drewN (Below.refl _ _) n⟩)
    clear h1 h2 h3 h4 h5 h6 d1 d2 hkR hR hlen hX hx hi hlt HSeq HK0 HE0 HS0 HB0
    obtain ⟨⟨xseq, xclk, xwho, xkind, xbkt, xkey, xver, xerr, xsum, xprev⟩, ⟨xa, xc, xb, xd⟩⟩ := x
    simp only [] at HD HR HP HVr HI HW HSm
    generalize hVR : verB ((l.map Prod.fst).reverse.drop (k + 1)) xprev = VR at *
    have HVR := mkHid hVR
    clear hVR
    generalize hDG : digRc ⟨xseq, xclk, xwho, xkind, xbkt, xkey, xver, xerr, xsum, xprev⟩ = DG at *
    clear hDG
    generalize rightRc ⟨xseq, xclk, xwho, xkind, xbkt, xkey, xver, xerr, xsum, xprev⟩ = RG at *
    simp only [rcc] at HD HR HI HW ⊢
    generalize xprev.length = pl at *
    generalize xsum.length = sl at *
    have hw1 : IntKind.u64.wrap (i : Int) = (i : Int) := wrap64_nat i (by omega)
    have hw2 : IntKind.u64.wrap ((i : Int) + 1) = (i : Int) + 1 := by rw [show (i : Int) + 1 = ((i + 1 : Nat) : Int) by omega]; exact wrap64_nat _ (by omega)
    cases RG with
    | false =>
      have HNo : Hid (VN = 53) := by unfold Hid; rw [HVN.out, HVr.out, if_neg (by simp)]
      have HWd := mkHid (HW.out.on (bel_drewN (Below.refl _ W) 1))
      gi_wp2_with fail
      refine region_held_in (fun w' => Blk w' R 26 [.int .u64 (xseq : Int), .int .u64 (xclk : Int), .string xwho, .int .i64 xkind, .string xbkt, .string xkey, .int .u64 (xver : Int), .int .i64 xerr, .slice xa sl xc, .slice xb pl xd] ∧ Blk w' w.heap.size 24 [hv']) (fun ⟨_, _, h⟩ => by first | (rcases h with ⟨h, _⟩ | ⟨h, _⟩ <;> cases h)) ⟨HWd.out.r, HWd.out.h⟩ (fun hHeld => ?_)
      refine takeH (some 11) (i := 0) (v := .agg #[.int .u64 (xseq : Int), .int .u64 (xclk : Int), .string xwho, .int .i64 xkind, .string xbkt, .string xkey, .int .u64 (xver : Int), .int .i64 xerr, .slice xa sl xc, .slice xb pl xd]) rfl (by kernel_rfl) (by kernel_rfl) (by kernel_rfl) (fun _ _ _ h => h) (yieldsIf_load_mid (by rfl) 26 (.tmp 6) (by rfl) R 0 (by rfl) [.int .u64 (xseq : Int), .int .u64 (xclk : Int), .string xwho, .int .i64 xkind, .string xbkt, .string xkey, .int .u64 (xver : Int), .int .i64 xerr, .slice xa sl xc, .slice xb pl xd] _ (fun w1 hw1 => Blk.whole14 hw1.1) Try.underlying26 rfl HI) hHeld rfl ?_
      (try simp only [Act.put, List.setIfInBounds_toArray, List.set_cons_zero, List.set_cons_succ])
      refine wpAnyH_ready (rs := [1]) (by kernel_rfl) (by simp) (AllReadyH.cons rfl (fun K hK => ?_) AllReadyH.nil)
      go_simp
      go_wp2_with (go_at_call 43; refine (HR _).mono ?_; rintro e y1 ⟨rfl, hb1⟩)
      have H1 := mkHid (HWd.out.on hb1)
      have HBy : Hid (Below W.heap.size W y1) := (bel_drewN (Below.refl _ W) 1).trans hb1
      refine hK.out _ _ ⟨H1.out.r, H1.out.h⟩ (fun hHeld => ?_)
      (try simp only [Act.put, List.setIfInBounds_toArray, List.set_cons_zero, List.set_cons_succ])
      clear hK K hb1
      refine takeH (some 13) (i := 2) (v := .bool true) rfl (by kernel_rfl) (by kernel_rfl) (by kernel_rfl) (fun _ _ _ h => h) (Or.inl ⟨by rfl, ?_⟩) hHeld rfl ?_
      · intro w1 hSw; go_simp
      (try simp only [Act.put, List.setIfInBounds_toArray, List.set_cons_zero, List.set_cons_succ])
      refine takeH (some 14) (i := 3) (v := .bool true) rfl (by kernel_rfl) (by kernel_rfl) (by kernel_rfl) (fun _ _ _ h => h) (Or.inl ⟨by rfl, ?_⟩) hHeld rfl ?_
      · intro w1 hSw; go_simp
      (try simp only [Act.put, List.setIfInBounds_toArray, List.set_cons_zero, List.set_cons_succ])
      refine takeH (some 15) (i := 4) (v := undef) rfl (by kernel_rfl) (by kernel_rfl) (by kernel_rfl) (fun _ _ _ h => h) (Or.inr ⟨by rfl, rfl⟩) hHeld rfl ?_
      (try simp only [Act.put, List.setIfInBounds_toArray, List.set_cons_zero, List.set_cons_succ])
      refine takeH (some 16) (i := 5) (v := undef) rfl (by kernel_rfl) (by kernel_rfl) (by kernel_rfl) (fun _ _ _ h => h) (Or.inr ⟨by rfl, rfl⟩) hHeld rfl ?_
      (try simp only [Act.put, List.setIfInBounds_toArray, List.set_cons_zero, List.set_cons_succ])
      refine takeH (some 17) (i := 6) (v := undef) rfl (by kernel_rfl) (by kernel_rfl) (by kernel_rfl) (fun _ _ _ h => h) (Or.inr ⟨by rfl, rfl⟩) hHeld rfl ?_
      (try simp only [Act.put, List.setIfInBounds_toArray, List.set_cons_zero, List.set_cons_succ])
      refine takeH (some 18) (i := 7) (v := undef) rfl (by kernel_rfl) (by kernel_rfl) (by kernel_rfl) (fun _ _ _ h => h) (Or.inr ⟨by rfl, rfl⟩) hHeld rfl ?_
      (try simp only [Act.put, List.setIfInBounds_toArray, List.set_cons_zero, List.set_cons_succ])
      refine takeH (some 19) (i := 8) (v := undef) rfl (by kernel_rfl) (by kernel_rfl) (by kernel_rfl) (fun _ _ _ h => h) (Or.inr ⟨by rfl, rfl⟩) hHeld rfl ?_
      (try simp only [Act.put, List.setIfInBounds_toArray, List.set_cons_zero, List.set_cons_succ])
      refine takeH (some 20) (i := 9) (v := undef) rfl (by kernel_rfl) (by kernel_rfl) (by kernel_rfl) (fun _ _ _ h => h) (Or.inr ⟨by rfl, rfl⟩) hHeld rfl ?_
      (try simp only [Act.put, List.setIfInBounds_toArray, List.set_cons_zero, List.set_cons_succ])
      refine takeH (some 21) (i := 10) (v := .bool true) rfl (by kernel_rfl) (by kernel_rfl) (by kernel_rfl) (fun _ _ _ h => h) (Or.inl ⟨by rfl, ?_⟩) hHeld rfl ?_
      · intro w1 hSw; go_simp
      (try simp only [Act.put, List.setIfInBounds_toArray, List.set_cons_zero, List.set_cons_succ])
      refine takeH (some 22) (i := 11) (v := .bool true) rfl (by kernel_rfl) (by kernel_rfl) (by kernel_rfl) (fun _ _ _ h => h) (Or.inl ⟨by rfl, ?_⟩) hHeld rfl ?_
      · intro w1 hSw; go_simp
      (try simp only [Act.put, List.setIfInBounds_toArray, List.set_cons_zero, List.set_cons_succ])
      refine takeH (some 23) (i := 12) (v := undef) rfl (by kernel_rfl) (by kernel_rfl) (by kernel_rfl) (fun _ _ _ h => h) (Or.inr ⟨by rfl, rfl⟩) hHeld rfl ?_
      (try simp only [Act.put, List.setIfInBounds_toArray, List.set_cons_zero, List.set_cons_succ])
      refine takeH (some 24) (i := 13) (v := undef) rfl (by kernel_rfl) (by kernel_rfl) (by kernel_rfl) (fun _ _ _ h => h) (Or.inr ⟨by rfl, rfl⟩) hHeld rfl ?_
      (try simp only [Act.put, List.setIfInBounds_toArray, List.set_cons_zero, List.set_cons_succ])
      refine takeH (some 25) (i := 14) (v := undef) rfl (by kernel_rfl) (by kernel_rfl) (by kernel_rfl) (fun _ _ _ h => h) (Or.inr ⟨by rfl, rfl⟩) hHeld rfl ?_
      (try simp only [Act.put, List.setIfInBounds_toArray, List.set_cons_zero, List.set_cons_succ])
      refine takeH (some 26) (i := 15) (v := undef) rfl (by kernel_rfl) (by kernel_rfl) (by kernel_rfl) (fun _ _ _ h => h) (Or.inr ⟨by rfl, rfl⟩) hHeld rfl ?_
      (try simp only [Act.put, List.setIfInBounds_toArray, List.set_cons_zero, List.set_cons_succ])
      refine takeH (some 27) (i := 16) (v := undef) rfl (by kernel_rfl) (by kernel_rfl) (by kernel_rfl) (fun _ _ _ h => h) (Or.inr ⟨by rfl, rfl⟩) hHeld rfl ?_
      (try simp only [Act.put, List.setIfInBounds_toArray, List.set_cons_zero, List.set_cons_succ])
      refine takeH (some 28) (i := 17) (v := .bool true) rfl (by kernel_rfl) (by kernel_rfl) (by kernel_rfl) (fun _ _ _ h => h) (Or.inl ⟨by rfl, ?_⟩) hHeld rfl ?_
      · intro w1 hSw; go_simp
      (try simp only [Act.put, List.setIfInBounds_toArray, List.set_cons_zero, List.set_cons_succ])
      refine wpAnyH_done (by kernel_rfl) ?_ _
      have c1 : y1.cell? ⟨w.heap.size + 1, 0, none⟩ = some (.int .i64 0) := H1.out.e.cell 0
      have f1 := H1.out.e.frozen 0
      have HKo : Hid (KeepO [] W y1) := KeepO.of_below HBy.out
      clear HWd hHeld
      gi_wp2_with fail
      exact ⟨HKo.out.trans (KeepO.ofT ((KeepT.refl [23] y1).set H1.out.e (by decide) 0 _) (by simp)), H1.out.e.set 0 _, H1.out.b.setCell (p := ⟨w.heap.size + 1, 0, none⟩) (Nat.le_succ _) _, HNo.out⟩
    | true =>
      by_cases hsq : xseq = i + 1
      · have HQ := mkHid hsq
        clear hsq
        have HVs2 : Hid (verB (l.map Prod.fst).reverse hd = (eqB DG g && VR)) := by
          unfold Hid; rw [HVr.out, decide_eq_true HQ.out, eqB_dec14, Bool.true_and, Bool.true_and]
        have HVq : Hid (VN = if (eqB DG g && VR) = true then 0 else 53) := by unfold Hid; rw [HVN.out, HVs2.out]
        clear HVr
        generalize eqB DG g = EQ at *
        have HWd := mkHid (HW.out.on (bel_drewN (Below.refl _ W) 1))
        gi_wp2_with fail
        refine region_held_in (fun w' => Blk w' R 26 [.int .u64 (xseq : Int), .int .u64 (xclk : Int), .string xwho, .int .i64 xkind, .string xbkt, .string xkey, .int .u64 (xver : Int), .int .i64 xerr, .slice xa sl xc, .slice xb pl xd] ∧ Blk w' w.heap.size 24 [hv']) (fun ⟨_, _, h⟩ => by first | (rcases h with ⟨h, _⟩ | ⟨h, _⟩ <;> cases h)) ⟨HWd.out.r, HWd.out.h⟩ (fun hHeld => ?_)
        refine takeH (some 11) (i := 0) (v := .agg #[.int .u64 (xseq : Int), .int .u64 (xclk : Int), .string xwho, .int .i64 xkind, .string xbkt, .string xkey, .int .u64 (xver : Int), .int .i64 xerr, .slice xa sl xc, .slice xb pl xd]) rfl (by kernel_rfl) (by kernel_rfl) (by kernel_rfl) (fun _ _ _ h => h) (yieldsIf_load_mid (by rfl) 26 (.tmp 6) (by rfl) R 0 (by rfl) [.int .u64 (xseq : Int), .int .u64 (xclk : Int), .string xwho, .int .i64 xkind, .string xbkt, .string xkey, .int .u64 (xver : Int), .int .i64 xerr, .slice xa sl xc, .slice xb pl xd] _ (fun w1 hw1 => Blk.whole14 hw1.1) Try.underlying26 rfl HI) hHeld rfl ?_
        (try simp only [Act.put, List.setIfInBounds_toArray, List.set_cons_zero, List.set_cons_succ])
        refine wpAnyH_ready (rs := [1]) (by kernel_rfl) (by simp) (AllReadyH.cons rfl (fun K hK => ?_) AllReadyH.nil)
        go_simp
        go_wp2_with (go_at_call 43; refine (HR _).mono ?_; rintro e y1 ⟨rfl, hb1⟩)
        have H1 := mkHid (HWd.out.on hb1)
        have HBy : Hid (Below W.heap.size W y1) := (bel_drewN (Below.refl _ W) 1).trans hb1
        refine hK.out _ _ ⟨H1.out.r, H1.out.h⟩ (fun hHeld => ?_)
        (try simp only [Act.put, List.setIfInBounds_toArray, List.set_cons_zero, List.set_cons_succ])
        clear hK K hb1
        refine takeH (some 13) (i := 2) (v := .bool false) rfl (by kernel_rfl) (by kernel_rfl) (by kernel_rfl) (fun _ _ _ h => h) (Or.inl ⟨by rfl, ?_⟩) hHeld rfl ?_
        · intro w1 hSw; go_simp
        (try simp only [Act.put, List.setIfInBounds_toArray, List.set_cons_zero, List.set_cons_succ])
        refine takeH (some 14) (i := 3) (v := .bool false) rfl (by kernel_rfl) (by kernel_rfl) (by kernel_rfl) (fun _ _ _ h => h) (Or.inl ⟨by rfl, ?_⟩) hHeld rfl ?_
        · intro w1 hSw; go_simp
        (try simp only [Act.put, List.setIfInBounds_toArray, List.set_cons_zero, List.set_cons_succ])
        refine takeH (some 15) (i := 4) (v := .pointer (some ⟨R, 0, none⟩)) rfl (by kernel_rfl) (by kernel_rfl) (by kernel_rfl) (fun _ _ _ h => h) (Or.inl ⟨by rfl, ?_⟩) hHeld rfl ?_
        · intro w1 hSw; go_simp
        (try simp only [Act.put, List.setIfInBounds_toArray, List.set_cons_zero, List.set_cons_succ])
        refine takeH (some 16) (i := 5) (v := .int .u64 (xseq : Int)) rfl (by kernel_rfl) (by kernel_rfl) (by kernel_rfl) (fun _ _ _ h => h) (Or.inl ⟨by rfl, ?_⟩) hHeld rfl ?_
        · intro w1 hSw; have c0 : w1.cell? ⟨R, 0, none⟩ = some (.int .u64 (xseq : Int)) := hSw.1.cell 0; go_simp
        (try simp only [Act.put, List.setIfInBounds_toArray, List.set_cons_zero, List.set_cons_succ])
        refine takeH (some 17) (i := 6) (v := .int .i64 (i : Int)) rfl (by kernel_rfl) (by kernel_rfl) (by kernel_rfl) (fun _ _ _ h => h) (Or.inl ⟨by rfl, ?_⟩) hHeld rfl ?_
        · intro w1 hSw; go_simp
        (try simp only [Act.put, List.setIfInBounds_toArray, List.set_cons_zero, List.set_cons_succ])
        refine takeH (some 18) (i := 7) (v := .int .u64 (i : Int)) rfl (by kernel_rfl) (by kernel_rfl) (by kernel_rfl) (fun _ _ _ h => h) (Or.inl ⟨by rfl, ?_⟩) hHeld rfl ?_
        · intro w1 hSw; go_simp
        (try simp only [Act.put, List.setIfInBounds_toArray, List.set_cons_zero, List.set_cons_succ])
        refine takeH (some 19) (i := 8) (v := .int .u64 ((i : Int) + 1)) rfl (by kernel_rfl) (by kernel_rfl) (by kernel_rfl) (fun _ _ _ h => h) (Or.inl ⟨by rfl, ?_⟩) hHeld rfl ?_
        · intro w1 hSw; go_simp
        (try simp only [Act.put, List.setIfInBounds_toArray, List.set_cons_zero, List.set_cons_succ])
        refine takeH (some 20) (i := 9) (v := .bool false) rfl (by kernel_rfl) (by kernel_rfl) (by kernel_rfl) (fun _ _ _ h => h) (Or.inl ⟨by rfl, ?_⟩) hHeld rfl ?_
        · intro w1 hSw; have hq : (xseq : Int) = (i : Int) + 1 := by have := HQ.out; omega
          go_simp
        (try simp only [Act.put, List.setIfInBounds_toArray, List.set_cons_zero, List.set_cons_succ])
        refine takeH (some 21) (i := 10) (v := .bool false) rfl (by kernel_rfl) (by kernel_rfl) (by kernel_rfl) (fun _ _ _ h => h) (Or.inl ⟨by rfl, ?_⟩) hHeld rfl ?_
        · intro w1 hSw; go_simp
        (try simp only [Act.put, List.setIfInBounds_toArray, List.set_cons_zero, List.set_cons_succ])
        refine takeH (some 22) (i := 11) (v := .bool false) rfl (by kernel_rfl) (by kernel_rfl) (by kernel_rfl) (fun _ _ _ h => h) (Or.inl ⟨by rfl, ?_⟩) hHeld rfl ?_
        · intro w1 hSw; go_simp
        (try simp only [Act.put, List.setIfInBounds_toArray, List.set_cons_zero, List.set_cons_succ])
        refine takeH (some 23) (i := 12) (v := .agg #[.int .u64 (xseq : Int), .int .u64 (xclk : Int), .string xwho, .int .i64 xkind, .string xbkt, .string xkey, .int .u64 (xver : Int), .int .i64 xerr, .slice xa sl xc, .slice xb pl xd]) rfl (by kernel_rfl) (by kernel_rfl) (by kernel_rfl) (fun _ _ _ h => h) (yieldsIf_load_mid (by rfl) 26 (.tmp 6) (by rfl) R 0 (by rfl) [.int .u64 (xseq : Int), .int .u64 (xclk : Int), .string xwho, .int .i64 xkind, .string xbkt, .string xkey, .int .u64 (xver : Int), .int .i64 xerr, .slice xa sl xc, .slice xb pl xd] _ (fun w1 hw1 => Blk.whole14 hw1.1) Try.underlying26 rfl HI) hHeld rfl ?_
        (try simp only [Act.put, List.setIfInBounds_toArray, List.set_cons_zero, List.set_cons_succ])
        refine takeH (some 25) (i := 14) (v := hv') rfl (by kernel_rfl) (by kernel_rfl) (by kernel_rfl) (fun _ _ _ h => h) (Or.inl ⟨by rfl, ?_⟩) hHeld rfl ?_
        · intro w1 hSw; have c0 : w1.cell? ⟨w.heap.size, 0, none⟩ = some hv' := hSw.2.cell 0; go_simp
        (try simp only [Act.put, List.setIfInBounds_toArray, List.set_cons_zero, List.set_cons_succ])
        refine wpAnyH_ready (rs := [13]) (by kernel_rfl) (by simp) (AllReadyH.cons rfl (fun K hK => ?_) AllReadyH.nil)
        go_simp
        go_wp2_with (go_at_call 13; refine (HD _ H1.out.b).mono ?_; rintro e y2 ⟨v2, rfl, ho2, hb2⟩)
        have H2 := mkHid (H1.out.on hb2)
        have HBy2 : Hid (Below W.heap.size W y2) := HBy.out.trans (hb2.mono HBy.out.size)
        refine hK.out _ _ ⟨H2.out.r, H2.out.h⟩ (fun hHeld => ?_)
        (try simp only [Act.put, List.setIfInBounds_toArray, List.set_cons_zero, List.set_cons_succ])
        have HV2 := mkHid ho2.isV
        clear hK K hb2 ho2 H1
        obtain ⟨da, dc, hde, _⟩ := HV2.out
        subst hde
        refine wpAnyH_ready (rs := [15]) (by kernel_rfl) (by simp) (AllReadyH.cons rfl (fun K hK => ?_) AllReadyH.nil)
        go_simp
        go_wp2_with (go_at_call 36; refine (HSm _ _ H2.out.b HV2.out).mono ?_; rintro e y3 ⟨rfl, hb3⟩)
        have H3 := mkHid (H2.out.on hb3)
        have HBy3 : Hid (Below W.heap.size W y3) := HBy2.out.trans (hb3.mono HBy2.out.size)
        refine hK.out _ _ ⟨H3.out.r, H3.out.h⟩ (fun hHeld => ?_)
        (try simp only [Act.put, List.setIfInBounds_toArray, List.set_cons_zero, List.set_cons_succ])
        clear hK K hb3 H2 HV2
        refine takeH (some 27) (i := 16) (v := .bool (!EQ)) rfl (by kernel_rfl) (by kernel_rfl) (by kernel_rfl) (fun _ _ _ h => h) (Or.inl ⟨by rfl, ?_⟩) hHeld rfl ?_
        · intro w1 hSw; go_simp
        (try simp only [Act.put, List.setIfInBounds_toArray, List.set_cons_zero, List.set_cons_succ])
        refine takeH (some 28) (i := 17) (v := .bool (!EQ)) rfl (by kernel_rfl) (by kernel_rfl) (by kernel_rfl) (fun _ _ _ h => h) (Or.inl ⟨by rfl, ?_⟩) hHeld rfl ?_
        · intro w1 hSw; go_simp
        (try simp only [Act.put, List.setIfInBounds_toArray, List.set_cons_zero, List.set_cons_succ])
        cases EQ with
        | false =>
          have HNo : Hid (VN = 53) := HVq.out.trans (if_neg (by simp))
          refine wpAnyH_done (by kernel_rfl) ?_ _
          have c1 : y3.cell? ⟨w.heap.size + 1, 0, none⟩ = some (.int .i64 0) := H3.out.e.cell 0
          have f1 := H3.out.e.frozen 0
          have HKo : Hid (KeepO [] W y3) := KeepO.of_below HBy3.out
          clear HWd hHeld
          gi_wp2_with fail
          exact ⟨HKo.out.trans (KeepO.ofT ((KeepT.refl [23] y3).set H3.out.e (by decide) 0 _) (by simp)), H3.out.e.set 0 _, H3.out.b.setCell (p := ⟨w.heap.size + 1, 0, none⟩) (Nat.le_succ _) _, HNo.out⟩
        | true =>
          have HVt : Hid (verB (l.map Prod.fst).reverse hd = verB ((l.map Prod.fst).reverse.drop (k + 1)) xprev) := by unfold Hid; rw [HVs2.out, HVR.out]; rfl
          refine wpAnyH_done (by kernel_rfl) ?_ _
          have c9 : y3.cell? ⟨R, 9, none⟩ = some (.slice xb pl xd) := H3.out.r.cell 9
          have c1 : y3.cell? ⟨w.heap.size, 0, none⟩ = some hv' := H3.out.h.cell 0
          have f1 := H3.out.h.frozen 0
          have HKo : Hid (KeepO [] W y3) := KeepO.of_below HBy3.out
          clear HWd hHeld HVq HVs2 HVR
          gi_wp2_with fail
          have hBn := H3.out.b.setCell (p := ⟨w.heap.size, 0, none⟩) (Nat.le_refl _) (.slice xb pl xd)
          have hSn := H3.out.s.other ⟨w.heap.size, 0, none⟩ (.slice xb pl xd) (by show w.heap.size + 1 + 1 ≠ w.heap.size; omega)
          have hEn := H3.out.e.other ⟨w.heap.size, 0, none⟩ (.slice xb pl xd) (by show w.heap.size + 1 ≠ w.heap.size; omega)
          exact ⟨HKo.out.trans (KeepO.ofT ((KeepT.refl [24] y3).set H3.out.h (by decide) 0 _) (by simp)), fun _ => ⟨hSn, fun k x hx => range_below14 (HBO.out.2.1 k x hx) hBn⟩, _, H3.out.h.set 0 _, xprev, HP.out, hEn, hSn, hBn, HVt.out⟩
      · have hn1 : ¬ (xseq : Int) = (i : Int) + 1 := by omega
        have HNo : Hid (VN = 53) := by unfold Hid; rw [HVN.out, HVr.out, if_neg (by simp [hsq])]
        have HWd := mkHid (HW.out.on (bel_drewN (Below.refl _ W) 1))
        gi_wp2_with fail
        refine region_held_in (fun w' => Blk w' R 26 [.int .u64 (xseq : Int), .int .u64 (xclk : Int), .string xwho, .int .i64 xkind, .string xbkt, .string xkey, .int .u64 (xver : Int), .int .i64 xerr, .slice xa sl xc, .slice xb pl xd] ∧ Blk w' w.heap.size 24 [hv']) (fun ⟨_, _, h⟩ => by first | (rcases h with ⟨h, _⟩ | ⟨h, _⟩ <;> cases h)) ⟨HWd.out.r, HWd.out.h⟩ (fun hHeld => ?_)
        refine takeH (some 11) (i := 0) (v := .agg #[.int .u64 (xseq : Int), .int .u64 (xclk : Int), .string xwho, .int .i64 xkind, .string xbkt, .string xkey, .int .u64 (xver : Int), .int .i64 xerr, .slice xa sl xc, .slice xb pl xd]) rfl (by kernel_rfl) (by kernel_rfl) (by kernel_rfl) (fun _ _ _ h => h) (yieldsIf_load_mid (by rfl) 26 (.tmp 6) (by rfl) R 0 (by rfl) [.int .u64 (xseq : Int), .int .u64 (xclk : Int), .string xwho, .int .i64 xkind, .string xbkt, .string xkey, .int .u64 (xver : Int), .int .i64 xerr, .slice xa sl xc, .slice xb pl xd] _ (fun w1 hw1 => Blk.whole14 hw1.1) Try.underlying26 rfl HI) hHeld rfl ?_
        (try simp only [Act.put, List.setIfInBounds_toArray, List.set_cons_zero, List.set_cons_succ])
        refine wpAnyH_ready (rs := [1]) (by kernel_rfl) (by simp) (AllReadyH.cons rfl (fun K hK => ?_) AllReadyH.nil)
        go_simp
        go_wp2_with (go_at_call 43; refine (HR _).mono ?_; rintro e y1 ⟨rfl, hb1⟩)
        have H1 := mkHid (HWd.out.on hb1)
        have HBy : Hid (Below W.heap.size W y1) := (bel_drewN (Below.refl _ W) 1).trans hb1
        refine hK.out _ _ ⟨H1.out.r, H1.out.h⟩ (fun hHeld => ?_)
        (try simp only [Act.put, List.setIfInBounds_toArray, List.set_cons_zero, List.set_cons_succ])
        clear hK K hb1
        refine takeH (some 13) (i := 2) (v := .bool false) rfl (by kernel_rfl) (by kernel_rfl) (by kernel_rfl) (fun _ _ _ h => h) (Or.inl ⟨by rfl, ?_⟩) hHeld rfl ?_
        · intro w1 hSw; go_simp
        (try simp only [Act.put, List.setIfInBounds_toArray, List.set_cons_zero, List.set_cons_succ])
        refine takeH (some 14) (i := 3) (v := .bool false) rfl (by kernel_rfl) (by kernel_rfl) (by kernel_rfl) (fun _ _ _ h => h) (Or.inl ⟨by rfl, ?_⟩) hHeld rfl ?_
        · intro w1 hSw; go_simp
        (try simp only [Act.put, List.setIfInBounds_toArray, List.set_cons_zero, List.set_cons_succ])
        refine takeH (some 15) (i := 4) (v := .pointer (some ⟨R, 0, none⟩)) rfl (by kernel_rfl) (by kernel_rfl) (by kernel_rfl) (fun _ _ _ h => h) (Or.inl ⟨by rfl, ?_⟩) hHeld rfl ?_
        · intro w1 hSw; go_simp
        (try simp only [Act.put, List.setIfInBounds_toArray, List.set_cons_zero, List.set_cons_succ])
        refine takeH (some 16) (i := 5) (v := .int .u64 (xseq : Int)) rfl (by kernel_rfl) (by kernel_rfl) (by kernel_rfl) (fun _ _ _ h => h) (Or.inl ⟨by rfl, ?_⟩) hHeld rfl ?_
        · intro w1 hSw; have c0 : w1.cell? ⟨R, 0, none⟩ = some (.int .u64 (xseq : Int)) := hSw.1.cell 0; go_simp
        (try simp only [Act.put, List.setIfInBounds_toArray, List.set_cons_zero, List.set_cons_succ])
        refine takeH (some 17) (i := 6) (v := .int .i64 (i : Int)) rfl (by kernel_rfl) (by kernel_rfl) (by kernel_rfl) (fun _ _ _ h => h) (Or.inl ⟨by rfl, ?_⟩) hHeld rfl ?_
        · intro w1 hSw; go_simp
        (try simp only [Act.put, List.setIfInBounds_toArray, List.set_cons_zero, List.set_cons_succ])
        refine takeH (some 18) (i := 7) (v := .int .u64 (i : Int)) rfl (by kernel_rfl) (by kernel_rfl) (by kernel_rfl) (fun _ _ _ h => h) (Or.inl ⟨by rfl, ?_⟩) hHeld rfl ?_
        · intro w1 hSw; go_simp
        (try simp only [Act.put, List.setIfInBounds_toArray, List.set_cons_zero, List.set_cons_succ])
        refine takeH (some 19) (i := 8) (v := .int .u64 ((i : Int) + 1)) rfl (by kernel_rfl) (by kernel_rfl) (by kernel_rfl) (fun _ _ _ h => h) (Or.inl ⟨by rfl, ?_⟩) hHeld rfl ?_
        · intro w1 hSw; go_simp
        (try simp only [Act.put, List.setIfInBounds_toArray, List.set_cons_zero, List.set_cons_succ])
        refine takeH (some 20) (i := 9) (v := .bool true) rfl (by kernel_rfl) (by kernel_rfl) (by kernel_rfl) (fun _ _ _ h => h) (Or.inl ⟨by rfl, ?_⟩) hHeld rfl ?_
        · intro w1 hSw; go_simp
        (try simp only [Act.put, List.setIfInBounds_toArray, List.set_cons_zero, List.set_cons_succ])
        refine takeH (some 21) (i := 10) (v := .bool true) rfl (by kernel_rfl) (by kernel_rfl) (by kernel_rfl) (fun _ _ _ h => h) (Or.inl ⟨by rfl, ?_⟩) hHeld rfl ?_
        · intro w1 hSw; go_simp
        (try simp only [Act.put, List.setIfInBounds_toArray, List.set_cons_zero, List.set_cons_succ])
        refine takeH (some 22) (i := 11) (v := .bool true) rfl (by kernel_rfl) (by kernel_rfl) (by kernel_rfl) (fun _ _ _ h => h) (Or.inl ⟨by rfl, ?_⟩) hHeld rfl ?_
        · intro w1 hSw; go_simp
        (try simp only [Act.put, List.setIfInBounds_toArray, List.set_cons_zero, List.set_cons_succ])
        refine takeH (some 23) (i := 12) (v := undef) rfl (by kernel_rfl) (by kernel_rfl) (by kernel_rfl) (fun _ _ _ h => h) (Or.inr ⟨by rfl, rfl⟩) hHeld rfl ?_
        (try simp only [Act.put, List.setIfInBounds_toArray, List.set_cons_zero, List.set_cons_succ])
        refine takeH (some 24) (i := 13) (v := undef) rfl (by kernel_rfl) (by kernel_rfl) (by kernel_rfl) (fun _ _ _ h => h) (Or.inr ⟨by rfl, rfl⟩) hHeld rfl ?_
        (try simp only [Act.put, List.setIfInBounds_toArray, List.set_cons_zero, List.set_cons_succ])
        refine takeH (some 25) (i := 14) (v := undef) rfl (by kernel_rfl) (by kernel_rfl) (by kernel_rfl) (fun _ _ _ h => h) (Or.inr ⟨by rfl, rfl⟩) hHeld rfl ?_
        (try simp only [Act.put, List.setIfInBounds_toArray, List.set_cons_zero, List.set_cons_succ])
        refine takeH (some 26) (i := 15) (v := undef) rfl (by kernel_rfl) (by kernel_rfl) (by kernel_rfl) (fun _ _ _ h => h) (Or.inr ⟨by rfl, rfl⟩) hHeld rfl ?_
        (try simp only [Act.put, List.setIfInBounds_toArray, List.set_cons_zero, List.set_cons_succ])
        refine takeH (some 27) (i := 16) (v := undef) rfl (by kernel_rfl) (by kernel_rfl) (by kernel_rfl) (fun _ _ _ h => h) (Or.inr ⟨by rfl, rfl⟩) hHeld rfl ?_
        (try simp only [Act.put, List.setIfInBounds_toArray, List.set_cons_zero, List.set_cons_succ])
        refine takeH (some 28) (i := 17) (v := .bool true) rfl (by kernel_rfl) (by kernel_rfl) (by kernel_rfl) (fun _ _ _ h => h) (Or.inl ⟨by rfl, ?_⟩) hHeld rfl ?_
        · intro w1 hSw; go_simp
        (try simp only [Act.put, List.setIfInBounds_toArray, List.set_cons_zero, List.set_cons_succ])
        refine wpAnyH_done (by kernel_rfl) ?_ _
        have c1 : y1.cell? ⟨w.heap.size + 1, 0, none⟩ = some (.int .i64 0) := H1.out.e.cell 0
        have f1 := H1.out.e.frozen 0
        have HKo : Hid (KeepO [] W y1) := KeepO.of_below HBy.out
        clear HWd hHeld
        gi_wp2_with fail
        exact ⟨HKo.out.trans (KeepO.ofT ((KeepT.refl [23] y1).set H1.out.e (by decide) 0 _) (by simp)), H1.out.e.set 0 _, H1.out.b.setCell (p := ⟨w.heap.size + 1, 0, none⟩) (Nat.le_succ _) _, HNo.out⟩
  case done =>
    rintro D W hD ⟨hv', g, h1, h2, h3, h4, h5, h6⟩ hK
    have hVg : VN = if g.length = 0 then 0 else 53 := by
      rw [HVN.out, h6, List.drop_of_length_le (by rw [List.length_reverse, List.length_map]; have := HL.out; omega), verB]
      by_cases hg : g = []
      · subst hg; rfl
      · rw [decide_eq_false hg, if_neg (by simp), if_neg (fun e => hg (List.length_eq_zero_iff.1 e))]
    have HVg := mkHid hVg
    obtain ⟨ga, gc, rfl, _⟩ := h2
    have hwD : w.heap.size + 1 + 1 + 1 ≤ D := by have := HVs.out; omega
    have c0 : W.cell? ⟨w.heap.size, 0, none⟩ = some (.slice ga g.length gc) := h1.cell 0
    have c1 : W.cell? ⟨w.heap.size + 1, 0, none⟩ = some (.int .i64 0) := h3.cell 0
    have f1 := h3.frozen 0
    have HKD := mkHid hK
    have HE3 := mkHid h3
    have HB5 := mkHid h5
    clear h1 h3 h4 h5 h6 hK hVg HSeq
    generalize g.length = gl at *
    simp only [Exit.inBlock, Exit.then]
    rcases Nat.eq_zero_or_pos gl with hz | hz
    · subst hz
      have HVz : Hid (VN = 0) := HVg.out.trans (if_pos rfl)
      clear HVg
      go_wp2_with fail
      have hT := (KeepT.refl [23] W).set HE3.out (by decide) 0 (.int .i64 0)
      have hK' := hT.same D _ HKD.out (fun c t fz e => by cases e)
      refine ⟨by simp, .inl ⟨_, _, rfl, run_takeDeferred hK', ?_⟩⟩
      have hTu : Turn w.heap.size _ _ := Turn.put (.deferred none) hK' rfl (by omega)
      exact ⟨_, results_cell1 (P := Try.prog) rfl _ _ (w.heap.size + 1) _ rfl (load_er14 _ _ _ (hTu.same _ _ (HE3.out.set 0 _) rfl)), by rw [HVz.out], (HB5.out.setCell (p := ⟨w.heap.size + 1, 0, none⟩) (Nat.le_succ _) _).trans hTu.b⟩
    · have hz' : (0 : Int) < (gl : Int) := by omega
      have HVz : Hid (VN = 53) := HVg.out.trans (if_neg (by omega))
      clear HVg
      go_wp2_with fail
      have hT := (KeepT.refl [23] W).set HE3.out (by decide) 0 (.int .i64 53)
      have hK' := hT.same D _ HKD.out (fun c t fz e => by cases e)
      refine ⟨by simp, .inl ⟨_, _, rfl, run_takeDeferred hK', ?_⟩⟩
      have hTu : Turn w.heap.size _ _ := Turn.put (.deferred none) hK' rfl (by omega)
      exact ⟨_, results_cell1 (P := Try.prog) rfl _ _ (w.heap.size + 1) _ rfl (load_er14 _ _ _ (hTu.same _ _ (HE3.out.set 0 _) rfl)), by rw [HVz.out], (HB5.out.setCell (p := ⟨w.heap.size + 1, 0, none⟩) (Nat.le_succ _) _).trans hTu.b⟩
  case stop =>
    rintro D k W hD ⟨k1, k2, hvn⟩ hK
    have hwD : w.heap.size + 1 + 1 + 1 ≤ D := by have := HVs.out; omega
    gi_wp2
    refine ⟨by simp, .inl ⟨_, _, rfl, run_takeDeferred hK, ?_⟩⟩
    have hTu : Turn w.heap.size _ _ := Turn.put (.deferred none) hK rfl (by omega)
    exact ⟨_, results_cell1 (P := Try.prog) rfl _ _ (w.heap.size + 1) _ rfl (load_er14 _ _ _ (hTu.same _ _ k1 rfl)), by rw [hvn], k2.trans hTu.b⟩
end Go.Proofs.Ytbclhaleibjkgaa
