/- The program's Collision. -/
import Derived.Test.YtbclhaleibjkgaaC1
import Derived.Test.YtbclhaleibjkgaaAu22
namespace Go.Proofs.Ytbclhaleibjkgaa
open Go.RowKit Go.Shelf
attribute [local go_sem] Oper.semAt_some

theorem results_cells14 {P : Program} {fn : Func} {p q u : Tmp} {t1 t2 t3 : TypeId} (h : fn.results = #[.cell p t1, .cell q t2, .cell u t3]) (tmps : Array Value) (w : World) (g1 g2 g3 : Nat) (x y z : Value)
    (hp : tmps.getD p undef = .pointer (some ⟨g1, 0, none⟩)) (hq : tmps.getD q undef = .pointer (some ⟨g2, 0, none⟩)) (hu : tmps.getD u undef = .pointer (some ⟨g3, 0, none⟩))
    (h1 : (loadVar t1 ⟨g1, 0, none⟩).run P w = .ok x w) (h2 : (loadVar t2 ⟨g2, 0, none⟩).run P w = .ok y w) (h3 : (loadVar t3 ⟨g3, 0, none⟩).run P w = .ok z w) : (results fn tmps).run P w = .ok (.tuple #[x, y, z]) w := by
  have q1 : tmps[p]?.getD undef = .pointer (some ⟨g1, 0, none⟩) := by simpa using hp
  have q2 : tmps[q]?.getD undef = .pointer (some ⟨g2, 0, none⟩) := by simpa using hq
  have q3 : tmps[u]?.getD undef = .pointer (some ⟨g3, 0, none⟩) := by simpa using hu
  simp only [results, h]
  simp [q1, q2, q3, asAddr, Result.andThen, h1, h2, h3]
theorem load_sl14 (w : World) (g : Nat) (v : Value) (h : Blk w g 24 [v]) : (loadVar 24 ⟨g, 0, none⟩).run Try.prog w = .ok v w := by
  have hc : w.cell? ⟨g, 0, none⟩ = some v := h.cell 0
  simp [loadVar, go_sem, hc]
theorem load_bo14 (w : World) (g : Nat) (v : Value) (h : Blk w g 4 [v]) : (loadVar 4 ⟨g, 0, none⟩).run Try.prog w = .ok v w := by
  have hc : w.cell? ⟨g, 0, none⟩ = some v := h.cell 0
  simp [loadVar, go_sem, hc]
/-- bytes in a world of which loops' records alone are turned -/
theorem cell_turn14 {B : Nat} {w w' : World} (h : Turn B w w') {a : Addr} {v : Value} (hc : w.cell? a = some v) : w'.cell? a = some v := by
  unfold World.cell? at hc ⊢
  cases ho : w.heap[a.block]? with
  | none => rw [ho] at hc; cases hc
  | some o =>
    rw [ho] at hc
    cases o with
    | cells c t fz => rw [h.same _ _ ho rfl]; exact hc
    | _ => cases hc
theorem isV_turn14 {B : Nat} {w w' : World} {v : Value} {l : List UInt8} (h : IsV w v l) (ht : Turn B w w') : IsV w' v l := by
  obtain ⟨a, c, rfl, hb⟩ := h
  exact ⟨a, c, rfl, hb.len_eq, hb.le, hb.max, hb.nil, fun hp => by
    obtain ⟨b, off, e, hc⟩ := hb.cells hp
    exact ⟨b, off, e, fun i hi => cell_turn14 ht (hc i hi)⟩⟩
theorem isV_set14 {w : World} {B t : Nat} {cs : List Value} {v : Value} {l : List UInt8} (h : IsV w v l) (hk : Blk w B t cs) (hc : ∀ (j : Nat) (n : Int), cs[j]? ≠ some (Value.int .u8 n)) (j : Nat) (u : Value) : IsV (w.setCell ⟨B, j, none⟩ u) v l := by
  obtain ⟨a, c, rfl, hb⟩ := h
  exact ⟨a, c, rfl, hb.len_eq, hb.le, hb.max, hb.nil, fun hp => by
    obtain ⟨b, off, e, hcell⟩ := hb.cells hp
    have hne : b ≠ B := by
      rintro rfl
      have := hcell 0 hp
      rw [hk.cell] at this
      exact hc _ _ this
    refine ⟨b, off, e, fun i hi => ?_⟩
    rw [← hcell i hi]
    unfold World.cell?
    simp only []
    rw [heap_setCell_other w ⟨B, j, none⟩ b u hne]⟩
theorem isV_below14 {w w' : World} {v : Value} {l : List UInt8} (h : IsV w v l) (hb : Below w.heap.size w w') : IsV w' v l := h.below hb rfl
theorem digSameW14 (v1 v2 : Value) (l m : List UInt8) (w : World) (h1 : IsV w v1 l) (h2 : IsV w v2 m) : Calls Try.prog 36 #[v1, v2] w fun e w' => e = .returned (.bool (decide (l = m))) ∧ Below w.heap.size w w' := by
  refine Calls.mono (digSameV v1 v2 l m w h1 h2) ?_
  rintro e w' ⟨rfl, n, rfl⟩
  exact ⟨by rw [eqB_dec14], bel_drewN (Below.refl _ _) n⟩
structure CxP where
  a : Option Addr
  n : Nat
  cap : Nat
  b : Option Addr
  m : Nat
  cap' : Nat
  Ba : Nat
  oa : Nat
  Bb : Nat
  ob : Nat
  l : List Rq14
  l' : List Rq14
abbrev VarP (p : CxP) (w W : World) : Prop := VarC (w.heap.size + 1 + 1 + 1) (w.heap.size + 1 + 1 + 1 + 1) p.a p.n p.cap p.b p.m p.cap' p.Ba p.oa p.Bb p.ob p.l p.l' W
/-- the function's own, which lies below -/
structure LowP (p : CxP) (w : World) : Prop where
  a : 0 < p.l.length → p.Ba < w.heap.size
  b : 0 < p.l'.length → p.Bb < w.heap.size
/-- how Collision stands: its three results, what came in; W0: since when no loop's record was turned -/
structure CxAt (p : CxP) (w W0 W : World) (vx vy vb : Value) : Prop where
  x : Blk W w.heap.size 24 [vx]
  y : Blk W (w.heap.size + 1) 24 [vy]
  b : Blk W (w.heap.size + 1 + 1) 4 [vb]
  v : VarP p w W
  lo : LowP p w
  bel : Below w.heap.size w W
  k : KeepO [] W0 W
theorem CxAt.on {p : CxP} {w W0 W W' : World} {vx vy vb : Value} (h : CxAt p w W0 W vx vy vb) (hb : Below W.heap.size W W') : CxAt p w W0 W' vx vy vb := ⟨h.x.on hb, h.y.on hb, h.b.on hb, h.v.on hb, h.lo, h.bel.trans (hb.mono h.bel.size), h.k.trans (KeepO.of_below hb)⟩
theorem CxAt.vset {p : CxP} {w W0 W : World} {vx vy vb : Value} (h : CxAt p w W0 W vx vy vb) (B : Nat) (h1 : w.heap.size ≤ B) (h2 : B ≤ w.heap.size + 1 + 1) (u : Value) : VarP p w (W.setCell ⟨B, 0, none⟩ u) :=
  h.v.keepO (heap_setCell_other W ⟨B, 0, none⟩ _ u (by show _ ≠ B; omega)) (heap_setCell_other W ⟨B, 0, none⟩ _ u (by show _ ≠ B; omega)) (fun hp => heap_setCell_other W ⟨B, 0, none⟩ _ u (by show _ ≠ B; have := h.lo.a hp; omega)) (fun hp => heap_setCell_other W ⟨B, 0, none⟩ _ u (by show _ ≠ B; have := h.lo.b hp; omega))
theorem CxAt.setx {p : CxP} {w W0 W : World} {vx vy vb : Value} (h : CxAt p w W0 W vx vy vb) (u : Value) : CxAt p w W0 (W.setCell ⟨w.heap.size, 0, none⟩ u) u vy vb :=
  ⟨h.x.set 0 u, h.y.other _ _ (by show w.heap.size + 1 ≠ w.heap.size; omega), h.b.other _ _ (by show w.heap.size + 1 + 1 ≠ w.heap.size; omega), h.vset _ (Nat.le_refl _) (by omega) u, h.lo, h.bel.setCell (p := ⟨w.heap.size, 0, none⟩) (Nat.le_refl _) u, h.k.trans (KeepO.ofT ((KeepT.refl [24] W).set h.x (by decide) 0 u) (by simp))⟩
theorem CxAt.sety {p : CxP} {w W0 W : World} {vx vy vb : Value} (h : CxAt p w W0 W vx vy vb) (u : Value) : CxAt p w W0 (W.setCell ⟨w.heap.size + 1, 0, none⟩ u) vx u vb :=
  ⟨h.x.other _ _ (by show w.heap.size ≠ w.heap.size + 1; omega), h.y.set 0 u, h.b.other _ _ (by show w.heap.size + 1 + 1 ≠ w.heap.size + 1; omega), h.vset _ (by omega) (by omega) u, h.lo, h.bel.setCell (p := ⟨w.heap.size + 1, 0, none⟩) (by show w.heap.size ≤ w.heap.size + 1; omega) u, h.k.trans (KeepO.ofT ((KeepT.refl [24] W).set h.y (by decide) 0 u) (by simp))⟩
theorem CxAt.setb {p : CxP} {w W0 W : World} {vx vy vb : Value} (h : CxAt p w W0 W vx vy vb) (u : Value) : CxAt p w W0 (W.setCell ⟨w.heap.size + 1 + 1, 0, none⟩ u) vx vy u :=
  ⟨h.x.other _ _ (by show w.heap.size ≠ w.heap.size + 1 + 1; omega), h.y.other _ _ (by show w.heap.size + 1 ≠ w.heap.size + 1 + 1; omega), h.b.set 0 u, h.vset _ (by omega) (by omega) u, h.lo, h.bel.setCell (p := ⟨w.heap.size + 1 + 1, 0, none⟩) (by show w.heap.size ≤ w.heap.size + 1 + 1; omega) u, h.k.trans (KeepO.ofT ((KeepT.refl [4] W).set h.b (by decide) 0 u) (by simp))⟩
theorem CxAt.start {p : CxP} {w W0 W : World} {vx vy vb : Value} (h : CxAt p w W0 W vx vy vb) : CxAt p w W W vx vy vb := ⟨h.x, h.y, h.b, h.v, h.lo, h.bel, KeepO.refl _ _⟩
theorem CxAt.turn {p : CxP} {w W0 W W' : World} {vx vy vb : Value} (h : CxAt p w W0 W vx vy vb) (ht : Turn w.heap.size W W') : CxAt p w W' W' vx vy vb :=
  ⟨ht.same _ _ h.x rfl, ht.same _ _ h.y rfl, ht.same _ _ h.b rfl, ⟨ht.same _ _ h.v.a rfl, ht.same _ _ h.v.b rfl, fun k x hx j v hv => cell_turn14 ht (h.v.l k x hx j v hv), fun k x hx j v hv => cell_turn14 ht (h.v.l' k x hx j v hv)⟩, h.lo, h.bel.trans ht.b, KeepO.refl _ _⟩
theorem no8_14 (v : Value) (hv : ∀ n, v ≠ Value.int .u8 n) : ∀ (j : Nat) (n : Int), ([v] : List Value)[j]? ≠ some (Value.int .u8 n) := by
  intro j n e
  match j with
  | 0 => exact hv n (Option.some.inj e)
  | j + 1 => cases e
theorem isV_not8 {w : World} {v : Value} {l : List UInt8} (h : IsV w v l) : ∀ n, v ≠ Value.int .u8 n := by obtain ⟨a, c, rfl, _⟩ := h; intro n e; cases e
theorem colB_same14 {r s : Rc} (a b : List Rc) (h : sameRc r s = true) : colB (r :: a) (s :: b) = colB a b := by rw [colB, if_pos h]
theorem colB_hit14 {r s : Rc} (a b : List Rc) (h : sameRc r s = false) (hd : digRc r = digRc s) : colB (r :: a) (s :: b) = some (r, s) := by rw [colB, if_neg (by rw [h]; simp), if_pos hd]
theorem colB_miss14 {r s : Rc} (a b : List Rc) (h : sameRc r s = false) (hd : ¬ digRc r = digRc s) : colB (r :: a) (s :: b) = none := by rw [colB, if_neg (by rw [h]; simp), if_neg hd]
set_option maxRecDepth 100000 in
set_option maxHeartbeats 8000000 in
theorem codCollision14 (a : Option Addr) (n cap : Nat) (l : List Rq14) (b : Option Addr) (m cap' : Nat) (l' : List Rq14) (w : World) (h : IsRl w a n l) (h' : IsRl w b m l') (hs : ∀ x ∈ l, rcLen x.1 ≤ 20000) (hs' : ∀ x ∈ l', rcLen x.1 ≤ 20000) (hn : n ≤ 100000) (hm : m ≤ 100000) :
    Calls Try.prog 24 #[.slice a n cap, .slice b m cap'] w fun e w' => CoPost14 w (coX14 (l.map Prod.fst) (l'.map Prod.fst)) (coY14 (l.map Prod.fst) (l'.map Prod.fst)) (colL (l.map Prod.fst) (l'.map Prod.fst)).isSome e w' := by
  have HN := mkHid (@col_none14 (l.map Prod.fst) (l'.map Prod.fst))
  have HYs := mkHid (fun p => @col_some14 (l.map Prod.fst) (l'.map Prod.fst) p)
  have HL := mkHid h.len
  have HL' := mkHid h'.len
  have HX := mkHid h
  have HX' := mkHid h'
  have HSs := mkHid hs
  have HSs' := mkHid hs'
  have HCo : Hid (colL (l.map Prod.fst) (l'.map Prod.fst) = colB (l.map Prod.fst).reverse (l'.map Prod.fst).reverse) := rfl
  have hB1 : ∀ {a : Option Addr} {n : Nat} {l : List Rq14}, IsRl w a n l → ∃ B off, (0 < n → a = some ⟨B, off, none⟩) ∧ RowsR B off l w ∧ (0 < n → B < w.heap.size) := by
    intro a n l h
    rcases Nat.eq_zero_or_pos n with h0 | h0
    · have hl0 : l = [] := List.length_eq_zero_iff.1 (h.len.trans h0)
      subst h0 hl0
      exact ⟨0, 0, fun x => absurd x (Nat.lt_irrefl 0), (fun k x hx => by cases hx), fun x => absurd x (Nat.lt_irrefl 0)⟩
    · obtain ⟨B, off, e, hc⟩ := h.cells h0
      obtain ⟨x, hx⟩ : ∃ x, l[0]? = some x := ⟨l[0]'(by rw [h.len]; exact h0), List.getElem?_eq_getElem _⟩
      exact ⟨B, off, fun _ => e, hc, fun _ => cell_lt (a := ⟨B, off + 0 * 10 + 0, none⟩) (hc 0 x hx 0 _ rfl)⟩
  obtain ⟨Ba, oa, hBa⟩ := hB1 h
  obtain ⟨Bb, ob, hBb⟩ := hB1 h'
  have HBa := mkHid hBa
  have HBb := mkHid hBb
  clear h h' hs hs' hB1 hBa hBb
  unfold CoPost14
  generalize coX14 (l.map Prod.fst) (l'.map Prod.fst) = CX at *
  generalize coY14 (l.map Prod.fst) (l'.map Prod.fst) = CY at *
  generalize colL (l.map Prod.fst) (l'.map Prod.fst) = CO at *
  generalize hFo : CO.isSome = FO at *
  clear hFo
  refine (callsIn_wide (n := 6)).1 ?_
  refine callsIn_of_wp_marks Try.func24 rfl trivial ?_ rfl
  refine wpIn_wide.2 ?_
  simp only [Try.ntmps24, List.size_toArray, List.length_cons, List.length_nil, Nat.reduceAdd, Nat.reduceSub, Array.replicate_succ, Array.replicate_zero, List.push_toArray, List.append_toArray, List.nil_append, List.cons_append]
  go_upto_region 1 with fail
  have hzs : (((w.alloc (.cells #[.slice none 0 0] 24)).alloc (.cells #[.slice none 0 0] 24)).alloc (.cells #[.bool false] 4)).heap.size = w.heap.size + 1 + 1 + 1 := by rw [World.size_alloc, World.size_alloc, World.size_alloc]
  have hbZ : Below w.heap.size w (((w.alloc (.cells #[.slice none 0 0] 24)).alloc (.cells #[.slice none 0 0] 24)).alloc (.cells #[.bool false] 4)) := (((Below.refl _ w).alloc (Nat.le_refl _) _).alloc (by simp) _).alloc (by simp; omega) _
  have hkX := ((Blk.new w 24 [.slice none 0 0]).alloc (.cells #[.slice none 0 0] 24)).alloc (.cells #[.bool false] 4)
  have hkY := (Blk.newAt (w.alloc (.cells #[.slice none 0 0] 24)) (w.heap.size + 1) 24 _ [.slice none 0 0] (World.size_alloc _ _) rfl).alloc (.cells #[.bool false] 4)
  have hkB := Blk.newAt ((w.alloc (.cells #[.slice none 0 0] 24)).alloc (.cells #[.slice none 0 0] 24)) (w.heap.size + 1 + 1) 4 _ [.bool false] (by rw [World.size_alloc, World.size_alloc]) rfl
  generalize World.alloc _ _ = Z at *
  go_wp2_with fail
  refine (callsIn_wide.1 (codFrom14 5 a n cap b m cap' Z)).mono ?_
  rintro e V ⟨rfl, hV⟩
  have hbV : Below Z.heap.size Z V := by rw [hV]; exact ((Below.refl _ Z).alloc (Nat.le_refl _) _).alloc (by simp) _
  have hvA : Blk V Z.heap.size 36 [.slice a n cap] := by rw [hV]; exact (Blk.new Z _ [_]).alloc _
  have hvB : Blk V (Z.heap.size + 1) 36 [.slice b m cap'] := by rw [hV]; exact Blk.newAt _ _ _ _ [_] (World.size_alloc _ _) rfl
  have hVs : V.heap.size = w.heap.size + 1 + 1 + 1 + 1 + 1 := by rw [hV, World.size_alloc, World.size_alloc, hzs]
  rw [hzs] at hvA hvB ⊢
  have hbW := hbZ.trans (hbV.mono hbZ.size)
  have HC0 := mkHid (CxAt.mk (p := ⟨a, n, cap, b, m, cap', Ba, oa, Bb, ob, l, l'⟩) (w := w) (W0 := V) (W := V) (hkX.on hbV) (hkY.on hbV) (hkB.on hbV)
    ⟨hvA, hvB, fun k x hx => range_below14 (HBa.out.2.1 k x hx) hbW, fun k x hx => range_below14 (HBb.out.2.1 k x hx) hbW⟩ ⟨fun hp => HBa.out.2.2 (by have := HL.out; have hp2 : 0 < l.length := hp; omega), fun hp => HBb.out.2.2 (by have := HL'.out; have hp2 : 0 < l'.length := hp; omega)⟩ hbW (KeepO.refl _ _))
  have HVs := mkHid hVs
  clear hV hbV hvA hvB hVs hbZ hkX hkY hkB hzs hbW
  go_wp2_with fail
  have HSeq := seqFrom14 5 (by omega) (w.heap.size + 1 + 1 + 1) (w.heap.size + 1 + 1 + 1 + 1) Ba oa Bb ob a n cap b m cap' l l' HL.out HL'.out hn hm HBa.out.1 HBb.out.1
  refine (wpIn_wide (n := 6)).1 ?_
  refine range_s (by omega) (gf := 67) (lb := #[.pointer (some ⟨w.heap.size + 1 + 1 + 1, 0, none⟩), .pointer (some ⟨w.heap.size + 1 + 1 + 1 + 1, 0, none⟩)]) rfl (enters_of Try.func67 (by kernel_rfl) rfl)
    HSeq (fun W hW => HC0.out.v.on hW) (fun A B C h1 h2 h => h2 (h1 h)) (fun W l o hl hv => hv.keepO (World.putObj_heap_other (by have := HVs.out; omega)) (World.putObj_heap_other (by have := HVs.out; omega)) (fun hp => World.putObj_heap_other (by have := HVs.out; have := HC0.out.lo.a hp; simp only [] at this; omega)) (fun hp => World.putObj_heap_other (by have := HVs.out; have := HC0.out.lo.b hp; simp only [] at this; omega))) (fun k => by rw [enC_size]; rfl)
    (fun k W => CxAt ⟨a, n, cap, b, m, cap', Ba, oa, Bb, ob, l, l'⟩ w W W (.slice none 0 0) (.slice none 0 0) (.bool false) ∧ CO = colB ((l.map Prod.fst).reverse.drop k) ((l'.map Prod.fst).reverse.drop k))
    (fun k W => ∃ v1 v2, CxAt ⟨a, n, cap, b, m, cap', Ba, oa, Bb, ob, l, l'⟩ w W W v1 v2 (.bool FO) ∧ IsV W v1 CX ∧ IsV W v2 CY)
    ?hI ?hIx ?h0
    (fun k f W => ∃ i j x y R S, i + 1 + k = l.length ∧ l[i]? = some x ∧ j + 1 + k = l'.length ∧ l'[j]? = some y ∧ f = { tmps := #[.slice a n cap, .slice b m cap', undef, undef, .pointer (some ⟨w.heap.size, 0, none⟩), .pointer (some ⟨w.heap.size + 1, 0, none⟩), .pointer (some ⟨w.heap.size + 1 + 1, 0, none⟩), .pointer (some ⟨R, 0, none⟩), .pointer (some ⟨S, 0, none⟩), .slice a n cap, .slice b m cap', .func (.func 67) #[] #[.pointer (some ⟨w.heap.size + 1 + 1 + 1, 0, none⟩), .pointer (some ⟨w.heap.size + 1 + 1 + 1 + 1, 0, none⟩)], .agg (rcc x.1 x.2).toArray, .agg (rcc y.1 y.2).toArray, undef, undef, undef, undef, undef, undef, undef, undef, undef, undef, undef, undef, undef, undef], defers := [] } ∧ Blk W R 26 (rcc x.1 x.2) ∧ Blk W S 26 (rcc y.1 y.2) ∧ w.heap.size + 1 + 1 + 1 + 1 + 1 ≤ R ∧ w.heap.size + 1 + 1 + 1 + 1 + 1 ≤ S)
    ?hAs ?hKa ?assign ?body ?done ?stop
  case hI =>
    rintro k A C ⟨h1, h2⟩ hT
    exact ⟨h1.turn ⟨hT.b.mono HC0.out.bel.size, hT.same⟩, h2⟩
  case hIx =>
    rintro k A C ⟨v1, v2, h1, h2, h3⟩ hT
    exact ⟨v1, v2, h1.turn ⟨hT.b.mono HC0.out.bel.size, hT.same⟩, isV_turn14 h2 hT, isV_turn14 h3 hT⟩
  case h0 => exact ⟨HC0.out, HCo.out⟩
  case hAs =>
    rintro k f A C ⟨i, j, x, y, R, S, h1, h2, h3, h4, h5, h6, h7, h8⟩ hT
    exact ⟨i, j, x, y, R, S, h1, h2, h3, h4, h5, hT.same _ _ h6 rfl, hT.same _ _ h7 rfl, h8⟩
  case hKa => exact fun A C hb _ hv => hv.on hb
  case assign =>
    intro l0 k W K hi hk hK
    have hbW := hi.1.v.b.lt
    obtain ⟨i, hi⟩ : ∃ i : Nat, i + 1 + k = l.length := ⟨l.length - 1 - k, by have := HL.out; omega⟩
    obtain ⟨j, hj⟩ : ∃ j : Nat, j + 1 + k = l'.length := ⟨l'.length - 1 - k, by have := HL'.out; omega⟩
    obtain ⟨x, hx⟩ : ∃ x, l[i]? = some x := ⟨l[i]'(by omega), List.getElem?_eq_getElem _⟩
    obtain ⟨y, hy⟩ : ∃ y, l'[j]? = some y := ⟨l'[j]'(by omega), List.getElem?_eq_getElem _⟩
    obtain ⟨R, hR⟩ : ∃ R, R = W.heap.size := ⟨_, rfl⟩
    obtain ⟨S, hS⟩ : ∃ S, S = W.heap.size + 1 := ⟨_, rfl⟩
    have hKK := hK { tmps := #[.slice a n cap, .slice b m cap', undef, undef, .pointer (some ⟨w.heap.size, 0, none⟩), .pointer (some ⟨w.heap.size + 1, 0, none⟩), .pointer (some ⟨w.heap.size + 1 + 1, 0, none⟩), .pointer (some ⟨R, 0, none⟩), .pointer (some ⟨S, 0, none⟩), .slice a n cap, .slice b m cap', .func (.func 67) #[] #[.pointer (some ⟨w.heap.size + 1 + 1 + 1, 0, none⟩), .pointer (some ⟨w.heap.size + 1 + 1 + 1 + 1, 0, none⟩)], .agg (rcc x.1 x.2).toArray, .agg (rcc y.1 y.2).toArray, undef, undef, undef, undef, undef, undef, undef, undef, undef, undef, undef, undef, undef, undef], defers := [] } ((W.alloc (.cells (rcc x.1 x.2).toArray 26)).alloc (.cells (rcc y.1 y.2).toArray 26)) (((Below.refl _ W).alloc (Nat.le_refl _) _).alloc (by simp) _)
      ⟨i, j, x, y, R, S, hi, hx, hj, hy, rfl, by rw [hR]; exact (Blk.new W _ (rcc x.1 x.2)).alloc _, by rw [hS]; exact Blk.newAt _ _ _ _ (rcc y.1 y.2) (World.size_alloc _ _) rfl, by omega, by omega⟩
    rw [enC_eq hi hx hj hy]
    subst hR hS
    have HKK := mkHid hKK
    clear hK hKK hbW hi hx hj hy HSeq
    obtain ⟨⟨xseq, xclk, xwho, xkind, xbkt, xkey, xver, xerr, xsum, xprev⟩, ⟨xa, xc, xb, xd⟩⟩ := x
    obtain ⟨⟨yseq, yclk, ywho, ykind, ybkt, ykey, yver, yerr, ysum, yprev⟩, ⟨ya, yc, yb, yd⟩⟩ := y
    simp only [rcc] at HKK ⊢
    gi_wp2
    exact HKK.out
  case body =>
    rintro l0 k f W ⟨hC, hCo⟩ ⟨i, j, x, y, R, S, hi, hx, hj, hy, rfl, hkR, hkS, hRlo, hSlo⟩ hlt
    obtain ⟨d1, -⟩ := rev_drop14 hi hx
    obtain ⟨d2, -⟩ := rev_drop14 hj hy
    rw [d1, d2] at hCo
    have hlx : rcLen x.1 ≤ 20000 := HSs.out x (List.mem_of_getElem? hx)
    have hly : rcLen y.1 ≤ 20000 := HSs'.out y (List.mem_of_getElem? hy)
    have hXx := HX.out.recs x (List.mem_of_getElem? hx)
    have hXy := HX'.out.recs y (List.mem_of_getElem? hy)
    have HSm : ∀ V, Below w.heap.size w V → Calls Try.prog 15 #[.agg (rcc x.1 x.2).toArray, .agg (rcc y.1 y.2).toArray] V fun e w' => e = .returned (.bool (sameRc x.1 y.1)) ∧ Below V.heap.size V w' := fun V hV => codSame14 x.1 y.1 x.2 y.2 V (hXx.below hV) (hXy.below hV)
    have HS1 := fun V (hV : Below w.heap.size w V) => codShow14 x.1 x.2 V (hXx.below hV) hlx
    have HS2 := fun V (hV : Below w.heap.size w V) => codShow14 y.1 y.2 V (hXy.below hV) hly
    have HI_cx : (Try.prog.info? 26).map (·.size) = some (rcc x.1 x.2).length := info14 x.1 x.2
    have HI_cy : (Try.prog.info? 26).map (·.size) = some (rcc y.1 y.2).length := info14 y.1 y.2
    have hax : (showRc x.1).length < 4294967296 := by rw [showRc_len]; omega
    have hay : (showRc y.1).length < 4294967296 := by rw [showRc_len]; omega
    have HD1 : Hid (digRc x.1 = sha256L (showRc x.1)) := rfl
    have HD2 : Hid (digRc y.1 = sha256L (showRc y.1)) := rfl
    have HC := mkHid hC
    have HR := mkHid hkR
    have HSk := mkHid hkS
    have HRlo := mkHid hRlo
    have HSlo := mkHid hSlo
    clear hC hkR hkS hRlo hSlo hlx hly hXx hXy hx hy hi hj d1 d2 hlt HSeq HC0 HX HX' HSs HSs'
    generalize hcx : rcc x.1 x.2 = cx at *
    generalize hcy : rcc y.1 y.2 = cy at *
    clear hcx hcy
    have hIa : (Try.prog.info? 26).map (·.size) = some cx.toArray.size := by simpa using HI_cx
    have hIb : (Try.prog.info? 26).map (·.size) = some cy.toArray.size := by simpa using HI_cy
    gi_wp2_with (first | (refine wpListIn_load_mid14 rfl 26 _ rfl R 0 rfl cx _ (Blk.whole14 HR.out) Try.underlying26 rfl HI_cx ?_) | (refine wpListIn_load_mid14 rfl 26 _ rfl S 0 rfl cy _ (Blk.whole14 HSk.out) Try.underlying26 rfl HI_cy ?_))
    refine ⟨trivial, CallsIn.mono ((callsIn_wide.2 (HSm W HC.out.bel)).inRound l0) ?_⟩
    rintro e y1 ⟨rfl, hb1⟩
    have HC1 := mkHid (HC.out.on hb1)
    have HR1 := mkHid (HR.out.on hb1)
    have HSk1 := mkHid (HSk.out.on hb1)
    generalize hSM : sameRc x.1 y.1 = SM at *
    have HSM := mkHid hSM
    clear hSM hb1 HC HR HSk HSm
    cases SM with
    | true =>
      have HCo1 : Hid (CO = colB ((l.map Prod.fst).reverse.drop (k + 1)) ((l'.map Prod.fst).reverse.drop (k + 1))) := hCo.trans (colB_same14 _ _ HSM.out)
      clear hCo HS1 HS2 HN HYs
      gi_wp2_with fail
      exact ⟨HC1.out.k, fun _ => HC1.out.v, HC1.out.start, HCo1.out⟩
    | false =>
      have HCo1 := mkHid hCo
      clear hCo
      gi_wp2_with fail
      have HCd := mkHid (HC1.out.on (bel_drewN (Below.refl _ y1) 1))
      have HRd := mkHid (HR1.out.on (bel_drewN (Below.refl _ y1) 1))
      have HSd := mkHid (HSk1.out.on (bel_drewN (Below.refl _ y1) 1))
      clear HC1 HR1 HSk1
      refine region_held_in (fun w' => Blk w' R 26 cx ∧ Blk w' S 26 cy) (fun ⟨_, _, h⟩ => by first | (rcases h with ⟨h, _⟩ | ⟨h, _⟩ <;> cases h) | cases h) ⟨HRd.out, HSd.out⟩ (fun hHeld => ?_)
      refine takeH (some 17) (i := 0) (v := .agg (cx).toArray) rfl (by kernel_rfl) (by kernel_rfl) (by kernel_rfl) (fun _ _ _ h => h) (yieldsIf_load_mid (by rfl) 26 (.tmp 7) (by rfl) (R) 0 (by rfl) (cx) _ (fun w1 hw1 => Blk.whole14 hw1.1) Try.underlying26 rfl HI_cx) hHeld rfl ?_
      (try simp only [Act.put, List.setIfInBounds_toArray, List.set_cons_zero, List.set_cons_succ])
      refine takeH (some 19) (i := 2) (v := .agg (cy).toArray) rfl (by kernel_rfl) (by kernel_rfl) (by kernel_rfl) (fun _ _ _ h => h) (yieldsIf_load_mid (by rfl) 26 (.tmp 8) (by rfl) (S) 0 (by rfl) (cy) _ (fun w1 hw1 => Blk.whole14 hw1.2) Try.underlying26 rfl HI_cy) hHeld rfl ?_
      (try simp only [Act.put, List.setIfInBounds_toArray, List.set_cons_zero, List.set_cons_succ])
      refine wpAnyH_ready (rs := [1]) (by kernel_rfl) (by simp) (AllReadyH.cons rfl (fun K hK => ?_) AllReadyH.nil)
      go_simp
      go_wp2_with (go_at_call 11; refine (HS1 _ HCd.out.bel).mono ?_; rintro e y2 ⟨v1, rfl, ho1, hb1⟩)
      have HC2 := mkHid (HCd.out.on hb1)
      have HR2 := mkHid (HRd.out.on hb1)
      have HS2k := mkHid (HSd.out.on hb1)
      obtain ⟨va1, vc1, rfl, -⟩ := ho1.isB
      have HV1 := mkHid ho1.isV
      generalize hn1 : (showRc x.1).length = n1 at *
      have Hn1 := mkHid hn1
      clear hn1
      refine hK.out _ _ ⟨HR2.out, HS2k.out⟩ (fun hHeld => ?_)
      (try simp only [Act.put, List.setIfInBounds_toArray, List.set_cons_zero, List.set_cons_succ])
      clear hK K hb1 ho1 HCd HRd HSd HS1
      refine wpAnyH_ready (rs := [3]) (by kernel_rfl) (by simp) (AllReadyH.cons rfl (fun K hK => ?_) AllReadyH.nil)
      go_simp
      go_wp2_with (go_at_call 11; refine (HS2 _ HC2.out.bel).mono ?_; rintro e y3 ⟨v2, rfl, ho2, hb2⟩)
      have HC3 := mkHid (HC2.out.on hb2)
      have HR3 := mkHid (HR2.out.on hb2)
      have HS3k := mkHid (HS2k.out.on hb2)
      obtain ⟨va2, vc2, rfl, -⟩ := ho2.isB
      have HV2 := mkHid ho2.isV
      have HV1b := mkHid (isV_below14 HV1.out hb2)
      generalize hn2 : (showRc y.1).length = n2 at *
      have Hn2 := mkHid hn2
      clear hn2
      refine hK.out _ _ ⟨HR3.out, HS3k.out⟩ (fun hHeld => ?_)
      (try simp only [Act.put, List.setIfInBounds_toArray, List.set_cons_zero, List.set_cons_succ])
      clear hK K hb2 ho2 HC2 HR2 HS2k HS2 HV1
      refine wpAnyH_ready (rs := [4]) (by kernel_rfl) (by simp) (AllReadyH.cons rfl (fun K hK => ?_) AllReadyH.nil)
      have c4 : y3.cell? ⟨w.heap.size, 0, none⟩ = some (.slice none 0 0) := HC3.out.x.cell 0
      have f4 := HC3.out.x.frozen 0
      go_simp
      have HR3b : Hid (Blk (y3.setCell ⟨w.heap.size, 0, none⟩ (.slice va1 n1 vc1)) R 26 cx) := HR3.out.other _ _ (by show R ≠ w.heap.size; have := HRlo.out; omega)
      have HS3b : Hid (Blk (y3.setCell ⟨w.heap.size, 0, none⟩ (.slice va1 n1 vc1)) S 26 cy) := HS3k.out.other _ _ (by show S ≠ w.heap.size; have := HSlo.out; omega)
      have HC3b := mkHid (HC3.out.setx (.slice va1 n1 vc1))
      have HV1c := mkHid (isV_set14 HV1b.out HC3.out.x (no8_14 _ (fun n e => by cases e)) 0 (.slice va1 n1 vc1))
      have HV2c := mkHid (isV_set14 HV2.out HC3.out.x (no8_14 _ (fun n e => by cases e)) 0 (.slice va1 n1 vc1))
      refine hK.out _ _ ⟨HR3b.out, HS3b.out⟩ (fun hHeld => ?_)
      (try simp only [Act.put, List.setIfInBounds_toArray, List.set_cons_zero, List.set_cons_succ])
      clear hK K c4 f4 HC3 HR3 HS3k HV1b HV2
      generalize y3.setCell ⟨w.heap.size, 0, none⟩ (.slice va1 n1 vc1) = y3b at *
      refine wpAnyH_ready (rs := [5]) (by kernel_rfl) (by simp) (AllReadyH.cons rfl (fun K hK => ?_) AllReadyH.nil)
      have c4 : y3b.cell? ⟨w.heap.size + 1, 0, none⟩ = some (.slice none 0 0) := HC3b.out.y.cell 0
      have f4 := HC3b.out.y.frozen 0
      go_simp
      have HR4 : Hid (Blk (y3b.setCell ⟨w.heap.size + 1, 0, none⟩ (.slice va2 n2 vc2)) R 26 cx) := HR3b.out.other _ _ (by show R ≠ w.heap.size + 1; have := HRlo.out; omega)
      have HS4 : Hid (Blk (y3b.setCell ⟨w.heap.size + 1, 0, none⟩ (.slice va2 n2 vc2)) S 26 cy) := HS3b.out.other _ _ (by show S ≠ w.heap.size + 1; have := HSlo.out; omega)
      have HC4 := mkHid (HC3b.out.sety (.slice va2 n2 vc2))
      have HV1d := mkHid (isV_set14 HV1c.out HC3b.out.y (no8_14 _ (fun n e => by cases e)) 0 (.slice va2 n2 vc2))
      have HV2d := mkHid (isV_set14 HV2c.out HC3b.out.y (no8_14 _ (fun n e => by cases e)) 0 (.slice va2 n2 vc2))
      refine hK.out _ _ ⟨HR4.out, HS4.out⟩ (fun hHeld => ?_)
      (try simp only [Act.put, List.setIfInBounds_toArray, List.set_cons_zero, List.set_cons_succ])
      clear hK K c4 f4 HC3b HR3b HS3b HV1c HV2c HR4 HS4
      generalize y3b.setCell ⟨w.heap.size + 1, 0, none⟩ (.slice va2 n2 vc2) = y4 at *
      refine wpAnyH_done (by kernel_rfl) ?_ _
      clear hHeld
      have c4 : y4.cell? ⟨w.heap.size, 0, none⟩ = some (.slice va1 n1 vc1) := HC4.out.x.cell 0
      gi_wp2_with fail
      have HCd := mkHid (HC4.out.on (bel_drewN (Below.refl _ y4) 1))
      clear c4
      refine region_held_in (fun w' => Blk w' w.heap.size 24 [.slice va1 n1 vc1] ∧ Blk w' (w.heap.size + 1) 24 [.slice va2 n2 vc2]) (fun ⟨_, _, h⟩ => by first | (rcases h with ⟨h, _⟩ | ⟨h, _⟩ <;> cases h) | cases h) ⟨HCd.out.x, HCd.out.y⟩ (fun hHeld => ?_)
      refine takeH (some 21) (i := 0) (v := .slice va1 n1 vc1) rfl (by kernel_rfl) (by kernel_rfl) (by kernel_rfl) (fun _ _ _ h => h) (Or.inl ⟨by rfl, ?_⟩) hHeld rfl ?_
      · intro w1 hSw; have c0 : w1.cell? ⟨w.heap.size, 0, none⟩ = some (.slice va1 n1 vc1) := hSw.1.cell 0; go_simp
      (try simp only [Act.put, List.setIfInBounds_toArray, List.set_cons_zero, List.set_cons_succ])
      refine takeH (some 23) (i := 2) (v := .slice va2 n2 vc2) rfl (by kernel_rfl) (by kernel_rfl) (by kernel_rfl) (fun _ _ _ h => h) (Or.inl ⟨by rfl, ?_⟩) hHeld rfl ?_
      · intro w1 hSw; have c0 : w1.cell? ⟨w.heap.size + 1, 0, none⟩ = some (.slice va2 n2 vc2) := hSw.2.cell 0; go_simp
      (try simp only [Act.put, List.setIfInBounds_toArray, List.set_cons_zero, List.set_cons_succ])
      have HV1e := mkHid (isV_below14 HV1d.out (bel_drewN (Below.refl _ y4) 1))
      have HV2e := mkHid (isV_below14 HV2d.out (bel_drewN (Below.refl _ y4) 1))
      refine wpAnyH_ready (rs := [1]) (by kernel_rfl) (by simp) (AllReadyH.cons rfl (fun K hK => ?_) AllReadyH.nil)
      go_simp
      go_wp2_with (go_at_call 34; refine (digSha256V _ _ _ HV1e.out (by rw [Hn1.out]; exact hax)).mono ?_; rintro e y5 ⟨d1, rfl, ho1, hb1⟩)
      have HC5 := mkHid (HCd.out.on hb1)
      have HV1f := mkHid (isV_below14 HV1e.out hb1)
      have HV2f := mkHid (isV_below14 HV2e.out hb1)
      have HW1 := mkHid ho1.isV
      refine hK.out _ _ ⟨HC5.out.x, HC5.out.y⟩ (fun hHeld => ?_)
      (try simp only [Act.put, List.setIfInBounds_toArray, List.set_cons_zero, List.set_cons_succ])
      clear hK K hb1 ho1 HCd HV1e HV2e HC4 HV1d HV2d
      refine wpAnyH_ready (rs := [3]) (by kernel_rfl) (by simp) (AllReadyH.cons rfl (fun K hK => ?_) AllReadyH.nil)
      go_simp
      go_wp2_with (go_at_call 34; refine (digSha256V _ _ _ HV2f.out (by rw [Hn2.out]; exact hay)).mono ?_; rintro e y6 ⟨d2, rfl, ho2, hb2⟩)
      have HC6 := mkHid (HC5.out.on hb2)
      have HV1g := mkHid (isV_below14 HV1f.out hb2)
      have HV2g := mkHid (isV_below14 HV2f.out hb2)
      have HW2 := mkHid ho2.isV
      have HW1b := mkHid (isV_below14 HW1.out hb2)
      refine hK.out _ _ ⟨HC6.out.x, HC6.out.y⟩ (fun hHeld => ?_)
      (try simp only [Act.put, List.setIfInBounds_toArray, List.set_cons_zero, List.set_cons_succ])
      clear hK K hb2 ho2 HC5 HV1f HV2f HW1
      refine wpAnyH_ready (rs := [4]) (by kernel_rfl) (by simp) (AllReadyH.cons rfl (fun K hK => ?_) AllReadyH.nil)
      go_simp
      go_wp2_with (go_at_call 36; refine (digSameW14 _ _ _ _ _ HW1b.out HW2.out).mono ?_; rintro e y7 ⟨rfl, hb3⟩)
      have HC7 := mkHid (HC6.out.on hb3)
      have HV1h := mkHid (isV_below14 HV1g.out hb3)
      have HV2h := mkHid (isV_below14 HV2g.out hb3)
      refine hK.out _ _ ⟨HC7.out.x, HC7.out.y⟩ (fun hHeld => ?_)
      (try simp only [Act.put, List.setIfInBounds_toArray, List.set_cons_zero, List.set_cons_succ])
      clear hK K hb3 HC6 HV1g HV2g HW1b HW2
      refine wpAnyH_done (by kernel_rfl) ?_ _
      clear hHeld
      by_cases hD : digRc x.1 = digRc y.1
      · have hdec : decide (sha256L (showRc x.1) = sha256L (showRc y.1)) = true := decide_eq_true (by rw [← HD1.out, ← HD2.out]; exact hD)
        have HCn : Hid (CO = some (x.1, y.1)) := HCo1.out.trans (colB_hit14 _ _ HSM.out hD)
        have HE := mkHid (HYs.out (x.1, y.1) HCn.out)
        rw [hdec]
        clear hdec hD HCo1 HCn HYs HN HD1 HD2
        have hb7 : Below y7.heap.size y7 y7.drew := (Below.refl _ y7).drew
        have HCd := mkHid (HC7.out.on hb7)
        have HVa := mkHid (isV_below14 HV1h.out hb7)
        have HVb := mkHid (isV_below14 HV2h.out hb7)
        clear hb7
        gi_wp2_with fail
        refine region_held_in (fun w' => Blk w' w.heap.size 24 [.slice va1 n1 vc1] ∧ Blk w' (w.heap.size + 1) 24 [.slice va2 n2 vc2]) (fun ⟨_, _, h⟩ => by first | (rcases h with ⟨h, _⟩ | ⟨h, _⟩ <;> cases h) | cases h) ⟨HCd.out.x, HCd.out.y⟩ (fun hHeld => ?_)
        generalize y7.drew = y7d at *
        refine takeH (some 26) (i := 0) (v := .slice va1 n1 vc1) rfl (by kernel_rfl) (by kernel_rfl) (by kernel_rfl) (fun _ _ _ h => h) (Or.inl ⟨by rfl, ?_⟩) hHeld rfl ?_
        · intro w1 hSw; have c0 : w1.cell? ⟨w.heap.size, 0, none⟩ = some (.slice va1 n1 vc1) := hSw.1.cell 0; go_simp
        (try simp only [Act.put, List.setIfInBounds_toArray, List.set_cons_zero, List.set_cons_succ])
        refine takeH (some 27) (i := 1) (v := .slice va2 n2 vc2) rfl (by kernel_rfl) (by kernel_rfl) (by kernel_rfl) (fun _ _ _ h => h) (Or.inl ⟨by rfl, ?_⟩) hHeld rfl ?_
        · intro w1 hSw; have c0 : w1.cell? ⟨w.heap.size + 1, 0, none⟩ = some (.slice va2 n2 vc2) := hSw.2.cell 0; go_simp
        (try simp only [Act.put, List.setIfInBounds_toArray, List.set_cons_zero, List.set_cons_succ])
        refine wpAnyH_ready (rs := [2]) (by kernel_rfl) (by simp) (AllReadyH.cons rfl (fun K hK => ?_) AllReadyH.nil)
        have c4 : (y7d).cell? ⟨w.heap.size, 0, none⟩ = some (.slice va1 n1 vc1) := HCd.out.x.cell 0
        have f4 : (y7d).frozen? ⟨w.heap.size, 0, none⟩ = false := HCd.out.x.frozen 0
        go_simp
        have HCs0 := mkHid (HCd.out.setx (.slice va1 n1 vc1))
        have HVa1 := mkHid (isV_set14 HVa.out HCd.out.x (no8_14 _ (fun n e => by cases e)) 0 (.slice va1 n1 vc1))
        have HVb1 := mkHid (isV_set14 HVb.out HCd.out.x (no8_14 _ (fun n e => by cases e)) 0 (.slice va1 n1 vc1))
        refine hK.out _ _ ⟨HCs0.out.x, HCs0.out.y⟩ (fun hHeld => ?_)
        (try simp only [Act.put, List.setIfInBounds_toArray, List.set_cons_zero, List.set_cons_succ])
        clear hK K c4 f4
        generalize (y7d).setCell ⟨w.heap.size, 0, none⟩ (.slice va1 n1 vc1) = y7s0 at *
        refine wpAnyH_ready (rs := [3]) (by kernel_rfl) (by simp) (AllReadyH.cons rfl (fun K hK => ?_) AllReadyH.nil)
        have c4 : (y7s0).cell? ⟨w.heap.size + 1, 0, none⟩ = some (.slice va2 n2 vc2) := HCs0.out.y.cell 0
        have f4 : (y7s0).frozen? ⟨w.heap.size + 1, 0, none⟩ = false := HCs0.out.y.frozen 0
        go_simp
        have HCs1 := mkHid (HCs0.out.sety (.slice va2 n2 vc2))
        have HVa2 := mkHid (isV_set14 HVa1.out HCs0.out.y (no8_14 _ (fun n e => by cases e)) 0 (.slice va2 n2 vc2))
        have HVb2 := mkHid (isV_set14 HVb1.out HCs0.out.y (no8_14 _ (fun n e => by cases e)) 0 (.slice va2 n2 vc2))
        refine hK.out _ _ ⟨HCs1.out.x, HCs1.out.y⟩ (fun hHeld => ?_)
        (try simp only [Act.put, List.setIfInBounds_toArray, List.set_cons_zero, List.set_cons_succ])
        clear hK K c4 f4
        generalize (y7s0).setCell ⟨w.heap.size + 1, 0, none⟩ (.slice va2 n2 vc2) = y7s1 at *
        refine wpAnyH_ready (rs := [4]) (by kernel_rfl) (by simp) (AllReadyH.cons rfl (fun K hK => ?_) AllReadyH.nil)
        have c4 : (y7s1).cell? ⟨w.heap.size + 1 + 1, 0, none⟩ = some (.bool false) := HCs1.out.b.cell 0
        have f4 : (y7s1).frozen? ⟨w.heap.size + 1 + 1, 0, none⟩ = false := HCs1.out.b.frozen 0
        go_simp
        have HCc := mkHid (HCs1.out.setb (.bool true))
        have HVa3 := mkHid (isV_set14 HVa2.out HCs1.out.b (no8_14 _ (fun n e => by cases e)) 0 (.bool true))
        have HVb3 := mkHid (isV_set14 HVb2.out HCs1.out.b (no8_14 _ (fun n e => by cases e)) 0 (.bool true))
        refine hK.out _ _ ⟨HCc.out.x, HCc.out.y⟩ (fun hHeld => ?_)
        (try simp only [Act.put, List.setIfInBounds_toArray, List.set_cons_zero, List.set_cons_succ])
        clear hK K c4 f4
        generalize (y7s1).setCell ⟨w.heap.size + 1 + 1, 0, none⟩ (.bool true) = y7s2 at *
        refine wpAnyH_done (by kernel_rfl) ?_ _
        clear hHeld
        gi_wp2_with fail
        refine ⟨HCc.out.k, fun _ => HCc.out.v, .slice va1 n1 vc1, .slice va2 n2 vc2, ?_, ?_, ?_⟩
        · rw [HE.out.2.2]; exact HCc.out.start
        · rw [HE.out.1]; exact HVa3.out
        · rw [HE.out.2.1]; exact HVb3.out
      · have hdec : decide (sha256L (showRc x.1) = sha256L (showRc y.1)) = false := decide_eq_false (by rw [← HD1.out, ← HD2.out]; exact hD)
        have HCn : Hid (CO = none) := HCo1.out.trans (colB_miss14 _ _ HSM.out hD)
        have HE := mkHid (HN.out HCn.out)
        rw [hdec]
        clear hdec hD HCo1 HCn HYs HN HD1 HD2
        have cx0 : y7.cell? ⟨w.heap.size, 0, none⟩ = some (.slice va1 n1 vc1) := HC7.out.x.cell 0
        have cy0 : y7.cell? ⟨w.heap.size + 1, 0, none⟩ = some (.slice va2 n2 vc2) := HC7.out.y.cell 0
        have cb0 : y7.cell? ⟨w.heap.size + 1 + 1, 0, none⟩ = some (.bool false) := HC7.out.b.cell 0
        have fx0 := HC7.out.x.frozen 0
        have fy0 := HC7.out.y.frozen 0
        have fb0 := HC7.out.b.frozen 0
        have HCc := mkHid (((HC7.out.setx (.slice none 0 0)).sety (.slice none 0 0)).setb (.bool false))
        gi_wp2_with fail
        refine ⟨HCc.out.k, fun _ => HCc.out.v, .slice none 0 0, .slice none 0 0, ?_, ?_, ?_⟩
        · rw [HE.out.2.2]; exact HCc.out.start
        · rw [HE.out.1]; exact IsV.nil _
        · rw [HE.out.2.1]; exact IsV.nil _
  case done =>
    rintro D W hD ⟨hC, hCo⟩ hK
    have hN2 : CO = none := hCo.trans (colB_end14 _ _ _ (by rw [List.length_reverse, List.length_map, List.length_reverse, List.length_map]; have := HL.out; have := HL'.out; omega))
    have HE := mkHid (HN.out hN2)
    have hwD : w.heap.size + 1 + 1 + 1 ≤ D := by have := HVs.out; omega
    have cx0 : W.cell? ⟨w.heap.size, 0, none⟩ = some (.slice none 0 0) := hC.x.cell 0
    have cy0 : W.cell? ⟨w.heap.size + 1, 0, none⟩ = some (.slice none 0 0) := hC.y.cell 0
    have cb0 : W.cell? ⟨w.heap.size + 1 + 1, 0, none⟩ = some (.bool false) := hC.b.cell 0
    have fx0 := hC.x.frozen 0
    have fy0 := hC.y.frozen 0
    have fb0 := hC.b.frozen 0
    have HCc := mkHid (((hC.setx (.slice none 0 0)).sety (.slice none 0 0)).setb (.bool false))
    have HKD := mkHid (HCc.out.k.ctl D _ hK rfl)
    clear hC hCo hN2 hK HSeq HN HYs
    simp only [Exit.inBlock, Exit.then]
    go_wp2_with fail
    refine ⟨by simp, .inl ⟨_, _, rfl, run_takeDeferred HKD.out, ?_⟩⟩
    have hTu : Turn w.heap.size _ _ := Turn.put (.deferred none) HKD.out rfl (by omega)
    have hCt := HCc.out.turn hTu
    refine ⟨_, results_cells14 (P := Try.prog) rfl _ _ w.heap.size (w.heap.size + 1) (w.heap.size + 1 + 1) _ _ _ rfl rfl rfl (load_sl14 _ _ _ hCt.x) (load_sl14 _ _ _ hCt.y) (load_bo14 _ _ _ hCt.b), _, _, by rw [HE.out.2.2], ?_, ?_, hCt.bel⟩
    · rw [HE.out.1]; exact IsV.nil _
    · rw [HE.out.2.1]; exact IsV.nil _
  case stop =>
    rintro D k W hD ⟨v1, v2, hC, hv1, hv2⟩ hK
    have hwD : w.heap.size + 1 + 1 + 1 ≤ D := by have := HVs.out; omega
    gi_wp2
    refine ⟨by simp, .inl ⟨_, _, rfl, run_takeDeferred hK, ?_⟩⟩
    have hTu : Turn w.heap.size _ _ := Turn.put (.deferred none) hK rfl (by omega)
    have hCt := hC.turn hTu
    exact ⟨_, results_cells14 (P := Try.prog) rfl _ _ w.heap.size (w.heap.size + 1) (w.heap.size + 1 + 1) _ _ _ rfl rfl rfl (load_sl14 _ _ _ hCt.x) (load_sl14 _ _ _ hCt.y) (load_bo14 _ _ _ hCt.b), _, _, rfl, isV_turn14 hv1 hTu, isV_turn14 hv2 hTu, hCt.bel⟩
end Go.Proofs.Ytbclhaleibjkgaa
