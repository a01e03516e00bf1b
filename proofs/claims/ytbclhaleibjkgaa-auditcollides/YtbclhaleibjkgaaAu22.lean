/- The document's Collision. -/
import Derived.Test.YtbclhaleibjkgaaAu11
import Derived.Test.YtbclhaleibjkgaaC1
namespace Go.Proofs.Ytbclhaleibjkgaa
open Go.RowKit

/-- what Collision tells -/
noncomputable def coX14 (a b : List Rc) : List UInt8 := match colL a b with | some p => showRc p.1 | none => []
noncomputable def coY14 (a b : List Rc) : List UInt8 := match colL a b with | some p => showRc p.2 | none => []
def CoPost14 (w : World) (X Y : List UInt8) (F : Bool) (e : Ending) (w' : World) : Prop := ∃ v1 v2, e = .returned (.tuple #[v1, v2, .bool F]) ∧ IsV w' v1 X ∧ IsV w' v2 Y ∧ Below w.heap.size w w'
theorem refSameW14 (v1 v2 : Value) (l m : List UInt8) (w : World) (h1 : IsV w v1 l) (h2 : IsV w v2 m) : Calls Try.prog 10 #[v1, v2] w fun e w' => e = .returned (.bool (eqB l m)) ∧ Below w.heap.size w w' := by
  refine Calls.mono (refSameV v1 v2 l m w h1 h2) ?_
  rintro e w' ⟨rfl, n, rfl⟩
  exact ⟨rfl, bel_drewN (Below.refl _ _) n⟩
structure CoAt (w W : World) (P Q : Nat) (c1 c2 : List Value) : Prop where
  p : Blk W P 26 c1
  q : Blk W Q 26 c2
  b : Below w.heap.size w W
theorem CoAt.on {w W W' : World} {P Q : Nat} {c1 c2 : List Value} (h : CoAt w W P Q c1 c2) (hb : Below W.heap.size W W') : CoAt w W' P Q c1 c2 := ⟨h.p.on hb, h.q.on hb, h.b.trans (hb.mono h.b.size)⟩
theorem blk_setRow14 {w : World} {B R t : Nat} {cs : List Value} (c : Array Value) (h : Blk w B t cs) (ne : B ≠ R) : Blk (w.setRow R c) B t cs := (setRow_other w R B c ne).trans h
theorem col_none14 {a b : List Rc} (h : colL a b = none) : coX14 a b = [] ∧ coY14 a b = [] ∧ (colL a b).isSome = false := by unfold coX14 coY14; rw [h]; exact ⟨rfl, rfl, rfl⟩
theorem col_some14 {a b : List Rc} {p : Rc × Rc} (h : colL a b = some p) : coX14 a b = showRc p.1 ∧ coY14 a b = showRc p.2 ∧ (colL a b).isSome = true := by unfold coX14 coY14; rw [h]; exact ⟨rfl, rfl, rfl⟩
theorem colB_end14 (a b : List Rc) (k : Nat) (h : a.length ≤ k ∨ b.length ≤ k) : colB (a.drop k) (b.drop k) = none := by
  rcases h with h | h
  · rw [List.drop_of_length_le h]; cases b.drop k <;> rfl
  · rw [List.drop_of_length_le h]; cases a.drop k <;> rfl
attribute [local go_sem] undef
set_option maxRecDepth 20000 in
set_option maxHeartbeats 8000000 in
theorem refCollision14 (a : Option Addr) (n cap : Nat) (l : List Rq14) (b : Option Addr) (m cap' : Nat) (l' : List Rq14) (w : World) (h : IsRl w a n l) (h' : IsRl w b m l') (hs : ∀ x ∈ l, rcLen x.1 ≤ 20000) (hs' : ∀ x ∈ l', rcLen x.1 ≤ 20000) (hn : n ≤ 100000) (hm : m ≤ 100000) :
    Calls Try.prog 25 #[.slice a n cap, .slice b m cap'] w fun e w' => CoPost14 w (coX14 (l.map Prod.fst) (l'.map Prod.fst)) (coY14 (l.map Prod.fst) (l'.map Prod.fst)) (colL (l.map Prod.fst) (l'.map Prod.fst)).isSome e w' := by
  have HN := @col_none14 (l.map Prod.fst) (l'.map Prod.fst)
  have HY := fun p => @col_some14 (l.map Prod.fst) (l'.map Prod.fst) p
  have HLa := mkHid h.len
  have HLb := mkHid h'.len
  have HXa := mkHid h
  have HXb := mkHid h'
  have HSa := mkHid hs
  have HSb := mkHid hs'
  have HCo : Hid (colL (l.map Prod.fst) (l'.map Prod.fst) = colB (l.map Prod.fst).reverse (l'.map Prod.fst).reverse) := rfl
  clear h h' hs hs'
  unfold CoPost14
  generalize coX14 (l.map Prod.fst) (l'.map Prod.fst) = CX0 at *
  generalize coY14 (l.map Prod.fst) (l'.map Prod.fst) = CY0 at *
  generalize colL (l.map Prod.fst) (l'.map Prod.fst) = CO at *
  generalize hFo : CO.isSome = FO at *
  clear hFo
  rcases Nat.eq_zero_or_pos (min n m) with h0 | h0
  · have hz : n = 0 ∨ m = 0 := by omega
    have hno : CO = none := by
      rw [HCo.out]
      exact colB_end14 (l.map Prod.fst).reverse (l'.map Prod.fst).reverse 0 (by rw [List.length_reverse, List.length_map, List.length_reverse, List.length_map, HLa.out, HLb.out]; omega)
    obtain ⟨e1, e2, e3⟩ := HN hno
    subst e1 e2 e3
    have hd : n = 0 ∨ (¬ n = 0 ∧ m = 0) := by omega
    clear HN HY HCo HXa HXb HSa HSb h0 hz hno HLa HLb
    rcases hd with rfl | ⟨hd1, rfl⟩
    · go_enter Try.func25, Try.ntmps25
      go_wp2
      go_loopw [7] (fun i wr => i = .int .i64 1 ∧ wr = w) (fun _ _ => 0)
      case atStart => exact ⟨rfl, rfl⟩
      case round =>
        obtain ⟨rfl, rfl⟩ := hrel
        go_wp2_with fail
        go_ret3
        exact ⟨_, _, rfl, IsV.nil _, IsV.nil _, Below.refl _ _⟩
    · have hd2 : (1 : Int) ≤ (n : Int) := by omega
      clear hd1
      go_enter Try.func25, Try.ntmps25
      go_wp2
      go_loopw [7] (fun i wr => i = .int .i64 1 ∧ wr = w) (fun _ _ => 0)
      case atStart => exact ⟨rfl, rfl⟩
      case round =>
        obtain ⟨rfl, rfl⟩ := hrel
        go_wp2_with fail
        go_ret3
        exact ⟨_, _, rfl, IsV.nil _, IsV.nil _, Below.refl _ _⟩
  obtain ⟨Ba, oa, rfl, hca⟩ := HXa.out.cells (by omega)
  obtain ⟨Bb, ob, rfl, hcb⟩ := HXb.out.cells (by omega)
  have HCCa := mkHid hca
  have HCCb := mkHid hcb
  clear hca hcb h0
  go_enter Try.func25, Try.ntmps25
  go_wp2
  go_loopw [7] (fun i wr => ∃ k : Nat, k ≤ n ∧ k ≤ m ∧ i = .int .i64 ((k : Int) + 1) ∧ Hid (Below w.heap.size w wr) ∧ Hid (CO = colB ((l.map Prod.fst).reverse.drop k) ((l'.map Prod.fst).reverse.drop k))) (fun i _ => n + 1 - (Go.RowKit.intOf i).toNat)
  case atStart => exact ⟨0, Nat.zero_le _, Nat.zero_le _, rfl, Below.refl _ _, HCo⟩
  case round =>
    clear HCo
    obtain ⟨k, hk, hk', rfl, HB, HC⟩ := hrel
    by_cases hlt : k < n ∧ k < m
    rotate_left
    · have hno : CO = none := by
        rw [HC.out]
        exact colB_end14 _ _ k (by rw [List.length_reverse, List.length_map, List.length_reverse, List.length_map, HLa.out, HLb.out]; omega)
      obtain ⟨e1, e2, e3⟩ := HN hno
      subst e1 e2 e3
      clear HN HY HC HXa HXb HSa HSb HCCa HCCb
      by_cases hd : k < n
      · have hd1 : (k : Int) + 1 ≤ (n : Int) := by omega
        have hd2 : ¬ (k : Int) + 1 ≤ (m : Int) := by omega
        clear hlt
        go_wp2_with fail
        go_ret3
        exact ⟨_, _, rfl, IsV.nil _, IsV.nil _, HB.out⟩
      · have hd1 : ¬ (k : Int) + 1 ≤ (n : Int) := by omega
        clear hlt
        go_wp2_with fail
        go_ret3
        exact ⟨_, _, rfl, IsV.nil _, IsV.nil _, HB.out⟩
    obtain ⟨ia, hia⟩ : ∃ ia : Nat, ia + 1 + k = n := ⟨n - 1 - k, by omega⟩
    obtain ⟨ib, hib⟩ : ∃ ib : Nat, ib + 1 + k = m := ⟨m - 1 - k, by omega⟩
    obtain ⟨x, hx⟩ : ∃ x, l[ia]? = some x := ⟨l[ia]'(by have := HLa.out; omega), List.getElem?_eq_getElem _⟩
    obtain ⟨z, hz⟩ : ∃ z, l'[ib]? = some z := ⟨l'[ib]'(by have := HLb.out; omega), List.getElem?_eq_getElem _⟩
    have HC2 : Hid (CO = if sameRc x.1 z.1 = true then colB ((l.map Prod.fst).reverse.drop (k + 1)) ((l'.map Prod.fst).reverse.drop (k + 1)) else if digRc x.1 = digRc z.1 then some (x.1, z.1) else none) := by
      unfold Hid; rw [HC.out, (rev_drop14 (by rw [HLa.out]; exact hia) hx).1, (rev_drop14 (by rw [HLb.out]; exact hib) hz).1, colB]
    have hXx := HXa.out.recs x (List.mem_of_getElem? hx)
    have hXz := HXb.out.recs z (List.mem_of_getElem? hz)
    have hlx := HSa.out x (List.mem_of_getElem? hx)
    have hlz := HSb.out z (List.mem_of_getElem? hz)
    have HCa : Hid (∀ W, Below w.heap.size w W → W.rangeAt Ba (oa + ia * 10) (rcc x.1 x.2)) := fun W hW => range_below14 (HCCa.out ia x hx) hW
    have HCb : Hid (∀ W, Below w.heap.size w W → W.rangeAt Bb (ob + ib * 10) (rcc z.1 z.2)) := fun W hW => range_below14 (HCCb.out ib z hz) hW
    have HDx := fun W (hW : Below w.heap.size w W) => refDigest14 x.1 x.2 W (hXx.below hW) hlx
    have HDz := fun W (hW : Below w.heap.size w W) => refDigest14 z.1 z.2 W (hXz.below hW) hlz
    have HSx := fun W (hW : Below w.heap.size w W) => refShow14 x.1 x.2 W (hXx.below hW) hlx
    have HSz := fun W (hW : Below w.heap.size w W) => refShow14 z.1 z.2 W (hXz.below hW) hlz
    have HSm := fun W (hW : Below w.heap.size w W) => refSame14 x.1 z.1 x.2 z.2 W (hXx.below hW) (hXz.below hW)
    have HYx := mkHid (HY (x.1, z.1))
    have hw1 : (n : Int) - ((k : Int) + 1) = (ia : Int) := by omega
    have hw2 : (m : Int) - ((k : Int) + 1) = (ib : Int) := by omega
    have g1 : (0 : Int) ≤ (ia : Int) := by omega
    have g2 : (ia : Int) < (n : Int) := by omega
    have g3 : (0 : Int) ≤ (ib : Int) := by omega
    have g4 : (ib : Int) < (m : Int) := by omega
    have g5 : (k : Int) + 1 ≤ (n : Int) := by omega
    have g6 : (k : Int) + 1 ≤ (m : Int) := by omega
    have hw3 : IntKind.i64.wrap (ia : Int) = (ia : Int) := by rw [IntKind.wrap_i64]; omega
    have hw4 : IntKind.i64.wrap (ib : Int) = (ib : Int) := by rw [IntKind.wrap_i64]; omega
    have Hlt := mkHid hlt
    clear hlt hx hz HC hXx hXz hlx hlz HXa HXb HSa HSb HCCa HCCb HY hia hib
    obtain ⟨⟨xseq, xclk, xwho, xkind, xbkt, xkey, xver, xerr, xsum, xprev⟩, ⟨ua, uc, ub, ud⟩⟩ := x
    obtain ⟨⟨zseq, zclk, zwho, zkind, zbkt, zkey, zver, zerr, zsum, zprev⟩, ⟨va, vc, vb, vd⟩⟩ := z
    simp only [] at HC2 HYx HDx HDz HSx HSz HSm
    generalize sameRc ⟨xseq, xclk, xwho, xkind, xbkt, xkey, xver, xerr, xsum, xprev⟩ ⟨zseq, zclk, zwho, zkind, zbkt, zkey, zver, zerr, zsum, zprev⟩ = SB at *
    generalize digRc ⟨xseq, xclk, xwho, xkind, xbkt, xkey, xver, xerr, xsum, xprev⟩ = DX at *
    generalize digRc ⟨zseq, zclk, zwho, zkind, zbkt, zkey, zver, zerr, zsum, zprev⟩ = DZ at *
    generalize showRc ⟨xseq, xclk, xwho, xkind, xbkt, xkey, xver, xerr, xsum, xprev⟩ = SX at *
    generalize showRc ⟨zseq, zclk, zwho, zkind, zbkt, zkey, zver, zerr, zsum, zprev⟩ = SZ at *
    simp only [rcc] at HCa HCb HDx HDz HSx HSz HSm
    go_upto_region 4 with fail
    go_cut [8, 9] from 22 to 35 (fun p q wx => ∃ P Q, p = .pointer (some ⟨P, 0, none⟩) ∧ q = .pointer (some ⟨Q, 0, none⟩) ∧ Hid (Blk wx P 26 [.int .u64 (xseq : Int), .int .u64 (xclk : Int), .string xwho, .int .i64 xkind, .string xbkt, .string xkey, .int .u64 (xver : Int), .int .i64 xerr, .slice ua xsum.length uc, .slice ub xprev.length ud]) ∧ Hid (Blk wx Q 26 [.int .u64 (zseq : Int), .int .u64 (zclk : Int), .string zwho, .int .i64 zkind, .string zbkt, .string zkey, .int .u64 (zver : Int), .int .i64 zerr, .slice va zsum.length vc, .slice vb zprev.length vd]) ∧ Hid (Below w.heap.size w wx))
    case first =>
      clear HDx HDz HSx HSz HSm HC2 HYx HN
      have Bwr := HB
      have By0 := mkHid (HB.out.trans ((bel_drewN (Below.refl _ wr) 1).mono HB.out.size))
      refine wp_region_held_drew (S := fun w' => Below w.heap.size w w') (by kernel_rfl) By0.out (fun hHeld => ?_)
      refine takeH (some 22) (i := 0) (v := .slice (some ⟨Ba, oa, none⟩) n cap) rfl (by kernel_rfl) (by kernel_rfl) (by kernel_rfl) (fun _ _ _ h => h) (Or.inl ⟨by rfl, ?_⟩) hHeld rfl ?_
      · intro w1 hSw; go_simp
      (try simp only [Act.put, List.setIfInBounds_toArray, List.set_cons_zero, List.set_cons_succ])
      refine takeH (some 23) (i := 1) (v := .slice (some ⟨Ba, oa, none⟩) n cap) rfl (by kernel_rfl) (by kernel_rfl) (by kernel_rfl) (fun _ _ _ h => h) (Or.inl ⟨by rfl, ?_⟩) hHeld rfl ?_
      · intro w1 hSw; go_simp
      (try simp only [Act.put, List.setIfInBounds_toArray, List.set_cons_zero, List.set_cons_succ])
      refine takeH (some 24) (i := 2) (v := .int .i64 (n : Int)) rfl (by kernel_rfl) (by kernel_rfl) (by kernel_rfl) (fun _ _ _ h => h) (Or.inl ⟨by rfl, ?_⟩) hHeld rfl ?_
      · intro w1 hSw; go_simp
      (try simp only [Act.put, List.setIfInBounds_toArray, List.set_cons_zero, List.set_cons_succ])
      refine takeH (some 25) (i := 3) (v := .int .i64 ((k : Int) + 1)) rfl (by kernel_rfl) (by kernel_rfl) (by kernel_rfl) (fun _ _ _ h => h) (Or.inl ⟨by rfl, ?_⟩) hHeld rfl ?_
      · intro w1 hSw; go_simp
      (try simp only [Act.put, List.setIfInBounds_toArray, List.set_cons_zero, List.set_cons_succ])
      refine takeH (some 26) (i := 4) (v := .int .i64 (ia : Int)) rfl (by kernel_rfl) (by kernel_rfl) (by kernel_rfl) (fun _ _ _ h => h) (Or.inl ⟨by rfl, ?_⟩) hHeld rfl ?_
      · intro w1 hSw; go_simp
      (try simp only [Act.put, List.setIfInBounds_toArray, List.set_cons_zero, List.set_cons_succ])
      refine takeH (some 27) (i := 5) (v := .pointer (some ⟨Ba, oa + ia * 10, none⟩)) rfl (by kernel_rfl) (by kernel_rfl) (by kernel_rfl) (fun _ _ _ h => h) (Or.inl ⟨by rfl, ?_⟩) hHeld rfl ?_
      · intro w1 hSw; go_simp
      (try simp only [Act.put, List.setIfInBounds_toArray, List.set_cons_zero, List.set_cons_succ])
      refine takeH (some 28) (i := 6) (v := .agg #[.int .u64 (xseq : Int), .int .u64 (xclk : Int), .string xwho, .int .i64 xkind, .string xbkt, .string xkey, .int .u64 (xver : Int), .int .i64 xerr, .slice ua xsum.length uc, .slice ub xprev.length ud]) rfl (by kernel_rfl) (by kernel_rfl) (by kernel_rfl) (fun _ _ _ h => h) (yieldsIf_load_mid (by rfl) 26 (.tmp 27) (by rfl) Ba (oa + ia * 10) (by rfl) [.int .u64 (xseq : Int), .int .u64 (xclk : Int), .string xwho, .int .i64 xkind, .string xbkt, .string xkey, .int .u64 (xver : Int), .int .i64 xerr, .slice ua xsum.length uc, .slice ub xprev.length ud] _ (fun w1 hw1 => HCa.out w1 hw1) Try.underlying26 rfl (by kernel_rfl)) hHeld rfl ?_
      (try simp only [Act.put, List.setIfInBounds_toArray, List.set_cons_zero, List.set_cons_succ])
      refine takeH (some 29) (i := 7) (v := .slice (some ⟨Bb, ob, none⟩) m cap') rfl (by kernel_rfl) (by kernel_rfl) (by kernel_rfl) (fun _ _ _ h => h) (Or.inl ⟨by rfl, ?_⟩) hHeld rfl ?_
      · intro w1 hSw; go_simp
      (try simp only [Act.put, List.setIfInBounds_toArray, List.set_cons_zero, List.set_cons_succ])
      refine takeH (some 30) (i := 8) (v := .slice (some ⟨Bb, ob, none⟩) m cap') rfl (by kernel_rfl) (by kernel_rfl) (by kernel_rfl) (fun _ _ _ h => h) (Or.inl ⟨by rfl, ?_⟩) hHeld rfl ?_
      · intro w1 hSw; go_simp
      (try simp only [Act.put, List.setIfInBounds_toArray, List.set_cons_zero, List.set_cons_succ])
      refine takeH (some 31) (i := 9) (v := .int .i64 (m : Int)) rfl (by kernel_rfl) (by kernel_rfl) (by kernel_rfl) (fun _ _ _ h => h) (Or.inl ⟨by rfl, ?_⟩) hHeld rfl ?_
      · intro w1 hSw; go_simp
      (try simp only [Act.put, List.setIfInBounds_toArray, List.set_cons_zero, List.set_cons_succ])
      refine takeH (some 32) (i := 10) (v := .int .i64 ((k : Int) + 1)) rfl (by kernel_rfl) (by kernel_rfl) (by kernel_rfl) (fun _ _ _ h => h) (Or.inl ⟨by rfl, ?_⟩) hHeld rfl ?_
      · intro w1 hSw; go_simp
      (try simp only [Act.put, List.setIfInBounds_toArray, List.set_cons_zero, List.set_cons_succ])
      refine takeH (some 33) (i := 11) (v := .int .i64 (ib : Int)) rfl (by kernel_rfl) (by kernel_rfl) (by kernel_rfl) (fun _ _ _ h => h) (Or.inl ⟨by rfl, ?_⟩) hHeld rfl ?_
      · intro w1 hSw; go_simp
      (try simp only [Act.put, List.setIfInBounds_toArray, List.set_cons_zero, List.set_cons_succ])
      refine takeH (some 34) (i := 12) (v := .pointer (some ⟨Bb, ob + ib * 10, none⟩)) rfl (by kernel_rfl) (by kernel_rfl) (by kernel_rfl) (fun _ _ _ h => h) (Or.inl ⟨by rfl, ?_⟩) hHeld rfl ?_
      · intro w1 hSw; go_simp
      (try simp only [Act.put, List.setIfInBounds_toArray, List.set_cons_zero, List.set_cons_succ])
      refine takeH (some 35) (i := 13) (v := .agg #[.int .u64 (zseq : Int), .int .u64 (zclk : Int), .string zwho, .int .i64 zkind, .string zbkt, .string zkey, .int .u64 (zver : Int), .int .i64 zerr, .slice va zsum.length vc, .slice vb zprev.length vd]) rfl (by kernel_rfl) (by kernel_rfl) (by kernel_rfl) (fun _ _ _ h => h) (yieldsIf_load_mid (by rfl) 26 (.tmp 34) (by rfl) Bb (ob + ib * 10) (by rfl) [.int .u64 (zseq : Int), .int .u64 (zclk : Int), .string zwho, .int .i64 zkind, .string zbkt, .string zkey, .int .u64 (zver : Int), .int .i64 zerr, .slice va zsum.length vc, .slice vb zprev.length vd] _ (fun w1 hw1 => HCb.out w1 hw1) Try.underlying26 rfl (by kernel_rfl)) hHeld rfl ?_
      (try simp only [Act.put, List.setIfInBounds_toArray, List.set_cons_zero, List.set_cons_succ])
      refine wpAnyH_ready (rs := [14, 15]) (by kernel_rfl) (by simp) ?_
      refine AllReadyH.cons rfl (fun K hK => ?_) (AllReadyH.cons rfl (fun K hK => ?_) AllReadyH.nil)
      · skip
        go_simp
        have hbA : Below wr.heap.size wr (wr.alloc (.cells #[.int .u64 0, .int .u64 0, .string { data := #[] }, .int .i64 0, .string { data := #[] }, .string { data := #[] }, .int .u64 0, .int .i64 0, .slice none 0 0, .slice none 0 0] 26)).drew := ((Below.refl _ wr).alloc (Nat.le_refl _) _).drew
        have By1 := mkHid (Bwr.out.trans (hbA.mono Bwr.out.size))
        have Hp : Hid (Blk (wr.alloc (.cells #[.int .u64 0, .int .u64 0, .string { data := #[] }, .int .i64 0, .string { data := #[] }, .string { data := #[] }, .int .u64 0, .int .i64 0, .slice none 0 0, .slice none 0 0] 26)).drew wr.heap.size 26 [.int .u64 0, .int .u64 0, .string { data := #[] }, .int .i64 0, .string { data := #[] }, .string { data := #[] }, .int .u64 0, .int .i64 0, .slice none 0 0, .slice none 0 0]) := (Blk.new wr 26 [.int .u64 0, .int .u64 0, .string { data := #[] }, .int .i64 0, .string { data := #[] }, .string { data := #[] }, .int .u64 0, .int .i64 0, .slice none 0 0, .slice none 0 0]).drewN 1
        have HLP : Hid (w.heap.size ≤ wr.heap.size) := Bwr.out.size
        refine hK.out _ _ By1.out (fun hHeld => ?_)
        (try simp only [Act.put, List.setIfInBounds_toArray, List.set_cons_zero, List.set_cons_succ])
        clear hK K hbA
        generalize (wr.alloc (.cells #[.int .u64 0, .int .u64 0, .string { data := #[] }, .int .i64 0, .string { data := #[] }, .string { data := #[] }, .int .u64 0, .int .i64 0, .slice none 0 0, .slice none 0 0] 26)).drew = y1 at *
        generalize wr.heap.size = P at *
        refine wpAnyH_ready (rs := [15]) (by kernel_rfl) (by simp) (AllReadyH.cons rfl (fun K hK => ?_) AllReadyH.nil)
        go_simp
        have hbA : Below y1.heap.size y1 (y1.alloc (.cells #[.int .u64 0, .int .u64 0, .string { data := #[] }, .int .i64 0, .string { data := #[] }, .string { data := #[] }, .int .u64 0, .int .i64 0, .slice none 0 0, .slice none 0 0] 26)) := ((Below.refl _ y1).alloc (Nat.le_refl _) _)
        have By2 := mkHid (By1.out.trans (hbA.mono By1.out.size))
        have Hq : Hid (Blk (y1.alloc (.cells #[.int .u64 0, .int .u64 0, .string { data := #[] }, .int .i64 0, .string { data := #[] }, .string { data := #[] }, .int .u64 0, .int .i64 0, .slice none 0 0, .slice none 0 0] 26)) y1.heap.size 26 [.int .u64 0, .int .u64 0, .string { data := #[] }, .int .i64 0, .string { data := #[] }, .string { data := #[] }, .int .u64 0, .int .i64 0, .slice none 0 0, .slice none 0 0]) := (Blk.new y1 26 [.int .u64 0, .int .u64 0, .string { data := #[] }, .int .i64 0, .string { data := #[] }, .string { data := #[] }, .int .u64 0, .int .i64 0, .slice none 0 0, .slice none 0 0])
        have Hp2 := mkHid (Hp.out.on hbA)
        have HNQ : Hid (P ≠ y1.heap.size) := Nat.ne_of_lt Hp.out.lt
        have HLQ : Hid (w.heap.size ≤ y1.heap.size) := By1.out.size
        refine hK.out _ _ By2.out (fun hHeld => ?_)
        (try simp only [Act.put, List.setIfInBounds_toArray, List.set_cons_zero, List.set_cons_succ])
        clear hK K hbA
        generalize (y1.alloc (.cells #[.int .u64 0, .int .u64 0, .string { data := #[] }, .int .i64 0, .string { data := #[] }, .string { data := #[] }, .int .u64 0, .int .i64 0, .slice none 0 0, .slice none 0 0] 26)) = y2 at *
        generalize y1.heap.size = Q at *
        refine wpAnyH_ready (rs := [16]) (by kernel_rfl) (by simp) (AllReadyH.cons rfl (fun K hK => ?_) AllReadyH.nil)
        rw [if_pos (by rfl)]
        refine wp_store_row 26 _ _ (by rfl) P #[.int .u64 (xseq : Int), .int .u64 (xclk : Int), .string xwho, .int .i64 xkind, .string xbkt, .string xkey, .int .u64 (xver : Int), .int .i64 xerr, .slice ua xsum.length uc, .slice ub xprev.length ud] (by rfl) (by rfl) _ _ Hp2.out (by kernel_rfl) rfl (one14 _ _ _ _ _ _ _ _ _ _ _ _ _ _) ?_
        have By3 := mkHid (bel_row By2.out HLP.out #[.int .u64 (xseq : Int), .int .u64 (xclk : Int), .string xwho, .int .i64 xkind, .string xbkt, .string xkey, .int .u64 (xver : Int), .int .i64 xerr, .slice ua xsum.length uc, .slice ub xprev.length ud])
        have Hp2n : Hid (Blk (y2.setRow P #[.int .u64 (xseq : Int), .int .u64 (xclk : Int), .string xwho, .int .i64 xkind, .string xbkt, .string xkey, .int .u64 (xver : Int), .int .i64 xerr, .slice ua xsum.length uc, .slice ub xprev.length ud]) P 26 [.int .u64 (xseq : Int), .int .u64 (xclk : Int), .string xwho, .int .i64 xkind, .string xbkt, .string xkey, .int .u64 (xver : Int), .int .i64 xerr, .slice ua xsum.length uc, .slice ub xprev.length ud]) := Hp2.out.row [.int .u64 (xseq : Int), .int .u64 (xclk : Int), .string xwho, .int .i64 xkind, .string xbkt, .string xkey, .int .u64 (xver : Int), .int .i64 xerr, .slice ua xsum.length uc, .slice ub xprev.length ud]
        have Hq2 := mkHid (blk_setRow14 #[.int .u64 (xseq : Int), .int .u64 (xclk : Int), .string xwho, .int .i64 xkind, .string xbkt, .string xkey, .int .u64 (xver : Int), .int .i64 xerr, .slice ua xsum.length uc, .slice ub xprev.length ud] Hq.out (fun e => HNQ.out e.symm))
        refine hK.out _ _ By3.out (fun hHeld => ?_)
        (try simp only [Act.put])
        clear hK K
        generalize World.setRow _ _ _ = y3 at *
        refine wpAnyH_ready (rs := [17]) (by kernel_rfl) (by simp) (AllReadyH.cons rfl (fun K hK => ?_) AllReadyH.nil)
        rw [if_pos (by rfl)]
        refine wp_store_row 26 _ _ (by rfl) Q #[.int .u64 (zseq : Int), .int .u64 (zclk : Int), .string zwho, .int .i64 zkind, .string zbkt, .string zkey, .int .u64 (zver : Int), .int .i64 zerr, .slice va zsum.length vc, .slice vb zprev.length vd] (by rfl) (by rfl) _ _ Hq2.out (by kernel_rfl) rfl (one14 _ _ _ _ _ _ _ _ _ _ _ _ _ _) ?_
        have By4 := mkHid (bel_row By3.out HLQ.out #[.int .u64 (zseq : Int), .int .u64 (zclk : Int), .string zwho, .int .i64 zkind, .string zbkt, .string zkey, .int .u64 (zver : Int), .int .i64 zerr, .slice va zsum.length vc, .slice vb zprev.length vd])
        have Hq2n : Hid (Blk (y3.setRow Q #[.int .u64 (zseq : Int), .int .u64 (zclk : Int), .string zwho, .int .i64 zkind, .string zbkt, .string zkey, .int .u64 (zver : Int), .int .i64 zerr, .slice va zsum.length vc, .slice vb zprev.length vd]) Q 26 [.int .u64 (zseq : Int), .int .u64 (zclk : Int), .string zwho, .int .i64 zkind, .string zbkt, .string zkey, .int .u64 (zver : Int), .int .i64 zerr, .slice va zsum.length vc, .slice vb zprev.length vd]) := Hq2.out.row [.int .u64 (zseq : Int), .int .u64 (zclk : Int), .string zwho, .int .i64 zkind, .string zbkt, .string zkey, .int .u64 (zver : Int), .int .i64 zerr, .slice va zsum.length vc, .slice vb zprev.length vd]
        have Hp3 := mkHid (blk_setRow14 #[.int .u64 (zseq : Int), .int .u64 (zclk : Int), .string zwho, .int .i64 zkind, .string zbkt, .string zkey, .int .u64 (zver : Int), .int .i64 zerr, .slice va zsum.length vc, .slice vb zprev.length vd] Hp2n.out HNQ.out)
        refine hK.out _ _ By4.out (fun hHeld => ?_)
        (try simp only [Act.put])
        clear hK K
        generalize World.setRow _ _ _ = y4 at *
        refine wpAnyH_done (by kernel_rfl) ?_ _
        clear hHeld
        go_wp2_with fail
        go_meet
        case rel => exact ⟨P, Q, rfl, rfl, Hp3, Hq2n, By4⟩
      · skip
        go_simp
        have hbA : Below wr.heap.size wr (wr.alloc (.cells #[.int .u64 0, .int .u64 0, .string { data := #[] }, .int .i64 0, .string { data := #[] }, .string { data := #[] }, .int .u64 0, .int .i64 0, .slice none 0 0, .slice none 0 0] 26)).drew := ((Below.refl _ wr).alloc (Nat.le_refl _) _).drew
        have By1 := mkHid (Bwr.out.trans (hbA.mono Bwr.out.size))
        have Hq : Hid (Blk (wr.alloc (.cells #[.int .u64 0, .int .u64 0, .string { data := #[] }, .int .i64 0, .string { data := #[] }, .string { data := #[] }, .int .u64 0, .int .i64 0, .slice none 0 0, .slice none 0 0] 26)).drew wr.heap.size 26 [.int .u64 0, .int .u64 0, .string { data := #[] }, .int .i64 0, .string { data := #[] }, .string { data := #[] }, .int .u64 0, .int .i64 0, .slice none 0 0, .slice none 0 0]) := (Blk.new wr 26 [.int .u64 0, .int .u64 0, .string { data := #[] }, .int .i64 0, .string { data := #[] }, .string { data := #[] }, .int .u64 0, .int .i64 0, .slice none 0 0, .slice none 0 0]).drewN 1
        have HLQ : Hid (w.heap.size ≤ wr.heap.size) := Bwr.out.size
        refine hK.out _ _ By1.out (fun hHeld => ?_)
        (try simp only [Act.put, List.setIfInBounds_toArray, List.set_cons_zero, List.set_cons_succ])
        clear hK K hbA
        generalize (wr.alloc (.cells #[.int .u64 0, .int .u64 0, .string { data := #[] }, .int .i64 0, .string { data := #[] }, .string { data := #[] }, .int .u64 0, .int .i64 0, .slice none 0 0, .slice none 0 0] 26)).drew = y1 at *
        generalize wr.heap.size = Q at *
        refine wpAnyH_ready (rs := [14]) (by kernel_rfl) (by simp) (AllReadyH.cons rfl (fun K hK => ?_) AllReadyH.nil)
        go_simp
        have hbA : Below y1.heap.size y1 (y1.alloc (.cells #[.int .u64 0, .int .u64 0, .string { data := #[] }, .int .i64 0, .string { data := #[] }, .string { data := #[] }, .int .u64 0, .int .i64 0, .slice none 0 0, .slice none 0 0] 26)) := ((Below.refl _ y1).alloc (Nat.le_refl _) _)
        have By2 := mkHid (By1.out.trans (hbA.mono By1.out.size))
        have Hp : Hid (Blk (y1.alloc (.cells #[.int .u64 0, .int .u64 0, .string { data := #[] }, .int .i64 0, .string { data := #[] }, .string { data := #[] }, .int .u64 0, .int .i64 0, .slice none 0 0, .slice none 0 0] 26)) y1.heap.size 26 [.int .u64 0, .int .u64 0, .string { data := #[] }, .int .i64 0, .string { data := #[] }, .string { data := #[] }, .int .u64 0, .int .i64 0, .slice none 0 0, .slice none 0 0]) := (Blk.new y1 26 [.int .u64 0, .int .u64 0, .string { data := #[] }, .int .i64 0, .string { data := #[] }, .string { data := #[] }, .int .u64 0, .int .i64 0, .slice none 0 0, .slice none 0 0])
        have Hq2 := mkHid (Hq.out.on hbA)
        have HNP : Hid (Q ≠ y1.heap.size) := Nat.ne_of_lt Hq.out.lt
        have HLP : Hid (w.heap.size ≤ y1.heap.size) := By1.out.size
        refine hK.out _ _ By2.out (fun hHeld => ?_)
        (try simp only [Act.put, List.setIfInBounds_toArray, List.set_cons_zero, List.set_cons_succ])
        clear hK K hbA
        generalize (y1.alloc (.cells #[.int .u64 0, .int .u64 0, .string { data := #[] }, .int .i64 0, .string { data := #[] }, .string { data := #[] }, .int .u64 0, .int .i64 0, .slice none 0 0, .slice none 0 0] 26)) = y2 at *
        generalize y1.heap.size = P at *
        refine wpAnyH_ready (rs := [16]) (by kernel_rfl) (by simp) (AllReadyH.cons rfl (fun K hK => ?_) AllReadyH.nil)
        rw [if_pos (by rfl)]
        refine wp_store_row 26 _ _ (by rfl) P #[.int .u64 (xseq : Int), .int .u64 (xclk : Int), .string xwho, .int .i64 xkind, .string xbkt, .string xkey, .int .u64 (xver : Int), .int .i64 xerr, .slice ua xsum.length uc, .slice ub xprev.length ud] (by rfl) (by rfl) _ _ Hp.out (by kernel_rfl) rfl (one14 _ _ _ _ _ _ _ _ _ _ _ _ _ _) ?_
        have By3 := mkHid (bel_row By2.out HLP.out #[.int .u64 (xseq : Int), .int .u64 (xclk : Int), .string xwho, .int .i64 xkind, .string xbkt, .string xkey, .int .u64 (xver : Int), .int .i64 xerr, .slice ua xsum.length uc, .slice ub xprev.length ud])
        have Hpn : Hid (Blk (y2.setRow P #[.int .u64 (xseq : Int), .int .u64 (xclk : Int), .string xwho, .int .i64 xkind, .string xbkt, .string xkey, .int .u64 (xver : Int), .int .i64 xerr, .slice ua xsum.length uc, .slice ub xprev.length ud]) P 26 [.int .u64 (xseq : Int), .int .u64 (xclk : Int), .string xwho, .int .i64 xkind, .string xbkt, .string xkey, .int .u64 (xver : Int), .int .i64 xerr, .slice ua xsum.length uc, .slice ub xprev.length ud]) := Hp.out.row [.int .u64 (xseq : Int), .int .u64 (xclk : Int), .string xwho, .int .i64 xkind, .string xbkt, .string xkey, .int .u64 (xver : Int), .int .i64 xerr, .slice ua xsum.length uc, .slice ub xprev.length ud]
        have Hq3 := mkHid (blk_setRow14 #[.int .u64 (xseq : Int), .int .u64 (xclk : Int), .string xwho, .int .i64 xkind, .string xbkt, .string xkey, .int .u64 (xver : Int), .int .i64 xerr, .slice ua xsum.length uc, .slice ub xprev.length ud] Hq2.out HNP.out)
        refine hK.out _ _ By3.out (fun hHeld => ?_)
        (try simp only [Act.put])
        clear hK K
        generalize World.setRow _ _ _ = y3 at *
        refine wpAnyH_ready (rs := [17]) (by kernel_rfl) (by simp) (AllReadyH.cons rfl (fun K hK => ?_) AllReadyH.nil)
        rw [if_pos (by rfl)]
        refine wp_store_row 26 _ _ (by rfl) Q #[.int .u64 (zseq : Int), .int .u64 (zclk : Int), .string zwho, .int .i64 zkind, .string zbkt, .string zkey, .int .u64 (zver : Int), .int .i64 zerr, .slice va zsum.length vc, .slice vb zprev.length vd] (by rfl) (by rfl) _ _ Hq3.out (by kernel_rfl) rfl (one14 _ _ _ _ _ _ _ _ _ _ _ _ _ _) ?_
        have By4 := mkHid (bel_row By3.out HLQ.out #[.int .u64 (zseq : Int), .int .u64 (zclk : Int), .string zwho, .int .i64 zkind, .string zbkt, .string zkey, .int .u64 (zver : Int), .int .i64 zerr, .slice va zsum.length vc, .slice vb zprev.length vd])
        have Hq3n : Hid (Blk (y3.setRow Q #[.int .u64 (zseq : Int), .int .u64 (zclk : Int), .string zwho, .int .i64 zkind, .string zbkt, .string zkey, .int .u64 (zver : Int), .int .i64 zerr, .slice va zsum.length vc, .slice vb zprev.length vd]) Q 26 [.int .u64 (zseq : Int), .int .u64 (zclk : Int), .string zwho, .int .i64 zkind, .string zbkt, .string zkey, .int .u64 (zver : Int), .int .i64 zerr, .slice va zsum.length vc, .slice vb zprev.length vd]) := Hq3.out.row [.int .u64 (zseq : Int), .int .u64 (zclk : Int), .string zwho, .int .i64 zkind, .string zbkt, .string zkey, .int .u64 (zver : Int), .int .i64 zerr, .slice va zsum.length vc, .slice vb zprev.length vd]
        have Hp3 := mkHid (blk_setRow14 #[.int .u64 (zseq : Int), .int .u64 (zclk : Int), .string zwho, .int .i64 zkind, .string zbkt, .string zkey, .int .u64 (zver : Int), .int .i64 zerr, .slice va zsum.length vc, .slice vb zprev.length vd] Hpn.out (fun e => HNP.out e.symm))
        refine hK.out _ _ By4.out (fun hHeld => ?_)
        (try simp only [Act.put])
        clear hK K
        generalize World.setRow _ _ _ = y4 at *
        refine wpAnyH_done (by kernel_rfl) ?_ _
        clear hHeld
        go_wp2_with fail
        go_meet
        case rel => exact ⟨P, Q, rfl, rfl, Hp3, Hq3n, By4⟩
    case rest =>
      obtain ⟨P, Q, rfl, rfl, HP, HQ, HBc⟩ := hcut
      clear HB HCa HCb hw1 hw2 hw3 hw4 g1 g2 g3 g4 g5 g6
      go_wp2_with (first | (refine wpList_load_row rfl 26 _ rfl _ rfl _ _ _ _ HP.out Try.underlying26 rfl (by kernel_rfl) ?_) | (refine wpList_load_row rfl 26 _ rfl _ rfl _ _ _ _ HQ.out Try.underlying26 rfl (by kernel_rfl) ?_))
      refine (HSm wc HBc.out).mono ?_
      rintro e y5 ⟨rfl, hb5⟩
      have S0 : Hid (CoAt w y5 P Q [.int .u64 (xseq : Int), .int .u64 (xclk : Int), .string xwho, .int .i64 xkind, .string xbkt, .string xkey, .int .u64 (xver : Int), .int .i64 xerr, .slice ua xsum.length uc, .slice ub xprev.length ud] [.int .u64 (zseq : Int), .int .u64 (zclk : Int), .string zwho, .int .i64 zkind, .string zbkt, .string zkey, .int .u64 (zver : Int), .int .i64 zerr, .slice va zsum.length vc, .slice vb zprev.length vd]) := ⟨HP.out.on hb5, HQ.out.on hb5, HBc.out.trans (hb5.mono HBc.out.size)⟩
      clear hb5 HP HQ HBc HSm
      cases SB with
      | true =>
        have HC3 := mkHid (HC2.out.trans (if_pos rfl))
        clear HC2 HDx HDz HSx HSz HYx HN
        go_wp2_with fail
        rw [show (Value.tuple #[] : Value) = undef from rfl]
        go_roundw
        case rel => exact ⟨k + 1, by have := Hlt.out; omega, by have := Hlt.out; omega, by go_num, S0.out.b, HC3⟩
        case measure => have := Hlt.out; simp [Go.RowKit.intOf]; omega
      | false =>
        have HC3 := mkHid (HC2.out.trans (if_neg (by decide)))
        clear HC2
        go_upto_region 6 with fail
        have S1 := mkHid (S0.out.on (bel_drewN (Below.refl _ y5) 1))
        refine wp_region_held_drew (S := fun w' => Blk w' P 26 [.int .u64 (xseq : Int), .int .u64 (xclk : Int), .string xwho, .int .i64 xkind, .string xbkt, .string xkey, .int .u64 (xver : Int), .int .i64 xerr, .slice ua xsum.length uc, .slice ub xprev.length ud] ∧ Blk w' Q 26 [.int .u64 (zseq : Int), .int .u64 (zclk : Int), .string zwho, .int .i64 zkind, .string zbkt, .string zkey, .int .u64 (zver : Int), .int .i64 zerr, .slice va zsum.length vc, .slice vb zprev.length vd]) (by kernel_rfl) ⟨S1.out.p, S1.out.q⟩ (fun hHeld => ?_)
        refine takeH (some 39) (i := 0) (v := .agg #[.int .u64 (xseq : Int), .int .u64 (xclk : Int), .string xwho, .int .i64 xkind, .string xbkt, .string xkey, .int .u64 (xver : Int), .int .i64 xerr, .slice ua xsum.length uc, .slice ub xprev.length ud]) rfl (by kernel_rfl) (by kernel_rfl) (by kernel_rfl) (fun _ _ _ h => h) (yieldsIf_load_mid (by rfl) 26 (.tmp 8) (by rfl) P 0 (by rfl) [.int .u64 (xseq : Int), .int .u64 (xclk : Int), .string xwho, .int .i64 xkind, .string xbkt, .string xkey, .int .u64 (xver : Int), .int .i64 xerr, .slice ua xsum.length uc, .slice ub xprev.length ud] _ (fun w1 hw1 => Blk.whole14 hw1.1) Try.underlying26 rfl (by kernel_rfl)) hHeld rfl ?_
        (try simp only [Act.put, List.setIfInBounds_toArray, List.set_cons_zero, List.set_cons_succ])
        refine takeH (some 41) (i := 2) (v := .agg #[.int .u64 (zseq : Int), .int .u64 (zclk : Int), .string zwho, .int .i64 zkind, .string zbkt, .string zkey, .int .u64 (zver : Int), .int .i64 zerr, .slice va zsum.length vc, .slice vb zprev.length vd]) rfl (by kernel_rfl) (by kernel_rfl) (by kernel_rfl) (fun _ _ _ h => h) (yieldsIf_load_mid (by rfl) 26 (.tmp 9) (by rfl) Q 0 (by rfl) [.int .u64 (zseq : Int), .int .u64 (zclk : Int), .string zwho, .int .i64 zkind, .string zbkt, .string zkey, .int .u64 (zver : Int), .int .i64 zerr, .slice va zsum.length vc, .slice vb zprev.length vd] _ (fun w1 hw1 => Blk.whole14 hw1.2) Try.underlying26 rfl (by kernel_rfl)) hHeld rfl ?_
        (try simp only [Act.put, List.setIfInBounds_toArray, List.set_cons_zero, List.set_cons_succ])
        refine wpAnyH_ready (rs := [1]) (by kernel_rfl) (by simp) (AllReadyH.cons rfl (fun K hK => ?_) AllReadyH.nil)
        go_simp
        go_wp2_with (go_at_call 14; refine (HDx _ S1.out.b).mono ?_; rintro e x2 ⟨v2, rfl, ho, hb⟩)
        have S2 := mkHid (S1.out.on hb)
        have V2 := mkHid ho.isV
        clear ho
        refine hK.out _ _ ⟨S2.out.p, S2.out.q⟩ (fun hHeld => ?_)
        (try simp only [Act.put, List.setIfInBounds_toArray, List.set_cons_zero, List.set_cons_succ])
        clear hK K hb S1
        refine wpAnyH_ready (rs := [3]) (by kernel_rfl) (by simp) (AllReadyH.cons rfl (fun K hK => ?_) AllReadyH.nil)
        go_simp
        go_wp2_with (go_at_call 14; refine (HDz _ S2.out.b).mono ?_; rintro e x3 ⟨v3, rfl, ho, hb⟩)
        have S3 := mkHid (S2.out.on hb)
        have V3 := mkHid ho.isV
        have V2b := mkHid (V2.out.below hb rfl)
        clear ho V2
        refine hK.out _ _ ⟨S3.out.p, S3.out.q⟩ (fun hHeld => ?_)
        (try simp only [Act.put, List.setIfInBounds_toArray, List.set_cons_zero, List.set_cons_succ])
        clear hK K hb S2
        refine wpAnyH_ready (rs := [4]) (by kernel_rfl) (by simp) (AllReadyH.cons rfl (fun K hK => ?_) AllReadyH.nil)
        go_simp
        go_wp2_with (go_at_call 10; refine (refSameW14 v2 v3 DX DZ _ V2b.out V3.out).mono ?_; rintro e x4 ⟨rfl, hb⟩)
        have S4 := mkHid (S3.out.on hb)
        refine hK.out _ _ ⟨S4.out.p, S4.out.q⟩ (fun hHeld => ?_)
        (try simp only [Act.put, List.setIfInBounds_toArray, List.set_cons_zero, List.set_cons_succ])
        clear hK K hb S3
        clear V2b V3
        refine takeH (some 44) (i := 5) (v := .bool (!eqB DX DZ)) rfl (by kernel_rfl) (by kernel_rfl) (by kernel_rfl) (fun _ _ _ h => h) (Or.inl ⟨by rfl, ?_⟩) hHeld rfl ?_
        · intro w1 hSw; go_simp
        (try simp only [Act.put, List.setIfInBounds_toArray, List.set_cons_zero, List.set_cons_succ])
        refine wpAnyH_done (by kernel_rfl) ?_ _
        clear hHeld
        by_cases hdd : DX = DZ
        · have HE := mkHid (HYx.out (HC3.out.trans (if_pos hdd)))
          have HX1 := mkHid HE.out.1
          have HX2 := mkHid HE.out.2.1
          have hx3 := HE.out.2.2
          subst hx3
          have hq : eqB DX DZ = true := by unfold eqB; rw [hdd]; simp
          rw [hq]
          clear HDx HDz HC3 HYx HN HE hq hdd
          go_upto_region 8 with fail
          have S5 := mkHid (S4.out.on (bel_drewN (Below.refl _ x4) 1))
          refine wp_region_held_drew (S := fun w' => Blk w' P 26 [.int .u64 (xseq : Int), .int .u64 (xclk : Int), .string xwho, .int .i64 xkind, .string xbkt, .string xkey, .int .u64 (xver : Int), .int .i64 xerr, .slice ua xsum.length uc, .slice ub xprev.length ud] ∧ Blk w' Q 26 [.int .u64 (zseq : Int), .int .u64 (zclk : Int), .string zwho, .int .i64 zkind, .string zbkt, .string zkey, .int .u64 (zver : Int), .int .i64 zerr, .slice va zsum.length vc, .slice vb zprev.length vd]) (by kernel_rfl) ⟨S5.out.p, S5.out.q⟩ (fun hHeld => ?_)
          refine takeH (some 45) (i := 0) (v := .agg #[.int .u64 (xseq : Int), .int .u64 (xclk : Int), .string xwho, .int .i64 xkind, .string xbkt, .string xkey, .int .u64 (xver : Int), .int .i64 xerr, .slice ua xsum.length uc, .slice ub xprev.length ud]) rfl (by kernel_rfl) (by kernel_rfl) (by kernel_rfl) (fun _ _ _ h => h) (yieldsIf_load_mid (by rfl) 26 (.tmp 8) (by rfl) P 0 (by rfl) [.int .u64 (xseq : Int), .int .u64 (xclk : Int), .string xwho, .int .i64 xkind, .string xbkt, .string xkey, .int .u64 (xver : Int), .int .i64 xerr, .slice ua xsum.length uc, .slice ub xprev.length ud] _ (fun w1 hw1 => Blk.whole14 hw1.1) Try.underlying26 rfl (by kernel_rfl)) hHeld rfl ?_
          (try simp only [Act.put, List.setIfInBounds_toArray, List.set_cons_zero, List.set_cons_succ])
          refine takeH (some 47) (i := 2) (v := .agg #[.int .u64 (zseq : Int), .int .u64 (zclk : Int), .string zwho, .int .i64 zkind, .string zbkt, .string zkey, .int .u64 (zver : Int), .int .i64 zerr, .slice va zsum.length vc, .slice vb zprev.length vd]) rfl (by kernel_rfl) (by kernel_rfl) (by kernel_rfl) (fun _ _ _ h => h) (yieldsIf_load_mid (by rfl) 26 (.tmp 9) (by rfl) Q 0 (by rfl) [.int .u64 (zseq : Int), .int .u64 (zclk : Int), .string zwho, .int .i64 zkind, .string zbkt, .string zkey, .int .u64 (zver : Int), .int .i64 zerr, .slice va zsum.length vc, .slice vb zprev.length vd] _ (fun w1 hw1 => Blk.whole14 hw1.2) Try.underlying26 rfl (by kernel_rfl)) hHeld rfl ?_
          (try simp only [Act.put, List.setIfInBounds_toArray, List.set_cons_zero, List.set_cons_succ])
          refine wpAnyH_ready (rs := [1]) (by kernel_rfl) (by simp) (AllReadyH.cons rfl (fun K hK => ?_) AllReadyH.nil)
          go_simp
          go_wp2_with (go_at_call 12; refine (HSx _ S5.out.b).mono ?_; rintro e x6 ⟨v6, rfl, ho, hb⟩)
          have S6 := mkHid (S5.out.on hb)
          have V6 := mkHid ho.isV
          clear ho
          refine hK.out _ _ ⟨S6.out.p, S6.out.q⟩ (fun hHeld => ?_)
          (try simp only [Act.put, List.setIfInBounds_toArray, List.set_cons_zero, List.set_cons_succ])
          clear hK K hb S5
          refine wpAnyH_ready (rs := [3]) (by kernel_rfl) (by simp) (AllReadyH.cons rfl (fun K hK => ?_) AllReadyH.nil)
          go_simp
          go_wp2_with (go_at_call 12; refine (HSz _ S6.out.b).mono ?_; rintro e x7 ⟨v7, rfl, ho, hb⟩)
          have S7 := mkHid (S6.out.on hb)
          have V7 := mkHid ho.isV
          have V6b := mkHid (V6.out.below hb rfl)
          clear ho V6
          refine hK.out _ _ ⟨S7.out.p, S7.out.q⟩ (fun hHeld => ?_)
          (try simp only [Act.put, List.setIfInBounds_toArray, List.set_cons_zero, List.set_cons_succ])
          clear hK K hb S6
          refine takeH (some 4) (i := 4) (v := v6) rfl (by kernel_rfl) (by kernel_rfl) (by kernel_rfl) (fun _ _ _ h => h) (Or.inl ⟨by rfl, ?_⟩) hHeld rfl ?_
          · intro w1 hSw; go_simp
          (try simp only [Act.put, List.setIfInBounds_toArray, List.set_cons_zero, List.set_cons_succ])
          refine takeH (some 5) (i := 5) (v := v7) rfl (by kernel_rfl) (by kernel_rfl) (by kernel_rfl) (fun _ _ _ h => h) (Or.inl ⟨by rfl, ?_⟩) hHeld rfl ?_
          · intro w1 hSw; go_simp
          (try simp only [Act.put, List.setIfInBounds_toArray, List.set_cons_zero, List.set_cons_succ])
          refine takeH (some 6) (i := 6) (v := .bool true) rfl (by kernel_rfl) (by kernel_rfl) (by kernel_rfl) (fun _ _ _ h => h) (Or.inl ⟨by rfl, ?_⟩) hHeld rfl ?_
          · intro w1 hSw; go_simp
          (try simp only [Act.put, List.setIfInBounds_toArray, List.set_cons_zero, List.set_cons_succ])
          refine wpAnyH_done (by kernel_rfl) ?_ _
          clear hHeld
          go_wp2_with fail
          go_ret3
          exact ⟨v6, v7, rfl, by rw [HX1.out]; exact V6b.out, by rw [HX2.out]; exact V7.out, S7.out.b⟩
        · obtain ⟨e1, e2, e3⟩ := HN (HC3.out.trans (if_neg hdd))
          subst e1 e2 e3
          have hq : eqB DX DZ = false := by unfold eqB; rw [beq_eq_false_iff_ne]; exact hdd
          rw [hq]
          clear HDx HDz HC3 HYx HSx HSz HN hdd hq
          go_wp2_with fail
          go_ret3
          exact ⟨_, _, rfl, IsV.nil _, IsV.nil _, S4.out.b⟩
end Go.Proofs.Ytbclhaleibjkgaa
