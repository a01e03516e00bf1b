/- What the document's Sha256 answers. -/
import Derived.Test.YtbclhaleibjkgaaB25
import Derived.Test.YtbclhaleibjkgaaB26
import Derived.Test.YtbclhaleibjkgaaB23
namespace Go.Proofs.Ytbclhaleibjkgaa
open Go.RowKit
attribute [local go_sem] w_add w_addw w_xor w_and w_not w_notm w_shr3 w_shr10

theorem IsW.at0 {w : World} {g len cap : Nat} {l : List UInt32} (h : IsW w (some ⟨g, 0, none⟩) len cap l) (i : Nat) (hi : i < len) : w.cell? ⟨g, i, none⟩ = some (.int .u32 ((nthW l i).toNat : Int)) := by
  obtain ⟨b, off, e, hc⟩ := h.cells (by omega)
  injection e with e
  injection e with e1 e2
  subst e1 e2
  have := hc i hi
  rwa [Nat.zero_add] at this

theorem OwnW.empty (w : World) (base : Nat) (hb : base ≤ w.heap.size) : OwnW (w.alloc (.cells #[] 69)) base (.slice (some ⟨w.heap.size, 0, none⟩) 0 0) [] :=
  World.ownsRow_made w #[] 0 hb (Nat.zero_le _) rfl

theorem slC (b off len cap t : Nat) (ht : t + 64 ≤ cap) (w : World) : (Instr.slice 24 (.slice (some ⟨b, off, none⟩) len cap) (some (.int .i64 (t : Int))) (some (.int .i64 ((t : Int) + 64))) none).run Try.prog w = .ok (.slice (some ⟨b, off + t, none⟩) 64 (cap - t)) w := by
  have he : Try.prog.elem 24 = 5 := by kernel_rfl
  have hz : (sizeOf 5).run Try.prog w = .ok 1 w := by
    obtain ⟨i0, hi, hz0, hz1, hz2⟩ := info_parts info8
    simp [sizeOf, typeInfo, hi, hz1]
  rw [run_slice_lh w 24 _ len cap (by rw [he]; exact Try.underlying24) .i64 .i64 (t : Int) ((t : Int) + 64) (by omega) (by omega) (by omega), he, hz]
  have e : ((t : Int) + 64).toNat = t + 64 := by omega
  simp only [Result.andThen, sliced, Int.toNat_natCast, Nat.mul_one, Option.map_some, Addr.add_lit, e]
  rw [if_neg (by omega)]
  have e2 : t + 64 - t = 64 := by omega
  rw [e2]
attribute [local go_sem ↓] slC

/-- a part of a slice of bytes -/
theorem IsB.part {w : World} {b off len cap : Nat} {l : List UInt8} (h : IsB w (some ⟨b, off, none⟩) len cap l) (t : Nat) (ht : t + 64 ≤ len) : IsB w (some ⟨b, off + t, none⟩) 64 (cap - t) ((l.drop t).take 64) := by
  have hle := h.le
  have hl := h.len_eq
  refine ⟨by rw [List.length_take, List.length_drop]; omega, by omega, by have := h.max; omega, fun e => (by cases e), fun _ => ⟨b, off + t, rfl, fun i hi => ?_⟩⟩
  obtain ⟨b', off', e, hc⟩ := h.cells (by omega)
  injection e with e
  injection e with e1 e2
  subst e1 e2
  rw [Nat.add_assoc, hc (t + i) (by omega), nth_take _ _ _ hi, nth_drop]

theorem w_add4 (x y k v : UInt32) : ((x.toNat : Int) + (y.toNat : Int) + (k.toNat : Int) + (v.toNat : Int)) % 4294967296 = ((add32 (add32 (add32 x y) k) v).toNat : Int) := by
  unfold add32
  rw [UInt32.toNat_add, UInt32.toNat_add, UInt32.toNat_add]
  omega

/-- the first n words of a row with another one's added -/
def addTo (x y : List UInt32) (n : Nat) : List UInt32 := (List.range 8).map fun i => if i < n then add32 (nthW x i) (nthW y i) else nthW x i
theorem addTo_length (x y : List UInt32) (n : Nat) : (addTo x y n).length = 8 := by simp [addTo]
theorem addTo_at (x y : List UInt32) (n i : Nat) (h : i < 8) : nthW (addTo x y n) i = if i < n then add32 (nthW x i) (nthW y i) else nthW x i := by
  rw [nthW_eq _ _ (by rw [addTo_length]; exact h)]; simp [addTo]
theorem ext_nthW (l m : List UInt32) (h : l.length = m.length) (hn : ∀ k, k < l.length → nthW l k = nthW m k) : l = m := by
  apply List.ext_getElem h
  intro i h1 h2
  have := hn i h1
  rwa [nthW_eq l i h1, nthW_eq m i h2] at this
theorem addTo_zero (x y : List UInt32) (hx : x.length = 8) : addTo x y 0 = x := by
  refine ext_nthW _ _ (by rw [addTo_length, hx]) fun k hk => ?_
  rw [addTo_length] at hk
  rw [addTo_at _ _ _ _ hk, if_neg (by omega)]
theorem addTo_succ (x y : List UInt32) (n : Nat) : (addTo x y n).set n (add32 (nthW x n) (nthW y n)) = addTo x y (n + 1) := by
  refine ext_nthW _ _ (by rw [List.length_set, addTo_length, addTo_length]) fun k hk => ?_
  rw [List.length_set, addTo_length] at hk
  rw [addTo_at _ _ _ _ hk, nthW_eq _ _ (by rw [List.length_set, addTo_length]; exact hk), List.getElem_set]
  by_cases e : n = k
  · subst e
    rw [if_pos rfl, if_pos (by omega)]
  · rw [if_neg e, ← nthW_eq _ _ (by rw [addTo_length]; exact hk), addTo_at _ _ _ _ hk]
    by_cases hlt : k < n
    · rw [if_pos hlt, if_pos (by omega)]
    · rw [if_neg hlt, if_neg (by omega)]
theorem addTo_all (s r : S8) : addTo s.list r.list 8 = (addS s r).list := rfl

theorem IsW.setOther {w : World} {a : Option Addr} {len cap : Nat} {l : List UInt32} (h : IsW w a len cap l) (B j : Nat) (v : Value) (hne : ∀ x, a = some x → x.block ≠ B) : IsW (w.setCell ⟨B, j, none⟩ v) a len cap l :=
  ⟨h.len_eq, h.le, h.max, h.nil, fun hp => by
    obtain ⟨b, off, e, hc⟩ := h.cells hp
    refine ⟨b, off, e, fun i hl => ?_⟩
    rw [World.cell?_setCell_other _ _ _ _ (fun e' => hne _ e (by injection e' with e1; exact e1.symm))]
    exact hc i hl⟩
theorem IsB.setOtherB {w : World} {a : Option Addr} {len cap : Nat} {l : List UInt8} (h : IsB w a len cap l) (B j : Nat) (v : Value) (hne : ∀ x, a = some x → x.block ≠ B) : IsB (w.setCell ⟨B, j, none⟩ v) a len cap l :=
  ⟨h.len_eq, h.le, h.max, h.nil, fun hp => by
    obtain ⟨b, off, e, hc⟩ := h.cells hp
    refine ⟨b, off, e, fun i hl => ?_⟩
    rw [World.cell?_setCell_other _ _ _ _ (fun e' => hne _ e (by injection e' with e1; exact e1.symm))]
    exact hc i hl⟩
theorem IsW.drew {w : World} {a : Option Addr} {len cap : Nat} {l : List UInt32} (h : IsW w a len cap l) : IsW w.drew a len cap l :=
  h.below ((Below.refl _ _).drew) rfl

set_option maxRecDepth 20000 in
set_option maxHeartbeats 2000000 in
theorem refSha256 (a : Option Addr) (len cap : Nat) (l : List UInt8) (w : World) (h : IsB w a len cap l) (hn : len < 4294967296) :
    Calls Try.prog 35 #[.slice a len cap] w fun e w' => ∃ v, e = .returned v ∧ OwnB w' w.heap.size v (sha256L l) ∧ Below w.heap.size w w' := by
  have H : Hid (IsB w a len cap l) := h
  have HE : Hid (l.length = len) := h.len_eq
  clear h
  go_enter Try.func35, Try.ntmps35
  go_wp2_with fail
  refine (refK256 _).mono ?_
  rintro e w1 ⟨rfl, Bk1, bel1⟩
  have Bh1 : Blk w1 w.heap.size 69 (wv s256.list) := (Blk.newAt w _ _ _ (wv s256.list) rfl rfl).below bel1 (by simp)
  have hb1 : Below w.heap.size w w1 := ((Below.refl _ _).alloc (Nat.le_refl _) _).trans (bel1.mono (by simp))
  have HK1 : Hid (Blk w1 (w.heap.size + 1) 69 (wv kL)) := by
    have := Bk1; simp at this; exact this
  have H1 : Hid (IsB w1 a len cap l) := H.out.below hb1 rfl
  clear bel1 Bk1
  go_wp2_with fail
  refine (refPadded a len cap l _ H1.out hn).mono ?_
  rintro e w2 ⟨v2, rfl, own2, bel2⟩
  obtain ⟨P, hP⟩ : ∃ P, P = l ++ padOf l.length := ⟨_, rfl⟩
  have HP : Hid (P = l ++ padOf l.length) := hP
  rw [← hP] at own2
  have hK1 : w.heap.size + 1 < w1.heap.size := HK1.out.lt
  have hblk := own2.blk
  obtain ⟨ap, cp, rfl, isP⟩ := own2.isB
  have Bh2 := Bh1.on bel2
  have Bk2 := HK1.out.on bel2
  have hb2 : Below w.heap.size w w2 := hb1.trans (bel2.mono hb1.size)
  obtain ⟨m, hm⟩ : ∃ m, P.length = 64 * m := ⟨P.length / 64, by
    have h1 := zN_len len
    rw [hP, List.length_append, padOf_length, HE.out]
    omega⟩
  have HM : Hid (P.length = 64 * m) := hm
  have hmpos : 0 < m := by
    have : 0 < P.length := by rw [hP, List.length_append, padOf_length]; omega
    omega
  have hmb : m < 4294967296 := by
    have h2 : P.length = len + (1 + zN len + 8) := by rw [hP, List.length_append, padOf_length, HE.out]
    have h3 := zN_lt len
    omega
  rw [hm] at isP ⊢
  clear hP own2 Bh1 HK1 hb1 H1 hm bel2
  have hcp := isP.le
  obtain ⟨bp, op, rfl, -⟩ := isP.cells (by omega)
  have hbp : w.heap.size + 1 < bp := Nat.lt_of_lt_of_le hK1 (hblk bp rfl).1
  clear hblk hK1
  have HI : Hid (IsB w2 (some ⟨bp, op, none⟩) (64 * m) cp P) := isP
  have hcx := isP.max
  unfold maxLen at hcx
  clear isP
  go_wp2
  go_loopw [6] (fun c wr => ∃ j t : Nat, j ≤ m ∧ Hid (t = 64 * j) ∧ c = .int .i64 (t : Int) ∧ Blk wr w.heap.size 69 (wv (ab mix256L s256.list P j)) ∧ Blk wr (w.heap.size + 1) 69 (wv kL) ∧ Hid (IsB wr (some ⟨bp, op, none⟩) (64 * m) cp P) ∧ Below w.heap.size w wr) (fun c _ => 64 * m - (intOf c).toNat)
  case atStart => exact ⟨0, 0, by omega, rfl, rfl, Bh2, Bk2, HI.out, hb2⟩
  case round =>
    clear Bh2 Bk2 HI hb2
    obtain ⟨j, t, hj, ht, rfl, Bh, Bk, hI, hbel⟩ := hrel
    by_cases hlt : j < m
    · have ht1 : t + 64 ≤ 64 * m := by have := ht.out; omega
      have ht2 : t + 64 ≤ cp := by omega
      have hlt' : (t : Int) < 64 * (m : Int) := by omega
      have HBL : Hid (IsB wr (some ⟨bp, op + t, none⟩) 64 (cp - t) ((P.drop t).take 64)) := hI.out.part t ht1
      obtain ⟨bl, hbl⟩ : ∃ bl, bl = (P.drop t).take 64 := ⟨_, rfl⟩
      have HBB : Hid (bl = (P.drop t).take 64) := hbl
      rw [← hbl] at HBL
      clear hbl
      have HBh : Hid (Blk wr w.heap.size 69 (wv (ab mix256L s256.list P j))) := Bh
      have HBk : Hid (Blk wr (w.heap.size + 1) 69 (wv kL)) := Bk
      clear Bh Bk
      go_wp2_with fail
      refine (refWords _ _ bl _ HBL.out).mono ?_
      rintro e w3 ⟨v3, rfl, own3, bel3⟩
      generalize wr = wo at *
      go_wp2
      go_loopw [7, 8] (fun v i wr => ∃ q : Nat, 16 ≤ q ∧ q ≤ 64 ∧ i = .int .i64 (q : Int) ∧ OwnW wr wo.heap.size v (wl bl q) ∧ Below wo.heap.size wo wr) (fun _ i _ => 64 - (intOf i).toNat)
      case atStart => exact ⟨16, by omega, by omega, rfl, own3, bel3⟩
      case round =>
        clear own3 bel3
        obtain ⟨q, hq1, hq2, rfl, own, bel⟩ := hrel
        have HLq : Hid ((wl bl q).length = q) := wl_length bl q
        by_cases hq : q < 64
        · obtain ⟨g, c7, rfl, hg1, hg2⟩ := World.ownsRow.form own (by rw [HLq.out]; omega)
          have hcq : ∀ i, i < q → wr.cell? ⟨g, i, none⟩ = some (.int .u32 ((nthW (wl bl q) i).toNat : Int)) := fun i hi => own.cellAt rfl i (by rw [HLq.out]; exact hi)
          have c15 := hcq (q - 15) (by omega)
          have c2 := hcq (q - 2) (by omega)
          have c16 := hcq (q - 16) (by omega)
          have c7' := hcq (q - 7) (by omega)
          clear hcq
          have own' : Hid (OwnW wr wo.heap.size (.slice (some ⟨g, 0, none⟩) q c7) (wl bl q)) := by have := own; rw [HLq.out] at this; exact this
          rw [HLq.out]
          clear own
          have g1 : (0 : Int) ≤ (q : Int) - 15 := by omega
          have g2 : (q : Int) - 15 < (q : Int) := by omega
          have g3 : (0 : Int) ≤ (q : Int) - 2 := by omega
          have g4 : (q : Int) - 2 < (q : Int) := by omega
          have g9 : (q : Int) < 64 := by omega
          go_wp2
          go_quiet (fail)
          have c16 : (wr.drewN nq).cell? _ = _ := c16
          have c7' : (wr.drewN nq).cell? _ = _ := c7'
          have own' : Hid (OwnW (wr.drewN nq) _ _ _) := own'
          have bel : Below _ _ (wr.drewN nq) := bel_drewN bel _
          have hg2 : g < (wr.drewN nq).heap.size := hg2
          clear c15 c2
          generalize wr.drewN nq = w4 at *
          obtain ⟨p, hp⟩ : ∃ p, q - 16 = p := ⟨_, rfl⟩
          obtain ⟨r, hr⟩ : ∃ r, q - 7 = r := ⟨_, rfl⟩
          obtain ⟨nx, hnx⟩ : ∃ nx, nextW (wl bl q) q = nx := ⟨_, rfl⟩
          have HO : Hid (wl bl (q + 1) = wl bl q ++ [nx]) := by unfold Hid; rw [wl, if_neg (by omega), hnx]
          have hN : add32 (add32 (add32 (nthW (wl bl q) p) (xor32 (xor32 (rot (nthW (wl bl q) (q - 15)) 7) (rot (nthW (wl bl q) (q - 15)) 18)) (shr32 (nthW (wl bl q) (q - 15)) 3))) (nthW (wl bl q) r)) (xor32 (xor32 (rot (nthW (wl bl q) (q - 2)) 17) (rot (nthW (wl bl q) (q - 2)) 19)) (shr32 (nthW (wl bl q) (q - 2)) 10)) = nx := by rw [← hnx, ← hp, ← hr]; rfl
          rw [hp] at c16
          rw [hr] at c7'
          have q16 : IntKind.i64.wrap ((q : Int) - 16) = (p : Int) := by rw [wrapi64_in _ (by omega) (by omega)]; omega
          have q7 : IntKind.i64.wrap ((q : Int) - 7) = (r : Int) := by rw [wrapi64_in _ (by omega) (by omega)]; omega
          have p1 : (p : Int) < (q : Int) := by omega
          have p2 : (r : Int) < (q : Int) := by omega
          have hpn : p < q := by omega
          have hrn : r < q := by omega
          clear hp hr hnx
          go_wp2
          go_region_held3 (fun w' => w'.cell? ⟨g, p, none⟩ = some (.int .u32 ((nthW (wl bl q) p).toNat : Int)) ∧ w'.cell? ⟨g, r, none⟩ = some (.int .u32 ((nthW (wl bl q) r).toNat : Int)))
            (first | exact ⟨(hkeep p hpn).trans c16, (hkeep r hrn).trans c7'⟩ | go_keep)
            (first | (go_at_call 58; refine (refRightI _ _ (by decide) (by decide) _).mono ?_; rintro e w' ⟨rfl, hww⟩; rw [hww]; clear hww w') | (refine step_app32k _ (by rfl) _ _ (by rfl) wo.heap.size g q c7 (wl bl q) HLq.out (by rfl) ((OwnW.alloc own'.out _).heap rfl) w4.heap.size 1 1 [nx] (by rfl) (by rfl) (heap_alloc_new w4 _) (by omega) (by omega) (by have := bel.size; simp; omega) ?_; intro gg cap w5 hown5 hgrow hkeep0; have hkeep : ∀ j, j < q → w5.cell? ⟨g, j, none⟩ = w4.cell? ⟨g, j, none⟩ := fun j hj => (hkeep0 j hj).trans (World.cell?_alloc_lt _ _ _ hg2)))
          clear hN q16 q7
          go_wp2
          go_roundw
          case rel => exact ⟨q + 1, by omega, by omega, by go_num, by rw [HO.out]; exact hown5, ((bel.alloc bel.size _).drew).grown hgrow (by have := bel.size; simp; omega) (fun i hi => by injection hi with hi; omega)⟩
          case measure => simp [intOf]; omega
        · have e64 : q = 64 := by omega
          have HW : Hid (OwnW wr wo.heap.size u7 (wl bl 64)) := by rw [← e64]; exact own
          clear own e64
          obtain ⟨g7, c7, rfl, hg71, hg72⟩ := World.ownsRow.form HW.out (by rw [wl_length]; omega)
          rw [wl_length] at HW ⊢
          have Hcw : Hid (∀ i, i < 64 → wr.cell? ⟨g7, i, none⟩ = some (.int .u32 ((nthW (wl bl 64) i).toNat : Int))) := fun i hi => HW.out.cellAt (wl_length bl 64) i hi
          have HBh4 : Hid (Blk wr w.heap.size 69 (wv (ab mix256L s256.list P j))) := HBh.out.on bel
          have HBk4 : Hid (Blk wr (w.heap.size + 1) 69 (wv kL)) := HBk.out.on bel
          have HI4 : Hid (IsB wr (some ⟨bp, op, none⟩) (64 * m) cp P) := hI.out.below bel rfl
          have hbel4 : Below w.heap.size w wr := hbel.trans (bel.mono hbel.size)
          have hbp4 : bp < wr.heap.size := by
            obtain ⟨b', o', e, hc⟩ := HI4.out.cells (by omega)
            have := cell_lt (hc 0 (by omega))
            injection e with e; injection e with e1 _
            rw [e1]; exact this
          have hwo : wo.heap.size ≤ wr.heap.size := bel.size
          clear HW HBh HBk hI hbel bel HBL hq1 hq2 HLq
          generalize wr = wb at *
          go_wp2_with (at_builtin; refine list_app32 _ rfl (.tmp 80) (.tmp 81) rfl wb.heap.size _ [] rfl (OwnW.empty wb _ (Nat.le_refl _)) w.heap.size 8 8 (ab mix256L s256.list P j) rfl (ab_length _ _ _ rfl (fun _ _ => rfl) j) (by exact HBh4.out.alloc _) (by omega) (by decide) (by simp) _ rfl ?_; intro gv cv w6 hown6 hgrow6 hat6 hlt6)
          obtain ⟨s, hs⟩ : ∃ s : S8, ab mix256L s256.list P j = s.list := ⟨S8.of _, (list8 _ (ab_length _ _ _ rfl (fun _ _ => rfl) j)).symm⟩
          have HSS : Hid (ab mix256L s256.list P j = s.list) := hs
          have bel6 : Below wb.heap.size wb w6 := ((Below.refl _ _).alloc (Nat.le_refl _) _).grown hgrow6 (by simp) (fun i hi => Nat.le_of_eq (Option.some.inj hi))
          have gv6 : wb.heap.size ≤ gv := (hown6.blk gv rfl).1
          have IV : Hid (IsW w6 (some ⟨gv, 0, none⟩) 8 cv s.list) := by
            rw [List.nil_append, hs] at hown6
            obtain ⟨a', c', e, h'⟩ := hown6.isB
            injection e with e1 e2 e3
            rw [← e1, ← e3] at h'; exact h'
          rw [hs] at HBh4
          clear hs hown6 hgrow6 hat6 hlt6 hq
          go_loopw [11, 12] (fun v i wr => ∃ (n g c : Nat), n ≤ 64 ∧ i = .int .i64 (n : Int) ∧ v = .slice (some ⟨g, 0, none⟩) 8 c ∧ wb.heap.size ≤ g ∧ Hid (IsW wr (some ⟨g, 0, none⟩) 8 c (runS s (wl bl 64) n).list) ∧ Below wb.heap.size wb wr) (fun _ i _ => 64 - (intOf i).toNat)
          case atStart => exact ⟨0, gv, cv, by omega, rfl, rfl, gv6, IV.out, bel6⟩
          case round =>
            clear IV bel6 gv6
            obtain ⟨n, g, c, hn64, rfl, rfl, hgb, hIW, bel⟩ := hrel
            by_cases hn1 : n < 64
            · have HR : Hid (runS s (wl bl 64) (n + 1) = stepS (runS s (wl bl 64) n) (nthW kL n) (nthW (wl bl 64) n)) := runS_succ _ _ _
              generalize runS s (wl bl 64) n = r at *
              have c0 : wr.cell? ⟨g, 0, none⟩ = some (.int .u32 (r.a.toNat : Int)) := hIW.out.at0 0 (by omega)
              have c1 : wr.cell? ⟨g, 1, none⟩ = some (.int .u32 (r.b.toNat : Int)) := hIW.out.at0 1 (by omega)
              have c2 : wr.cell? ⟨g, 2, none⟩ = some (.int .u32 (r.c.toNat : Int)) := hIW.out.at0 2 (by omega)
              have c3 : wr.cell? ⟨g, 3, none⟩ = some (.int .u32 (r.d.toNat : Int)) := hIW.out.at0 3 (by omega)
              have c4 : wr.cell? ⟨g, 4, none⟩ = some (.int .u32 (r.e.toNat : Int)) := hIW.out.at0 4 (by omega)
              have c5 : wr.cell? ⟨g, 5, none⟩ = some (.int .u32 (r.f.toNat : Int)) := hIW.out.at0 5 (by omega)
              have c6 : wr.cell? ⟨g, 6, none⟩ = some (.int .u32 (r.g.toNat : Int)) := hIW.out.at0 6 (by omega)
              have c7x : wr.cell? ⟨g, 7, none⟩ = some (.int .u32 (r.h.toNat : Int)) := hIW.out.at0 7 (by omega)
              have ck : wr.cell? ⟨w.heap.size + 1, n, none⟩ = some (.int .u32 ((nthW kL n).toNat : Int)) := (bel.cell (p := ⟨w.heap.size + 1, n, none⟩) HBk4.out.lt).trans ((HBk4.out.cell n).trans (wv_at kL n hn1))
              have cw : wr.cell? ⟨g7, n, none⟩ = some (.int .u32 ((nthW (wl bl 64) n).toNat : Int)) := (bel.cell (p := ⟨g7, n, none⟩) hg72).trans (Hcw.out n hn1)
              have hn2 : (n : Int) < 64 := by omega
              have hgl : g < wr.heap.size := cell_lt c0
              clear hIW
              go_wp2
              go_quiet (fail)
              have c1 : (wr.drewN nq).cell? _ = _ := c1
              have c2 : (wr.drewN nq).cell? _ = _ := c2
              have c3 : (wr.drewN nq).cell? _ = _ := c3
              have c5 : (wr.drewN nq).cell? _ = _ := c5
              have c6 : (wr.drewN nq).cell? _ = _ := c6
              have c7x : (wr.drewN nq).cell? _ = _ := c7x
              have ck : (wr.drewN nq).cell? _ = _ := ck
              have cw : (wr.drewN nq).cell? _ = _ := cw
              have bel : Below _ _ (wr.drewN nq) := bel_drewN bel _
              have hgl : g < (wr.drewN nq).heap.size := hgl
              clear c0 c4
              generalize wr.drewN nq = x1 at *
              go_wp2
              go_quiet ((go_at_call 58; exact Calls.quiet_of_same (refRightI _ _ (by decide) (by decide) _)))
              have c1 : (x1.drewN nq).cell? _ = _ := c1
              have c2 : (x1.drewN nq).cell? _ = _ := c2
              have c3 : (x1.drewN nq).cell? _ = _ := c3
              have c5 : (x1.drewN nq).cell? _ = _ := c5
              have c6 : (x1.drewN nq).cell? _ = _ := c6
              have bel : Below _ _ (x1.drewN nq) := bel_drewN bel _
              have hgl : g < (x1.drewN nq).heap.size := hgl
              clear c7x ck cw
              generalize x1.drewN nq = x2 at *
              go_wp2
              go_quiet ((go_at_call 58; exact Calls.quiet_of_same (refRightI _ _ (by decide) (by decide) _)))
              have c1 : (x2.drewN nq).cell? _ = _ := c1
              have c2 : (x2.drewN nq).cell? _ = _ := c2
              have c3 : (x2.drewN nq).cell? _ = _ := c3
              have c5 : (x2.drewN nq).cell? _ = _ := c5
              have c6 : (x2.drewN nq).cell? _ = _ := c6
              have bel : Below _ _ (x2.drewN nq) := bel_drewN bel _
              have hgl : g < (x2.drewN nq).heap.size := hgl
              generalize x2.drewN nq = x3 at *
              go_wp2
              go_region_held3 (fun w' => w'.cell? ⟨g, 1, none⟩ = some (.int .u32 (r.b.toNat : Int)) ∧ w'.cell? ⟨g, 2, none⟩ = some (.int .u32 (r.c.toNat : Int)) ∧ w'.cell? ⟨g, 3, none⟩ = some (.int .u32 (r.d.toNat : Int)) ∧ w'.cell? ⟨g, 5, none⟩ = some (.int .u32 (r.f.toNat : Int)) ∧ w'.cell? ⟨g, 6, none⟩ = some (.int .u32 (r.g.toNat : Int))) (go_keep) (fail)
              go_wp2
              go_roundw
              case rel =>
                simp only [w_add4, w_add]
                exact ⟨n + 1, x3.heap.size, 8, by omega, by go_num, rfl, bel.size, by rw [HR.out]; exact IsW.ofBlock (stepS r (nthW kL n) (nthW (wl bl 64) n)).list (by show (8 : Nat) ≤ maxLen; decide) (heap_alloc_new x3 _), (bel.alloc bel.size _).drew⟩
              case measure => simp [intOf]; omega
            · have en : n = 64 := by omega
              have HX : Hid (IsW wr (some ⟨g, 0, none⟩) 8 c (runS s (wl bl 64) 64).list) := by have := hIW.out; rw [en] at this; exact this
              have HBh5 : Hid (Blk wr w.heap.size 69 (wv s.list)) := HBh4.out.on bel
              have HBk5 : Hid (Blk wr (w.heap.size + 1) 69 (wv kL)) := HBk4.out.on bel
              have HI5 : Hid (IsB wr (some ⟨bp, op, none⟩) (64 * m) cp P) := HI4.out.below bel rfl
              have hbel5 : Below w.heap.size w wr := hbel4.trans (bel.mono hbel4.size)
              have hgw : w.heap.size < wb.heap.size := HBh4.out.lt
              have hn9 : ¬ (n : Int) < 64 := by omega
              clear hIW HBh4 HBk4 HI4 Hcw hg72 en hn1
              obtain ⟨R, hR0⟩ : ∃ R, runS s (wl bl 64) 64 = R := ⟨_, rfl⟩
              have HR0 : Hid (runS s (wl bl 64) 64 = R) := hR0
              rw [hR0] at HX
              clear hR0
              generalize wr = wd at *
              go_wp2
              clear hn9
              go_loopw [17] (fun i wr => ∃ q : Nat, q ≤ 8 ∧ i = .int .i64 (q : Int) ∧ Hid (Blk wr w.heap.size 69 (wv (addTo s.list R.list q))) ∧ Hid (Blk wr (w.heap.size + 1) 69 (wv kL)) ∧ Hid (IsW wr (some ⟨g, 0, none⟩) 8 c R.list) ∧ Hid (IsB wr (some ⟨bp, op, none⟩) (64 * m) cp P) ∧ Below w.heap.size w wr) (fun i _ => 8 - (intOf i).toNat)
              case atStart => exact ⟨0, by omega, rfl, by rw [addTo_zero s.list R.list rfl]; exact HBh5, HBk5, HX, HI5, hbel5⟩
              case round =>
                clear HBh5 HBk5 HX HI5 hbel5 bel
                obtain ⟨q, hq8, rfl, hBh, hBk, hW, hI, hbel⟩ := hrel
                by_cases hq : q < 8
                · have ch : wr.cell? ⟨w.heap.size, q, none⟩ = some (.int .u32 ((nthW s.list q).toNat : Int)) := by
                    have := (hBh.out.cell q).trans (wv_at _ q (by rw [addTo_length]; exact hq))
                    rw [addTo_at _ _ _ _ hq, if_neg (by omega)] at this
                    exact this
                  have cv' : wr.cell? ⟨g, q, none⟩ = some (.int .u32 ((nthW R.list q).toNat : Int)) := hW.out.at0 q hq
                  have fh := hBh.out.frozen q
                  have hq' : (q : Int) < 8 := by omega
                  have hB6 : Hid (Blk (wr.setCell ⟨w.heap.size, q, none⟩ (.int .u32 ((add32 (nthW s.list q) (nthW R.list q)).toNat : Int))) w.heap.size 69 (wv (addTo s.list R.list (q + 1)))) := by
                    have := hBh.out.set q (.int .u32 ((add32 (nthW s.list q) (nthW R.list q)).toNat : Int))
                    rw [← wv_set, addTo_succ] at this
                    exact this
                  have hK6 : Hid (Blk (wr.setCell ⟨w.heap.size, q, none⟩ (.int .u32 ((add32 (nthW s.list q) (nthW R.list q)).toNat : Int))) (w.heap.size + 1) 69 (wv kL)) := hBk.out.other _ _ (by simp)
                  have hW6 : Hid (IsW (wr.setCell ⟨w.heap.size, q, none⟩ (.int .u32 ((add32 (nthW s.list q) (nthW R.list q)).toNat : Int))) (some ⟨g, 0, none⟩) 8 c R.list) := hW.out.setOther _ _ _ (fun x hx => by injection hx with hx; rw [← hx]; show g ≠ w.heap.size; omega)
                  have hI6 : Hid (IsB (wr.setCell ⟨w.heap.size, q, none⟩ (.int .u32 ((add32 (nthW s.list q) (nthW R.list q)).toNat : Int))) (some ⟨bp, op, none⟩) (64 * m) cp P) := hI.out.setOtherB _ _ _ (fun x hx => by injection hx with hx; rw [← hx]; show bp ≠ w.heap.size; omega)
                  have hb6 : Below w.heap.size w (wr.setCell ⟨w.heap.size, q, none⟩ (.int .u32 ((add32 (nthW s.list q) (nthW R.list q)).toNat : Int))) := hbel.trans ⟨rfl, rfl, rfl, by simp [World.setCell], fun k hk => Below.heap_setCell _ _ _ _ (fun e => by simp only at e; omega)⟩
                  clear hBh hBk hW hI hbel
                  generalize nthW s.list q = xa at *
                  generalize nthW R.list q = xb at *
                  go_wp2
                  go_region
                  all_goals
                    go_wp2
                    go_roundw
                    case rel => exact ⟨q + 1, by omega, by go_num, by exact hB6.out, by exact hK6.out, by exact hW6.out.drew, by exact hI6.out.below ((Below.refl _ _).drew) rfl, hb6.drew⟩
                    case measure => simp [intOf]; omega
                · have eq8 : q = 8 := by omega
                  have HB8 : Hid (Blk wr w.heap.size 69 (wv (ab mix256L s256.list P (j + 1)))) := by
                    have := hBh.out
                    rw [eq8, addTo_all] at this
                    have e : ab mix256L s256.list P (j + 1) = (addS s R).list := by
                      rw [ab, HSS.out, ← ht.out, ← HBB.out]
                      unfold mix256L mixS
                      rw [S8.of_list, HR0.out]
                    unfold Hid; rw [e]; exact this
                  have hq' : ¬ (q : Int) < 8 := by omega
                  have hj1 : j + 1 ≤ m := by omega
                  have ht3 : Hid (t + 64 = 64 * (j + 1)) := by have := ht.out; unfold Hid; omega
                  clear hBh hW eq8 ht HSS HR0 HBB hq
                  go_wp2
                  go_roundw
                  case rel => exact ⟨j + 1, t + 64, hj1, ht3, by go_num, HB8.out, hBk.out, hI, hbel⟩
                  case measure => simp [intOf]; omega
    · have ej : j = m := by omega
      have hge : ¬ ((t : Int) < 64 * (m : Int)) := by have := ht.out; omega
      have HW : Hid (IsW wr (some ⟨w.heap.size, 0, none⟩) 8 8 (ab mix256L s256.list P m)) := by
        have hlen := ab_length mix256L s256.list P rfl (fun _ _ => rfl) m
        have := IsW.ofBlock (w := wr) (B := w.heap.size) (ab mix256L s256.list P m) (by rw [hlen]; decide) (by rw [← ej]; exact Bh)
        rw [hlen] at this; exact this
      have HEnd : Hid (outB (ab mix256L s256.list P m) (4 * 8) = sha256L l) := by
        have h1 : P.length = l.length + (1 + zN l.length + 8) := by rw [HP.out, List.length_append, padOf_length]
        have h2 : (l.length + (1 + zN l.length + 8)) / 64 = m := by rw [← h1, HM.out]; omega
        unfold Hid sha256L hashL
        rw [h2, ← HP.out]
      clear Bh Bk hI ht
      go_wp2_with fail
      refine (refBytes _ 8 8 _ wr HW.out (by omega)).mono ?_
      rintro e w9 ⟨v9, rfl, own9, bel9⟩
      rw [HEnd.out] at own9
      go_wp2_with fail
      go_ret
      exact ⟨_, rfl, own9.base hbel.size, hbel.trans (bel9.mono hbel.size)⟩
end Go.Proofs.Ytbclhaleibjkgaa
