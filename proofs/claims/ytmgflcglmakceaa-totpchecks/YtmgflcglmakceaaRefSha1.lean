/- What the document's Sha1 answers. -/
import Derived.Test.YtmgflcglmakceaaRefSha
import Derived.Test.YtmgflcglmakceaaSha1
import Derived.Deep.CutBlock
import Derived.Deep.CutRange
namespace Go.Proofs.Ytmgflcglmakceaa
open Go.RowKit
attribute [local go_sem] w_add w_addw w_xor w_and w_or w_not w_notm
attribute [local go_sem ↓] slC

/-- SHA-1's state behind j blocks -/
def st1 (P : List UInt8) : Nat → S5
  | 0 => s160.five
  | j + 1 => mix1S (st1 P j) ((P.drop (64 * j)).take 64)
theorem ab_st1 (P : List UInt8) : ∀ j, ab mix1L s160.list P j = (st1 P j).list8
  | 0 => rfl
  | j + 1 => by rw [ab, ab_st1 P j]; rfl
theorem outB_five (s : S5) : outB s.list (4 * 5) = outB s.list8 20 := rfl
theorem wl1_16 (bl : List UInt8) : wl bl 16 = wl1 bl 16 := by
  have : ∀ n, n ≤ 16 → wl bl n = wl1 bl n := by
    intro n
    induction n with
    | zero => intro _; rfl
    | succ n ih =>
      intro h
      rw [wl, wl1, ih (by omega), if_pos (by omega), if_pos (by omega)]
  exact this 16 (Nat.le_refl _)

theorem refLeftI (x : UInt32) (k : Int) (h0 : 1 ≤ k) (h1 : k ≤ 31) (w : World) :
    Calls Try.prog 38 #[.int .u32 (x.toNat : Int), .int .i64 k] w fun e w' => e = .returned (.int .u32 ((rot x (32 - k.toNat)).toNat : Int)) ∧ w' = w := by
  have h := refLeft x k.toNat (by omega) (by omega) w
  have e : ((k.toNat : Nat) : Int) = k := by omega
  rw [e] at h; exact h

def add5To (x y : List UInt32) (n : Nat) : List UInt32 := (List.range 5).map fun i => if i < n then add32 (nthW x i) (nthW y i) else nthW x i
theorem add5To_length (x y : List UInt32) (n : Nat) : (add5To x y n).length = 5 := by simp [add5To]
theorem add5To_at (x y : List UInt32) (n i : Nat) (h : i < 5) : nthW (add5To x y n) i = if i < n then add32 (nthW x i) (nthW y i) else nthW x i := by
  rw [nthW_eq _ _ (by rw [add5To_length]; exact h)]; simp [add5To]
theorem add5To_zero (x y : List UInt32) (hx : x.length = 5) : add5To x y 0 = x := by
  refine ext_nthW _ _ (by rw [add5To_length, hx]) fun k hk => ?_
  rw [add5To_length] at hk
  rw [add5To_at _ _ _ _ hk, if_neg (by omega)]
theorem add5To_succ (x y : List UInt32) (n : Nat) : (add5To x y n).set n (add32 (nthW x n) (nthW y n)) = add5To x y (n + 1) := by
  refine ext_nthW _ _ (by rw [List.length_set, add5To_length, add5To_length]) fun k hk => ?_
  rw [List.length_set, add5To_length] at hk
  rw [add5To_at _ _ _ _ hk, nthW_eq _ _ (by rw [List.length_set, add5To_length]; exact hk), List.getElem_set]
  by_cases e : n = k
  · subst e
    rw [if_pos rfl, if_pos (by omega)]
  · rw [if_neg e, ← nthW_eq _ _ (by rw [add5To_length]; exact hk), add5To_at _ _ _ _ hk]
    by_cases hlt : k < n
    · rw [if_pos hlt, if_pos (by omega)]
    · rw [if_neg hlt, if_neg (by omega)]
theorem add5To_all (s r : S5) : add5To s.list r.list 5 = (add1 s r).list := rfl

set_option maxRecDepth 20000 in
set_option maxHeartbeats 2000000 in
theorem refSha1 (a : Option Addr) (len cap : Nat) (l : List UInt8) (w : World) (h : IsB w a len cap l) (hn : len < 4294967296) :
    Calls Try.prog 31 #[.slice a len cap] w fun e w' => ∃ v, e = .returned v ∧ OwnB w' w.heap.size v (sha1L l) ∧ Below w.heap.size w w' := by
  have H : Hid (IsB w a len cap l) := h
  have HE : Hid (l.length = len) := h.len_eq
  clear h
  go_enter Try.func31, Try.ntmps31
  have Bh0 : Blk (w.alloc (.cells (wv (st1 [] 0).list).toArray 36)) w.heap.size 36 (wv (st1 [] 0).list) := Blk.newAt w _ _ _ (wv (st1 [] 0).list) rfl rfl
  have hb1 : Below w.heap.size w (w.alloc (.cells (wv (st1 [] 0).list).toArray 36)) := (Below.refl _ _).alloc (Nat.le_refl _) _
  have H1 : Hid (IsB (w.alloc (.cells (wv (st1 [] 0).list).toArray 36)) a len cap l) := H.out.below hb1 rfl
  go_wp2_with fail
  refine (refPadded a len cap l _ H1.out hn).mono ?_
  rintro e w2 ⟨v2, rfl, own2, bel2⟩
  obtain ⟨P, hP⟩ : ∃ P, P = l ++ padOf l.length := ⟨_, rfl⟩
  have HP : Hid (P = l ++ padOf l.length) := hP
  rw [← hP] at own2
  have hblk := own2.blk
  obtain ⟨ap, cp, rfl, isP⟩ := own2.isB
  have Bh2 := Bh0.on bel2
  have hb2 : Below w.heap.size w w2 := hb1.trans (bel2.mono hb1.size)
  obtain ⟨m, hm⟩ : ∃ m, P.length = 64 * m := ⟨P.length / 64, by
    have h1 := zN_len len
    rw [hP, List.length_append, padOf_length, HE.out]
    omega⟩
  have HM : Hid (P.length = 64 * m) := hm
  have hmpos : 0 < m := by
    have : 0 < P.length := by rw [hP, List.length_append, padOf_length]; omega
    omega
  have hmb : m < 4294967296 := by
    have h2 : P.length = len + (1 + zN len + 8) := by rw [hP, List.length_append, padOf_length, HE.out]
    have h3 := zN_lt len
    omega
  rw [hm] at isP ⊢
  have hW1 : w.heap.size < (w.alloc (.cells (wv (st1 [] 0).list).toArray 36)).heap.size := by simp
  clear hP own2 Bh0 H1 hm bel2
  have hcp := isP.le
  obtain ⟨bp, op, rfl, -⟩ := isP.cells (by omega)
  have hbp : w.heap.size < bp := Nat.lt_of_lt_of_le hW1 (hblk bp rfl).1
  clear hblk hb1 hW1
  have HI : Hid (IsB w2 (some ⟨bp, op, none⟩) (64 * m) cp P) := isP
  have hcx := isP.max
  unfold maxLen at hcx
  clear isP
  go_wp2
  go_loopw [5] (fun c wr => ∃ j t : Nat, j ≤ m ∧ Hid (t = 64 * j) ∧ c = .int .i64 (t : Int) ∧ Hid (Blk wr w.heap.size 36 (wv (st1 P j).list)) ∧ Hid (IsB wr (some ⟨bp, op, none⟩) (64 * m) cp P) ∧ Below w.heap.size w wr) (fun c _ => 64 * m - (intOf c).toNat)
  case atStart => exact ⟨0, 0, by omega, rfl, rfl, Bh2, HI.out, hb2⟩
  case round =>
    clear Bh2 HI hb2
    obtain ⟨j, t, hj, ht, rfl, HBh, hI, hbel⟩ := hrel
    by_cases hlt : j < m
    · have ht1 : t + 64 ≤ 64 * m := by have := ht.out; omega
      have ht2 : t + 64 ≤ cp := by omega
      have hlt' : (t : Int) < 64 * (m : Int) := by omega
      have HBL : Hid (IsB wr (some ⟨bp, op + t, none⟩) 64 (cp - t) ((P.drop t).take 64)) := hI.out.part t ht1
      obtain ⟨bl, hbl⟩ : ∃ bl, bl = (P.drop t).take 64 := ⟨_, rfl⟩
      have HBB : Hid (bl = (P.drop t).take 64) := hbl
      rw [← hbl] at HBL
      clear hbl
      go_wp2_with fail
      refine (refWords _ _ bl _ HBL.out).mono ?_
      rintro e w3 ⟨v3, rfl, own3, bel3⟩
      rw [wl1_16] at own3
      generalize wr = wo at *
      go_wp2
      go_loopw [6, 7] (fun v i wr => ∃ q : Nat, 16 ≤ q ∧ q ≤ 80 ∧ i = .int .i64 (q : Int) ∧ OwnW wr wo.heap.size v (wl1 bl q) ∧ Below wo.heap.size wo wr) (fun _ i _ => 80 - (intOf i).toNat)
      case atStart => exact ⟨16, by omega, by omega, rfl, own3, bel3⟩
      case round =>
        clear own3 bel3
        obtain ⟨q, hq1, hq2, rfl, own, bel⟩ := hrel
        have HLq : Hid ((wl1 bl q).length = q) := wl1_length bl q
        by_cases hq : q < 80
        · obtain ⟨g, c7, rfl, hg1, hg2⟩ := World.ownsRow.form own (by rw [HLq.out]; omega)
          have hcq : ∀ i, i < q → wr.cell? ⟨g, i, none⟩ = some (.int .u32 ((nthW (wl1 bl q) i).toNat : Int)) := fun i hi => own.cellAt rfl i (by rw [HLq.out]; exact hi)
          have c3 := hcq (q - 3) (by omega)
          have c8 := hcq (q - 8) (by omega)
          have c14 := hcq (q - 14) (by omega)
          have c16 := hcq (q - 16) (by omega)
          clear hcq
          have own' : Hid (OwnW wr wo.heap.size (.slice (some ⟨g, 0, none⟩) q c7) (wl1 bl q)) := by have := own; rw [HLq.out] at this; exact this
          rw [HLq.out]
          clear own
          have g9 : (q : Int) < 80 := by omega
          obtain ⟨p3, h3⟩ : ∃ p, q - 3 = p := ⟨_, rfl⟩
          obtain ⟨p8, h8⟩ : ∃ p, q - 8 = p := ⟨_, rfl⟩
          obtain ⟨p14, h14⟩ : ∃ p, q - 14 = p := ⟨_, rfl⟩
          obtain ⟨p16, h16⟩ : ∃ p, q - 16 = p := ⟨_, rfl⟩
          obtain ⟨nx, hnx⟩ : ∃ nx, next1 (wl1 bl q) q = nx := ⟨_, rfl⟩
          have HO : Hid (wl1 bl (q + 1) = wl1 bl q ++ [nx]) := by unfold Hid; rw [wl1, if_neg (by omega), hnx]
          have hN : rot (xor32 (xor32 (xor32 (nthW (wl1 bl q) p3) (nthW (wl1 bl q) p8)) (nthW (wl1 bl q) p14)) (nthW (wl1 bl q) p16)) 31 = nx := by rw [← hnx, ← h3, ← h8, ← h14, ← h16]; rfl
          rw [h3] at c3
          rw [h8] at c8
          rw [h14] at c14
          rw [h16] at c16
          have q3 : IntKind.i64.wrap ((q : Int) - 3) = (p3 : Int) := by rw [wrapi64_in _ (by omega) (by omega)]; omega
          have q8 : IntKind.i64.wrap ((q : Int) - 8) = (p8 : Int) := by rw [wrapi64_in _ (by omega) (by omega)]; omega
          have q14 : IntKind.i64.wrap ((q : Int) - 14) = (p14 : Int) := by rw [wrapi64_in _ (by omega) (by omega)]; omega
          have q16 : IntKind.i64.wrap ((q : Int) - 16) = (p16 : Int) := by rw [wrapi64_in _ (by omega) (by omega)]; omega
          have r3 : (p3 : Int) < (q : Int) := by omega
          have r8 : (p8 : Int) < (q : Int) := by omega
          have r14 : (p14 : Int) < (q : Int) := by omega
          have r16 : (p16 : Int) < (q : Int) := by omega
          have m3 : p3 < q := by omega
          have m8 : p8 < q := by omega
          have m14 : p14 < q := by omega
          have m16 : p16 < q := by omega
          clear h3 h8 h14 h16 hnx
          go_wp2
          go_region_held3 (fun w' => w'.cell? ⟨g, p3, none⟩ = some (.int .u32 ((nthW (wl1 bl q) p3).toNat : Int)) ∧ w'.cell? ⟨g, p8, none⟩ = some (.int .u32 ((nthW (wl1 bl q) p8).toNat : Int)) ∧ w'.cell? ⟨g, p14, none⟩ = some (.int .u32 ((nthW (wl1 bl q) p14).toNat : Int)) ∧ w'.cell? ⟨g, p16, none⟩ = some (.int .u32 ((nthW (wl1 bl q) p16).toNat : Int)))
            (first | exact ⟨(hkeep p3 m3).trans c3, (hkeep p8 m8).trans c8, (hkeep p14 m14).trans c14, (hkeep p16 m16).trans c16⟩ | go_keep)
            (first | (go_at_call 38; refine (refLeftI _ _ (by decide) (by decide) _).mono ?_; rintro e w' ⟨rfl, hww⟩; rw [hww]; clear hww w') | (refine step_app32k _ (by rfl) _ _ (by rfl) wo.heap.size g q c7 (wl1 bl q) HLq.out (by rfl) ((OwnW.alloc own'.out _).heap rfl) wr.heap.size 1 1 [nx] (by rfl) (by rfl) (heap_alloc_new wr _) (by omega) (by omega) (by have := bel.size; simp; omega) ?_; intro gg cap w5 hown5 hgrow hkeep0; have hkeep : ∀ j, j < q → w5.cell? ⟨g, j, none⟩ = wr.cell? ⟨g, j, none⟩ := fun j hj => (hkeep0 j hj).trans (World.cell?_alloc_lt _ _ _ hg2)))
          clear hN q3 q8 q14 q16
          go_wp2
          go_roundw
          case rel => exact ⟨q + 1, by omega, by omega, by go_num, by rw [HO.out]; exact hown5, ((bel.alloc bel.size _).drew).grown hgrow (by have := bel.size; simp; omega) (fun i hi => by injection hi with hi; omega)⟩
          case measure => simp [intOf]; omega
        · have e80 : q = 80 := by omega
          have HW : Hid (OwnW wr wo.heap.size u6 (wl1 bl 80)) := by rw [← e80]; exact own
          have hq' : ¬ (q : Int) < 80 := by omega
          clear own e80
          obtain ⟨g7, c7, rfl, hg71, hg72⟩ := World.ownsRow.form HW.out (by rw [wl1_length]; omega)
          rw [wl1_length] at HW ⊢
          have Hcw : Hid (∀ i, i < 80 → wr.cell? ⟨g7, i, none⟩ = some (.int .u32 ((nthW (wl1 bl 80) i).toNat : Int))) := fun i hi => HW.out.cellAt (wl1_length bl 80) i hi
          have HBh4 : Hid (Blk wr w.heap.size 36 (wv (st1 P j).list)) := HBh.out.on bel
          have HI4 : Hid (IsB wr (some ⟨bp, op, none⟩) (64 * m) cp P) := hI.out.below bel rfl
          have hbel4 : Below w.heap.size w wr := hbel.trans (bel.mono hbel.size)
          have hwo : wo.heap.size ≤ wr.heap.size := bel.size
          clear HW HBh hI hbel bel HBL hq1 hq2 HLq
          generalize wr = wb at *
          obtain ⟨s, hs⟩ : ∃ s : S5, st1 P j = s := ⟨_, rfl⟩
          have HSS : Hid (st1 P j = s) := hs
          rw [hs] at HBh4
          clear hs
          go_wp2_with (at_builtin; refine list_app32 _ rfl (.tmp 60) (.tmp 61) rfl wb.heap.size _ [] rfl (OwnW.empty wb _ (Nat.le_refl _)) w.heap.size 5 5 s.list rfl rfl (by exact HBh4.out.alloc _) (by omega) (by decide) (by simp) _ rfl ?_; intro gv cv w6 hown6 hgrow6 hat6 hlt6)
          have bel6 : Below wb.heap.size wb w6 := ((Below.refl _ _).alloc (Nat.le_refl _) _).grown hgrow6 (by simp) (fun i hi => Nat.le_of_eq (Option.some.inj hi))
          have gv6 : wb.heap.size ≤ gv := (hown6.blk gv rfl).1
          have IV : Hid (IsW w6 (some ⟨gv, 0, none⟩) 5 cv s.list) := by
            rw [List.nil_append] at hown6
            obtain ⟨a', c', e, h'⟩ := hown6.isB
            injection e with e1 e2 e3
            rw [← e1, ← e3] at h'; exact h'
          clear hown6 hgrow6 hat6 hlt6 hq hq'
          go_loopw [8, 9] (fun v i wr => ∃ (n g c : Nat), n ≤ 80 ∧ i = .int .i64 (n : Int) ∧ v = .slice (some ⟨g, 0, none⟩) 5 c ∧ wb.heap.size ≤ g ∧ Hid (IsW wr (some ⟨g, 0, none⟩) 5 c (run1 s (wl1 bl 80) n).list) ∧ Below wb.heap.size wb wr) (fun _ i _ => 80 - (intOf i).toNat)
          case atStart => exact ⟨0, gv, cv, by omega, rfl, rfl, gv6, IV.out, bel6⟩
          case round =>
            clear IV bel6 gv6
            obtain ⟨n, g, c, hn64, rfl, rfl, hgb, hIW, bel⟩ := hrel
            by_cases hn1 : n < 80
            · have HR : Hid (run1 s (wl1 bl 80) (n + 1) = step1 (run1 s (wl1 bl 80) n) n (nthW (wl1 bl 80) n)) := run1_succ _ _ _
              generalize run1 s (wl1 bl 80) n = r at *
              have c0 : wr.cell? ⟨g, 0, none⟩ = some (.int .u32 (r.a.toNat : Int)) := hIW.out.at0 0 (by omega)
              have c1 : wr.cell? ⟨g, 1, none⟩ = some (.int .u32 (r.b.toNat : Int)) := hIW.out.at0 1 (by omega)
              have c2 : wr.cell? ⟨g, 2, none⟩ = some (.int .u32 (r.c.toNat : Int)) := hIW.out.at0 2 (by omega)
              have c3 : wr.cell? ⟨g, 3, none⟩ = some (.int .u32 (r.d.toNat : Int)) := hIW.out.at0 3 (by omega)
              have c4 : wr.cell? ⟨g, 4, none⟩ = some (.int .u32 (r.e.toNat : Int)) := hIW.out.at0 4 (by omega)
              have cw : wr.cell? ⟨g7, n, none⟩ = some (.int .u32 ((nthW (wl1 bl 80) n).toNat : Int)) := (bel.cell (p := ⟨g7, n, none⟩) hg72).trans (Hcw.out n hn1)
              have hn2 : (n : Int) < 80 := by omega
              have hgl : g < wr.heap.size := cell_lt c0
              clear hIW
              go_wp2
              go_quiet (fail)
              have c0 : (wr.drewN nq).cell? _ = _ := c0
              have c1 : (wr.drewN nq).cell? _ = _ := c1
              have c2 : (wr.drewN nq).cell? _ = _ := c2
              have c3 : (wr.drewN nq).cell? _ = _ := c3
              have c4 : (wr.drewN nq).cell? _ = _ := c4
              have cw : (wr.drewN nq).cell? _ = _ := cw
              have bel : Below _ _ (wr.drewN nq) := bel_drewN bel _
              have hgl : g < (wr.drewN nq).heap.size := hgl
              generalize wr.drewN nq = x1 at *
              obtain ⟨Q, hQ⟩ : ∃ Q, n / 20 = Q := ⟨_, rfl⟩
              have HQ : Hid (n / 20 = Q) := hQ
              go_upto_block 6 with fail
              go_cut [10, 11] from 63 to 168 (fun f k wx => f = .int .u32 ((blendW Q r.b r.c r.d).toNat : Int) ∧ k = .int .u32 ((nthW k1L Q).toNat : Int) ∧ ∃ z, wx = x1.drewN z)
              case first =>
                by_cases h60 : 60 ≤ n
                · have e60 : (60 : Int) ≤ (n : Int) := by omega
                  have eQ : Q = 3 := by omega
                  have HB : Hid (blendW Q r.b r.c r.d = xor32 (xor32 r.b r.c) r.d) := by unfold Hid; rw [eQ]; rfl
                  have HK : Hid (nthW k1L Q = 0xca62c1d6) := by unfold Hid; rw [eQ]; rfl
                  clear hQ eQ
                  go_wp2
                  go_quiet (fail)
                  go_wp2
                  go_meet
                  case rel => exact ⟨by rw [HB.out], by rw [HK.out]; rfl, _, rfl⟩
                · have e60 : ¬ (60 : Int) ≤ (n : Int) := by omega
                  by_cases h40 : 40 ≤ n
                  · have e40 : (40 : Int) ≤ (n : Int) := by omega
                    have eQ : Q = 2 := by omega
                    have HB : Hid (blendW Q r.b r.c r.d = or32 (or32 (and32 r.b r.c) (and32 r.b r.d)) (and32 r.c r.d)) := by unfold Hid; rw [eQ, maj_or]; rfl
                    have HK : Hid (nthW k1L Q = 0x8f1bbcdc) := by unfold Hid; rw [eQ]; rfl
                    clear hQ eQ
                    go_wp2
                    go_quiet (fail)
                    go_wp2
                    go_meet
                    case rel => exact ⟨by rw [HB.out], by rw [HK.out]; rfl, _, rfl⟩
                  · have e40 : ¬ (40 : Int) ≤ (n : Int) := by omega
                    by_cases h20 : 20 ≤ n
                    · have e20 : (20 : Int) ≤ (n : Int) := by omega
                      have eQ : Q = 1 := by omega
                      have HB : Hid (blendW Q r.b r.c r.d = xor32 (xor32 r.b r.c) r.d) := by unfold Hid; rw [eQ]; rfl
                      have HK : Hid (nthW k1L Q = 0x6ed9eba1) := by unfold Hid; rw [eQ]; rfl
                      clear hQ eQ
                      go_wp2
                      go_quiet (fail)
                      go_wp2
                      go_meet
                      case rel => exact ⟨by rw [HB.out], by rw [HK.out]; rfl, _, rfl⟩
                    · have e20 : ¬ (20 : Int) ≤ (n : Int) := by omega
                      have eQ : Q = 0 := by omega
                      have HB : Hid (blendW Q r.b r.c r.d = or32 (and32 r.b r.c) (and32 (not32 r.b) r.d)) := by unfold Hid; rw [eQ, ch_or]; rfl
                      have HK : Hid (nthW k1L Q = 0x5a827999) := by unfold Hid; rw [eQ]; rfl
                      clear hQ eQ
                      go_wp2
                      go_meet
                      case rel => exact ⟨by rw [HB.out], by rw [HK.out]; rfl, 0, rfl⟩
              case rest =>
                obtain ⟨rfl, rfl, z, hw⟩ := hcut
                have c0 : wc.cell? ⟨g, 0, none⟩ = some (.int .u32 (r.a.toNat : Int)) := by rw [hw]; exact c0
                have c1 : wc.cell? ⟨g, 1, none⟩ = some (.int .u32 (r.b.toNat : Int)) := by rw [hw]; exact c1
                have c2 : wc.cell? ⟨g, 2, none⟩ = some (.int .u32 (r.c.toNat : Int)) := by rw [hw]; exact c2
                have c3 : wc.cell? ⟨g, 3, none⟩ = some (.int .u32 (r.d.toNat : Int)) := by rw [hw]; exact c3
                have c4 : wc.cell? ⟨g, 4, none⟩ = some (.int .u32 (r.e.toNat : Int)) := by rw [hw]; exact c4
                have cw : wc.cell? ⟨g7, n, none⟩ = some (.int .u32 ((nthW (wl1 bl 80) n).toNat : Int)) := by rw [hw]; exact cw
                have bel : Below wb.heap.size wb wc := by rw [hw]; exact bel_drewN bel _
                have hgl : g < wc.heap.size := by rw [hw]; exact hgl
                have HST : Hid (step1 r n (nthW (wl1 bl 80) n) = ⟨add32 (add32 (add32 (add32 (rot r.a 27) (blendW Q r.b r.c r.d)) r.e) (nthW k1L Q)) (nthW (wl1 bl 80) n), r.a, rot r.b 2, r.c, r.d⟩) := by unfold Hid step1; rw [HQ.out]
                clear hw hQ HQ
                generalize blendW Q r.b r.c r.d = F at *
                generalize nthW k1L Q = KK at *
                go_wp2
                go_quiet ((go_at_call 38; exact Calls.quiet_of_same (refLeftI _ _ (by decide) (by decide) _)))
                have c0 : (wc.drewN nq).cell? _ = _ := c0
                have c1 : (wc.drewN nq).cell? _ = _ := c1
                have c2 : (wc.drewN nq).cell? _ = _ := c2
                have c3 : (wc.drewN nq).cell? _ = _ := c3
                have bel : Below _ _ (wc.drewN nq) := bel_drewN bel _
                have hgl : g < (wc.drewN nq).heap.size := hgl
                clear c4 cw
                generalize wc.drewN nq = x3 at *
                go_wp2
                go_region_held3 (fun w' => w'.cell? ⟨g, 0, none⟩ = some (.int .u32 (r.a.toNat : Int)) ∧ w'.cell? ⟨g, 1, none⟩ = some (.int .u32 (r.b.toNat : Int)) ∧ w'.cell? ⟨g, 2, none⟩ = some (.int .u32 (r.c.toNat : Int)) ∧ w'.cell? ⟨g, 3, none⟩ = some (.int .u32 (r.d.toNat : Int))) (go_keep) ((go_at_call 38; refine (refLeftI _ _ (by decide) (by decide) _).mono ?_; rintro e w' ⟨rfl, hww⟩; rw [hww]; clear hww w'))
                go_wp2
                go_roundw
                case rel =>
                  exact ⟨n + 1, x3.heap.size, 5, by omega, by go_num, rfl, bel.size, by rw [HR.out, HST.out]; exact IsW.ofBlock (S5.list ⟨add32 (add32 (add32 (add32 (rot r.a 27) F) r.e) KK) (nthW (wl1 bl 80) n), r.a, rot r.b 2, r.c, r.d⟩) (by show (5 : Nat) ≤ maxLen; decide) (heap_alloc_new x3 _), (bel.alloc bel.size _).drew⟩
                case measure => simp [intOf]; omega
            · have en : n = 80 := by omega
              have HX : Hid (IsW wr (some ⟨g, 0, none⟩) 5 c (run1 s (wl1 bl 80) 80).list) := by have := hIW.out; rw [en] at this; exact this
              have HBh5 : Hid (Blk wr w.heap.size 36 (wv s.list)) := HBh4.out.on bel
              have HI5 : Hid (IsB wr (some ⟨bp, op, none⟩) (64 * m) cp P) := HI4.out.below bel rfl
              have hbel5 : Below w.heap.size w wr := hbel4.trans (bel.mono hbel4.size)
              have hgw : w.heap.size < wb.heap.size := HBh4.out.lt
              have hn9 : ¬ (n : Int) < 80 := by omega
              clear hIW HBh4 HI4 Hcw hg72 en hn1
              obtain ⟨R, hR0⟩ : ∃ R, run1 s (wl1 bl 80) 80 = R := ⟨_, rfl⟩
              have HR0 : Hid (run1 s (wl1 bl 80) 80 = R) := hR0
              rw [hR0] at HX
              clear hR0
              generalize wr = wd at *
              go_wp2
              clear hn9
              go_loopw [13] (fun i wr => ∃ q : Nat, q ≤ 5 ∧ i = .int .i64 (q : Int) ∧ Hid (Blk wr w.heap.size 36 (wv (add5To s.list R.list q))) ∧ Hid (IsW wr (some ⟨g, 0, none⟩) 5 c R.list) ∧ Hid (IsB wr (some ⟨bp, op, none⟩) (64 * m) cp P) ∧ Below w.heap.size w wr) (fun i _ => 5 - (intOf i).toNat)
              case atStart => exact ⟨0, by omega, rfl, by rw [add5To_zero s.list R.list rfl]; exact HBh5, HX, HI5, hbel5⟩
              case round =>
                clear HBh5 HX HI5 hbel5 bel
                obtain ⟨q, hq8, rfl, hBh, hW, hI, hbel⟩ := hrel
                by_cases hq : q < 5
                · have ch : wr.cell? ⟨w.heap.size, q, none⟩ = some (.int .u32 ((nthW s.list q).toNat : Int)) := by
                    have := (hBh.out.cell q).trans (wv_at _ q (by rw [add5To_length]; exact hq))
                    rw [add5To_at _ _ _ _ hq, if_neg (by omega)] at this
                    exact this
                  have cv' : wr.cell? ⟨g, q, none⟩ = some (.int .u32 ((nthW R.list q).toNat : Int)) := hW.out.at0 q hq
                  have fh := hBh.out.frozen q
                  have hq' : (q : Int) < 5 := by omega
                  have hB6 : Hid (Blk (wr.setCell ⟨w.heap.size, q, none⟩ (.int .u32 ((add32 (nthW s.list q) (nthW R.list q)).toNat : Int))) w.heap.size 36 (wv (add5To s.list R.list (q + 1)))) := by
                    have := hBh.out.set q (.int .u32 ((add32 (nthW s.list q) (nthW R.list q)).toNat : Int))
                    rw [← wv_set, add5To_succ] at this
                    exact this
                  have hW6 : Hid (IsW (wr.setCell ⟨w.heap.size, q, none⟩ (.int .u32 ((add32 (nthW s.list q) (nthW R.list q)).toNat : Int))) (some ⟨g, 0, none⟩) 5 c R.list) := hW.out.setOther _ _ _ (fun x hx => by injection hx with hx; rw [← hx]; show g ≠ w.heap.size; omega)
                  have hI6 : Hid (IsB (wr.setCell ⟨w.heap.size, q, none⟩ (.int .u32 ((add32 (nthW s.list q) (nthW R.list q)).toNat : Int))) (some ⟨bp, op, none⟩) (64 * m) cp P) := hI.out.setOther _ _ _ (fun x hx => by injection hx with hx; rw [← hx]; show bp ≠ w.heap.size; omega)
                  have hb6 : Below w.heap.size w (wr.setCell ⟨w.heap.size, q, none⟩ (.int .u32 ((add32 (nthW s.list q) (nthW R.list q)).toNat : Int))) := hbel.trans ⟨rfl, rfl, rfl, by simp [World.setCell], fun k hk => Below.heap_setCell _ _ _ _ (fun e => by simp only at e; omega)⟩
                  clear hBh hW hI hbel
                  generalize nthW s.list q = xa at *
                  generalize nthW R.list q = xb at *
                  go_wp2
                  go_region
                  all_goals
                    go_wp2
                    go_roundw
                    case rel => exact ⟨q + 1, by omega, by go_num, by exact hB6.out, by exact hW6.out.drew, by exact hI6.out.below ((Below.refl _ _).drew) rfl, hb6.drew⟩
                    case measure => simp [intOf]; omega
                · have eq8 : q = 5 := by omega
                  have HB8 : Hid (Blk wr w.heap.size 36 (wv (st1 P (j + 1)).list)) := by
                    have := hBh.out
                    rw [eq8, add5To_all] at this
                    have e : st1 P (j + 1) = add1 s R := by
                      rw [st1, HSS.out, ← ht.out, ← HBB.out]
                      unfold mix1S
                      rw [HR0.out]
                    unfold Hid; rw [e]; exact this
                  have hq' : ¬ (q : Int) < 5 := by omega
                  have hj1 : j + 1 ≤ m := by omega
                  have ht3 : Hid (t + 64 = 64 * (j + 1)) := by have := ht.out; unfold Hid; omega
                  clear hBh hW eq8 ht HSS HR0 HBB hq
                  go_wp2
                  go_roundw
                  case rel => exact ⟨j + 1, t + 64, hj1, ht3, by go_num, HB8, hI, hbel⟩
                  case measure => simp [intOf]; omega
    · have ej : j = m := by omega
      have hge : ¬ ((t : Int) < 64 * (m : Int)) := by have := ht.out; omega
      have HW : Hid (IsW wr (some ⟨w.heap.size, 0, none⟩) 5 5 (st1 P m).list) := IsW.ofBlock (w := wr) (B := w.heap.size) (st1 P m).list (by show (5 : Nat) ≤ maxLen; decide) (by rw [← ej]; exact HBh.out)
      have HEnd : Hid (outB (st1 P m).list (4 * 5) = sha1L l) := by
        have h1 : P.length = l.length + (1 + zN l.length + 8) := by rw [HP.out, List.length_append, padOf_length]
        have h2 : (l.length + (1 + zN l.length + 8)) / 64 = m := by rw [← h1, HM.out]; omega
        unfold Hid sha1L hashL
        rw [h2, ← HP.out, ab_st1, outB_five]
      clear HBh hI ht
      go_wp2_with fail
      refine (refBytes _ 5 5 _ wr HW.out (by omega)).mono ?_
      rintro e w9 ⟨v9, rfl, own9, bel9⟩
      rw [HEnd.out] at own9
      go_wp2_with fail
      go_ret
      exact ⟨_, rfl, own9.base hbel.size, hbel.trans (bel9.mono hbel.size)⟩
end Go.Proofs.Ytmgflcglmakceaa
