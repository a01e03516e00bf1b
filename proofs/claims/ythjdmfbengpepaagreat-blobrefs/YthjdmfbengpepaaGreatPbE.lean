/- The program's Read. -/
import Derived.Test.YthjdmfbengpepaaGreatPbD
import Derived.Test.YthjdmfbengpepaaGreatB14
import Derived.Test.YthjdmfbengpepaaGreatB33
import Derived.Test.YthjdmfbengpepaaGreatB22
namespace Go.Proofs.YthjdmfbengpepaaGreat
open Go.RowKit

/-- append(numbers, z), in a region that draws -/
theorem step_appZ {ops : Array Oper} {o : Oper} {a : Act} {K : Act → World → Prop} {Q : Exit → Act → World → Prop} {E : Prop} (w : World) (hgd : o.guard = none) (s x : Operand)
    (ho : o.op = .call { callee := .builtin .append, args := #[s, x], argTypes := #[42, 42] }) (base : Nat)
    (v : Value) (l : List Int) (hs : a.eval s = v) (hown : OwnZ w base v l) (B : Nat) (z : Int) (hx : a.eval x = .slice (some ⟨B, 0, none⟩) 1 1)
    (hb : w.heap[B]? = some (.cells #[.int .i64 z] 3 (0, 0))) (hle : l.length ≤ 4096) (hbase : base ≤ w.heap.size) (d : Tmp) (hd : o.dst = some d)
    (h : ∀ v' w', OwnZ w' base v' (l ++ [z]) → w.grownBy w' v.ownBlock → K (a.put (some d) v') w') :
    if Region.wanted o (yielded ops a.tmps) = true then Oper.wp Tryz.prog o a w K Q else E := by
  have hw : Region.wanted o (yielded ops a.tmps) = true := by simp [Region.wanted, hgd]
  rw [if_pos hw]
  obtain ⟨i0, hi, hz0, hz1, hz2⟩ := info_parts infoI3
  refine wp_append_own w s x 42 ho base 3 i0 (.int .i64 0) 1 8 Tryz.underlying42 hi hz0 hz1 hz2 rfl (by omega) v l.length _ hs hown ⟨B, 0, none⟩ 1 1 [.int .i64 z] hx (by simp) (fun j u hu => World.news_of_block hb j u (by simpa using hu)) (fun u hu => by rw [List.mem_singleton.1 hu]; rfl) (by unfold maxLen; omega) (by omega) hbase ?_
  intro v' w' h1 h2 _
  rw [hd]
  refine h v' w' ?_ h2
  unfold OwnZ
  rw [List.length_append, zv_append]
  exact h1
/-- how Read stands on its way -/
structure PrAt (w0 w : World) (R B : Nat) (l : List UInt8) (br : Bool) (n : Int) (vs vz : Value) (S : List UInt8) (acc : List Int) : Prop where
  res : Blk w w0.heap.size 44 [.int .i64 0, .slice none 0 0, .slice none 0 0]
  x : IsR w B l br
  lo : w0.heap.size < B
  r : Blk w R 44 [.int .i64 n, vs, vz]
  lt : B < R
  sum : OwnB w w0.heap.size vs S
  zs : OwnZ w (B + 1) vz acc
  bel : Below w0.heap.size w0 w
theorem PrAt.reader {w0 w w' : World} {R B : Nat} {l l' : List UInt8} {br br' : Bool} {n : Int} {vs vz : Value} {S : List UInt8} {acc : List Int} (h : PrAt w0 w R B l br n vs vz S acc) (hx : IsR w' B l' br') (hg : w.grownBy w' (some B)) : PrAt w0 w' R B l' br' n vs vz S acc := by
  obtain ⟨a, cap, hb, _⟩ := h.x
  have hk : KeepT [181] w w' := gr_keepT hb hg
  have := h.lo
  exact ⟨hk.blk h.res (by decide), hx, h.lo, hk.blk h.r (by decide), h.lt, own_keep hk h.sum (by decide), own_keep hk h.zs (by decide), h.bel.grown hg h.bel.size (fun k e => by have := Option.some.inj e; omega)⟩
theorem PrAt.on {w0 w w' : World} {R B : Nat} {l : List UInt8} {br : Bool} {n : Int} {vs vz : Value} {S : List UInt8} {acc : List Int} (h : PrAt w0 w R B l br n vs vz S acc) (hb : Below w.heap.size w w') : PrAt w0 w' R B l br n vs vz S acc :=
  ⟨h.res.on hb, h.x.on hb, h.lo, h.r.on hb, h.lt, own_on8 h.sum hb, own_keepO (us := [3]) (KeepO.of_below hb) h.zs (by decide), h.bel.trans (hb.mono h.bel.size)⟩
theorem PrAt.grown {w0 w w' : World} {R B : Nat} {l : List UInt8} {br : Bool} {n : Int} {vs vz vz' : Value} {S : List UInt8} {acc acc' : List Int} (h : PrAt w0 w R B l br n vs vz S acc) (ho : OwnZ w' (B + 1) vz' acc') (hg : w.grownBy w' vz.ownBlock) : PrAt w0 (w'.setCell ⟨R, 2, none⟩ vz') R B l br n vs vz' S acc' := by
  have hk : KeepT [3] w w' := KeepT.grownZ h.zs hg
  have hlo := h.lo
  have hlt := h.lt
  have hbel : Below w0.heap.size w0 w' := h.bel.grown hg h.bel.size (fun k e => by have := (World.ownsRow.lt h.zs k e).1; omega)
  have hR := hk.blk h.r (by decide)
  have hk2 : KeepT [44] w' (w'.setCell ⟨R, 2, none⟩ vz') := (KeepT.refl _ _).set hR (by decide) 2 _
  refine ⟨Blk.other (hk.blk h.res (by decide)) _ _ (by show w0.heap.size ≠ R; omega), (h.x.row hg (fun k e => (World.ownsRow.lt h.zs k e).1) (Nat.lt_succ_self _)).newer (gr_set w' R 2 vz') h.lt, h.lo, hR.set 2 _, h.lt, own_keep hk2 (own_keep hk h.sum (by decide)) (by decide), own_keep hk2 ho (by decide), hbel.setCell (p := ⟨R, 2, none⟩) (by show w0.heap.size ≤ R; omega) _⟩
theorem PrAt.rf {w0 w : World} {R B : Nat} {l : List UInt8} {br : Bool} {n : Int} {sa za : Option Addr} {sc zc sl zl : Nat} {S : List UInt8} {acc : List Int} (h : PrAt w0 w R B l br n (.slice sa sl sc) (.slice za zl zc) S acc) (h0 : -9223372036854775808 ≤ n) (h1 : n ≤ 9223372036854775807) (hs : sl = S.length) (hz : zl = acc.length) : RfK w ⟨n, S, acc⟩ ⟨sa, sc, za, zc⟩ := by
  subst hs hz
  exact RfK.own (base := w0.heap.size) h.sum (own_base h.zs (by have := h.lo; omega)) h0 h1
set_option maxRecDepth 20000 in
set_option maxHeartbeats 4000000 in
theorem codRead12 (a : Option Addr) (len cap : Nat) (b : List UInt8) (w : World) (h : IsB w a len cap b) (hl : len ≤ 100000) :
    Calls Tryz.prog 25 #[.slice a len cap] w fun e w' => RdPost b e w' ∧ Below w.heap.size w w' := by
  have HE : Hid (readO b = pEnd b (secsP (rdP b).1 (rdP b).2.1 (rdP b).2.2 [])) := (pr_eq b).symm
  have HP : Hid (rdP b = rdList (rdS b).2.1 (rdS b).2.2 12) := rfl
  have HSd : Hid (rdS b = rdSome 98 (rdN b).2.1 (rdN b).2.2) := rfl
  have HNd : Hid (rdN b = rdUint b false) := rfl
  have HLe := mkHid (rdP_le b)
  have HLn : Hid (lenP b = ((min (rdN b).1 2147483647 : Nat) : Int)) := rfl
  have hln0 : 0 ≤ lenP b := by unfold lenP; omega
  have hln1 : lenP b ≤ 2147483647 := by unfold lenP; omega
  have k0 := Blk.new w 44 [.int .i64 0, .slice none 0 0, .slice none 0 0]
  have b0 : Below w.heap.size w (w.alloc (.cells #[.int .i64 0, .slice none 0 0, .slice none 0 0] 44)) := (Below.refl _ w).alloc (Nat.le_refl _) _
  have HI := mkHid (h.below b0 rfl)
  have HK0 := mkHid k0
  have HB0 := mkHid b0
  have HSz : Hid ((w.alloc (.cells #[.int .i64 0, .slice none 0 0, .slice none 0 0] 44)).heap.size = w.heap.size + 1) := Array.size_push _
  clear h k0 b0
  go_enter Tryz.func25, Tryz.ntmps25
  go_wp2_with fail
  generalize w.alloc (.cells #[.int .i64 0, .slice none 0 0, .slice none 0 0] 44) = Y at *
  refine (cRead a len cap b Y HI.out (by omega)).mono ?_
  rintro e y1 ⟨B, rfl, hB, hR1, hb1⟩
  have HR1 := mkHid hR1
  have HB1 := mkHid (HB0.out.trans (hb1.mono HB0.out.size))
  have HK1 := mkHid (HK0.out.on hb1)
  have HBl : Hid (w.heap.size < B) := by have := HSz.out; unfold Hid; omega
  clear hR1 hb1 hB HI HK0 HB0 HSz
  have HU1 := cUint B b false y1 HR1.out
  rw [← HNd.out] at HU1
  go_wp2_with fail
  refine HU1.mono ?_
  rintro e y2 ⟨rfl, hR2, hg2⟩
  obtain ⟨_, _, hbB, _⟩ := HR1.out
  have hk2 : KeepT [181] y1 y2 := gr_keepT hbB hg2
  have HK2 := mkHid (hk2.blk HK1.out (by decide))
  have HR2 := mkHid hR2
  have HB2 : Hid (Below w.heap.size w y2) := HB1.out.grown hg2 HB1.out.size (fun k e => by have := Option.some.inj e; have := HBl.out; omega)
  clear hR2 hg2 hbB hk2 HK1 HB1 HR1 HU1
  have HT2 := codTold (rdN b).1 y2
  rw [← HLn.out] at HT2
  generalize (rdN b).1 = nn at *
  go_wp2_with fail
  refine HT2.mono ?_
  rintro e y3 ⟨rfl, hy3⟩
  subst hy3
  clear HT2
  have HBy := cBytes B (rdN b).2.1 (rdN b).2.2 y3 HR2.out
  rw [← HSd.out] at HBy
  go_wp2_with fail
  refine HBy.mono ?_
  rintro e y4 ⟨v4, rfl, ho4, hR4, hg4⟩
  obtain ⟨_, _, hbB, _⟩ := HR2.out
  have hk4 : KeepT [181] y3 y4 := gr_keepT hbB hg4
  obtain ⟨sa, sc, rfl, _⟩ := ho4.isB
  have HK4 := mkHid (hk4.blk HK2.out (by decide))
  have HR4 := mkHid hR4
  have HB4 : Hid (Below w.heap.size w y4) := HB2.out.grown hg4 HB2.out.size (fun k e => by have := Option.some.inj e; have := HBl.out; omega)
  have HO4 : Hid (OwnB y4 w.heap.size (.slice sa (rdS b).1.length sc) (rdS b).1) := ho4.base HB2.out.size
  have HBs : Hid (B < y4.heap.size) := by
    have := hR4.lt
    exact this
  clear hR4 ho4 hg4 hbB hk4 HK2 HB2 HR2 HBy HNd HSd
  generalize hS : (rdS b).1 = S at *
  have HSe := mkHid hS
  generalize hsl : S.length = sl at *
  have HSl := mkHid hsl
  generalize hn0 : lenP b = n0 at *
  have HN0 := mkHid hn0
  clear hS hsl hn0
  go_wp2_with fail
  have hA : Below y4.heap.size y4 (y4.alloc (.cells #[.int .i64 n0, .slice sa sl sc, .slice none 0 0] 44)) := (Below.refl _ y4).alloc (Nat.le_refl _) _
  have HA0 : Hid (PrAt w (y4.alloc (.cells #[.int .i64 n0, .slice sa sl sc, .slice none 0 0] 44)) y4.heap.size B (rdS b).2.1 (rdS b).2.2 n0 (.slice sa sl sc) (.slice none 0 0) S []) :=
    ⟨HK4.out.on hA, HR4.out.on hA, HBl.out, Blk.new y4 _ [_, _, _], HBs.out, own_on8 HO4.out hA, OwnZ.nil _ _, HB4.out.trans (hA.mono HB4.out.size)⟩
  clear hA HK4 HR4 HO4 HBs HB4 HBl
  generalize y4.alloc (.cells #[.int .i64 n0, .slice sa sl sc, .slice none 0 0] 44) = Z at *
  generalize y4.heap.size = R at *
  have HNe := codNeed12 6144 Z (by omega)
  rw [show needL 6144 = 12 from by decide] at HNe
  refine HNe.mono ?_
  rintro e y5 ⟨rfl, hy5⟩
  subst hy5
  clear HNe
  have HLi := cList B (rdS b).2.1 (rdS b).2.2 12 y5 HA0.out.x (by omega)
  rw [← HP.out] at HLi
  go_wp2_with fail
  refine HLi.mono ?_
  rintro e y6 ⟨rfl, hR6, hg6⟩
  have HA6 := mkHid (HA0.out.reader hR6 hg6)
  clear hR6 hg6 HA0 HLi HP
  generalize (rdP b).2.1 = l6 at *
  generalize (rdP b).2.2 = br6 at *
  generalize (rdP b).1 = M at *
  have hM : M ≤ 12 := HLe.out
  go_wp2_with fail
  go_loopw [17] (fun i wr => ∃ (k : Nat) (l' : List UInt8) (br' : Bool) (vz : Value) (acc : List Int), k ≤ M ∧ i = .int .i64 (k : Int) ∧ Hid (acc.length = k) ∧ Hid (PrAt w wr R B l' br' n0 (.slice sa sl sc) vz S acc) ∧ Hid (secsP M l6 br6 [] = secsP (M - k) l' br' acc)) (fun i _ => M - (Go.RowKit.intOf i).toNat)
  case atStart => exact ⟨0, l6, br6, _, [], Nat.zero_le _, rfl, rfl, HA6, rfl⟩
  case round =>
    clear HA6
    obtain ⟨k, l', br', vz, acc, hk, rfl, HAc, HA, HG⟩ := hrel
    by_cases hlt : k < M
    · have hlt' : (k : Int) < (M : Int) := by omega
      have HG1 : Hid (secsP M l6 br6 [] = secsP (M - (k + 1)) (rdUint l' br').2.1 (rdUint l' br').2.2 (acc ++ [((min (rdUint l' br').1 2147483647 : Nat) : Int)])) := by
        unfold Hid
        rw [HG.out, show M - k = (M - (k + 1)) + 1 by omega, secsP]
      have HAd := mkHid (HA.out.on (bel_drewN (Below.refl _ wr) 1))
      clear HG HA
      go_upto_region 5 with fail
      have HU := cUint B l' br' wr.drew HAd.out.x
      refine lk0 (fun w' => w'.cell? ⟨R, 2, none⟩ = some vz) 8 (HAd.out.r.cell 2) (fun hHeld => ?_)
      refine lkT 19 0 ?_ rfl (Or.inl ⟨by rfl, ?_⟩) hHeld ?_
      rotate_left
      · intro w hSw; go_simp; with_reducible rfl
      (try simp only [Act.put, List.setIfInBounds_toArray, List.set_cons_zero, List.set_cons_succ])
      refine lkT 20 1 vz rfl (Or.inl ⟨by rfl, ?_⟩) hHeld ?_
      · intro w hSw; go_simp
      (try simp only [Act.put, List.setIfInBounds_toArray, List.set_cons_zero, List.set_cons_succ])
      refine lkT 21 2 ?_ rfl (Or.inl ⟨by rfl, ?_⟩) hHeld ?_
      rotate_left
      · intro w hSw; go_simp; with_reducible rfl
      (try simp only [Act.put, List.setIfInBounds_toArray, List.set_cons_zero, List.set_cons_succ])
      refine lk1 3 rfl (fun K hK => ?_)
      go_simp
      go_wp2_with (go_at_call 60; refine HU.mono ?_; rintro e y7 ⟨rfl, hR7, hg7⟩)
      have HA7 := mkHid (HAd.out.reader hR7 hg7)
      refine hK.out _ _ (HA7.out.r.cell 2) (fun hHeld => ?_)
      (try simp only [Act.put, List.setIfInBounds_toArray, List.set_cons_zero, List.set_cons_succ])
      clear hK K hR7 hg7 HAd HU
      have HT7 := codTold (rdUint l' br').1 y7
      generalize (rdUint l' br').2.1 = l7 at *
      generalize (rdUint l' br').2.2 = br7 at *
      generalize (rdUint l' br').1 = u7 at *
      refine lk1 4 rfl (fun K hK => ?_)
      go_simp
      go_wp2_with (go_at_call 59; refine HT7.mono ?_; rintro e y8 ⟨rfl, hy8⟩; subst hy8)
      refine hK.out _ _ hHeld (fun hHeld => ?_)
      (try simp only [Act.put, List.setIfInBounds_toArray, List.set_cons_zero, List.set_cons_succ])
      clear hK K HT7
      generalize ((min u7 2147483647 : Nat) : Int) = z7 at *
      refine lk1 5 rfl (fun K hK => ?_)
      go_simp
      have HA9 := mkHid (HA7.out.on ((Below.refl _ y8).alloc (Nat.le_refl _) (.cells #[.int .i64 z7] 3)))
      have KB9 : Hid ((y8.alloc (.cells #[.int .i64 z7] 3)).heap[y8.heap.size]? = some (.cells #[.int .i64 z7] 3 (0, 0))) := heap_alloc_new y8 _
      refine hK.out _ _ (HA9.out.r.cell 2) (fun hHeld => ?_)
      (try simp only [Act.put, List.setIfInBounds_toArray, List.set_cons_zero, List.set_cons_succ])
      clear hK K HA7
      generalize y8.alloc (.cells #[.int .i64 z7] 3) = y9 at *
      generalize y8.heap.size = Bn at *
      refine lk1 6 rfl (fun K hK => ?_)
      refine step_appZ y9 (by rfl) _ _ (by rfl) (B + 1) vz acc (by rfl) HA9.out.zs Bn z7 (by rfl) KB9.out (by have := HAc.out; omega) (by have := HA9.out.x.lt; omega) 25 rfl ?_
      intro v10 y10 ho10 hg10
      have HA11 := mkHid (HA9.out.grown ho10 hg10)
      have hRr := (KeepT.grownZ HA9.out.zs hg10).blk HA9.out.r (by decide)
      have d2 : y10.cell? ⟨R, 2, none⟩ = some vz := hRr.cell 2
      have f2 := hRr.frozen 2
      obtain ⟨za', zc', hze', _⟩ := ho10.isZ
      generalize hln : (acc ++ [z7]).length = ln at *
      subst hze'
      refine hK.out _ _ (hRr.cell 2) (fun hHeld => ?_)
      (try simp only [Act.put, List.setIfInBounds_toArray, List.set_cons_zero, List.set_cons_succ])
      clear hK K hRr ho10 hg10 HA9 KB9
      refine lk1 7 rfl (fun K hK => ?_)
      go_simp
      refine hK.out _ _ hHeld (fun hHeld => ?_)
      (try simp only [Act.put, List.setIfInBounds_toArray, List.set_cons_zero, List.set_cons_succ])
      clear hK K
      refine lkZ rfl (fun K hK => ?_)
      go_simp
      refine hK.out _ _ (NoPanic.normal ?_)
      (try simp only [Act.put, List.setIfInBounds_toArray, List.set_cons_zero, List.set_cons_succ])
      clear hK K d2 f2 hHeld
      generalize y10.setCell ⟨R, 2, none⟩ (.slice za' ln zc') = Zz at *
      have HAn : Hid ((acc ++ [z7]).length = k + 1) := by unfold Hid; rw [List.length_append, HAc.out]; rfl
      go_wp2_with fail
      go_roundw
      case rel => exact ⟨k + 1, l7, br7, _, acc ++ [z7], by omega, by go_num, HAn, HA11, HG1⟩
      case measure => simp [Go.RowKit.intOf]; omega
    · have hlt' : ¬ (k : Int) < (M : Int) := by omega
      have hkM : M - k = 0 := by omega
      rw [hkM, secsP] at HG
      have HE2 : Hid (readO b = if doneN l' br' ≠ 0 then none else if rightL ⟨n0, S, acc⟩ = true then some ⟨n0, S, acc⟩ else none) := by unfold Hid; rw [HE.out, HG.out, pEnd_some, HN0.out, HSe.out]
      obtain ⟨za, zc, hze, _⟩ := HA.out.zs.isZ
      subst hze
      have HDn := cDone B l' br' wr HA.out.x
      have r0 : wr.cell? ⟨w.heap.size, 0, none⟩ = some (.int .i64 0) := HA.out.res.cell 0
      have r1 : wr.cell? ⟨w.heap.size, 1, none⟩ = some (.slice none 0 0) := HA.out.res.cell 1
      have r2 : wr.cell? ⟨w.heap.size, 2, none⟩ = some (.slice none 0 0) := HA.out.res.cell 2
      have g0 := HA.out.res.frozen 0
      have g1 := HA.out.res.frozen 1
      have g2 := HA.out.res.frozen 2
      clear HG hkM HE
      generalize doneN l' br' = dn at *
      by_cases hdn : dn ≠ 0
      · have HNo : Hid (readO b = none) := by unfold Hid; rw [HE2.out, if_pos hdn]
        go_wp2_with fail
        refine HDn.mono ?_
        rintro e y6 ⟨rfl, hy6⟩
        subst hy6
        clear HDn
        go_wp2_with fail
        (try simp only [Exit.inBlock, Exit.then])
        refine bodyPost_ret (results_cellrow_tmp (P := Tryz.prog) rfl _ _ w.heap.size 44 #[.int .i64 0, .slice none 0 0, .slice none 0 0] (0, 0) _ rfl (((HA.out.res.set 0 (.int .i64 0)).set 1 (.slice none 0 0)).set 2 (.slice none 0 0)) Tryz.underlying44 rfl (by kernel_rfl)) rfl ⟨?_, ((HA.out.bel.setCell (p := ⟨w.heap.size, 0, none⟩) (Nat.le_refl _) (.int .i64 0)).setCell (p := ⟨w.heap.size, 1, none⟩) (Nat.le_refl _) (.slice none 0 0)).setCell (p := ⟨w.heap.size, 2, none⟩) (Nat.le_refl _) (.slice none 0 0)⟩
        exact rd_none HNo.out
      · have hdn := Classical.not_not.1 hdn
        subst hdn
        simp only [ne_eq, not_true_eq_false, if_false] at HE2
        have p0 : wr.cell? ⟨R, 0, none⟩ = some (.int .i64 n0) := HA.out.r.cell 0
        have p1 : wr.cell? ⟨R, 1, none⟩ = some (.slice sa sl sc) := HA.out.r.cell 1
        have p2 : wr.cell? ⟨R, 2, none⟩ = some (.slice za acc.length zc) := HA.out.r.cell 2
        have HRt := codRight12 ⟨n0, S, acc⟩ ⟨sa, sc, za, zc⟩ wr (HA.out.rf (by omega) (by omega) HSl.out.symm rfl).is
        simp only [rfc] at HRt
        rw [HSl.out] at HRt
        go_wp2_with fail
        refine HDn.mono ?_
        rintro e y6 ⟨rfl, hy6⟩
        subst hy6
        clear HDn
        go_wp2_with fail
        refine HRt.mono ?_
        rintro e y7 ⟨rfl, hb7⟩
        have HA7 := mkHid (HA.out.on hb7)
        have r0 : y7.cell? ⟨w.heap.size, 0, none⟩ = some (.int .i64 0) := HA7.out.res.cell 0
        have r1 : y7.cell? ⟨w.heap.size, 1, none⟩ = some (.slice none 0 0) := HA7.out.res.cell 1
        have r2 : y7.cell? ⟨w.heap.size, 2, none⟩ = some (.slice none 0 0) := HA7.out.res.cell 2
        have g0 := HA7.out.res.frozen 0
        have g1 := HA7.out.res.frozen 1
        have g2 := HA7.out.res.frozen 2
        clear HRt hb7 p0 p1 p2 HA
        cases hrt : rightL ⟨n0, S, acc⟩ with
        | false =>
          have HNo : Hid (readO b = none) := by unfold Hid; rw [HE2.out, hrt]; rfl
          clear hrt
          go_wp2_with fail
          (try simp only [Exit.inBlock, Exit.then])
          refine bodyPost_ret (results_cellrow_tmp (P := Tryz.prog) rfl _ _ w.heap.size 44 #[.int .i64 0, .slice none 0 0, .slice none 0 0] (0, 0) _ rfl (((HA7.out.res.set 0 (.int .i64 0)).set 1 (.slice none 0 0)).set 2 (.slice none 0 0)) Tryz.underlying44 rfl (by kernel_rfl)) rfl ⟨?_, ((HA7.out.bel.setCell (p := ⟨w.heap.size, 0, none⟩) (Nat.le_refl _) (.int .i64 0)).setCell (p := ⟨w.heap.size, 1, none⟩) (Nat.le_refl _) (.slice none 0 0)).setCell (p := ⟨w.heap.size, 2, none⟩) (Nat.le_refl _) (.slice none 0 0)⟩
          exact rd_none HNo.out
        | true =>
          have HYe : Hid (readO b = some ⟨n0, S, acc⟩) := by unfold Hid; rw [HE2.out, hrt]; rfl
          clear hrt
          have q0 : y7.cell? ⟨R, 0, none⟩ = some (.int .i64 n0) := HA7.out.r.cell 0
          have q1 : y7.cell? ⟨R, 1, none⟩ = some (.slice sa sl sc) := HA7.out.r.cell 1
          have q2 : y7.cell? ⟨R, 2, none⟩ = some (.slice za acc.length zc) := HA7.out.r.cell 2
          go_wp2_with fail
          (try simp only [Exit.inBlock, Exit.then])
          have hT : KeepT [44] y7 (((y7.setCell ⟨w.heap.size, 0, none⟩ (.int .i64 n0)).setCell ⟨w.heap.size, 1, none⟩ (.slice sa sl sc)).setCell ⟨w.heap.size, 2, none⟩ (.slice za acc.length zc)) := (((KeepT.refl _ _).set HA7.out.res (by decide) 0 _).set (HA7.out.res.set 0 _) (by decide) 1 _).set ((HA7.out.res.set 0 _).set 1 _) (by decide) 2 _
          refine bodyPost_ret (results_cellrow_tmp (P := Tryz.prog) rfl _ _ w.heap.size 44 #[.int .i64 n0, .slice sa sl sc, .slice za acc.length zc] (0, 0) _ rfl (((HA7.out.res.set 0 (.int .i64 n0)).set 1 (.slice sa sl sc)).set 2 (.slice za acc.length zc)) Tryz.underlying44 rfl (by kernel_rfl)) rfl ⟨?_, ((HA7.out.bel.setCell (p := ⟨w.heap.size, 0, none⟩) (Nat.le_refl _) _).setCell (p := ⟨w.heap.size, 1, none⟩) (Nat.le_refl _) _).setCell (p := ⟨w.heap.size, 2, none⟩) (Nat.le_refl _) _⟩
          have hY := rd_some (q := ⟨sa, sc, za, zc⟩) HYe.out ((HA7.out.rf (by omega) (by omega) HSl.out.symm rfl) _ (KeepO.ofT hT (by decide)))
          simp only [rfc, HSl.out] at hY
          exact hY
end Go.Proofs.YthjdmfbengpepaaGreat
