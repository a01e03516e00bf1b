/- What the document's Read answers. -/
import Derived.Test.YthjdmfbengpepaaGreatB29
import Derived.Test.YthjdmfbengpepaaGreatB15
import Derived.Test.YthjdmfbengpepaaGreatJr6
import Derived.Test.YthjdmfbengpepaaGreatB30
namespace Go.Proofs.YthjdmfbengpepaaGreat
open Go.RowKit

/-- so many sectors read behind one another -/
def secsRd : Nat → List UInt8 → Bool → List Int → Option (List Int × List UInt8 × Bool)
  | 0, l, br, acc => some (acc, l, br)
  | k + 1, l, br, acc => if 4096 ≤ (rdUint l br).1 then none else secsRd k (rdUint l br).2.1 (rdUint l br).2.2 (acc ++ [((rdUint l br).1 : Int)])
def rdN (b : List UInt8) : Nat × List UInt8 × Bool := rdUint b false
def rdS (b : List UInt8) : List UInt8 × List UInt8 × Bool := rdSome 98 (rdN b).2.1 (rdN b).2.2
def rdM (b : List UInt8) : Nat × List UInt8 × Bool := rdList (rdS b).2.1 (rdS b).2.2 16
/-- what stands behind the sectors -/
def readEnd (b : List UInt8) : Option (List Int × List UInt8 × Bool) → Option Rf
  | none => none
  | some (l, rest, br) => if 6144 < (rdN b).1 ∨ br = true ∨ rest ≠ [] then none else if rightL ⟨((rdN b).1 : Int), (rdS b).1, l⟩ = true then some ⟨((rdN b).1 : Int), (rdS b).1, l⟩ else none
/-- Read -/
def readO (b : List UInt8) : Option Rf := readEnd b (secsRd (rdM b).1 (rdM b).2.1 (rdM b).2.2 [])
def readR (b : List UInt8) : Rf := (readO b).getD rf0
def readE (b : List UInt8) : Int := if (readO b).isSome then 0 else 4
theorem rdM_le (b : List UInt8) : (rdM b).1 ≤ 16 := by
  unfold rdM rdList
  split
  · rename_i h
    unfold okL at h
    have := of_decide_eq_true (Bool.and_eq_true_iff.1 h).2
    show numTo _ 4 ≤ 16
    omega
  · exact Nat.zero_le _
def RdPost (b : List UInt8) (e : Ending) (w' : World) : Prop := ∃ q, e = .returned (.tuple #[.agg (rfc (readR b) q).toArray, .int .i64 (readE b)]) ∧ IsRf w' (readR b) q
theorem rd_none {b : List UInt8} {w' : World} (h : readO b = none) : RdPost b (.returned (.tuple #[.agg #[.int .i64 0, .slice none 0 0, .slice none 0 0], .int .i64 4])) w' := by
  have e1 : readR b = rf0 := by unfold readR; rw [h]; rfl
  have e2 : readE b = 4 := by unfold readE; rw [h]; rfl
  refine ⟨⟨none, 0, none, 0⟩, ?_, ?_⟩
  · rw [e1, e2]; rfl
  · rw [e1]; exact (RfK.zero _).is
/-- how it stands on its way -/
structure RdAt (w0 w : World) (R : Nat) (a : Option Addr) (len cap : Nat) (b : List UInt8) (kk : Nat) (br : Bool) (n : Int) (vs vz : Value) (S : List UInt8) (acc : List Int) : Prop where
  res : Blk w w0.heap.size 46 [.int .i64 0, .slice none 0 0, .slice none 0 0]
  x : IsX w (w0.heap.size + 1) a len cap b kk br
  r : Blk w R 46 [.int .i64 n, vs, vz]
  lt : w0.heap.size + 1 < R
  sum : OwnB w w0.heap.size vs S
  zs : OwnZ w w0.heap.size vz acc
  inp : IsB w0 a len cap b
  bel : Below w0.heap.size w0 w
theorem RdAt.reader {w0 w w' : World} {R : Nat} {a : Option Addr} {len cap : Nat} {b : List UInt8} {kk kk' : Nat} {br br' : Bool} {n : Int} {vs vz : Value} {S : List UInt8} {acc : List Int} (h : RdAt w0 w R a len cap b kk br n vs vz S acc) (hx : IsX w' (w0.heap.size + 1) a len cap b kk' br') (hg : w.grownBy w' (some (w0.heap.size + 1))) : RdAt w0 w' R a len cap b kk' br' n vs vz S acc :=
  have hk : KeepT [117] w w' := gr_keepT h.x.1 hg
  ⟨hk.blk h.res (by decide), hx, hk.blk h.r (by decide), h.lt, own_keep hk h.sum (by decide), own_keep hk h.zs (by decide), h.inp, h.bel.grown hg h.bel.size (fun k e => by have := Option.some.inj e; omega)⟩
theorem RdAt.on {w0 w w' : World} {R : Nat} {a : Option Addr} {len cap : Nat} {b : List UInt8} {kk : Nat} {br : Bool} {n : Int} {vs vz : Value} {S : List UInt8} {acc : List Int} (h : RdAt w0 w R a len cap b kk br n vs vz S acc) (hb : Below w.heap.size w w') : RdAt w0 w' R a len cap b kk br n vs vz S acc :=
  ⟨h.res.on hb, ⟨h.x.1.on hb, h.x.2.1.below hb rfl, h.x.2.2.1, h.x.2.2.2⟩, h.r.on hb, h.lt, own_keepO (us := [5]) (KeepO.of_below hb) h.sum (by decide), own_keepO (us := [3]) (KeepO.of_below hb) h.zs (by decide), h.inp, h.bel.trans (hb.mono h.bel.size)⟩
theorem RdAt.grown {w0 w w' : World} {R : Nat} {a : Option Addr} {len cap : Nat} {b : List UInt8} {kk : Nat} {br : Bool} {n : Int} {vs vz vz' : Value} {S : List UInt8} {acc acc' : List Int} (h : RdAt w0 w R a len cap b kk br n vs vz S acc) (ho : OwnZ w' w0.heap.size vz' acc') (hg : w.grownBy w' vz.ownBlock) : RdAt w0 (w'.setCell ⟨R, 2, none⟩ vz') R a len cap b kk br n vs vz' S acc' := by
  have hk : KeepT [3] w w' := KeepT.grownZ h.zs hg
  have hbel : Below w0.heap.size w0 w' := h.bel.grown hg h.bel.size (fun k e => (World.ownsRow.lt h.zs k e).1)
  have hR := hk.blk h.r (by decide)
  have hk2 : KeepT [46] w' (w'.setCell ⟨R, 2, none⟩ vz') := (KeepT.refl _ _).set hR (by decide) 2 _
  have hb2 : Below w0.heap.size w0 (w'.setCell ⟨R, 2, none⟩ vz') := hbel.setCell (p := ⟨R, 2, none⟩) (by have := h.lt; show w0.heap.size ≤ R; omega) _
  refine ⟨Blk.other (hk.blk h.res (by decide)) _ _ (by have := h.lt; show w0.heap.size ≠ R; omega), ⟨hk2.blk (hk.blk h.x.1 (by decide)) (by decide), h.inp.below hb2 rfl, h.x.2.2.1, h.x.2.2.2⟩, hR.set 2 _, h.lt, own_keep hk2 (own_keep hk h.sum (by decide)) (by decide), own_keep hk2 ho (by decide), h.inp, hb2⟩
theorem RdAt.setLen {w0 w : World} {R : Nat} {a : Option Addr} {len cap : Nat} {b : List UInt8} {kk : Nat} {br : Bool} {n : Int} {vs vz : Value} {S : List UInt8} {acc : List Int} (h : RdAt w0 w R a len cap b kk br n vs vz S acc) (n' : Int) : RdAt w0 (w.setCell ⟨R, 0, none⟩ (.int .i64 n')) R a len cap b kk br n' vs vz S acc := by
  have hk2 : KeepT [46] w (w.setCell ⟨R, 0, none⟩ (.int .i64 n')) := (KeepT.refl _ _).set h.r (by decide) 0 _
  have hb2 : Below w0.heap.size w0 (w.setCell ⟨R, 0, none⟩ (.int .i64 n')) := h.bel.setCell (p := ⟨R, 0, none⟩) (by have := h.lt; show w0.heap.size ≤ R; omega) _
  exact ⟨Blk.other h.res _ _ (by have := h.lt; show w0.heap.size ≠ R; omega), ⟨hk2.blk h.x.1 (by decide), h.inp.below hb2 rfl, h.x.2.2.1, h.x.2.2.2⟩, h.r.set 0 _, h.lt, own_keep hk2 h.sum (by decide), own_keep hk2 h.zs (by decide), h.inp, hb2⟩
theorem rd_some {b : List UInt8} {r : Rf} {q : RfA} {w' : World} (h : readO b = some r) (hI : IsRf w' r q) : RdPost b (.returned (.tuple #[.agg (rfc r q).toArray, .int .i64 0])) w' := by
  have e1 : readR b = r := by unfold readR; rw [h]; rfl
  have e2 : readE b = 0 := by unfold readE; rw [h]; rfl
  exact ⟨q, by rw [e1, e2], by rw [e1]; exact hI⟩
set_option maxRecDepth 20000 in
set_option maxHeartbeats 4000000 in
theorem refRead12 (a : Option Addr) (len cap : Nat) (b : List UInt8) (w : World) (h : IsB w a len cap b) (hl : len ≤ 100000) :
    Calls Tryz.prog 26 #[.slice a len cap] w fun e w' => RdPost b e w' ∧ Below w.heap.size w w' := by
  have HI := mkHid h
  clear h
  go_enter Tryz.func26, Tryz.ntmps26
  go_wp2_with fail
  have k0 := Blk.new w 46 [.int .i64 0, .slice none 0 0, .slice none 0 0]
  have b0 : Below w.heap.size w (w.alloc (.cells #[.int .i64 0, .slice none 0 0, .slice none 0 0] 46)) := (Below.refl _ w).alloc (Nat.le_refl _) _
  generalize hW1 : w.alloc (.cells #[.int .i64 0, .slice none 0 0, .slice none 0 0] 46) = Y1 at *
  have hz1 : Y1.heap.size = w.heap.size + 1 := by rw [← hW1]; exact Array.size_push _
  have HX0 : Hid (IsX (Y1.alloc (.cells (xcell a len cap 0 false).toArray 117)) Y1.heap.size a len cap b 0 false) := by
    refine ⟨Blk.new Y1 _ _, (HI.out.below b0 rfl).below ((Below.refl _ Y1).alloc (Nat.le_refl _) _) rfl, fun hp x hx => ?_, Nat.zero_le _⟩
    obtain ⟨bb, off, e1, hc⟩ := HI.out.cells hp
    rw [hx] at e1
    have e2 := Option.some.inj e1
    have := cell_lt (hc 0 hp)
    rw [e2, hz1]
    exact Nat.ne_of_lt (Nat.lt_succ_of_lt this)
  rw [hz1] at HX0
  have b1 : Below Y1.heap.size Y1 (Y1.alloc (.cells (xcell a len cap 0 false).toArray 117)) := (Below.refl _ Y1).alloc (Nat.le_refl _) _
  have k1 := Blk.on k0 b1
  have HB1 := mkHid (b0.trans (b1.mono b0.size))
  have HK1 := mkHid k1
  have hsz : (Y1.alloc (.cells (xcell a len cap 0 false).toArray 117)).heap.size = w.heap.size + 2 := by rw [World.size_alloc, hz1]
  have HSz := mkHid hsz
  clear k0 b0 hW1 hz1 b1 k1 hsz
  simp only [xcell] at HX0 HB1 HK1 HSz
  have hz0 : ((0 : Nat) : Int) = 0 := rfl
  rw [hz0] at HX0 HB1 HK1 HSz
  generalize Y1.alloc (.cells #[.slice a len cap, .int .i64 0, .bool false] 117) = Y at *
  have HU := xUint (w.heap.size + 1) a len cap b 0 false Y HX0.out
  rw [List.drop_zero] at HU
  change Calls Tryz.prog _ _ Y (fun e w' => e = .returned (.int .u64 ((rdN b).1 : Int)) ∧ (∃ k', IsX w' (w.heap.size + 1) a len cap b k' (rdN b).2.2 ∧ (rdN b).2.1 = b.drop k') ∧ Y.grownBy w' (some (w.heap.size + 1))) at HU
  refine HU.mono ?_
  rintro e y1 ⟨rfl, ⟨j1, hx1, hj1⟩, hg1⟩
  have hk1 : KeepT [117] Y y1 := gr_keepT HX0.out.1 hg1
  have HK2 := mkHid (hk1.blk HK1.out (by decide))
  have HB2 : Hid (Below w.heap.size w y1) := HB1.out.grown hg1 HB1.out.size (fun k e => by have := Option.some.inj e; omega)
  have HSy : Hid (w.heap.size + 2 ≤ y1.heap.size) := by unfold Hid; rw [← HSz.out]; exact hg1.size
  have HX1 := mkHid hx1
  have HS := xBytes (w.heap.size + 1) a len cap b j1 (rdN b).2.2 y1 hx1 (by omega)
  rw [← hj1] at HS
  change Calls Tryz.prog _ _ y1 (fun e w' => ∃ v, e = .returned v ∧ OwnB w' y1.heap.size v (rdS b).1 ∧ (∃ k', IsX w' (w.heap.size + 1) a len cap b k' (rdS b).2.2 ∧ (rdS b).2.1 = b.drop k') ∧ y1.grownBy w' (some (w.heap.size + 1))) at HS
  clear HU HX0 hg1 hk1 HK1 HB1 hx1 hj1 HSz
  go_wp2_with fail
  refine HS.mono ?_
  rintro e y2 ⟨v2, rfl, ho2, ⟨j2, hx2, hj2⟩, hg2⟩
  have hk2 : KeepT [117] y1 y2 := gr_keepT HX1.out.1 hg2
  have HK3 := mkHid (hk2.blk HK2.out (by decide))
  have HB3 : Hid (Below w.heap.size w y2) := HB2.out.grown hg2 HB2.out.size (fun k e => by have := Option.some.inj e; omega)
  have HSz2 : Hid (w.heap.size + 2 ≤ y2.heap.size) := Nat.le_trans HSy.out hg2.size
  have HO2 : Hid (OwnB y2 w.heap.size v2 (rdS b).1) := ho2.base HB2.out.size
  have HX2 := mkHid hx2
  have HJ2 := mkHid hj2
  obtain ⟨sa, sc, hse, _⟩ := ho2.isB
  subst hse
  clear HS hk2 hg2 ho2 hx2 hj2 HK2 HB2 HSy HX1
  go_wp2_with fail
  have k3 := Blk.new y2 46 [.int .i64 0, .slice sa (rdS b).1.length sc, .slice none 0 0]
  have b3 : Below y2.heap.size y2 (y2.alloc (.cells #[.int .i64 0, .slice sa (rdS b).1.length sc, .slice none 0 0] 46)) := (Below.refl _ y2).alloc (Nat.le_refl _) _
  have HA0 : Hid (RdAt w (y2.alloc (.cells #[.int .i64 0, .slice sa (rdS b).1.length sc, .slice none 0 0] 46)) y2.heap.size a len cap b j2 (rdS b).2.2 0 (.slice sa (rdS b).1.length sc) (.slice none 0 0) (rdS b).1 []) :=
    ⟨Blk.on HK3.out b3, ⟨HX2.out.1.on b3, HX2.out.2.1.below b3 rfl, HX2.out.2.2.1, HX2.out.2.2.2⟩, k3, HSz2.out, own_keepO (us := [5]) (KeepO.of_below b3) HO2.out (by decide), OwnZ.nil _ _, HI.out, HB3.out.trans (b3.mono HB3.out.size)⟩
  clear k3 b3 HK3 HX2 HO2 HB3 HSz2
  generalize y2.alloc (.cells #[.int .i64 0, .slice sa (rdS b).1.length sc, .slice none 0 0] 46) = Z at *
  generalize y2.heap.size = R at *
  have HLi := xList (w.heap.size + 1) a len cap b j2 (rdS b).2.2 16 Z HA0.out.x (by omega)
  rw [← HJ2.out] at HLi
  change Calls Tryz.prog _ _ Z (fun e w' => e = .returned (.int .i64 ((rdM b).1 : Int)) ∧ (∃ k', IsX w' (w.heap.size + 1) a len cap b k' (rdM b).2.2 ∧ (rdM b).2.1 = b.drop k') ∧ Z.grownBy w' (some (w.heap.size + 1))) at HLi
  refine HLi.mono ?_
  rintro e y3 ⟨rfl, ⟨j3, hx3, hj3⟩, hg3⟩
  have HA3 := mkHid (HA0.out.reader hx3 hg3)
  have hm16 := rdM_le b
  have HO : Hid (readO b = readEnd b (secsRd (rdM b).1 (rdM b).2.1 (rdM b).2.2 [])) := rfl
  rw [hj3] at HO
  clear HLi hx3 hg3 hj3 HA0 HJ2
  generalize (rdM b).1 = m at *
  generalize (rdM b).2.2 = br0 at *
  generalize hS : (rdS b).1 = S at *
  generalize hsl : S.length = sl at *
  have HSl := mkHid hsl
  clear hsl
  go_wp2_with fail
  go_loopw [8] (fun i wr => ∃ (k kk : Nat) (br : Bool) (vz : Value) (acc : List Int), k ≤ m ∧ i = .int .i64 (k : Int) ∧ acc.length = k ∧ Hid (RdAt w wr R a len cap b kk br 0 (.slice sa sl sc) vz S acc) ∧ Hid (readO b = readEnd b (secsRd (m - k) (b.drop kk) br acc))) (fun i _ => m - (Go.RowKit.intOf i).toNat)
  case atStart => exact ⟨0, j3, br0, _, _, Nat.zero_le _, rfl, rfl, HA3, HO⟩
  case round =>
    clear HA3 HO
    obtain ⟨k, kk, br, vz, acc, hk, rfl, hacc, HA, HO⟩ := hrel
    have HAc := mkHid hacc
    clear hacc
    by_cases hlt : k < m
    · have hlt' : (k : Int) < (m : Int) := by omega
      have HU := xUint (w.heap.size + 1) a len cap b kk br wr HA.out.x
      generalize hu : rdUint (b.drop kk) br = u at *
      go_wp2_with fail
      refine HU.mono ?_
      rintro e y4 ⟨rfl, ⟨j4, hx4, hj4⟩, hg4⟩
      have HA4 := mkHid (HA.out.reader hx4 hg4)
      clear hx4 hg4 HU HA
      by_cases hbig : 4096 ≤ u.1
      · have hbig' : (4096 : Int) ≤ (u.1 : Int) := by omega
        have HNo : Hid (readO b = none) := by
          unfold Hid
          rw [HO.out, show m - k = (m - k - 1) + 1 by omega, secsRd, hu, if_pos hbig]; rfl
        have r0 : y4.cell? ⟨w.heap.size, 0, none⟩ = some (.int .i64 0) := HA4.out.res.cell 0
        have r1 : y4.cell? ⟨w.heap.size, 1, none⟩ = some (.slice none 0 0) := HA4.out.res.cell 1
        have r2 : y4.cell? ⟨w.heap.size, 2, none⟩ = some (.slice none 0 0) := HA4.out.res.cell 2
        have g0 := HA4.out.res.frozen 0
        have g1 := HA4.out.res.frozen 1
        have g2 := HA4.out.res.frozen 2
        go_wp2_with fail
        (try simp only [Exit.inBlock, Exit.then])
        refine bodyPost_ret (results_cellrow_tmp (P := Tryz.prog) rfl _ _ w.heap.size 46 #[.int .i64 0, .slice none 0 0, .slice none 0 0] (0, 0) _ rfl (((HA4.out.res.set 0 (.int .i64 0)).set 1 (.slice none 0 0)).set 2 (.slice none 0 0)) Tryz.underlying46 rfl (by kernel_rfl)) rfl ⟨?_, ((HA4.out.bel.setCell (p := ⟨w.heap.size, 0, none⟩) (Nat.le_refl _) (.int .i64 0)).setCell (p := ⟨w.heap.size, 1, none⟩) (Nat.le_refl _) (.slice none 0 0)).setCell (p := ⟨w.heap.size, 2, none⟩) (Nat.le_refl _) (.slice none 0 0)⟩
        exact rd_none HNo.out
      · have hbig' : ¬ (4096 : Int) ≤ (u.1 : Int) := by omega
        have hu64 : (u.1 : Int) ≤ 4095 := by omega
        obtain ⟨za, zc, hze, _⟩ := HA4.out.zs.isZ
        have rz : y4.cell? ⟨R, 2, none⟩ = some vz := HA4.out.r.cell 2
        have fz := HA4.out.r.frozen 2
        have hA : Below y4.heap.size y4 (y4.alloc (.cells #[.int .i64 (u.1 : Int)] 3)) := (Below.refl _ y4).alloc (Nat.le_refl _) _
        have HA5 := mkHid (HA4.out.on hA)
        have HLz : Hid (acc.length ≤ 4096) := by have := HAc.out; unfold Hid; omega
        have HBz : Hid (w.heap.size ≤ (y4.alloc (.cells #[.int .i64 (u.1 : Int)] 3)).heap.size) := HA5.out.bel.size
        have HOn : Hid (readO b = readEnd b (secsRd (m - (k + 1)) (b.drop j4) u.2.2 (acc ++ [(u.1 : Int)]))) := by
          unfold Hid
          rw [HO.out, show m - k = (m - (k + 1)) + 1 by omega, secsRd, hu, if_neg hbig, hj4]
        clear hA HO HA4
        subst hze
        go_wp2_with (at_builtin; refine list_appZ _ rfl (.tmp 31) (.tmp 34) rfl w.heap.size _ acc rfl HA5.out.zs y4.heap.size (u.1 : Int) rfl (heap_alloc_new y4 _) HLz.out HBz.out ?_; intro v' x3 ho3 hg3; have HA6 := mkHid (HA5.out.grown ho3 hg3); have HR3 := mkHid ((KeepT.grownZ HA5.out.zs hg3).blk HA5.out.r (by decide)); obtain ⟨za', zc', hze', _⟩ := ho3.isZ; clear ho3 hg3; obtain ⟨ln, hln⟩ : ∃ ln, ln = (acc ++ [(u.1 : Int)]).length := ⟨_, rfl⟩; rw [← hln] at hze'; subst hze'; have rz3 := HR3.out.cell 2; have fz3 := HR3.out.frozen 2)
        rw [List.length_append, List.length_singleton] at hln
        subst hln
        go_roundw
        case rel => exact ⟨k + 1, j4, u.2.2, _, acc ++ [(u.1 : Int)], by omega, by go_num, by rw [List.length_append, List.length_singleton, HAc.out], HA6, HOn⟩
        case measure => simp [Go.RowKit.intOf]; omega
    · have hlt' : ¬ (k : Int) < (m : Int) := by omega
      have hkm : m - k = 0 := by omega
      rw [hkm] at HO
      have HE : Hid (readO b = readEnd b (some (acc, b.drop kk, br))) := HO.out
      have x1 : wr.cell? ⟨w.heap.size + 1, 1, none⟩ = some (.int .i64 (kk : Int)) := HA.out.x.1.cell 1
      have x2 : wr.cell? ⟨w.heap.size + 1, 2, none⟩ = some (.bool br) := HA.out.x.1.cell 2
      have hkl := HA.out.x.2.2.2
      have HLn : Hid (b.length = len) := HI.out.len_eq
      clear HO hkm
      have r0 : wr.cell? ⟨w.heap.size, 0, none⟩ = some (.int .i64 0) := HA.out.res.cell 0
      have r1 : wr.cell? ⟨w.heap.size, 1, none⟩ = some (.slice none 0 0) := HA.out.res.cell 1
      have r2 : wr.cell? ⟨w.heap.size, 2, none⟩ = some (.slice none 0 0) := HA.out.res.cell 2
      have g0 := HA.out.res.frozen 0
      have g1 := HA.out.res.frozen 1
      have g2 := HA.out.res.frozen 2
      by_cases hn : 6144 < (rdN b).1
      · have hn' : (6144 : Int) < ((rdN b).1 : Int) := by omega
        have HNo : Hid (readO b = none) := by unfold Hid; rw [HE.out, readEnd, if_pos (.inl hn)]
        go_wp2_with fail
        (try simp only [Exit.inBlock, Exit.then])
        refine bodyPost_ret (results_cellrow_tmp (P := Tryz.prog) rfl _ _ w.heap.size 46 #[.int .i64 0, .slice none 0 0, .slice none 0 0] (0, 0) _ rfl (((HA.out.res.set 0 (.int .i64 0)).set 1 (.slice none 0 0)).set 2 (.slice none 0 0)) Tryz.underlying46 rfl (by kernel_rfl)) rfl ⟨?_, ((HA.out.bel.setCell (p := ⟨w.heap.size, 0, none⟩) (Nat.le_refl _) (.int .i64 0)).setCell (p := ⟨w.heap.size, 1, none⟩) (Nat.le_refl _) (.slice none 0 0)).setCell (p := ⟨w.heap.size, 2, none⟩) (Nat.le_refl _) (.slice none 0 0)⟩
        exact rd_none HNo.out
      have hn' : ¬ (6144 : Int) < ((rdN b).1 : Int) := by omega
      have dn : decide ((6144 : Int) < ((rdN b).1 : Int)) = false := decide_eq_false hn'
      cases br with
      | true =>
        have HNo : Hid (readO b = none) := by unfold Hid; rw [HE.out, readEnd, if_pos (.inr (.inl rfl))]
        go_wp2_with fail
        (try simp only [Exit.inBlock, Exit.then])
        refine bodyPost_ret (results_cellrow_tmp (P := Tryz.prog) rfl _ _ w.heap.size 46 #[.int .i64 0, .slice none 0 0, .slice none 0 0] (0, 0) _ rfl (((HA.out.res.set 0 (.int .i64 0)).set 1 (.slice none 0 0)).set 2 (.slice none 0 0)) Tryz.underlying46 rfl (by kernel_rfl)) rfl ⟨?_, ((HA.out.bel.setCell (p := ⟨w.heap.size, 0, none⟩) (Nat.le_refl _) (.int .i64 0)).setCell (p := ⟨w.heap.size, 1, none⟩) (Nat.le_refl _) (.slice none 0 0)).setCell (p := ⟨w.heap.size, 2, none⟩) (Nat.le_refl _) (.slice none 0 0)⟩
        exact rd_none HNo.out
      | false =>
      by_cases hend : kk < len
      · have hend' : (kk : Int) < (len : Int) := by omega
        have HNo : Hid (readO b = none) := by
          unfold Hid; rw [HE.out, readEnd, if_pos (.inr (.inr (fun e => by
            have := congrArg List.length e
            rw [List.length_drop, HLn.out, List.length_nil] at this
            omega)))]
        go_wp2_with fail
        (try simp only [Exit.inBlock, Exit.then])
        refine bodyPost_ret (results_cellrow_tmp (P := Tryz.prog) rfl _ _ w.heap.size 46 #[.int .i64 0, .slice none 0 0, .slice none 0 0] (0, 0) _ rfl (((HA.out.res.set 0 (.int .i64 0)).set 1 (.slice none 0 0)).set 2 (.slice none 0 0)) Tryz.underlying46 rfl (by kernel_rfl)) rfl ⟨?_, ((HA.out.bel.setCell (p := ⟨w.heap.size, 0, none⟩) (Nat.le_refl _) (.int .i64 0)).setCell (p := ⟨w.heap.size, 1, none⟩) (Nat.le_refl _) (.slice none 0 0)).setCell (p := ⟨w.heap.size, 2, none⟩) (Nat.le_refl _) (.slice none 0 0)⟩
        exact rd_none HNo.out
      have hend' : ¬ (kk : Int) < (len : Int) := by omega
      have HE2 : Hid (readO b = if rightL ⟨((rdN b).1 : Int), S, acc⟩ = true then some ⟨((rdN b).1 : Int), S, acc⟩ else none) := by
        unfold Hid
        have e0 : b.drop kk = [] := List.drop_eq_nil_iff.2 (by rw [HLn.out]; omega)
        rw [HE.out, readEnd, if_neg (by intro h; rcases h with h | h | h; exact hn h; cases h; exact h e0), hS]
      have p0 : wr.cell? ⟨R, 0, none⟩ = some (.int .i64 0) := HA.out.r.cell 0
      have f0 := HA.out.r.frozen 0
      have hwn : IntKind.i64.wrap ((rdN b).1 : Int) = ((rdN b).1 : Int) := by rw [IntKind.wrap_i64]; omega
      clear HE
      generalize (rdN b).1 = nn at *
      obtain ⟨za, zc, hze, _⟩ := HA.out.zs.isZ
      have p1 : wr.cell? ⟨R, 1, none⟩ = some (.slice sa sl sc) := HA.out.r.cell 1
      have p2 : wr.cell? ⟨R, 2, none⟩ = some vz := HA.out.r.cell 2
      subst hze
      have HA5 := mkHid (HA.out.setLen (nn : Int))
      have hsb := own_isB HA5.out.sum
      have HRf : Hid (IsRf (wr.setCell ⟨R, 0, none⟩ (.int .i64 (nn : Int))) ⟨(nn : Int), S, acc⟩ ⟨sa, sc, za, zc⟩) := ⟨hsb, HA5.out.zs.is', by show (-9223372036854775808 : Int) ≤ (nn : Int); omega, by show (nn : Int) ≤ 9223372036854775807; omega, HA5.out.zs.cap⟩
      have HRt := refRight12 ⟨(nn : Int), S, acc⟩ ⟨sa, sc, za, zc⟩ (wr.setCell ⟨R, 0, none⟩ (.int .i64 (nn : Int))) HRf.out
      simp only [rfc] at HRt
      rw [HSl.out] at HRt
      clear hsb HA
      go_wp2_with fail
      refine HRt.mono ?_
      rintro e y6 ⟨rfl, hb6⟩
      have HA7 := mkHid (HA5.out.on hb6)
      have r0 : y6.cell? ⟨w.heap.size, 0, none⟩ = some (.int .i64 0) := HA7.out.res.cell 0
      have r1 : y6.cell? ⟨w.heap.size, 1, none⟩ = some (.slice none 0 0) := HA7.out.res.cell 1
      have r2 : y6.cell? ⟨w.heap.size, 2, none⟩ = some (.slice none 0 0) := HA7.out.res.cell 2
      have g0 := HA7.out.res.frozen 0
      have g1 := HA7.out.res.frozen 1
      have g2 := HA7.out.res.frozen 2
      clear HRt HA5 hb6 HRf
      cases hrt : rightL ⟨(nn : Int), S, acc⟩ with
      | false =>
        have HNo : Hid (readO b = none) := by unfold Hid; rw [HE2.out, hrt]; rfl
        go_wp2_with fail
        (try simp only [Exit.inBlock, Exit.then])
        refine bodyPost_ret (results_cellrow_tmp (P := Tryz.prog) rfl _ _ w.heap.size 46 #[.int .i64 0, .slice none 0 0, .slice none 0 0] (0, 0) _ rfl (((HA7.out.res.set 0 (.int .i64 0)).set 1 (.slice none 0 0)).set 2 (.slice none 0 0)) Tryz.underlying46 rfl (by kernel_rfl)) rfl ⟨?_, ((HA7.out.bel.setCell (p := ⟨w.heap.size, 0, none⟩) (Nat.le_refl _) (.int .i64 0)).setCell (p := ⟨w.heap.size, 1, none⟩) (Nat.le_refl _) (.slice none 0 0)).setCell (p := ⟨w.heap.size, 2, none⟩) (Nat.le_refl _) (.slice none 0 0)⟩
        exact rd_none HNo.out
      | true =>
        have HYe : Hid (readO b = some ⟨(nn : Int), S, acc⟩) := by unfold Hid; rw [HE2.out, hrt]; rfl
        have q0 : y6.cell? ⟨R, 0, none⟩ = some (.int .i64 (nn : Int)) := HA7.out.r.cell 0
        have q1 : y6.cell? ⟨R, 1, none⟩ = some (.slice sa sl sc) := HA7.out.r.cell 1
        have q2 : y6.cell? ⟨R, 2, none⟩ = some (.slice za acc.length zc) := HA7.out.r.cell 2
        go_wp2_with fail
        (try simp only [Exit.inBlock, Exit.then])
        have hT : KeepT [46] y6 (((y6.setCell ⟨w.heap.size, 0, none⟩ (.int .i64 (nn : Int))).setCell ⟨w.heap.size, 1, none⟩ (.slice sa sl sc)).setCell ⟨w.heap.size, 2, none⟩ (.slice za acc.length zc)) := (((KeepT.refl _ _).set HA7.out.res (by decide) 0 _).set (HA7.out.res.set 0 _) (by decide) 1 _).set ((HA7.out.res.set 0 _).set 1 _) (by decide) 2 _
        refine bodyPost_ret (results_cellrow_tmp (P := Tryz.prog) rfl _ _ w.heap.size 46 #[.int .i64 (nn : Int), .slice sa sl sc, .slice za acc.length zc] (0, 0) _ rfl (((HA7.out.res.set 0 (.int .i64 (nn : Int))).set 1 (.slice sa sl sc)).set 2 (.slice za acc.length zc)) Tryz.underlying46 rfl (by kernel_rfl)) rfl ⟨?_, ((HA7.out.bel.setCell (p := ⟨w.heap.size, 0, none⟩) (Nat.le_refl _) _).setCell (p := ⟨w.heap.size, 1, none⟩) (Nat.le_refl _) _).setCell (p := ⟨w.heap.size, 2, none⟩) (Nat.le_refl _) _⟩
        have hY := rd_some (q := ⟨sa, sc, za, zc⟩) HYe.out ⟨own_isB (own_keep hT HA7.out.sum (by decide)), OwnZ.is' (own_keep hT HA7.out.zs (by decide)), by show (-9223372036854775808 : Int) ≤ (nn : Int); omega, by show (nn : Int) ≤ 9223372036854775807; omega, HA7.out.zs.cap⟩
        simp only [rfc, HSl.out] at hY
        exact hY
end Go.Proofs.YthjdmfbengpepaaGreat
