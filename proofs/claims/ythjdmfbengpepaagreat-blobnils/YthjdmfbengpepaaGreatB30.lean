/- What the document's Drop answers. · Put, plain; what it needs of a world. · The program's blob: fits, place. · The program's journal: the front sectors. -/
import Derived.Test.YthjdmfbengpepaaGreatB28
import Derived.Test.YthjdmfbengpepaaGreatBl4
import Derived.Test.YthjdmfbengpepaaGreatB26
import Derived.Test.YthjdmfbengpepaaGreatB17
import Derived.Test.YthjdmfbengpepaaGreatB25
import Derived.Test.YthjdmfbengpepaaGreatB27
namespace Go.Proofs.YthjdmfbengpepaaGreat
open Go.RowKit

/-- sectors given back one behind the other -/
def dropGo (j : Jl) : List Int → Tl → Int × Tl
  | [], t => (0, t)
  | s :: l, t => if gvE t j s ≠ 0 then (gvE t j s, gvT t j s) else dropGo j l (gvT t j s)
theorem dropGo_no {j : Jl} {l : List Int} {k : Nat} {t : Tl} (hk : k < l.length) (h : gvE t j (l.getD k 0) ≠ 0) : dropGo j (l.drop k) t = (gvE t j (l.getD k 0), gvT t j (l.getD k 0)) := by
  have e : l.drop k = l.getD k 0 :: l.drop (k + 1) := by rw [List.drop_eq_getElem_cons hk]; simp [hk]
  rw [e, dropGo, if_pos h]
theorem dropGo_on {j : Jl} {l : List Int} {k : Nat} {t : Tl} (hk : k < l.length) (h : gvE t j (l.getD k 0) = 0) : dropGo j (l.drop k) t = dropGo j (l.drop (k + 1)) (gvT t j (l.getD k 0)) := by
  have e : l.drop k = l.getD k 0 :: l.drop (k + 1) := by rw [List.drop_eq_getElem_cons hk]; simp [hk]
  rw [e, dropGo, if_neg (fun h' => h' h)]
/-- Drop -/
def dropE (t : Tl) (j : Jl) (r : Rf) : Int := if rightL r = true then (dropGo j r.secs t).1 else 1
def dropT (t : Tl) (j : Jl) (r : Rf) : Tl := if rightL r = true then (dropGo j r.secs t).2 else t
theorem right_sec {r : Rf} (h : rightL r = true) {k : Nat} (hk : k < r.secs.length) : 51 ≤ r.secs.getD k 0 ∧ r.secs.getD k 0 < 4096 := ((of_decide_eq_true h).2 k hk).1
theorem right_len {r : Rf} (h : rightL r = true) : r.secs.length ≤ 12 := by
  obtain ⟨h0, h1, _, h2⟩ := (of_decide_eq_true h).1
  have : needL r.len ≤ 12 := by unfold needL; split <;> omega
  omega
set_option maxRecDepth 20000 in
set_option maxHeartbeats 2000000 in
theorem refDrop12 {w : World} {R U K D base m : Nat} {t : Tl} {j : Jl} (h : RefS w R U K D base m t j) (hm : m ≤ 100000) (ho : j.p.off = false) (r : Rf) (q : RfA) (hr : ∀ W, KC base w W → IsRf W r q) :
    Calls Tryz.prog 14 #[.pointer (some ⟨R, 0, none⟩), .agg (rfc r q).toArray] w fun e w' => e = .returned (.int .i64 (dropE t j r)) ∧ Hid (RefS w' R U K D base m (dropT t j r) j) ∧ Hid (KC base w w') := by
  have hY : Below w.heap.size w (w.alloc (.cells (rfc r q).toArray 46)) := (Below.refl _ w).alloc (Nat.le_refl _) _
  have kb := Blk.new w 46 (rfc r q)
  have HLo := mkHid h.lo
  have HKY := mkHid (KC.of_below hY HLo.out)
  have HSY := mkHid (h.on hY)
  have HRt := refRight12 r q _ (hr _ HKY.out)
  have HRr : Hid (∀ W, KC base w W → IsRf W r q) := hr
  have HOf := mkHid ho
  have HSec : Hid (rightL r = true → ∀ k, k < r.secs.length → 51 ≤ r.secs.getD k 0 ∧ r.secs.getD k 0 < 4096) := fun h k hk => right_sec h hk
  have HDE : Hid (rightL r = true → dropE t j r = (dropGo j r.secs t).1 ∧ dropT t j r = (dropGo j r.secs t).2) := fun h => by unfold dropE dropT; rw [if_pos h, if_pos h]; exact ⟨rfl, rfl⟩
  have HDN : Hid (rightL r = false → dropE t j r = 1 ∧ dropT t j r = t) := fun h => by unfold dropE dropT; rw [h]; exact ⟨rfl, rfl⟩
  clear h hY hr ho
  generalize dropE t j r = dE at *
  generalize dropT t j r = dT at *
  obtain ⟨rl, rs, rz⟩ := r
  obtain ⟨qa, qc, qb, qd⟩ := q
  simp only [rfc] at *
  have HKb := mkHid kb
  clear kb
  cases hrt : rightL ⟨rl, rs, rz⟩ with
  | false =>
    rw [hrt] at HRt
    have HN := mkHid (HDN.out hrt)
    clear hrt
    go_enter Tryz.func14, Tryz.ntmps14
    go_wp2_with fail
    refine HRt.mono ?_
    rintro e y1 ⟨rfl, hb1⟩
    have HK1 := mkHid (HKY.out.trans (KC.of_below hb1 HSY.out.lo))
    have HS1 := mkHid (HSY.out.on hb1)
    clear hb1 HRt
    go_wp2_with fail
    go_ret
    exact ⟨ret_i HN.out.1.symm, by rw [HN.out.2]; exact HS1, HK1⟩
  | true =>
    rw [hrt] at HRt
    have HG := mkHid (HDE.out hrt)
    have HSc := mkHid (HSec.out hrt)
    have hzl : rz.length ≤ 12 := right_len hrt
    change Hid (dE = (dropGo j rz t).1 ∧ dT = (dropGo j rz t).2) at HG
    change Hid (∀ k, k < rz.length → 51 ≤ rz.getD k 0 ∧ rz.getD k 0 < 4096) at HSc
    clear hrt HDE HDN HSec
    go_enter Tryz.func14, Tryz.ntmps14
    go_wp2_with fail
    generalize w.alloc (.cells #[.int .i64 rl, .slice qa rs.length qc, .slice qb rz.length qd] 46) = Y at *
    refine HRt.mono ?_
    rintro e y1 ⟨rfl, hb1⟩
    have HK1 := mkHid (KC.of_below hb1 HSY.out.lo)
    have HS1 := mkHid (HSY.out.on hb1)
    clear hb1 HRt HSY
    go_wp2_with fail
    go_loopw [5] (fun i wr => ∃ (k : Nat) (t' : Tl), k ≤ rz.length ∧ i = .int .i64 (k : Int) ∧ Hid (dropGo j (rz.drop k) t' = dropGo j rz t) ∧ Hid (RefS wr R U K D base m t' j) ∧ Hid (KC base Y wr)) (fun i _ => rz.length - (Go.RowKit.intOf i).toNat)
    case atStart => exact ⟨0, t, Nat.zero_le _, rfl, rfl, HS1, HK1⟩
    case round =>
      clear HS1 HK1
      obtain ⟨k, t', hk, rfl, HD, HS, HK⟩ := hrel
      have c2 : wr.cell? ⟨w.heap.size, 2, none⟩ = some (.slice qb rz.length qd) := Blk.cell (HK.out.t.blk HKb.out (by decide)) 2
      by_cases hlt : k < rz.length
      · have hlt' : (k : Int) < (rz.length : Int) := by omega
        obtain ⟨g, off, hge, _, hcs⟩ := (HRr.out wr (HKY.out.trans HK.out)).secs.cells (show 0 < rz.length by omega)
        change qb = _ at hge
        subst hge
        have f0 : wr.cell? ⟨g, off + k, none⟩ = some (.int .i64 (rz.getD k 0)) := hcs k hlt
        have hsr := HSc.out k hlt
        have HNo : Hid (gvE t' j (rz.getD k 0) ≠ 0 → dropGo j (rz.drop k) t' = (gvE t' j (rz.getD k 0), gvT t' j (rz.getD k 0))) := dropGo_no hlt
        have HOn : Hid (gvE t' j (rz.getD k 0) = 0 → dropGo j (rz.drop k) t' = dropGo j (rz.drop (k + 1)) (gvT t' j (rz.getD k 0))) := dropGo_on hlt
        clear hcs
        generalize rz.getD k 0 = s at *
        have HGv := refGive11 HS.out hm HOf.out s (by omega) (by omega)
        generalize gvT t' j s = t2 at *
        generalize gvE t' j s = E at *
        by_cases hz : E = 0
        · subst hz
          have HD2 : Hid (dropGo j (rz.drop (k + 1)) t2 = dropGo j rz t) := (HOn.out rfl).symm.trans HD.out
          clear HNo HOn HD
          go_wp2_with fail
          refine HGv.mono ?_
          rintro e y2 ⟨rfl, hs2, hk2⟩
          have HK2 := mkHid (HK.out.trans hk2.out)
          clear HGv hk2 HK HS
          go_wp2_with fail
          go_roundw
          case rel => exact ⟨k + 1, t2, by omega, by go_num, HD2, hs2, HK2⟩
          case measure => simp [Go.RowKit.intOf]; omega
        · have HF : Hid (dE = E ∧ dT = t2) := by
            unfold Hid
            rw [HG.out.1, HG.out.2, ← HD.out, HNo.out hz]
            exact ⟨rfl, rfl⟩
          clear HNo HOn HD HG
          go_wp2_with fail
          refine HGv.mono ?_
          rintro e y2 ⟨rfl, hs2, hk2⟩
          have HK2 := mkHid (HKY.out.trans (HK.out.trans hk2.out))
          clear HGv hk2 HK HS
          go_wp2_with fail
          go_ret
          exact ⟨ret_i HF.out.1.symm, by rw [HF.out.2]; exact hs2, HK2⟩
      · have hlt' : ¬ (k : Int) < (rz.length : Int) := by omega
        have HF : Hid (dE = 0 ∧ dT = t') := by
          unfold Hid
          rw [HG.out.1, HG.out.2, ← HD.out, List.drop_eq_nil_iff.2 (show rz.length ≤ k by omega), dropGo]
          exact ⟨rfl, rfl⟩
        go_wp2_with fail
        go_ret
        exact ⟨ret_i HF.out.1.symm, by rw [HF.out.2]; exact HS, mkHid (HKY.out.trans HK.out)⟩
end Go.Proofs.YthjdmfbengpepaaGreat
namespace Go.Proofs.YthjdmfbengpepaaGreat
open Go.RowKit

/-- bytes cut or filled to a sector -/
def pad512 (k : List UInt8) : List UInt8 := k.take 512 ++ List.replicate (512 - k.length) 0
theorem pad512_len (k : List UInt8) : (pad512 k).length = 512 := by unfold pad512; rw [List.length_append, List.length_take, List.length_replicate]; omega
def chunkL (b : List UInt8) (i : Nat) : List UInt8 := pad512 (b.drop (i * 512))
/-- sectors taken and written one behind the other -/
def putGo (j : Jl) (b : List UInt8) : Nat → Nat → Tl → List Int → Int × Tl × List Int
  | 0, _, t, acc => (0, t, acc)
  | f + 1, i, t, acc =>
    if tkE t j ≠ 0 then (tkE t j, tkT t j, acc)
    else if spWrE (tkT t j) j (tkV t j : Int) (chunkL b i) ≠ 0 then (spWrE (tkT t j) j (tkV t j : Int) (chunkL b i), spWr (tkT t j) j (tkV t j : Int) (chunkL b i), acc)
    else putGo j b f (i + 1) (spWr (tkT t j) j (tkV t j : Int) (chunkL b i)) (acc ++ [(tkV t j : Int)])
def putN (b : List UInt8) : Nat := (needL (b.length : Int)).toNat
/-- is there room? -/
def roomOk (t : Tl) (j : Jl) (n : Nat) : Prop := n = 0 ∨ (n ≤ freeL (mapL t j) (j.p.n - 51) ∧ (n : Int) ≤ 48 - (t.l.length : Int) - 1)
instance (t : Tl) (j : Jl) (n : Nat) : Decidable (roomOk t j n) := by unfold roomOk; exact inferInstance
/-- Put: its error, what it leaves, the ref -/
def putAll (t : Tl) (j : Jl) (b : List UInt8) : Int × Tl × List Int := putGo j b (putN b) 0 t []
def putE (t : Tl) (j : Jl) (b : List UInt8) : Int := if 6144 < b.length then 3 else if ¬ roomOk t j (putN b) then 44 else (putAll t j b).1
def putT (t : Tl) (j : Jl) (b : List UInt8) : Tl := if 6144 < b.length ∨ ¬ roomOk t j (putN b) then t else (putAll t j b).2.1
def putR (t : Tl) (j : Jl) (b : List UInt8) : Rf := if putE t j b = 0 then ⟨(b.length : Int), sha256L b, (putAll t j b).2.2⟩ else rf0
theorem put_no {t : Tl} {j : Jl} {b : List UInt8} {E : Int} {w' : World} (he : putE t j b = E) (h0 : E ≠ 0) : ∃ q, Ending.returned (.tuple #[.agg #[.int .i64 0, .slice none 0 0, .slice none 0 0], .int .i64 E]) = .returned (.tuple #[.agg (rfc (putR t j b) q).toArray, .int .i64 (putE t j b)]) ∧ RfK w' (putR t j b) q := by
  have e1 : putR t j b = rf0 := by unfold putR; rw [he, if_neg h0]
  refine ⟨⟨none, 0, none, 0⟩, ?_, ?_⟩
  · rw [e1, he]; rfl
  · rw [e1]; exact RfK.zero _
theorem put_yes {t : Tl} {j : Jl} {b : List UInt8} {l : List Int} {q0 : RfA} {w' : World} (he : putE t j b = 0) (hl : (putAll t j b).2.2 = l) (hI : RfK w' ⟨(b.length : Int), sha256L b, l⟩ q0) : ∃ q, Ending.returned (.tuple #[.agg (rfc ⟨(b.length : Int), sha256L b, l⟩ q0).toArray, .int .i64 0]) = .returned (.tuple #[.agg (rfc (putR t j b) q).toArray, .int .i64 (putE t j b)]) ∧ RfK w' (putR t j b) q := by
  have e1 : putR t j b = ⟨(b.length : Int), sha256L b, l⟩ := by unfold putR; rw [if_pos he, hl]
  exact ⟨q0, by rw [e1, he], by rw [e1]; exact hI⟩
/-- what the document's transaction of space hangs on -/
abbrev UR : List TypeId := [81, 88, 92, 85, 5, 94]
theorem RefS.keepR {w w' : World} {R U K D base m : Nat} {t : Tl} {j : Jl} (h : RefS w R U K D base m t j) (hk : KeepO UR w w') : RefS w' R U K D base m t j := by
  obtain ⟨vL, ls, hr⟩ := h.rt
  exact ⟨hk.blk h.blk (by decide), h.low, ⟨vL, ls, { hr with rt := ⟨hk.blk hr.rt.blk (by decide), hr.rt.gs.keepO hk (by decide) (by decide)⟩, rj := hk.blk hr.rj (by decide), rk := hr.rk.keepO hk (by decide) (by decide) (by decide) }⟩, h.lens⟩
theorem KC.new {base : Nat} {w0 w w' : World} (h : KC base w0 w) (hb : Below w0.heap.size w w') (hl : base ≤ w0.heap.size) : KC base w0 w' :=
  ⟨⟨Nat.le_trans h.t.size hb.size, fun k o hk ho => (hb.5 k (Array.getElem?_eq_some_iff.1 hk).1).trans (h.t.same k o hk ho)⟩, h.b.trans (hb.mono hl)⟩
/-- how it stands on its way -/
structure PtAt (w0 w : World) (R U K D base m : Nat) (t : Tl) (j : Jl) (q : Nat) (n : Int) (vs vz : Value) (S : List UInt8) (acc : List Int) : Prop where
  res : Blk w w0.heap.size 46 [.int .i64 0, .slice none 0 0, .slice none 0 0]
  r : Blk w q 46 [.int .i64 n, vs, vz]
  lt : w0.heap.size < q
  sum : OwnB w w0.heap.size vs S
  zs : OwnZ w w0.heap.size vz acc
  rs : RefS w R U K D base m t j
  kc : KC base w0 w
  lo : base ≤ w0.heap.size
theorem PtAt.call {w0 w w' : World} {R U K D base m : Nat} {t t' : Tl} {j : Jl} {q : Nat} {n : Int} {vs vz : Value} {S : List UInt8} {acc : List Int} (h : PtAt w0 w R U K D base m t j q n vs vz S acc) (hr : RefS w' R U K D base m t' j) (hk : KC base w w') : PtAt w0 w' R U K D base m t' j q n vs vz S acc :=
  ⟨hk.t.blk h.res (by decide), hk.t.blk h.r (by decide), h.lt, own_keep hk.t h.sum (by decide), own_keep hk.t h.zs (by decide), hr, h.kc.trans hk, h.lo⟩
theorem PtAt.on {w0 w w' : World} {R U K D base m : Nat} {t : Tl} {j : Jl} {q : Nat} {n : Int} {vs vz : Value} {S : List UInt8} {acc : List Int} (h : PtAt w0 w R U K D base m t j q n vs vz S acc) (hb : Below w.heap.size w w') : PtAt w0 w' R U K D base m t j q n vs vz S acc :=
  h.call (h.rs.on hb) (KC.of_below hb h.rs.lo)
theorem PtAt.grown {w0 w w' : World} {R U K D base m : Nat} {t : Tl} {j : Jl} {q : Nat} {n : Int} {vs vz vz' : Value} {S : List UInt8} {acc acc' : List Int} (h : PtAt w0 w R U K D base m t j q n vs vz S acc) (ho : OwnZ w' w0.heap.size vz' acc') (hg : w.grownBy w' vz.ownBlock) : PtAt w0 (w'.setCell ⟨q, 2, none⟩ vz') R U K D base m t j q n vs vz' S acc' := by
  have hk : KeepT [3] w w' := KeepT.grownZ h.zs hg
  have hsz : w0.heap.size ≤ w.heap.size := h.kc.t.size
  have hb1 : Below w0.heap.size w w' := (Below.refl _ w).grown hg hsz (fun k e => (World.ownsRow.lt h.zs k e).1)
  have hR := hk.blk h.r (by decide)
  have hk2 : KeepT [46] w' (w'.setCell ⟨q, 2, none⟩ vz') := (KeepT.refl _ _).set hR (by decide) 2 _
  have hb2 : Below w0.heap.size w (w'.setCell ⟨q, 2, none⟩ vz') := hb1.setCell (p := ⟨q, 2, none⟩) (Nat.le_of_lt h.lt) _
  exact ⟨Blk.other (hk.blk h.res (by decide)) _ _ (Nat.ne_of_lt h.lt), hR.set 2 _, h.lt, own_keep hk2 (own_keep hk h.sum (by decide)) (by decide), own_keep hk2 ho (by decide), (h.rs.keepR (KeepO.ofT hk (by decide))).keepR (KeepO.ofT hk2 (by decide)), h.kc.new hb2 h.lo, h.lo⟩
theorem own_full {w : World} {base B : Nat} {l : List UInt8} (h : OwnB w base (.slice (some ⟨B, 0, none⟩) 512 512) l) (hl : l.length = 512) : Blk w B 5 (bv l) := by
  obtain ⟨_, h2⟩ := h
  rcases h2 with ⟨e, _⟩ | ⟨g, cap, cur, e, _, hg, _, _, hsz, htk⟩
  · cases e
  · injection e with e1 _ e3
    have e4 : B = g := (Addr.mk.inj (Option.some.inj e1)).1
    subst e4 e3
    have hc : cur = (bv l).toArray := by
      apply Array.toList_inj.1
      rw [List.toList_toArray, ← htk, List.take_of_length_le]
      rw [Array.length_toList, hsz, hl]
      omega
    rw [hc] at hg
    exact hg
theorem full_own {w : World} {base B : Nat} {l : List UInt8} (h : Blk w B 5 (bv l)) (hl : l.length = 512) (hb : base ≤ B) : OwnB w base (.slice (some ⟨B, 0, none⟩) 512 512) l := by
  unfold OwnB
  rw [hl]
  exact ⟨by rw [bv_length, hl], .inr ⟨B, 512, (bv l).toArray, rfl, hb, h, Nat.le_refl _, by decide, by rw [List.size_toArray, bv_length, hl], by rw [List.toList_toArray, List.take_of_length_le (by rw [bv_length, hl]; omega)]⟩⟩
/-- copy into a new sector -/
theorem copyP (W : World) (B : Nat) (a : Option Addr) (n c : Nat) (k : List UInt8) (hB : Blk W B 5 (bv (List.replicate 512 0))) (hk : IsB W a n c k) (hn : 0 < n) :
    ∃ W', (Builtin.copy_ #[41, 41] 3 #[.slice (some ⟨B, 0, none⟩) 512 512, .slice a n c]).run Tryz.prog W = .ok (.int .i64 ((min 512 n : Nat) : Int)) W' ∧ Blk W' B 5 (bv (pad512 k)) ∧ W.grownBy W' (some B) := by
  obtain ⟨b, off, rfl, hc⟩ := hk.cells hn
  have hlen := hk.len_eq
  have hcs : ∀ j v, (bv (k.take 512))[j]? = some v → W.cell? ((⟨b, off, none⟩ : Addr).add j) = some v := by
    intro j v hj
    have hjl : j < (k.take 512).length := by have := (List.getElem?_eq_some_iff.1 hj).1; rwa [bv_length] at this
    have hj2 : j < k.length := Nat.lt_of_lt_of_le hjl (by rw [List.length_take]; omega)
    have hj3 : j < 512 := Nat.lt_of_lt_of_le hjl (by rw [List.length_take]; omega)
    have e : (bv (k.take 512))[j]? = (bv k)[j]? := by
      unfold bv
      rw [List.getElem?_map, List.getElem?_map, List.getElem?_take_of_lt hj3]
    rw [e, bv_at k j hj2] at hj
    rw [Addr.add_lit, hc j (by omega), ← hj]
  have hz : (bv (List.replicate 512 (0 : UInt8))).length = 512 := by rw [bv_length, List.length_replicate]
  have h := run_copy_row (P := Tryz.prog) W 41 41 3 5 B 0 512 512 ⟨b, off, none⟩ n c _ 5 (bv (k.take 512)) Tryz.underlying41 infoU8 hB (by rw [bv_length, List.length_take, hlen]; exact Nat.min_comm _ _) hcs (by rw [bv_length, List.size_toArray, hz, List.length_take]; omega) (bv_one _)
  have e2 : (bv (List.replicate 512 (0 : UInt8))).take 0 ++ bv (k.take 512) ++ (bv (List.replicate 512 (0 : UInt8))).drop (0 + (bv (k.take 512)).length) = bv (pad512 k) := by
    have e3 : (bv (List.replicate 512 (0 : UInt8))).drop (min 512 k.length) = bv (List.replicate (512 - k.length) 0) := by
      unfold bv
      rw [← List.map_drop, List.drop_replicate, show 512 - min 512 k.length = 512 - k.length by omega]
    rw [List.take_zero, List.nil_append, bv_length, List.length_take, Nat.zero_add, e3]
    unfold pad512
    rw [bv_append]
  refine ⟨_, ?_, hB.row (bv (pad512 k)), ⟨rfl, rfl, rfl, by simp [World.setRow], fun i _ hi => setRow_other W B i _ (fun e => hi (by rw [e]))⟩⟩
  rw [h, bv_length, List.length_take, hlen]
  rw [bv_length, List.length_take, hlen] at e2
  rw [← e2]
  rfl
end Go.Proofs.YthjdmfbengpepaaGreat
namespace Go.Proofs.YthjdmfbengpepaaGreat
open Go.RowKit

theorem KS.refl (base : Nat) (w : World) : KS base w w := ⟨KeepO.refl _ _, Below.refl _ _⟩
set_option maxRecDepth 20000 in
set_option maxHeartbeats 1000000 in
theorem codFits {JA : World → Nat → Nat → Nat → Jl → Prop} {SA : World → Nat → Nat → Nat → Nat → Tl → Jl → Prop} (so : SpcOK JA SA) (w : World) (S J P base m : Nat) (t : Tl) (j : Jl) (n : Nat) (h : SA w S J P base t j) (hf : Fit t j m) (hn : n ≤ 100000) :
    Calls Tryz.prog 47 #[.pointer (some ⟨S, 0, none⟩), .int .i64 (n : Int)] w fun e w' => e = .returned (.bool (decide (roomOk t j n))) ∧ SA w' S J P base t j ∧ KS base w w' := by
  have HF := so.free w S J P base m t j h hf
  have HLf : Hid (∀ W, SA W S J P base t j → Calls Tryz.prog 97 #[.pointer (some ⟨S, 0, none⟩)] W fun e w' => e = .returned (.int .i64 (48 - (t.l.length : Int))) ∧ SA w' S J P base t j ∧ KS base W w') := fun W hW => so.left W S J P base m t j hW hf
  have hl : t.l.length ≤ 48 := hf.len
  have HS := mkHid h
  obtain ⟨d, hd⟩ : ∃ d, d = decide (roomOk t j n) := ⟨_, rfl⟩
  rw [← hd]
  have hd : d = true ↔ (n = 0 ∨ (n ≤ freeL (mapL t j) (j.p.n - 51) ∧ (n : Int) ≤ 48 - (t.l.length : Int) - 1)) := by rw [hd]; exact decide_eq_true_iff
  generalize freeL (mapL t j) (j.p.n - 51) = fr at *
  generalize hlg : t.l.length = lg at *
  clear h hf hlg
  by_cases h0 : n = 0
  · subst h0
    have HV : Hid (true = d) := (hd.2 (.inl rfl)).symm
    clear hd HF HLf
    go_enter Tryz.func47, Tryz.ntmps47
    go_wp2_with fail
    go_ret
    exact ⟨ret_b HV.out, HS.out, KS.refl _ _⟩
  · have bn : ((n : Int) == 0) = false := beq_eq_false_iff_ne.2 (by omega)
    have h0' : ¬ (n : Int) = 0 := by omega
    by_cases h1 : n ≤ fr
    · have d1 : decide ((n : Int) ≤ (fr : Int)) = true := decide_eq_true (by omega)
      have h1' : (n : Int) ≤ (fr : Int) := by omega
      have HD : Hid (d = decide ((n : Int) ≤ 48 - (lg : Int) - 1)) := Bool.eq_iff_iff.2 ⟨fun h => decide_eq_true ((hd.1 h).resolve_left h0).2, fun h => hd.2 (.inr ⟨h1, of_decide_eq_true h⟩)⟩
      clear hd
      go_enter Tryz.func47, Tryz.ntmps47
      go_wp2_with fail
      refine HF.mono ?_
      rintro e x1 ⟨rfl, hs1, hk1⟩
      have HK1 := mkHid hk1
      have HL := HLf.out x1 hs1
      clear HF hk1 hs1 HS HLf
      go_wp2_with fail
      refine HL.mono ?_
      rintro e x2 ⟨rfl, hs2, hk2⟩
      have HS2 := mkHid hs2
      have HK2 := mkHid (HK1.out.trans hk2)
      clear HL hs2 hk2 HK1
      go_wp2_with fail
      go_ret
      exact ⟨ret_b HD.out.symm, HS2.out, HK2.out⟩
    · have d1 : decide ((n : Int) ≤ (fr : Int)) = false := decide_eq_false (by omega)
      have h1' : ¬ (n : Int) ≤ (fr : Int) := by omega
      have HV : Hid (false = d) := by
        cases d with
        | false => exact rfl
        | true => exact absurd ((hd.1 rfl).resolve_left h0).1 h1
      clear hd HLf
      go_enter Tryz.func47, Tryz.ntmps47
      go_wp2_with fail
      refine HF.mono ?_
      rintro e x1 ⟨rfl, hs1, hk1⟩
      have HS1 := mkHid hs1
      have HK1 := mkHid hk1
      clear HF hk1 hs1 HS
      go_wp2_with fail
      go_ret
      exact ⟨ret_b HV.out, HS1.out, HK1.out⟩
/-- place: what it tells, what it leaves -/
def plE (t : Tl) (j : Jl) (c : List UInt8) : Int := if tkE t j ≠ 0 then tkE t j else spWrE (tkT t j) j (tkV t j : Int) c
def plV (t : Tl) (j : Jl) : Int := if tkE t j ≠ 0 then 0 else (tkV t j : Int)
def plT (t : Tl) (j : Jl) (c : List UInt8) : Tl := if tkE t j ≠ 0 then tkT t j else spWr (tkT t j) j (tkV t j : Int) c
theorem pl_no {t : Tl} {j : Jl} (c : List UInt8) (h : tkE t j ≠ 0) : plE t j c = tkE t j ∧ plV t j = 0 ∧ plT t j c = tkT t j := by unfold plE plV plT; rw [if_pos h, if_pos h, if_pos h]; exact ⟨rfl, rfl, rfl⟩
theorem pl_yes {t : Tl} {j : Jl} (c : List UInt8) (h : tkE t j = 0) : plE t j c = spWrE (tkT t j) j (tkV t j : Int) c ∧ plV t j = (tkV t j : Int) ∧ plT t j c = spWr (tkT t j) j (tkV t j : Int) c := by unfold plE plV plT; rw [if_neg (fun x => x h), if_neg (fun x => x h), if_neg (fun x => x h)]; exact ⟨rfl, rfl, rfl⟩
set_option maxRecDepth 20000 in
set_option maxHeartbeats 1000000 in
theorem codPlace {JA : World → Nat → Nat → Nat → Jl → Prop} {SA : World → Nat → Nat → Nat → Nat → Tl → Jl → Prop} (so : SpcOK JA SA) (w : World) (S J P base m : Nat) (t : Tl) (j : Jl) (ca : Option Addr) (cn cc : Nat) (c : List UInt8) (h : SA w S J P base t j) (hf : Fit t j m) (hc : ∀ W, KS base w W → IsB W ca cn cc c) (hcn : 0 < cn) (hv : tkV t j ≤ 100000) :
    Calls Tryz.prog 50 #[.pointer (some ⟨S, 0, none⟩), .slice ca cn cc] w fun e w' => e = .returned (.tuple #[.int .i64 (plV t j), .int .i64 (plE t j (pad512 c))]) ∧ SA w' S J P base (plT t j (pad512 c)) j ∧ KS base w w' := by
  have HT := so.take w S J P base m t j h hf
  have HFt := mkHid hf.take
  by_cases hz : tkE t j ≠ 0
  · obtain ⟨e1, e2, e3⟩ := pl_no (pad512 c) hz
    rw [e1, e2, e3]
    clear e1 e2 e3 h hf hc
    generalize tkE t j = E at *
    go_enter Tryz.func50, Tryz.ntmps50
    go_wp2_with fail
    refine HT.mono ?_
    rintro e x1 ⟨rfl, hs1, hk1⟩
    have HS1 := mkHid hs1
    have HK1 := mkHid hk1
    clear HT hs1 hk1
    go_wp2_with fail
    go_ret2
    exact ⟨rfl, HS1.out, HK1.out⟩
  · have hz := Classical.not_not.1 hz
    obtain ⟨e1, e2, e3⟩ := pl_yes (pad512 c) hz
    rw [e1, e2, e3]
    rw [hz] at HT
    have HC : Hid (∀ W, KS base w W → IsB W ca cn cc c) := hc
    have HLo : Hid (∀ W, KS base w W → base ≤ W.heap.size) := fun W hW => Nat.le_trans (so.lo h) hW.b.size
    have HWr : Hid (∀ (W : World) (B : Nat), SA W S J P base (tkT t j) j → OwnB W base (.slice (some ⟨B, 0, none⟩) 512 512) (pad512 c) → Calls Tryz.prog 102 #[.pointer (some ⟨S, 0, none⟩), .int .i64 (tkV t j : Int), .slice (some ⟨B, 0, none⟩) 512 512] W fun e w' => e = .returned (.int .i64 (spWrE (tkT t j) j (tkV t j : Int) (pad512 c))) ∧ SA w' S J P base (spWr (tkT t j) j (tkV t j : Int) (pad512 c)) j ∧ KS base W w') := fun W B hS hO => by
      have := so.write W S J P base m (tkT t j) j (tkV t j : Int) (some ⟨B, 0, none⟩) 512 (pad512 c) hS HFt.out (by omega) (by omega) (by rw [pad512_len]; omega) (fun V hV _ => own_isB (own_keepO hV hO (by decide)))
      rw [pad512_len] at this
      exact this
    clear e1 e2 e3 h hf hc hz HFt hv
    generalize spWrE (tkT t j) j (tkV t j : Int) (pad512 c) = E2 at *
    generalize spWr (tkT t j) j (tkV t j : Int) (pad512 c) = t2 at *
    generalize tkT t j = t1 at *
    generalize tkV t j = v at *
    go_enter Tryz.func50, Tryz.ntmps50
    go_wp2_with fail
    refine HT.mono ?_
    rintro e x1 ⟨rfl, hs1, hk1⟩
    have HS1 := mkHid hs1
    have HK1 := mkHid hk1
    clear HT hs1 hk1
    go_wp2_with (at_make; refine make_full8 x1 rfl _ _ rfl x1.heap.size .i64 .i64 _ _ 512 rfl rfl rfl rfl (by omega) (Nat.le_refl _) ?_; intro w6 ho6 hg6; have hb6 : Below x1.heap.size x1 w6 := (Below.refl _ x1).grown hg6 (Nat.le_refl _) (fun k e => by cases e); obtain ⟨w7, hr7, hB7, hg7⟩ := copyP w6 x1.heap.size ca cn cc c (own_full ho6 (List.length_replicate ..)) (HC.out w6 (HK1.out.trans (KS.of_below hb6 (HLo.out _ HK1.out)))) hcn; have HO7 : Hid (OwnB w7 base (.slice (some ⟨x1.heap.size, 0, none⟩) 512 512) (pad512 c)) := full_own hB7 (pad512_len _) (HLo.out _ HK1.out); have hb7 : Below x1.heap.size x1 w7 := hb6.trans ((Below.refl _ w6).grown hg7 hb6.size (fun x e => Nat.le_of_eq (Option.some.inj e))); have HS7 := mkHid (so.keep HS1.out (KeepT.of_below hb7)); have HK7 := mkHid (HK1.out.trans (KS.of_below hb7 (HLo.out _ HK1.out))); clear ho6 hg6 hb6 hB7 hg7 hb7; generalize ((min 512 cn : Nat) : Int) = cm at *)
    refine (HWr.out w7 _ HS7.out HO7.out).mono ?_
    rintro e x8 ⟨rfl, hs8, hk8⟩
    have HS8 := mkHid hs8
    have HK8 := mkHid (HK7.out.trans hk8)
    clear hs8 hk8 HK7 HS7 HO7 HK1 HS1 HWr
    go_wp2_with fail
    go_ret2
    exact ⟨rfl, HS8.out, HK8.out⟩
end Go.Proofs.YthjdmfbengpepaaGreat
namespace Go.Proofs.YthjdmfbengpepaaGreat
open Go.RowKit

set_option maxRecDepth 20000 in
set_option maxHeartbeats 2000000 in
/-- a Read of a disk that is up -/
theorem codReadOk (X : Nat → Prop) (P base : Nat) (p : Pl) (k : Nat) (w : World) (h : IsD X w P base p) (hf : FewP p) (hoff : p.off = false) (hk : k < p.n) :
    Calls Tryz.prog 122 #[.pointer (some ⟨P, 0, none⟩), .int .i64 (k : Int)] w fun e w' => ∃ g, e = .returned (.tuple #[.slice (some ⟨g, 0, none⟩) 512 512, .int .i64 0]) ∧ w.heap.size ≤ g ∧ (p.rdB (k : Int)).length = 512 ∧ Blk w' g 5 (bv (p.rdB (k : Int))) ∧ Below w.heap.size w w' := by
  obtain ⟨S, vC, arm, h⟩ := h
  have HR := codReach P S p.n p.off (k : Int) w (h.blk.cell 0) (h.blk.cell 3)
  have HH := mkHid h
  have HF := mkHid hf
  clear h hf
  have hin : inR p.n (k : Int) = true := inR_nat hk
  rw [hoff, if_neg (by simp), hin, if_pos rfl] at HR
  have HE : Hid (p.rdB (k : Int) = p.ca.foldl Pl.put p.st k) := by unfold Hid Pl.rdB; simp [hoff, hin]
  have HL : Hid ((p.ca.foldl Pl.put p.st k).length = 512) := fold_len512 _ _ p.n k hk (fun g hg => (HF.out.at_ g hg).2) HH.out.len
  have HLa := codLatest X P base S vC arm p k w HH.out HF.out hk
  rw [HE.out]
  generalize p.ca.foldl Pl.put p.st k = bb at *
  clear hoff hin hk
  go_enter Tryz.func122, Tryz.ntmps122
  go_wp2_with fail
  refine HR.mono ?_
  rintro e w1 ⟨rfl, hw1⟩
  obtain rfl := hw1.symm
  go_wp2_with fail
  refine HLa.mono ?_
  rintro e w2 ⟨rfl, hb2⟩
  have HB2 := mkHid hb2
  clear hb2
  go_wp2_with fail
  refine (codBytes bb w2 HL.out).mono ?_
  rintro e w3 ⟨g, rfl, hg3, hB3, hb3⟩
  have HB3 := mkHid (And.intro hg3 (And.intro hB3 hb3))
  clear hg3 hB3 hb3
  go_wp2_with fail
  go_ret2
  exact ⟨g, rfl, Nat.le_trans HB2.out.size HB3.out.1, HL.out, HB3.out.2.1, HB2.out.trans (HB3.out.2.2.mono HB2.out.size)⟩

/-- the front sectors of a disk, in a world -/
structure IsFr (w : World) (F : Nat) (p : Pl) (gs : Nat → Nat) : Prop where
  blk : Blk w F 41 (laidTo (dtv gs) (.slice none 0 0) 49 49)
  at_ : ∀ i, i < 49 → F ≠ gs i ∧ (p.rdB (i : Int)).length = 512 ∧ Blk w (gs i) 5 (bv (p.rdB (i : Int)))
theorem IsFr.on {w w' : World} {F : Nat} {p : Pl} {gs : Nat → Nat} (h : IsFr w F p gs) (hb : Below w.heap.size w w') : IsFr w' F p gs := ⟨h.blk.on hb, fun i hi => ⟨(h.at_ i hi).1, (h.at_ i hi).2.1, (h.at_ i hi).2.2.on hb⟩⟩
theorem IsFr.cell {w : World} {F : Nat} {p : Pl} {gs : Nat → Nat} (h : IsFr w F p gs) (i : Nat) (hi : i < 49) : w.cell? ⟨F, i, none⟩ = some (.slice (some ⟨gs i, 0, none⟩) 512 512) := by
  rw [h.blk.cell, laidTo_at _ _ _ _ _ hi, if_pos hi]; rfl

set_option maxRecDepth 20000 in
set_option maxHeartbeats 2000000 in
theorem codFront (P base m : Nat) (p : Pl) (w : World) (h : IsD0 w P base p) (hf : FewM p m) (hm : m ≤ 1000000) (hoff : p.off = false) :
    Calls Tryz.prog 77 #[.pointer (some ⟨P, 0, none⟩)] w fun e w' => ∃ F, e = .returned (.tuple #[.slice (some ⟨F, 0, none⟩) 49 49, .int .i64 0]) ∧ (∃ gs, IsFr w' F p gs) ∧ Below w.heap.size w w' := by
  have HI := mkHid h
  have HF := mkHid hf
  have HO := mkHid hoff
  clear h hf hoff
  go_enter Tryz.func77, Tryz.ntmps77
  go_wp2_with (at_make; refine make_slices w rfl _ _ rfl 49 rfl rfl (by omega) ?_; intro w1 hB1 hg1; have HB1 := mkHid hB1; have HG1 := mkHid (gr_below hg1); clear hB1 hg1)
  obtain ⟨S, hS⟩ : ∃ S, S = w.heap.size := ⟨_, rfl⟩
  have HS := mkHid hS
  rw [← hS] at HB1 ⊢
  clear hS
  go_loopw [11] (fun i wr => ∃ (k : Nat) (gs : Nat → Nat), k ≤ 49 ∧ i = .int .i64 (k : Int) ∧ Hid (Blk wr S 41 (laidTo (dtv gs) (.slice none 0 0) 49 k)) ∧ Hid (∀ i, i < k → S ≠ gs i ∧ (p.rdB (i : Int)).length = 512 ∧ Blk wr (gs i) 5 (bv (p.rdB (i : Int)))) ∧ Hid (Below w.heap.size w wr)) (fun i _ => 49 - (Go.RowKit.intOf i).toNat)
  case atStart => exact ⟨0, fun _ => 0, Nat.zero_le _, rfl, by rw [laidTo_zero]; exact HB1, fun i hi => absurd hi (Nat.not_lt_zero i), HG1⟩
  case round =>
    obtain ⟨k, gs, hk, rfl, HB, HBs, HW⟩ := hrel
    clear HB1 HG1
    by_cases hlt : k < 49
    · have hlt' : (k : Int) < 49 := by omega
      have hk0 : (0 : Int) ≤ (k : Int) := by omega
      have HRd := codReadOk (fun _ => False) P base p k wr (HI.out.on HW.out) (HF.out.few hm) HO.out (by have := HF.out.n0; omega)
      have HX : Hid (∀ W g, Below wr.heap.size wr W → wr.heap.size ≤ g → (p.rdB (k : Int)).length = 512 → Blk W g 5 (bv (p.rdB (k : Int))) → ∀ i, i < k + 1 → S ≠ (fun i => if i = k then g else gs i) i ∧ (p.rdB (i : Int)).length = 512 ∧ Blk W ((fun i => if i = k then g else gs i) i) 5 (bv (p.rdB (i : Int)))) := fun W g hW hg hl hB i hi => by
        have hSl := HB.out.lt
        by_cases e : i = k
        · subst e; simp only [if_true]; exact ⟨by omega, hl, hB⟩
        · simp only [if_neg e]
          have := HBs.out i (by omega)
          exact ⟨this.1, this.2.1, this.2.2.on hW⟩
      generalize p.rdB (k : Int) = bb at *
      go_wp2_with fail
      refine HRd.mono ?_
      rintro e W1 ⟨g, rfl, hg, hl5, hBg, hb1⟩
      have hX1 := mkHid (HX.out W1 g hb1 hg hl5 hBg)
      have HB1 := mkHid (HB.out.on hb1)
      have HW1 := mkHid (HW.out.trans (hb1.mono HW.out.size))
      have hc : W1.cell? ⟨S, k, none⟩ = some (.slice none 0 0) := by rw [HB1.out.cell, laidTo_at _ _ _ _ _ hlt, if_neg (by omega)]
      have hfz := HB1.out.frozen k
      have HB2 : Hid (Blk (W1.setCell ⟨S, k, none⟩ (.slice (some ⟨g, 0, none⟩) 512 512)) S 41 (laidTo (dtv (fun i => if i = k then g else gs i)) (.slice none 0 0) 49 (k + 1))) := by
        have h1 := HB1.out
        rw [laidTo_congr (f' := dtv (fun i => if i = k then g else gs i)) (fun i hi => by unfold dtv; simp only [if_neg (show ¬ i = k by omega)])] at h1
        have h2 := h1.set k (dtv (fun i => if i = k then g else gs i) k)
        rw [laidTo_set _ _ _ _ hlt] at h2
        have e : dtv (fun i => if i = k then g else gs i) k = .slice (some ⟨g, 0, none⟩) 512 512 := by unfold dtv; simp only [if_true]
        rw [e] at h2
        exact h2
      have HX2 : Hid (∀ i, i < k + 1 → S ≠ (fun i => if i = k then g else gs i) i ∧ (p.rdB (i : Int)).length = 512 ∧ Blk (W1.setCell ⟨S, k, none⟩ (.slice (some ⟨g, 0, none⟩) 512 512)) ((fun i => if i = k then g else gs i) i) 5 (bv (p.rdB (i : Int)))) := fun i hi => by
        have := hX1.out i hi
        exact ⟨this.1, this.2.1, this.2.2.other _ _ (fun e => this.1 e.symm)⟩
      have HW2 : Hid (Below w.heap.size w (W1.setCell ⟨S, k, none⟩ (.slice (some ⟨g, 0, none⟩) 512 512))) := HW1.out.trans (bel_one (gr_cell W1 S k _) (Nat.le_of_eq HS.out.symm) HB1.out.lt)
      clear HB1 HW1 HW hX1 HX HB HBs hg hl5 hBg hb1 HRd
      go_wp2_with fail
      go_roundw
      case rel => exact ⟨k + 1, (fun i => if i = k then g else gs i), by omega, by go_num, HB2, HX2, HW2⟩
      case measure => simp [Go.RowKit.intOf]; omega
    · have hge : ¬ (k : Int) < 49 := by omega
      have hkn : k = 49 := by omega
      subst hkn
      go_wp2_with fail
      go_ret2
      exact ⟨S, rfl, ⟨gs, HB.out, HBs.out⟩, HW.out⟩

set_option maxRecDepth 20000 in
set_option maxHeartbeats 2000000 in
theorem codFrontNo (P base m : Nat) (p : Pl) (w : World) (h : IsD0 w P base p) (hf : FewM p m) (hm : m ≤ 1000000) (hoff : p.off = true) :
    Calls Tryz.prog 77 #[.pointer (some ⟨P, 0, none⟩)] w fun e w' => e = .returned (.tuple #[.slice none 0 0, .int .i64 51]) ∧ Below w.heap.size w w' := by
  have HI := mkHid h
  have HF := mkHid hf
  have HO : Hid (p.rdE ((0 : Nat) : Int) = 51 ∧ p.rdB ((0 : Nat) : Int) = []) := by unfold Hid Pl.rdE Pl.rdB; simp [hoff]
  clear h hf hoff
  go_enter Tryz.func77, Tryz.ntmps77
  go_wp2_with (at_make; refine make_slices w rfl _ _ rfl 49 rfl rfl (by omega) ?_; intro w1 hB1 hg1; have HG1 := mkHid (gr_below hg1); clear hB1 hg1)
  go_loopw [11] (fun i wr => i = .int .i64 ((0 : Nat) : Int) ∧ Hid (Below w.heap.size w wr)) (fun i _ => 49 - (Go.RowKit.intOf i).toNat)
  case atStart => exact ⟨rfl, HG1⟩
  case round =>
    obtain ⟨rfl, HW⟩ := hrel
    have HRd := codRead (fun _ => False) P base p ((0 : Nat) : Int) wr (HI.out.on HW.out) (HF.out.few hm)
    rw [HO.out.1, HO.out.2] at HRd
    have hz : ((0 : Nat) : Int) = 0 := rfl
    rw [hz] at HRd
    go_wp2_with fail
    refine HRd.mono ?_
    rintro e W1 ⟨⟨a, c, rfl, _, _⟩, hb1⟩
    have HW1 := mkHid (HW.out.trans (hb1.mono HW.out.size))
    clear hb1 HRd
    go_wp2_with fail
    go_ret2
    exact ⟨rfl, HW1.out⟩
end Go.Proofs.YthjdmfbengpepaaGreat
