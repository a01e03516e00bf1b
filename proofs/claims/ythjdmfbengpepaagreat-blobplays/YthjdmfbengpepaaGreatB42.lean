/- The program's Get. · A range over a function that hands out a known row of values; the body may turn whatever it likes but the loop's own records. · What slices.Chunk hands out. -/
import Derived.Test.YthjdmfbengpepaaGreatB40
import Derived.Test.YthjdmfbengpepaaGreatB41
import Derived.Test.YthjdmfbengpepaaGreatB5
import Derived.RangeFuncNested
import Derived.RangeFuncBound
import Derived.RangeFuncCalls
import Derived.RangeFuncLeaves
import Derived.Test.YthjdmfbengpepaaGreatB21
import Derived.Shelf.Abstract
import Derived.Shelf.RegionOpen
import Derived.WalkKit
import Derived.OwnWalkIn
import Derived.TacticsInMore
import Derived.LoopNIn
import Derived.LoopIn
import Derived.Sort.QuietIn
namespace Go.Proofs.YthjdmfbengpepaaGreat
open Go.RowKit

theorem spRd_len {t : Tl} {j : Jl} {m : Nat} {s : Int} (hf : Fit t j m) (h : spRdE t j s = 0) : (spRdB t j s).length = 512 := by
  unfold spRdE at h
  unfold spRdB
  by_cases hi : s < 50
  · rw [if_pos hi] at h; exact absurd h (by decide)
  rw [if_neg hi] at h ⊢
  unfold Tl.rdE at h
  unfold Tl.rdB
  cases hq : Tl.find t.l s with
  | some b => exact find_512 hf.lens hq
  | none =>
    rw [hq] at h
    simp only at h ⊢
    by_cases ha : areaI j.p.n s = false
    · rw [if_pos ha] at h; exact absurd h (by decide)
    · rw [if_neg ha]
      have ha2 : areaI j.p.n s = true := by cases h2 : areaI j.p.n s with | false => exact absurd h2 ha | true => rfl
      have ha3 : 49 ≤ s ∧ s < (j.p.n : Int) := by unfold areaI at ha2; exact of_decide_eq_true ha2
      obtain ⟨i, rfl⟩ : ∃ i : Nat, s = (i : Int) := ⟨s.toNat, by omega⟩
      exact hf.few.rd512 hf.good.off (by omega)
theorem funcNilIn (w : World) (d : Nat) (t : TypeId) (fn : Fn) (f c : Array Value) {a b : Array TypeId} {v : Bool} (h : Tryz.prog.underlying t = some (.func a b v)) : (Op.equalIn (d + 1) t (.func fn f c) .nilFunc).run Tryz.prog w = .ok false w := by
  simp [Op.equalIn, run_underlying h]
theorem funcNilE (w : World) (t : TypeId) (fn : Fn) (f c : Array Value) {a b : Array TypeId} {v : Bool} (h : Tryz.prog.underlying t = some (.func a b v)) : (Op.equal t (.func fn f c) .nilFunc).run Tryz.prog w = .ok false w := funcNilIn w 9999 t fn f c h
theorem funcNil (w : World) (fn : Fn) (f c : Array Value) : (binOp .eql 58 (.func fn f c) .nilFunc).run Tryz.prog w = .ok (.bool false) w := by
  simp only [binOp]
  simp [funcNilE w _ fn f c Tryz.underlying58]
theorem take_grow (acc b : List UInt8) (L : Nat) : (acc ++ b).take L = acc.take L ++ b.take (L - (acc.take L).length) := by
  rw [List.take_append, List.length_take]
  congr 2
  omega
theorem codSha12 (a : Option Addr) (n c : Nat) (l : List UInt8) (w : World) (h : IsB w a n c l) (hn : n < 4294967296) :
    Calls Tryz.prog 48 #[.slice a n c] w fun e w' => (∃ va vc, e = .returned (.slice va 32 vc) ∧ IsB w' va 32 vc (sha256L l)) ∧ Below w.heap.size w w' := (digSha256 a n c l w h hn).mono (by
  rintro e w' ⟨v, rfl, ho, hb⟩
  obtain ⟨va, vc, rfl, hi⟩ := ho.isB
  rw [sha256L_length] at hi ⊢
  exact ⟨⟨va, vc, rfl, hi⟩, hb⟩)
theorem getGo_on {t : Tl} {j : Jl} {l : List Int} {k : Nat} {acc : List UInt8} (hk : k < l.length) (h : spRdE t j (l.getD k 0) = 0) : getGo t j (l.drop k) acc = getGo t j (l.drop (k + 1)) (acc ++ spRdB t j (l.getD k 0)) := by
  have e : l.drop k = l.getD k 0 :: l.drop (k + 1) := by rw [List.drop_eq_getElem_cons hk]; simp [hk]
  rw [e, getGo, if_neg (fun h' => h' h)]
theorem getGo_no {t : Tl} {j : Jl} {l : List Int} {k : Nat} {acc : List UInt8} (hk : k < l.length) (h : spRdE t j (l.getD k 0) ≠ 0) : getGo t j (l.drop k) acc = (spRdE t j (l.getD k 0), []) := by
  have e : l.drop k = l.getD k 0 :: l.drop (k + 1) := by rw [List.drop_eq_getElem_cons hk]; simp [hk]
  rw [e, getGo, if_pos h]
theorem get_e1 {t : Tl} {j : Jl} {r : Rf} (h : rightL r = false) : getE t j r = 1 ∧ getB t j r = [] := by
  have : getE t j r = 1 := by unfold getE; rw [if_pos h]
  exact ⟨this, by unfold getB; rw [if_neg (by rw [this]; decide)]⟩
theorem get_e2 {t : Tl} {j : Jl} {r : Rf} (h : rightL r = true) {E : Int} (hg : getGo t j r.secs [] = (E, [])) (h0 : E ≠ 0) : getE t j r = E ∧ getB t j r = [] := by
  have : getE t j r = E := by unfold getE; rw [if_neg (by rw [h]; simp), hg, if_pos h0]
  exact ⟨this, by unfold getB; rw [if_neg (by rw [this]; exact h0)]⟩
theorem get_e3 {t : Tl} {j : Jl} {r : Rf} (h : rightL r = true) {acc : List UInt8} (hg : getGo t j r.secs [] = (0, acc)) (hs : sha256L (acc.take r.len.toNat) ≠ r.sum) : getE t j r = 52 ∧ getB t j r = [] := by
  have : getE t j r = 52 := by unfold getE; rw [if_neg (by rw [h]; simp), hg, if_neg (by simp), if_neg hs]
  exact ⟨this, by unfold getB; rw [if_neg (by rw [this]; decide)]⟩
theorem get_e4 {t : Tl} {j : Jl} {r : Rf} (h : rightL r = true) {acc : List UInt8} (hg : getGo t j r.secs [] = (0, acc)) (hs : sha256L (acc.take r.len.toNat) = r.sum) : getE t j r = 0 ∧ getB t j r = acc.take r.len.toNat := by
  have : getE t j r = 0 := by unfold getE; rw [if_neg (by rw [h]; simp), hg, if_neg (by simp), if_pos hs]
  exact ⟨this, by unfold getB; rw [if_pos this, hg]⟩
theorem need_cover {L : Nat} {z : Nat} (h : (z : Int) = needL (L : Int)) : L ≤ 512 * z := by
  unfold needL at h
  split at h <;> omega
set_option maxRecDepth 20000 in
set_option maxHeartbeats 4000000 in
theorem codGetB (w : World) (S J P base m : Nat) (t : Tl) (j : Jl) (r : Rf) (q : RfA) (h : SpAx w S J P base t j) (hf : Fit t j m) (hr : ∀ W, Below w.heap.size w W → IsRf W r q) :
    Calls Tryz.prog 22 #[.func (.func 23) #[.pointer (some ⟨S, 0, none⟩)] #[], .agg (rfc r q).toArray] w fun e w' => (∃ v, e = .returned (.tuple #[v, .int .i64 (getE t j r)]) ∧ IsV w' v (getB t j r)) ∧ Below w.heap.size w w' := by
  have hY : Below w.heap.size w (w.alloc (.cells (rfc r q).toArray 44)) := (Below.refl _ w).alloc (Nat.le_refl _) _
  have kb := Blk.new w 44 (rfc r q)
  have HBY := mkHid hY
  have HRt := codRight12 r q _ (hr _ hY)
  have HRr : Hid (∀ W, Below w.heap.size w W → IsRf W r q) := hr
  have HS0 : Hid (∀ W, Below w.heap.size w W → SpAx W S J P base t j) := fun W hW => SpAx.keep h (KeepT.of_below hW)
  have HFt := mkHid hf
  have hfn := fun W => funcNil W (.func 23) #[.pointer (some ⟨S, 0, none⟩)] #[]
  cases hrt : rightL r with
  | false =>
    obtain ⟨e1, e2⟩ := get_e1 (t := t) (j := j) hrt
    rw [e1, e2]
    rw [hrt] at HRt
    clear e1 e2 h hf hr hY
    obtain ⟨rl, rs, rz⟩ := r
    obtain ⟨qa, qc, qb, qd⟩ := q
    simp only [rfc] at *
    have c0 := kb.cell 0
    have c1 := kb.cell 1
    have c2 := kb.cell 2
    simp only [List.getElem?_cons_zero, List.getElem?_cons_succ] at c0 c1 c2
    clear kb hrt
    go_enter Tryz.func22, Tryz.ntmps22
    go_wp2_with fail
    refine HRt.mono ?_
    rintro e y1 ⟨rfl, hb1⟩
    have HB1 := mkHid (HBY.out.trans (hb1.mono HBY.out.size))
    clear hb1 HRt
    go_wp2_with fail
    go_ret2
    exact ⟨⟨_, rfl, IsV.nil _⟩, HB1.out⟩
  | true =>
    rw [hrt] at HRt
    obtain ⟨hL0, hL1, hsm, hnd⟩ := (of_decide_eq_true hrt).1
    have hzl := right_len hrt
    have HSc : Hid (∀ k, k < r.secs.length → 51 ≤ r.secs.getD k 0 ∧ r.secs.getD k 0 < 4096) := fun k hk => right_sec hrt hk
    have HE2 : Hid (∀ E : Int, getGo t j r.secs [] = (E, []) → E ≠ 0 → getE t j r = E ∧ getB t j r = []) := fun E h1 h2 => get_e2 hrt h1 h2
    have HE3 : Hid (∀ acc : List UInt8, getGo t j r.secs [] = (0, acc) → sha256L (acc.take r.len.toNat) ≠ r.sum → getE t j r = 52 ∧ getB t j r = []) := fun acc h1 h2 => get_e3 hrt h1 h2
    have HE4 : Hid (∀ acc : List UInt8, getGo t j r.secs [] = (0, acc) → sha256L (acc.take r.len.toNat) = r.sum → getE t j r = 0 ∧ getB t j r = acc.take r.len.toNat) := fun acc h1 h2 => get_e4 hrt h1 h2
    obtain ⟨rl, rs, rz⟩ := r
    obtain ⟨qa, qc, qb, qd⟩ := q
    change 0 ≤ rl at hL0
    change rl ≤ 6144 at hL1
    change rs.length = 32 at hsm
    change (rz.length : Int) = needL rl at hnd
    change rz.length ≤ 12 at hzl
    obtain ⟨L, rfl⟩ : ∃ L : Nat, rl = (L : Int) := ⟨rl.toNat, by omega⟩
    have HCv := mkHid (need_cover hnd)
    have eL : ((L : Int)).toNat = L := Int.toNat_natCast L
    simp only [eL] at HE3 HE4
    clear h hf hr hY hrt hnd eL
    generalize getE t j ⟨(L : Int), rs, rz⟩ = gE at *
    generalize getB t j ⟨(L : Int), rs, rz⟩ = gB at *
    simp only [rfc, hsm] at HRt kb HBY ⊢
    have HSm := mkHid hsm
    have HKb := mkHid kb
    have c0 := kb.cell 0
    have c1 := kb.cell 1
    have c2 := kb.cell 2
    simp only [List.getElem?_cons_zero, List.getElem?_cons_succ] at c0 c1 c2
    clear kb hsm
    go_enter Tryz.func22, Tryz.ntmps22
    go_wp2_with fail
    refine HRt.mono ?_
    rintro e y1 ⟨rfl, hb1⟩
    have HB1 := mkHid (HBY.out.trans (hb1.mono HBY.out.size))
    have HK1 := mkHid (HKb.out.on hb1)
    have HSz : Hid (w.heap.size + 1 ≤ y1.heap.size) := by
      have h1 : (w.alloc (.cells #[.int .i64 (L : Int), .slice qa 32 qc, .slice qb rz.length qd] 44)).heap.size = w.heap.size + 1 := Array.size_push _
      have h2 := hb1.size
      unfold Hid; omega
    have d0 : y1.cell? ⟨w.heap.size, 0, none⟩ = some (.int .i64 (L : Int)) := HK1.out.cell 0
    clear hb1 HRt c0 c1 c2 HBY HKb
    go_wp2_with (at_make; refine make_own8 y1 rfl _ _ rfl (w.heap.size + 1) .i64 .i64 _ L rfl rfl rfl (by omega) HSz.out ?_; intro y2 ho2 hg2; have HB2 : Hid (Below y1.heap.size y1 y2) := (Below.refl _ y1).grown hg2 (Nat.le_refl _) (fun k e => by cases e); have HO2 := mkHid ho2; have HK2 := mkHid (HK1.out.on HB2.out); have HBw2 := mkHid (HB1.out.trans (HB2.out.mono HB1.out.size)); have d2 : y2.cell? ⟨w.heap.size, 2, none⟩ = some (.slice qb rz.length qd) := HK2.out.cell 2; clear ho2 hg2 HB2)
    clear d0 d2 HK1 HB1
    generalize hN : w.heap.size = N at *
    have HN := mkHid hN
    clear hN
    go_loopw [6, 22] (fun o i wr => ∃ (k : Nat) (acc : List UInt8), k ≤ rz.length ∧ i = .int .i64 (k : Int) ∧ Hid (getGo t j rz [] = getGo t j (rz.drop k) acc) ∧ Hid (acc.length = 512 * k) ∧ Hid (OwnB wr (N + 1) o (acc.take L)) ∧ Hid (Below N w wr) ∧ Hid (Blk wr N 44 [.int .i64 (L : Int), .slice qa 32 qc, .slice qb rz.length qd]) ∧ Hid (N + 1 ≤ wr.heap.size)) (fun _ i _ => rz.length - (Go.RowKit.intOf i).toNat)
    case atStart => exact ⟨0, [], Nat.zero_le _, rfl, rfl, rfl, by rw [List.take_nil]; exact HO2, HBw2, HK2, HK2.out.lt⟩
    case round =>
      clear HO2 HBw2 HK2 HSz
      obtain ⟨k, acc, hk, rfl, HG, HAl, HO, HB, HK, HNs⟩ := hrel
      have HBw := mkHid HB.out
      have HBn : Hid (∀ W, Below wr.heap.size wr W → Below N w W) := fun W hW => HB.out.trans (hW.mono (Nat.le_of_succ_le HNs.out))
      by_cases hlt : k < rz.length
      · have hlt' : (k : Int) < (rz.length : Int) := by omega
        obtain ⟨g, off, hge, _, hcs⟩ := (HRr.out wr HBw.out).secs.cells (show 0 < rz.length by omega)
        change qb = _ at hge
        subst hge
        have f0 : wr.cell? ⟨g, off + k, none⟩ = some (.int .i64 (rz.getD k 0)) := hcs k hlt
        have hsr := HSc.out k hlt
        have HNo : Hid (spRdE t j (rz.getD k 0) ≠ 0 → getGo t j (rz.drop k) acc = (spRdE t j (rz.getD k 0), [])) := getGo_no hlt
        have HOn : Hid (spRdE t j (rz.getD k 0) = 0 → getGo t j (rz.drop k) acc = getGo t j (rz.drop (k + 1)) (acc ++ spRdB t j (rz.getD k 0))) := getGo_on hlt
        have HLn : Hid (spRdE t j (rz.getD k 0) = 0 → (spRdB t j (rz.getD k 0)).length = 512) := spRd_len HFt.out
        clear hcs
        generalize rz.getD k 0 = s at *
        have HAs := codAsk wr S J P base m t j s (HS0.out wr HBw.out) HFt.out (by omega) (by omega)
        generalize spRdB t j s = bb at *
        generalize spRdE t j s = E at *
        by_cases hz : E = 0
        · subst hz
          have hbl := HLn.out rfl
          have HG2 : Hid (getGo t j rz [] = getGo t j (rz.drop (k + 1)) (acc ++ bb)) := HG.out.trans (HOn.out rfl)
          have HAl2 : Hid ((acc ++ bb).length = 512 * (k + 1)) := by unfold Hid; rw [List.length_append, HAl.out, hbl]; omega
          have HTk := mkHid (take_grow acc bb L)
          have hol : (acc.take L).length ≤ L := List.length_take_le _ _
          clear HNo HOn HG HLn
          go_wp2_with fail
          refine HAs.mono ?_
          rintro e y3 ⟨⟨v3, rfl, hv3⟩, hb3⟩
          obtain ⟨va, vc, rfl, hi3⟩ := hv3
          rw [hbl] at hi3 ⊢
          obtain ⟨b3, o3, rfl, _⟩ := hi3.cells (by omega)
          have hNs := HNs.out
          have HB3 : Hid (Below N w y3) := HB.out.trans (hb3.mono (by omega))
          have HO3 := mkHid (own_on8 HO.out hb3)
          have HK3 := mkHid (HK.out.on hb3)
          have HI3 := mkHid hi3
          have hcap : 512 ≤ vc := hi3.le
          have hN3 : N + 1 ≤ y3.heap.size := Nat.le_trans hNs hb3.size
          obtain ⟨oa, oc, hoe, _⟩ := HO3.out.isB
          subst hoe
          have d0 : y3.cell? ⟨N, 0, none⟩ = some (.int .i64 (L : Int)) := HK3.out.cell 0
          generalize (acc.take L).length = o at *
          obtain ⟨mm, hmm⟩ : ∃ mm : Nat, mm = min 512 (L - o) := ⟨_, rfl⟩
          have hmn : min (512 : Int) ((L : Int) - (o : Int)) = (mm : Int) := by omega
          have hsl := fun W => slH .i64 b3 o3 512 vc mm (by omega) W
          have HIm : Hid (IsB y3 (some ⟨b3, o3, none⟩) mm vc (bb.take mm)) := HI3.out.head mm (by omega)
          have HTm : Hid ((acc ++ bb).take L = acc.take L ++ bb.take mm) := by
            unfold Hid
            rw [HTk.out]
            congr 1
            by_cases h5 : L - o ≤ 512
            · rw [hmm, show min 512 (L - o) = L - o by omega]
            · rw [hmm, show min 512 (L - o) = 512 by omega, List.take_of_length_le (by omega), List.take_of_length_le (by omega)]
          have hom : o + mm ≤ 140737488355328 := by omega
          have HOm := mkHid hom
          have HN3 := mkHid hN3
          have HOl : Hid ((acc.take L).length = o) := by
            unfold Hid
            obtain ⟨a9, c9, e9, _⟩ := HO3.out.isB
            injection e9 with _ e10 _
            exact e10.symm
          clear HTk HI3 hi3 hb3 HAs hmm HK HB HO hcap HBw hom
          go_wp2_with (at_builtin; refine list_appS _ rfl (.tmp 35) (.tmp 45) rfl (N + 1) (.slice oa o oc) (acc.take L) rfl HO3.out (some ⟨b3, o3, none⟩) mm vc (bb.take mm) rfl HIm.out (by rw [HOl.out]; exact HOm.out) HN3.out ?_; intro v4 y4 ho4 hg4; have HO4 := mkHid ho4; have HB4 : Hid (Below N w y4) := HB3.out.grown hg4 (Nat.le_of_succ_le HN3.out) (fun k e => Nat.le_of_succ_le (World.ownsRow.lt HO3.out k e).1); have HK4 : Hid (Blk y4 N 44 [.int .i64 (L : Int), .slice qa 32 qc, .slice (some ⟨g, off, none⟩) rz.length qd]) := (hg4.block N HK3.out.lt (fun e => by have := (World.ownsRow.lt HO3.out N e.symm).1; omega)).trans HK3.out; have HN4 : Hid (N + 1 ≤ y4.heap.size) := Nat.le_trans HN3.out hg4.size; clear ho4 hg4)
          rw [← HTm.out] at HO4
          go_roundw
          case rel => exact ⟨k + 1, acc ++ bb, by omega, by go_num, HG2, HAl2, HO4, HB4, HK4, HN4⟩
          case measure => simp [Go.RowKit.intOf]; omega
        · have HG2 : Hid (getGo t j rz [] = (E, [])) := HG.out.trans (HNo.out hz)
          have HEe := mkHid (HE2.out E HG2.out hz)
          clear HNo HOn HG HLn
          go_wp2_with fail
          refine HAs.mono ?_
          rintro e y3 ⟨⟨v3, rfl, hv3⟩, hb3⟩
          obtain ⟨va, vc, rfl, hi3⟩ := hv3
          have HB3 := mkHid (HBn.out _ hb3)
          clear HAs hb3 hi3
          go_wp2_with fail
          go_ret2
          refine ⟨⟨_, by rw [HEe.out.1]; rfl, by rw [HEe.out.2]; exact IsV.nil _⟩, ?_⟩
          rw [HN.out]
          exact HB3.out
      · have hlt' : ¬ (k : Int) < (rz.length : Int) := by omega
        have hkz : k = rz.length := by omega
        have HG2 : Hid (getGo t j rz [] = (0, acc)) := by unfold Hid; rw [HG.out, List.drop_of_length_le (by omega)]; rfl
        have hXl : (acc.take L).length = L := by rw [List.length_take, HAl.out]; have := HCv.out; rw [hkz]; omega
        have HXl := mkHid hXl
        have HE5 := HE3.out acc HG2.out
        have HE6 := HE4.out acc HG2.out
        generalize acc.take L = X at *
        obtain ⟨oa, oc, hoe, hoI⟩ := HO.out.isB
        rw [hXl] at hoe hoI
        subst hoe
        have HOI := mkHid hoI
        have d0 : wr.cell? ⟨N, 0, none⟩ = some (.int .i64 (L : Int)) := HK.out.cell 0
        have d1 : wr.cell? ⟨N, 1, none⟩ = some (.slice qa 32 qc) := HK.out.cell 1
        have HSh : ∀ W, Below wr.heap.size wr W → Calls Tryz.prog 48 #[.slice oa L oc] W fun e w' => (∃ va vc, e = .returned (.slice va 32 vc) ∧ IsB w' va 32 vc (sha256L X)) ∧ Below W.heap.size W w' := fun W hW => codSha12 oa L oc X W (HOI.out.below hW rfl) (by omega)
        obtain ⟨bq, hbq⟩ : ∃ bq : Bool, bq = eqB (sha256L X) rs := ⟨_, rfl⟩
        have HSe : ∀ W va vc, Below wr.heap.size wr W → IsB W va 32 vc (sha256L X) → Calls Tryz.prog 56 #[.slice va 32 vc, .slice qa 32 qc] W fun e w' => e = .returned (.bool bq) ∧ Below W.heap.size W w' := fun W va vc hW hI => by
          have hs := (HRr.out W (HBn.out W hW)).sum
          change IsB W qa rs.length qc rs at hs
          rw [HSm.out] at hs
          refine (digSame va 32 vc _ qa 32 qc rs W hI hs).mono ?_
          rintro e w' ⟨rfl, n, rfl⟩
          exact ⟨by rw [hbq], bel_drewN (Below.refl _ W) n⟩
        have HEq : Hid ((bq = true → gE = 0 ∧ gB = X) ∧ (bq = false → gE = 52 ∧ gB = [])) := by
          constructor
          · intro hb
            refine HE6 ?_
            have : (sha256L X == rs) = true := by rw [hb] at hbq; exact hbq.symm
            exact eq_of_beq this
          · intro hb
            refine HE5 (fun e => ?_)
            rw [hb, e, eqB_self] at hbq
            cases hbq
        have HKP : ∀ W, Below wr.heap.size wr W → Below wr.heap.size wr W ∧ W.cell? ⟨N, 0, none⟩ = some (.int .i64 (L : Int)) ∧ W.cell? ⟨N, 1, none⟩ = some (.slice qa 32 qc) := fun W hW => ⟨hW, (HK.out.on hW).cell 0, (HK.out.on hW).cell 1⟩
        have dd : decide ((L : Int) < (L : Int)) = false := decide_eq_false (by omega)
        have HOw := mkHid HO.out
        clear HE5 HE6 hbq HG HG2 HAl hoI HO hXl hkz
        generalize sha256L X = DX at *
        go_wp2_with fail
        go_region_held3 (fun w' => Below wr.heap.size wr w' ∧ w'.cell? ⟨N, 0, none⟩ = some (.int .i64 (L : Int)) ∧ w'.cell? ⟨N, 1, none⟩ = some (.slice qa 32 qc))
          (first | exact HKP _ ((Below.refl _ wr).drew) | assumption | (have hq0 := ‹Below _ _ _ ∧ _›; first | exact HKP _ (hq0.1.trans (hbS.mono hq0.1.size)) | exact HKP _ (hq0.1.trans (hbE.mono hq0.1.size))))
          (first
            | (go_at_call 48; have hq0 := ‹Below _ _ _ ∧ _›; refine (HSh _ hq0.1).mono ?_; rintro e w8 ⟨⟨va8, vc8, rfl, hi8⟩, hbS⟩; clear hq0)
            | (go_at_call 56; have hq0 := ‹Below _ _ _ ∧ _›; refine (HSe _ _ _ hq0.1 hi8).mono ?_; rintro e w9 ⟨rfl, hbE⟩; clear hq0))
        all_goals
          have hq9 := ‹Below _ _ _ ∧ _›
          have HB9 := mkHid (HBn.out _ hq9.1)
          have HI9 := mkHid (HOI.out.below hq9.1 rfl)
          cases bq
        all_goals
          go_wp2
          go_ret2
        · obtain ⟨e1, e2⟩ := HEq.out.2 (by trivial)
          refine ⟨⟨_, by rw [e1]; rfl, by rw [e2]; exact IsV.nil _⟩, ?_⟩
          rw [HN.out]
          exact HB9.out
        · obtain ⟨e1, e2⟩ := HEq.out.1 (by trivial)
          refine ⟨⟨.slice oa L oc, by rw [e1]; rfl, by rw [e2]; exact HI9.out.isV⟩, ?_⟩
          rw [HN.out]
          exact HB9.out
theorem codGet12 (w : World) (S J P base m : Nat) (t : Tl) (j : Jl) (r : Rf) (q : RfA) (h : SpAx w S J P base t j) (hf : Fit t j m) (hr : ∀ W, KS base w W → IsRf W r q) :
    Calls Tryz.prog 22 #[.func (.func 23) #[.pointer (some ⟨S, 0, none⟩)] #[], .agg (rfc r q).toArray] w fun e w' => (∃ v, e = .returned (.tuple #[v, .int .i64 (getE t j r)]) ∧ IsV w' v (getB t j r)) ∧ SpAx w' S J P base t j ∧ KS base w w' :=
  (codGetB w S J P base m t j r q h hf (fun W hW => hr W (KS.of_below hW (spcOK.lo h)))).mono fun _ _ ⟨h1, h2⟩ => ⟨h1, SpAx.keep h (KeepT.of_below h2), KS.of_below h2 (spcOK.lo h)⟩
end Go.Proofs.YthjdmfbengpepaaGreat
namespace Go.Proofs.YthjdmfbengpepaaGreat
open Go.RowKit

/-- a loop's records may be turned, from B on -/
structure Turn (B : Nat) (W W' : World) : Prop where
  b : Below B W W'
  same : ∀ (k : Nat) (o : Obj), W.heap[k]? = some o → isCtl o = false → W'.heap[k]? = some o
theorem Turn.of_below {B : Nat} {A A' : World} (h : Below A.heap.size A A') (hB : B ≤ A.heap.size) : Turn B A A' := ⟨h.mono hB, fun k _ hk _ => (h.5 k (Array.getElem?_eq_some_iff.1 hk).1).trans hk⟩
theorem Turn.put {B l : Nat} {W : World} {o : Obj} (o' : Obj) (hl : W.heap[l]? = some o) (hc : isCtl o = true) (hB : B ≤ l) : Turn B W (W.putObj l o') :=
  ⟨(Below.refl _ W).grown (grownBy_putObj' W l o') (Nat.le_trans hB (Nat.le_of_lt (Array.getElem?_eq_some_iff.1 hl).1)) (fun k e => by cases e; exact hB), fun k ob hk hn => by
    refine (World.putObj_heap_other ?_).trans hk
    rintro rfl
    have := Option.some.inj (hl.symm.trans hk)
    subst this
    rw [hc] at hn; cases hn⟩
/-- what such a function answers -/
def SeqN (n : Nat) (P : Program) (gf : Nat) (lb : Array Value) (enc : Nat → Array Value) (Kp : World → World → Prop) (N : Nat) (X : World → Prop) : Prop :=
  ∀ (l : Nat) (J Jx : Nat → World → Prop) (W : World), X W → (∀ k A B, J k A → Below A.heap.size A B → J k B) →
    (∀ k A, J k A → k < N → YieldAt Fence.wide (n - 1) P l (enc k) A fun e B =>
      (e = .returned (.bool true) ∧ J (k + 1) B ∧ Kp A B) ∨ (e = .returned (.bool false) ∧ Jx (k + 1) B)) → J 0 W →
    CallsIn Fence.wide n P gf (#[.func (.yield l) #[] #[]] ++ lb) W fun e B => (∃ v, e = .returned v) ∧ (J N B ∨ ∃ k, Jx k B)

theorem range_n {P : Program} {n : Nat} {g : Operand} {ps : Array Tmp} {assign body : Code} {Q : Exit → Act → World → Prop} {a : Act} {w : World} (h1 : 1 ≤ n) {gf : Nat} {lb : Array Value}
    (hg : a.eval g = .func (.func gf) #[] lb) (eg : ∀ args w, (callFunc gf args).run P w = .ok (.enter gf args) w) {enc : Nat → Array Value} {Kp : World → World → Prop} {N : Nat} {X : World → Prop}
    (hseq : SeqN (n - 1) P gf lb enc Kp N X) (hX : ∀ W, Below w.heap.size w W → X W)
    (hKt : ∀ A B C : World, Kp A B → Kp B C → Kp A C) (hKb : ∀ (W : World) (l : Nat) (o : Obj), w.heap.size ≤ l → Kp W (W.putObj l o)) (hps : ∀ k, (enc k).size = ps.size)
    (I Ix : Nat → World → Prop) (hI : ∀ k A B, I k A → Turn w.heap.size A B → I k B) (hIx : ∀ k A B, Ix k A → Turn w.heap.size A B → Ix k B) (h0 : I 0 w) (a₁ : Nat → Act)
    (hassign : ∀ (l : Nat) (k : Nat) (W : World) (K : Act → World → Prop), K (a₁ k) W →
      assign.wpIn (Fence.wide.inRound l) (n - 1 - 1) P (Exit.then K (fun _ _ _ => False)) { tmps := (ps.zip (enc k)).foldl (fun t (p, v) => t.setIfInBounds p v) a.tmps, defers := [] } W)
    (hbody : ∀ (l k : Nat) (W : World), I k W → k < N → body.wpIn (Fence.wide.inRound l) (n - 1 - 1) P
      (fun e _ B => (e = .normal ∧ KeepO [] W B ∧ Kp W B ∧ I (k + 1) B) ∨ (e = .ret ∧ KeepO [] W B ∧ Ix (k + 1) B)) (a₁ k) W)
    (hdone : ∀ (D : Nat) (W : World), w.heap.size ≤ D → I N W → W.heap[D]? = some (.deferred (some [])) → Q .normal { a with defers := { target := .collected D, args := #[] } :: a.defers } W)
    (hstop : ∀ (D k : Nat) (W : World), w.heap.size ≤ D → Ix k W → W.heap[D]? = some (.deferred (some [])) → Code.ret.wpIn Fence.wide n P Q { a with defers := { target := .collected D, args := #[] } :: a.defers } W) :
    (Code.rangeFunc g ps assign body).wpIn Fence.wide n P Q a w := by
  refine wpIn_rangeFunc fun fn hfn => ?_
  let rc : LoopState → Option Code → Loop := fun st pe => { state := st, pending := pe, fn, tmps := a.tmps, params := ps, assign, body, defers := w.heap.size }
  have hnew := run_enterLoop_outer (P := P) (w := w) fn a.tmps ps assign body
  change _ = Result.ok _ ((w.alloc (.deferred (some []))).alloc (.loop (rc .ready none))) at hnew
  have hB1 : Below w.heap.size w ((w.alloc (.deferred (some []))).alloc (.loop (rc .ready none))) := ((Below.refl _ w).alloc (Nat.le_refl _) _).alloc (by simp) _
  have hL1 : ((w.alloc (.deferred (some []))).alloc (.loop (rc .ready none))).heap[w.heap.size + 1]? = some (.loop (rc .ready none)) := by
    have := World.alloc_heap_new (w.alloc (.deferred (some []))) (.loop (rc .ready none))
    rwa [World.size_alloc] at this
  have hD1 : ((w.alloc (.deferred (some []))).alloc (.loop (rc .ready none))).heap[w.heap.size]? = some (.deferred (some [])) :=
    (Below.heap_alloc _ _ _ (by simp)).trans (World.alloc_heap_new w _)
  have hI1 : I 0 ((w.alloc (.deferred (some []))).alloc (.loop (rc .ready none))) := hI 0 _ _ h0 (Turn.of_below hB1 (Nat.le_refl _))
  generalize (w.alloc (.deferred (some []))).alloc (.loop (rc .ready none)) = W1 at *
  refine ⟨w.heap.size + 1, [{ target := .collected w.heap.size, args := #[] }], W1, { target := .fn (.func gf) lb, args := #[.func (.yield (w.heap.size + 1)) #[] #[]] }, W1, gf,
    #[.func (.yield (w.heap.size + 1)) #[] #[]] ++ lb, W1, hnew, ?_, ?_, ?_, fun _ => h1, ?_⟩
  · simp only [resolve, hg]; simp [go_sem]
  · intro f' _; trivial
  · simp [invoke, go_sem, eg]
  refine (hseq (w.heap.size + 1)
    (fun k W => I k W ∧ W.heap[w.heap.size + 1]? = some (.loop (rc .ready none)) ∧ W.heap[w.heap.size]? = some (.deferred (some [])))
    (fun k W => Ix k W ∧ W.heap[w.heap.size + 1]? = some (.loop (rc .done (some .ret))) ∧ W.heap[w.heap.size]? = some (.deferred (some [])))
    W1 (hX _ hB1) ?_ ?_ ⟨hI1, hL1, hD1⟩).mono ?_
  · rintro k A B ⟨hi, hl, hd⟩ hb
    exact ⟨hI k A B hi (Turn.of_below hb (Nat.le_of_lt (Array.getElem?_eq_some_iff.1 hd).1)), (hb.5 _ (Array.getElem?_eq_some_iff.1 hl).1).trans hl, (hb.5 _ (Array.getElem?_eq_some_iff.1 hd).1).trans hd⟩
  · rintro k A ⟨hi, hl, hd⟩ hlen
    have hlt : w.heap.size + 1 < A.heap.size := (Array.getElem?_eq_some_iff.1 hl).1
    refine ⟨fn, _, assign, body, run_yield (P := P) (args := enc k) hl (hps k), roundIn_of_wpIn hfn (hassign _ k A _ ⟨_, run_beginRound hl rfl, ?_⟩)⟩
    have hl2 : (A.putObj (w.heap.size + 1) (.loop (rc .busy none))).heap[w.heap.size + 1]? = some (.loop (rc .busy none)) := World.putObj_heap_same hlt
    have hd2 : (A.putObj (w.heap.size + 1) (.loop (rc .busy none))).heap[w.heap.size]? = some (.deferred (some [])) := (World.putObj_heap_other (by omega)).trans hd
    refine wpIn_mono (hbody _ k _ (hI k _ _ hi (Turn.put _ hl rfl (by omega))) hlen) ?_
    rintro e _ C (⟨rfl, hk, hkp, hi3⟩ | ⟨rfl, hk, hi3⟩)
    · have hl3 := hk.ctl _ _ hl2 rfl
      have hd3 := hk.ctl _ _ hd2 rfl
      exact ⟨_, _, run_endRound (P := P) none hl3, .inl ⟨rfl, ⟨hI _ _ _ hi3 (Turn.put _ hl3 rfl (by omega)), World.putObj_heap_same (Array.getElem?_eq_some_iff.1 hl3).1, (World.putObj_heap_other (by omega)).trans hd3⟩,
        hKt _ _ _ (hKt _ _ _ (hKb _ _ _ (by omega)) hkp) (hKb _ _ _ (by omega))⟩⟩
    · have hl3 := hk.ctl _ _ hl2 rfl
      have hd3 := hk.ctl _ _ hd2 rfl
      exact ⟨_, _, run_endRound (P := P) (some .ret) hl3, .inr ⟨rfl, hIx _ _ _ hi3 (Turn.put _ hl3 rfl (by omega)), World.putObj_heap_same (Array.getElem?_eq_some_iff.1 hl3).1, (World.putObj_heap_other (by omega)).trans hd3⟩⟩
  · rintro e B ⟨⟨v, rfl⟩, (⟨hi, hl, hd⟩ | ⟨k, hi, hl, hd⟩)⟩
    · exact ⟨none, _, run_endLoop (P := P) hl (by simp [rc]), hdone _ _ (Nat.le_refl _) (hI _ _ _ hi (Turn.put _ hl rfl (by omega))) ((World.putObj_heap_other (by omega)).trans hd)⟩
    · exact ⟨some .ret, _, run_endLoop (P := P) hl (by simp [rc]), hstop _ k _ (Nat.le_refl _) (hIx _ _ _ hi (Turn.put _ hl rfl (by omega))) ((World.putObj_heap_other (by omega)).trans hd)⟩
end Go.Proofs.YthjdmfbengpepaaGreat
namespace Go.Proofs.YthjdmfbengpepaaGreat
open Go.RowKit Go.Shelf
attribute [local go_sem] Oper.semAt_some

theorem slLHM (b off r cap m n : Nat) (hm : m < n) (hn : n ≤ cap) (w : World) : (Instr.slice 41 (.slice (some ⟨b, off, none⟩) r cap) (some (.int .i64 (m : Int))) (some (.int .i64 (n : Int))) (some (.int .i64 (n : Int)))).run Tryz.prog w = .ok (.slice (some ⟨b, off + m, none⟩) (n - m) (n - m)) w := by
  have he : Tryz.prog.elem 41 = 5 := by kernel_rfl
  have hz : (sizeOf 5).run Tryz.prog w = .ok 1 w := by
    obtain ⟨i0, hi, hz0, hz1, hz2⟩ := info_parts info8
    simp [sizeOf, typeInfo, hi, hz1]
  rw [run_slice_lhm w 41 _ r cap (by rw [he]; exact Tryz.underlying41) .i64 .i64 .i64 (m : Int) (n : Int) (n : Int) (by omega) (by omega) (by omega) (by omega), he, hz]
  simp only [Result.andThen, sliced, Int.toNat_natCast, Nat.mul_one, Option.map_some, Addr.add_lit]
  rw [if_neg (by omega)]
theorem IsB.mid {w : World} {b off len cap : Nat} {l : List UInt8} (h : IsB w (some ⟨b, off, none⟩) len cap l) (m e : Nat) (hm : m + e ≤ len) (he : 0 < e) : IsB w (some ⟨b, off + m, none⟩) e e ((l.drop m).take e) := by
  have hle := h.le
  have hmx := h.max
  refine ⟨by rw [List.length_take, List.length_drop, h.len_eq]; omega, Nat.le_refl _, by omega, fun e => (by cases e), fun hp => ?_⟩
  obtain ⟨b', off', e1, hc⟩ := h.cells (by omega)
  injection e1 with e1
  injection e1 with e1 e2
  subst e1 e2
  refine ⟨b, off + m, rfl, fun i hi => ?_⟩
  rw [show off + m + i = off + (m + i) by omega, hc (m + i) (by omega)]
  congr 3
  unfold nth; rw [List.getD_eq_getElem?_getD, List.getD_eq_getElem?_getD, List.getElem?_take, if_pos hi, List.getElem?_drop]
/-- the k-th chunk -/
def chN (len k : Nat) : Nat := min 512 (len - 512 * k)
def chE (ba : Option Addr) (len k : Nat) : Array Value := #[.slice (ba.map fun x => ⟨x.block, x.off + 512 * k, none⟩) (chN len k) (chN len k)]
/-- the closure's two variables -/
def VarC (Bs Bn : Nat) (ba : Option Addr) (len cap : Nat) (W : World) : Prop := Blk W Bs 41 [.slice ba len cap] ∧ Blk W Bn 3 [.int .i64 512]
def KpC (Bs Bn : Nat) (A B : World) : Prop := B.heap[Bs]? = A.heap[Bs]? ∧ B.heap[Bn]? = A.heap[Bn]?
theorem VarC.keep {Bs Bn : Nat} {ba : Option Addr} {len cap : Nat} {A B : World} (h : VarC Bs Bn ba len cap A) (hk : KpC Bs Bn A B) : VarC Bs Bn ba len cap B := ⟨hk.1.trans h.1, hk.2.trans h.2⟩
def needN (len : Nat) : Nat := (needL (len : Int)).toNat
theorem needN_lt (len k : Nat) : k < needN len ↔ 512 * k < len := by
  unfold needN needL
  split <;> omega
set_option maxHeartbeats 1000000 in
theorem codChunk (n : Nat) (ba : Option Addr) (len cap : Nat) (w : World) :
    CallsIn Fence.wide n Tryz.prog 49 #[.slice ba len cap, .int .i64 512] w fun e w' => e = .returned (.func (.func 100) #[] #[.pointer (some ⟨w.heap.size, 0, none⟩), .pointer (some ⟨w.heap.size + 1, 0, none⟩)]) ∧ w' = (w.alloc (.cells #[.slice ba len cap] 41)).alloc (.cells #[.int .i64 512] 3) := by
  refine callsIn_of_wp Tryz.func49 rfl trivial ?_ rfl
  simp only [Tryz.ntmps49, List.size_toArray, List.length_cons, List.length_nil, Nat.reduceAdd, Nat.reduceSub, Array.replicate_succ, Array.replicate_zero, List.push_toArray, List.append_toArray, List.nil_append, List.cons_append]
  gi_wp2
  go_ret
  exact ⟨rfl, rfl⟩
set_option maxRecDepth 100000 in
set_option maxHeartbeats 2000000 in
theorem seqChunk (n : Nat) (hn : 1 ≤ n) (Bs Bn : Nat) (ba : Option Addr) (len cap : Nat) (hba : 0 < len → ∃ b off, ba = some ⟨b, off, none⟩) (hcap : len ≤ cap) (hl : len ≤ 100000) :
    SeqN n Tryz.prog 100 #[.pointer (some ⟨Bs, 0, none⟩), .pointer (some ⟨Bn, 0, none⟩)] (chE ba len) (KpC Bs Bn) (needN len) (VarC Bs Bn ba len cap) := by
  intro l0 J Jx W hV hJb hY h0
  have HJb : Hid (∀ k A B, J k A → Below A.heap.size A B → J k B) := hJb
  have HY : Hid (∀ k A, J k A → k < needN len → YieldAt Fence.wide (n - 1) Tryz.prog l0 (chE ba len k) A fun e B => (e = .returned (.bool true) ∧ J (k + 1) B ∧ KpC Bs Bn A B) ∨ (e = .returned (.bool false) ∧ Jx (k + 1) B)) := hY
  have HV : Hid (VarC Bs Bn ba len cap W) := hV
  have HJ0 : Hid (J 0 W) := h0
  clear hJb hY hV h0
  show CallsIn Fence.wide n Tryz.prog 100 #[.func (.yield l0) #[] #[], .pointer (some ⟨Bs, 0, none⟩), .pointer (some ⟨Bn, 0, none⟩)] W _
  refine callsIn_of_wp Tryz.func100 rfl trivial ?_ rfl
  simp only [Tryz.ntmps100, List.size_toArray, List.length_cons, List.length_nil, Nat.reduceAdd, Nat.reduceSub, Array.replicate_succ, Array.replicate_zero, List.push_toArray, List.append_toArray, List.nil_append, List.cons_append]
  gi_wp2
  gi_loopw [4] (fun i wr => ∃ k : Nat, k ≤ needN len ∧ i = .int .i64 ((512 * k : Nat) : Int) ∧ Hid (VarC Bs Bn ba len cap wr) ∧ Hid (J k wr)) (fun i _ => len + 512 - (Go.RowKit.intOf i).toNat)
  case atStart => exact ⟨0, Nat.zero_le _, rfl, HV, HJ0⟩
  case round =>
    clear HV HJ0
    obtain ⟨k, hk, rfl, HV, HJ⟩ := hrel
    have c1 : wr.cell? ⟨Bs, 0, none⟩ = some (.slice ba len cap) := HV.out.1.cell 0
    have c2 : wr.cell? ⟨Bn, 0, none⟩ = some (.int .i64 512) := HV.out.2.cell 0
    obtain ⟨i, hi⟩ : ∃ i : Nat, i = 512 * k := ⟨_, rfl⟩
    by_cases hlt : k < needN len
    · have hlt2 := (needN_lt len k).1 hlt
      have HX0 : Hid (∀ A, J k A → YieldAt Fence.wide (n - 1) Tryz.prog l0 (chE ba len k) A fun e B => (e = .returned (.bool true) ∧ J (k + 1) B ∧ KpC Bs Bn A B) ∨ (e = .returned (.bool false) ∧ Jx (k + 1) B)) := fun A hA => HY.out k A hA hlt
      obtain ⟨b, off, hbe⟩ := hba (by omega)
      subst hbe
      obtain ⟨e, he⟩ : ∃ e : Nat, e = chN len k := ⟨_, rfl⟩
      have he1 : e = min 512 (len - i) := by rw [he, hi]; rfl
      have hE : chE (some ⟨b, off, none⟩) len k = #[.slice (some ⟨b, off + i, none⟩) e e] := by unfold chE; rw [← he, hi]; rfl
      rw [hE] at HX0
      have HI2 : Hid (512 * (k + 1) = i + 512) := by unfold Hid; omega
      rw [← hi] at *
      have hlt3 : (i : Int) < (len : Int) := by omega
      have hsl1 := fun W => slB b off len cap i (by omega) W
      have hmn : min (512 : Int) ((len - i : Nat) : Int) = (e : Int) := by omega
      have hsl2 := fun W => slLHM b off len cap i (i + e) (by omega) (by omega) W
      rw [show i + e - i = e by omega, show ((i + e : Nat) : Int) = (i : Int) + (e : Int) by omega] at hsl2
      have hin : i + e ≤ len := by omega
      have Hlt := mkHid hlt
      clear hE he he1 HY hlt2 hlt hi
      gi_wp2
      gi_quiet (fail)
      have HX := HX0.out (wr.drewN nq) (HJb.out _ _ _ HJ.out (bel_drewN (Below.refl _ wr) nq))
      have HVs : Hid (∀ B, KpC Bs Bn (wr.drewN nq) B → VarC Bs Bn (some ⟨b, off, none⟩) len cap B) := fun B hB => VarC.keep (A := wr.drewN nq) HV.out hB
      have c3 : (wr.drewN nq).cell? ⟨Bs, 0, none⟩ = some (.slice (some ⟨b, off, none⟩) len cap) := c1
      obtain ⟨fn, tmps, assign, body, hy, hR⟩ := HX
      clear HX0 HJb HJ HV
      gi_wp2
      refine hR.mono ?_
      rintro e W3 (⟨rfl, hJ3, hk3⟩ | ⟨rfl, hJx3⟩)
      · have HV3 := mkHid (HVs.out W3 hk3)
        have d2 : W3.cell? ⟨Bn, 0, none⟩ = some (.int .i64 512) := HV3.out.2.cell 0
        have HJ3 := mkHid hJ3
        clear c1 c2 c3 HVs hJ3 hk3
        gi_wp2
        go_roundw
        case rel => exact ⟨k + 1, Hlt.out, by rw [HI2.out]; go_num, HV3, HJ3⟩
        case measure => simp [Go.RowKit.intOf]; omega
      · gi_wp2
        refine bodyPost_ret (results_none rfl _ _ _) rfl ?_
        exact ⟨⟨_, rfl⟩, .inr ⟨k + 1, hJx3⟩⟩
    · have hge : ¬ ((512 * k : Nat) : Int) < (len : Int) := fun h => hlt ((needN_lt len k).2 (by omega))
      have HJN : Hid (J (needN len) wr) := by
        have : k = needN len := by omega
        unfold Hid; rw [← this]; exact HJ.out
      rw [← hi] at *
      clear hlt hi HJ HV
      gi_wp2
      go_end0
      exact ⟨⟨_, rfl⟩, .inl HJN.out⟩
end Go.Proofs.YthjdmfbengpepaaGreat
