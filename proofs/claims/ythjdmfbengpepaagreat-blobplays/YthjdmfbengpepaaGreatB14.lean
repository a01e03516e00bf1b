/- The document's head, sum and seal. · The document's steps: writes, then a flush. · The document's sum and seal. · The document's seal. · canon's reader: Bytes, Text, Bool, Left, Done. -/
import Derived.Test.YthjdmfbengpepaaGreatB11
import Derived.Test.YthjdmfbengpepaaGreatRefSha
import Derived.Test.YthjdmfbengpepaaGreatB4
import Derived.Test.YthjdmfbengpepaaGreatB6
namespace Go.Proofs.YthjdmfbengpepaaGreat
open Go.RowKit

theorem map_getD (l : List Wg) (k : Nat) : (l.map plW).getD k (0, []) = plW (nthG l k) := by
  unfold nthG
  rw [List.getD_eq_getElem?_getD, List.getD_eq_getElem?_getD, List.getElem?_map]
  cases l[k]? <;> rfl
/-- writes as they lie in a world -/
structure GsAt (w : World) (base : Nat) (v : Value) (l : List Wg) : Prop where
  own : OwnG 88 w base v l
  bys : Bys w base l
theorem GsAt.on {w w' : World} {base : Nat} {v : Value} {l : List Wg} (h : GsAt w base v l) (hb : Below w.heap.size w w') : GsAt w' base v l := ⟨h.own.on hb, h.bys.keep (ts := []) (KeepT.of_below hb) (by simp)⟩

theorem refUintV (v : Value) (l : List UInt8) (n : Nat) (w : World) (h : IsV w v l) (hl : l.length ≤ 140737488351232) :
    Calls Tryz.prog 71 #[v, .int .u64 (n : Int)] w fun e w' => ∃ v', e = .returned v' ∧ OwnB w' w.heap.size v' (uintL l n) ∧ Below w.heap.size w w' := by
  obtain ⟨a, cap, rfl, hi⟩ := h
  exact refUint a l.length cap l n w hi hl
theorem refListV (v : Value) (l : List UInt8) (n : Int) (w : World) (h : IsV w v l) (hl : l.length ≤ 140737488351232) :
    Calls Tryz.prog 73 #[v, .int .i64 n] w fun e w' => ∃ v', e = .returned v' ∧ OwnB w' w.heap.size v' (listL l n) ∧ Below w.heap.size w w' := by
  obtain ⟨a, cap, rfl, hi⟩ := h
  exact refList a l.length cap l n w hi hl
theorem refBytesV (v v2 : Value) (l b : List UInt8) (w : World) (h : IsV w v l) (h2 : IsV w v2 b) (hl : l.length ≤ 1099511627776) (hb : b.length ≤ 1099511627776) :
    Calls Tryz.prog 72 #[v, v2] w fun e w' => ∃ v', e = .returned v' ∧ OwnB w' w.heap.size v' (bytesL l b) ∧ Below w.heap.size w w' := by
  obtain ⟨a, cap, rfl, hi⟩ := h
  obtain ⟨a2, cap2, rfl, hi2⟩ := h2
  exact refBytes2 a l.length cap l a2 b.length cap2 b w hi hi2 hl hb
theorem refShaV (v : Value) (l : List UInt8) (w : World) (h : IsV w v l) (hl : l.length < 4294967296) :
    Calls Tryz.prog 52 #[v] w fun e w' => ∃ v', e = .returned v' ∧ OwnB w' w.heap.size v' (sha256L l) ∧ Below w.heap.size w w' := by
  obtain ⟨a, cap, rfl, hi⟩ := h
  exact refSha256 a l.length cap l w hi hl

set_option maxRecDepth 20000 in
set_option maxHeartbeats 2000000 in
theorem refHead10 (seq : Nat) (v : Value) (l : List Wg) (base : Nat) (w : World) (h : GsAt w base v l) (hl : l.length ≤ 1000) (ha : ∀ g ∈ l, g.at_ ≤ 1000000) :
    Calls Tryz.prog 130 #[.int .u64 (seq : Int), v] w fun e w' => ∃ v', e = .returned v' ∧ OwnB w' w.heap.size v' (headJ seq (l.map plW)) ∧ Below w.heap.size w w' := by
  obtain ⟨a, cap, rfl, hle, hmx, hnl, hcs⟩ := h.own.form
  have HCs : Hid (0 < l.length → ∃ g, a = some ⟨g, 0, none⟩ ∧ base ≤ g ∧ g < w.heap.size ∧ ∀ i, i < l.length → w.cell? ⟨g, i * 2, none⟩ = some (.int .i64 ((nthG l i).at_ : Int)) ∧ w.cell? ⟨g, i * 2 + 1, none⟩ = some (.slice (nthG l i).ad (nthG l i).b.length (nthG l i).cap)) := hcs
  have HA := mkHid ha
  have HZ : ∀ W, Calls Tryz.prog 154 #[.slice none 0 0, .string ⟨#[115, 116, 101, 108, 101]⟩] W fun e w' => ∃ v, e = .returned v ∧ OwnB w' W.heap.size v (textL [] steleB) ∧ Below W.heap.size W w' := fun W => refText none 0 0 [] ⟨#[115, 116, 101, 108, 101]⟩ W (isB_none W) (by omega) (by decide)
  have HT0 : Hid ((textL [] steleB).length = 10) := by unfold Hid textL behL; simp [beL_length, steleB]
  obtain ⟨n, hn⟩ : ∃ n, n = l.length := ⟨_, rfl⟩
  have HN := mkHid hn
  rw [← hn] at hl hle ⊢
  have HL : Hid (headJ seq (l.map plW) = headTo seq (l.map plW) n) := by unfold Hid headJ; rw [List.length_map, ← hn]
  have HM : Hid ((l.map plW).length = n) := by unfold Hid; rw [List.length_map, ← hn]
  have H0 : Hid (headTo seq (l.map plW) 0 = listL (uintL (textL [] steleB) seq) (n : Int)) := by unfold Hid; rw [headTo_zero, HM.out]
  clear hcs h ha hn hmx hnl hle
  generalize textL [] steleB = t0 at *
  go_enter Tryz.func130, Tryz.ntmps130
  go_wp2_with fail
  refine (HZ w).mono ?_
  rintro e w1 ⟨v1, rfl, ho1, hb1⟩
  have HB1 := mkHid hb1
  have HI1 := mkHid ho1.isV
  clear ho1 hb1 HZ
  go_wp2_with fail
  refine (refUintV v1 t0 seq w1 HI1.out (by rw [HT0.out]; omega)).mono ?_
  rintro e w2 ⟨v2, rfl, ho2, hb2⟩
  have HB2 : Hid (Below w.heap.size w w2) := HB1.out.trans (hb2.mono HB1.out.size)
  have HI2 := mkHid ho2.isV
  clear ho2 hb2 HB1 HI1
  go_wp2_with fail
  refine (refListV v2 _ (n : Int) w2 HI2.out (by rw [uintL_length, HT0.out]; omega)).mono ?_
  rintro e w3 ⟨v3, rfl, ho3, hb3⟩
  have HB3 : Hid (Below w.heap.size w w3) := HB2.out.trans (hb3.mono HB2.out.size)
  have HI3 : Hid (OwnB w3 w.heap.size v3 (headTo seq (l.map plW) 0)) := by unfold Hid; rw [H0.out]; exact ho3.base HB2.out.size
  clear ho3 hb3 HB2 HI2
  go_wp2_with fail
  go_loopw [5, 6] (fun v i wr => ∃ k : Nat, k ≤ n ∧ i = .int .i64 (k : Int) ∧ Hid (OwnB wr w.heap.size v (headTo seq (l.map plW) k)) ∧ Hid (Below w.heap.size w wr)) (fun _ i _ => n - (intOf i).toNat)
  case atStart => exact ⟨0, Nat.zero_le _, rfl, HI3, HB3⟩
  case round =>
    obtain ⟨k, hk, rfl, HO, HB⟩ := hrel
    by_cases hlt : k < n
    · obtain ⟨g, rfl, hg1, hg2, hc⟩ := HCs.out (by rw [← HN.out]; omega)
      have HkL : Hid (k < l.length) := by unfold Hid; rw [← HN.out]; exact hlt
      have c0 := (HB.out.cell (p := ⟨g, k * 2, none⟩) hg2).trans (hc k HkL.out).1
      have hlt' : (k : Int) < (n : Int) := by omega
      have hk0 : (0 : Int) ≤ (k : Int) := by omega
      have HSu : Hid (headTo seq (l.map plW) (k + 1) = uintL (headTo seq (l.map plW) k) (nthG l k).at_) := by
        have := headTo_succ seq (l.map plW) k (by rw [HM.out]; exact hlt)
        unfold Hid; rw [this, map_getD]; rfl
      have HLe : Hid ((headTo seq (l.map plW) k).length ≤ 140737488351232) := by unfold Hid; rw [headTo_length _ _ _ (by rw [HM.out]; exact hk)]; omega
      have hat := HA.out (nthG l k) (by rw [nthG_eq l k HkL.out]; exact List.getElem_mem HkL.out)
      have hw : IntKind.u64.wrap ((nthG l k).at_ : Int) = ((nthG l k).at_ : Int) := wrap64_nat _ (by omega)
      clear hc
      generalize (nthG l k).at_ = ak at *
      generalize headTo seq (l.map plW) k = hk1 at *
      go_wp2_with fail
      refine (refUintV u5 hk1 ak wr HO.out.isV HLe.out).mono ?_
      rintro e w4 ⟨v4, rfl, ho4, hb4⟩
      have HB4 : Hid (Below w.heap.size w w4) := HB.out.trans (hb4.mono HB.out.size)
      have HI4 : Hid (OwnB w4 w.heap.size v4 (headTo seq (l.map plW) (k + 1))) := by unfold Hid; rw [HSu.out]; exact ho4.base HB.out.size
      clear ho4 hb4 HO HB
      go_wp2_with fail
      go_roundw
      case rel => exact ⟨k + 1, by omega, by go_num, HI4, HB4⟩
      case measure => simp [intOf]; omega
    · have hge : ¬ (k : Int) < (n : Int) := by omega
      have hkn : k = n := by omega
      subst hkn
      go_wp2_with fail
      go_ret
      exact ⟨_, rfl, by rw [HL.out]; exact HO.out, HB.out⟩
end Go.Proofs.YthjdmfbengpepaaGreat
namespace Go.Proofs.YthjdmfbengpepaaGreat
open Go.RowKit

theorem drop_cons (l : Qs) (k : Nat) (h : k < l.length) : l.drop k = l.getD k (0, []) :: l.drop (k + 1) := by
  rw [List.getD_eq_getElem?_getD, List.getElem?_eq_getElem h, List.drop_eq_getElem_cons h]; rfl
theorem GsAt.keepX {X : Nat → Prop} {w w' : World} {base : Nat} {v : Value} {l : List Wg} (h : GsAt w base v l) (hx : ∀ k, v.ownBlock = some k → X k) (hT : KeepT RD w w') (hB : KeepB X w w') : GsAt w' base v l := by
  refine ⟨⟨h.own.1, ?_⟩, h.bys.keep hT (by decide)⟩
  rcases h.own.2 with h2 | ⟨g, cap, cur, h3, h4, h5, h6⟩
  · exact .inl h2
  · exact .inr ⟨g, cap, cur, h3, h4, (hB.x g (hx g (by rw [h3]; rfl)) (Array.getElem?_eq_some_iff.1 h5).1).trans h5, h6⟩
theorem GsAt.cells {w : World} {base : Nat} {a : Option Addr} {len cap : Nat} {l : List Wg} (h : GsAt w base (.slice a len cap) l) (k : Nat) (hk : k < l.length) :
    ∃ g, a = some ⟨g, 0, none⟩ ∧ w.cell? ⟨g, k * 2, none⟩ = some (.int .i64 ((nthG l k).at_ : Int)) ∧ w.cell? ⟨g, k * 2 + 1, none⟩ = some (.slice (nthG l k).ad 512 (nthG l k).cap) ∧ (nthG l k).b.length = 512 ∧ IsB w (nthG l k).ad 512 (nthG l k).cap (nthG l k).b := by
  obtain ⟨a', cap', e, _, _, _, hcs⟩ := h.own.form
  injection e with e1 e2 e3
  subst e1 e3
  obtain ⟨g, rfl, _, _, hc⟩ := hcs (by omega)
  have hmem : nthG l k ∈ l := by rw [nthG_eq l k hk]; exact List.getElem_mem hk
  have hby := h.bys _ hmem
  obtain ⟨ab, cb, eb, hib⟩ := hby.2.isB
  simp only [Value.slice.injEq] at eb
  obtain ⟨rfl, _, rfl⟩ := eb
  refine ⟨g, rfl, (hc k hk).1, ?_, hby.1, ?_⟩
  · rw [(hc k hk).2, hby.1]
  · rw [hby.1] at hib; exact hib

end Go.Proofs.YthjdmfbengpepaaGreat
namespace Go.Proofs.YthjdmfbengpepaaGreat
open Go.RowKit

def sumTo (seq : Nat) (l : Qs) (k : Nat) : List UInt8 := (l.take k).foldl (fun b g => b ++ g.2) (headJ seq l)
theorem sumTo_succ (seq : Nat) (l : Qs) (k : Nat) (h : k < l.length) : sumTo seq l (k + 1) = sumTo seq l k ++ (l.getD k (0, [])).2 := by
  unfold sumTo; rw [takeQs l k h, List.foldl_append]; rfl
theorem sumTo_all (seq : Nat) (l : Qs) : sumJ seq l = sha256L (sumTo seq l l.length) := by unfold sumJ sumTo; rw [List.take_length]
theorem sumTo_length (seq : Nat) (l : Qs) (hb : ∀ g ∈ l, g.2.length = 512) (k : Nat) (hk : k ≤ l.length) : (sumTo seq l k).length = 24 + 9 * l.length + 512 * k := by
  induction k with
  | zero => show (headJ seq l).length = _; rw [headJ_length]; omega
  | succ k ih =>
    have hm : l.getD k (0, []) ∈ l := by rw [List.getD_eq_getElem?_getD, List.getElem?_eq_getElem (by omega)]; exact List.getElem_mem (by omega)
    rw [sumTo_succ _ _ _ (by omega), List.length_append, ih (by omega), hb _ hm]; omega

set_option maxRecDepth 20000 in
set_option maxHeartbeats 2000000 in
theorem refSum10 (seq : Nat) (v : Value) (l : List Wg) (base : Nat) (w : World) (h : GsAt w base v l) (hl : l.length ≤ 1000) (ha : ∀ g ∈ l, g.at_ ≤ 1000000) :
    Calls Tryz.prog 131 #[.int .u64 (seq : Int), v] w fun e w' => ∃ v', e = .returned v' ∧ OwnB w' w.heap.size v' (sumJ seq (l.map plW)) ∧ Below w.heap.size w w' := by
  have HHd := refHead10 seq v l base w h hl ha
  have HG := mkHid h
  obtain ⟨a, cap, hv, hle, hmx, hnl, hcs⟩ := h.own.form
  subst hv
  have HCs : Hid (0 < l.length → ∃ g, a = some ⟨g, 0, none⟩ ∧ base ≤ g ∧ g < w.heap.size ∧ ∀ i, i < l.length → w.cell? ⟨g, i * 2, none⟩ = some (.int .i64 ((nthG l i).at_ : Int)) ∧ w.cell? ⟨g, i * 2 + 1, none⟩ = some (.slice (nthG l i).ad (nthG l i).b.length (nthG l i).cap)) := hcs
  obtain ⟨n, hn⟩ : ∃ n, n = l.length := ⟨_, rfl⟩
  have HN := mkHid hn
  have HM : Hid ((l.map plW).length = n) := by unfold Hid; rw [List.length_map, ← hn]
  have HB5 : Hid (∀ g ∈ l.map plW, g.2.length = 512) := fun g hg => by
    obtain ⟨x, hx, rfl⟩ := List.mem_map.1 hg
    exact (HG.out.bys x hx).1
  rw [← hn] at hl hle HHd ⊢
  have HS : Hid (sumJ seq (l.map plW) = sha256L (sumTo seq (l.map plW) n)) := by unfold Hid; rw [sumTo_all, HM.out]
  have HS0 : Hid (headJ seq (l.map plW) = sumTo seq (l.map plW) 0) := rfl
  rw [HS0.out] at HHd
  clear hcs h ha hn hmx hnl hle HS0
  go_enter Tryz.func131, Tryz.ntmps131
  go_wp2_with fail
  refine HHd.mono ?_
  rintro e w1 ⟨v1, rfl, ho1, hb1⟩
  have HB1 := mkHid hb1
  have HI1 := mkHid ho1
  clear ho1 hb1 HHd
  go_wp2_with fail
  go_loopw [5, 6] (fun v i wr => ∃ k : Nat, k ≤ n ∧ i = .int .i64 (k : Int) ∧ Hid (OwnB wr w.heap.size v (sumTo seq (l.map plW) k)) ∧ Hid (Below w.heap.size w wr)) (fun _ i _ => n - (intOf i).toNat)
  case atStart => exact ⟨0, Nat.zero_le _, rfl, HI1, HB1⟩
  case round =>
    obtain ⟨k, hk, rfl, HO, HB⟩ := hrel
    have HLe : Hid ((sumTo seq (l.map plW) k).length = 24 + 9 * n + 512 * k) := by unfold Hid; rw [sumTo_length _ _ HB5.out _ (by rw [HM.out]; exact hk), HM.out]
    by_cases hlt : k < n
    · obtain ⟨g, rfl, hg1, hg2, hc⟩ := HCs.out (by rw [← HN.out]; omega)
      have HkL : Hid (k < l.length) := by unfold Hid; rw [← HN.out]; exact hlt
      have c0 := (HB.out.cell (p := ⟨g, k * 2 + 1, none⟩) hg2).trans (hc k HkL.out).2
      have hlt' : (k : Int) < (n : Int) := by omega
      have hk0 : (0 : Int) ≤ (k : Int) := by omega
      have HSu : Hid (sumTo seq (l.map plW) (k + 1) = sumTo seq (l.map plW) k ++ (nthG l k).b) := by
        have := sumTo_succ seq (l.map plW) k (by rw [HM.out]; exact hlt)
        unfold Hid; rw [this, map_getD]; rfl
      have hmem : nthG l k ∈ l := by rw [nthG_eq l k HkL.out]; exact List.getElem_mem HkL.out
      have hby := HG.out.bys _ hmem
      obtain ⟨ab, cb, eb, hib⟩ := hby.2.isB
      simp only [Value.slice.injEq] at eb
      obtain ⟨rfl, _, rfl⟩ := eb
      have HI : Hid (IsB wr (nthG l k).ad 512 (nthG l k).cap (nthG l k).b) := by rw [hby.1] at hib; exact hib.below HB.out rfl
      rw [hby.1] at c0
      clear hc hib hby hmem
      generalize (nthG l k).ad = ad at *
      generalize (nthG l k).cap = cb at *
      generalize (nthG l k).b = bb at *
      generalize sumTo seq (l.map plW) k = s1 at *
      have HOb := HO.out.blk
      go_wp2_with (at_builtin; refine list_appS _ rfl (.tmp 16) (.tmp 21) rfl w.heap.size u5 s1 rfl HO.out ad 512 cb bb rfl HI.out (by rw [HLe.out]; omega) HB.out.size ?_; intro v4 w4 ho4 hg4; have HB4 : Hid (Below w.heap.size w w4) := HB.out.grown hg4 HB.out.size (fun j hj => (HOb j hj).1); have HI4 : Hid (OwnB w4 w.heap.size v4 (sumTo seq (l.map plW) (k + 1))) := (by rw [HSu.out]; exact ho4); clear ho4 hg4)
      go_roundw
      case rel => exact ⟨k + 1, by omega, by go_num, HI4, HB4⟩
      case measure => simp [intOf]; omega
    · have hge : ¬ (k : Int) < (n : Int) := by omega
      have hkn : k = n := by omega
      subst hkn
      generalize sumTo seq (l.map plW) k = s1 at *
      go_wp2_with fail
      refine (refShaV u5 s1 wr HO.out.isV (by rw [HLe.out]; omega)).mono ?_
      rintro e w4 ⟨v4, rfl, ho4, hb4⟩
      have HB4 : Hid (Below w.heap.size w w4) := HB.out.trans (hb4.mono HB.out.size)
      have HI4 : Hid (OwnB w4 w.heap.size v4 (sha256L s1)) := ho4.base HB.out.size
      clear ho4 hb4
      go_wp2_with fail
      go_ret
      exact ⟨_, rfl, by rw [HS.out]; exact HI4.out, HB4.out⟩
end Go.Proofs.YthjdmfbengpepaaGreat
namespace Go.Proofs.YthjdmfbengpepaaGreat
open Go.RowKit

theorem preJ_length (seq : Nat) (l : Qs) : (preJ seq l).length = 61 + 9 * l.length := by
  unfold preJ bytesL behL sumJ
  rw [List.length_append, List.length_append, List.length_cons, beL_length, headJ_length, sha256L_length]; omega
theorem pad_succ (b : List UInt8) (k : Nat) : b ++ List.replicate (k + 1) 0 = (b ++ List.replicate k 0) ++ [0] := by
  rw [List.append_assoc]; congr 1; rw [List.replicate_succ']

set_option maxRecDepth 20000 in
set_option maxHeartbeats 2000000 in
theorem refSeal10 (seq : Nat) (v : Value) (l : List Wg) (base : Nat) (w : World) (h : GsAt w base v l) (hl : l.length ≤ 48) (ha : ∀ g ∈ l, g.at_ ≤ 1000000) :
    Calls Tryz.prog 88 #[.int .u64 (seq : Int), v] w fun e w' => ∃ v', e = .returned v' ∧ OwnB w' w.heap.size v' (sealJ seq (l.map plW)) ∧ Below w.heap.size w w' := by
  have HHd := refHead10 seq v l base w h (by omega) ha
  have HSm := fun W (hb : Below w.heap.size w W) => refSum10 seq v l base W (h.on hb) (by omega) ha
  have HP : Hid (preJ seq (l.map plW) = bytesL (headJ seq (l.map plW)) (sumJ seq (l.map plW))) := rfl
  have HPl : Hid ((preJ seq (l.map plW)).length ≤ 512) := by unfold Hid; rw [preJ_length, List.length_map]; omega
  have HHl : Hid ((headJ seq (l.map plW)).length ≤ 1099511627776) := by unfold Hid; rw [headJ_length, List.length_map]; omega
  have HSl : Hid ((sumJ seq (l.map plW)).length ≤ 1099511627776) := by unfold Hid sumJ; rw [sha256L_length]; omega
  have HF : Hid (sealJ seq (l.map plW) = preJ seq (l.map plW) ++ List.replicate (512 - (preJ seq (l.map plW)).length) 0) := rfl
  clear h ha
  generalize sealJ seq (l.map plW) = sj at *
  generalize headJ seq (l.map plW) = hj at *
  generalize sumJ seq (l.map plW) = mj at *
  generalize preJ seq (l.map plW) = pj at *
  go_enter Tryz.func88, Tryz.ntmps88
  go_wp2_with fail
  refine HHd.mono ?_
  rintro e w1 ⟨v1, rfl, ho1, hb1⟩
  have HB1 := mkHid hb1
  have HI1 := mkHid ho1.isV
  clear ho1 hb1 HHd
  go_wp2_with fail
  refine (HSm w1 HB1.out).mono ?_
  rintro e w2 ⟨v2, rfl, ho2, hb2⟩
  have HB2 : Hid (Below w.heap.size w w2) := HB1.out.trans (hb2.mono HB1.out.size)
  have HI2 := mkHid ho2.isV
  have HI12 := mkHid (HI1.out.below hb2 rfl)
  clear ho2 hb2 HB1 HI1 HSm
  go_wp2_with fail
  refine (refBytesV v1 v2 hj mj w2 HI12.out HI2.out HHl.out HSl.out).mono ?_
  rintro e w3 ⟨v3, rfl, ho3, hb3⟩
  have HB3 : Hid (Below w.heap.size w w3) := HB2.out.trans (hb3.mono HB2.out.size)
  have HI3 : Hid (OwnB w3 w.heap.size v3 (pj ++ List.replicate 0 0)) := by unfold Hid; rw [HP.out, List.replicate_zero, List.append_nil]; exact ho3.base HB2.out.size
  clear ho3 hb3 HB2 HI2 HI12 HP
  go_wp2_with fail
  go_loopw [5] (fun v wr => ∃ k : Nat, pj.length + k ≤ 512 ∧ Hid (OwnB wr w.heap.size v (pj ++ List.replicate k 0)) ∧ Hid (Below w.heap.size w wr)) (fun v _ => match v with | .slice _ n _ => 512 - n | _ => 0)
  case atStart => exact ⟨0, by have := HPl.out; omega, HI3, HB3⟩
  case round =>
    obtain ⟨k, hk, HO, HB⟩ := hrel
    obtain ⟨a5, c5, hv5, hi5⟩ := HO.out.isB
    have hlen : (pj ++ List.replicate k 0).length = pj.length + k := by rw [List.length_append, List.length_replicate]
    rw [hlen] at hv5
    subst hv5
    by_cases hlt : pj.length + k < 512
    · obtain ⟨m, hm⟩ : ∃ m, m = pj.length + k := ⟨_, rfl⟩
      rw [← hm] at HO hlt ⊢
      have HM := mkHid hm
      have hlt' : (m : Int) < 512 := by omega
      have HOb := HO.out.blk
      have HSu : Hid (pj ++ List.replicate (k + 1) 0 = (pj ++ List.replicate k 0) ++ [0]) := pad_succ pj k
      have HLk : Hid ((pj ++ List.replicate k 0).length = m) := by unfold Hid; rw [hlen, ← hm]
      clear hi5 hlen hm
      generalize pj ++ List.replicate k 0 = q1 at *
      go_wp2_with (at_builtin; refine list_app1 _ rfl (.tmp 16) (.tmp 17) rfl w.heap.size _ q1 rfl (HO.out.alloc _) wr.heap.size 1 [0] rfl rfl (heap_alloc_new wr _) (by rw [HLk.out]; omega) (by rw [World.size_alloc]; have := HB.out.size; omega) ?_; intro v4 w4 ho4 hg4; have HB4 : Hid (Below w.heap.size w w4) := (HB.out.alloc HB.out.size _).grown hg4 (by rw [World.size_alloc]; have := HB.out.size; omega) (fun j hj => (HOb j hj).1); have HI4 : Hid (OwnB w4 w.heap.size v4 (pj ++ List.replicate (k + 1) 0)) := (by rw [HSu.out]; exact ho4); clear ho4 hg4)
      obtain ⟨a6, c6, hv6, _⟩ := HI4.out.isB
      have hl6 : (pj ++ List.replicate (k + 1) 0).length = m + 1 := by rw [List.length_append, List.length_replicate, HM.out]; omega
      rw [hl6] at hv6
      subst hv6
      go_roundw
      case rel => exact ⟨k + 1, by have := HM.out; omega, HI4, HB4⟩
      case measure => simp; omega
    · obtain ⟨m, hm⟩ : ∃ m, m = pj.length + k := ⟨_, rfl⟩
      have hge : ¬ ((m : Nat) : Int) < 512 := by omega
      have HE : Hid (pj ++ List.replicate k 0 = sj) := by unfold Hid; rw [HF.out]; congr 2; omega
      rw [← hm]
      have HM := mkHid hm
      clear hm hi5 hlen
      go_wp2_with fail
      go_ret
      exact ⟨_, rfl, by rw [← HE.out, HM.out]; exact HO.out, HB.out⟩
end Go.Proofs.YthjdmfbengpepaaGreat
namespace Go.Proofs.YthjdmfbengpepaaGreat
open Go.RowKit
attribute [local go_sem ↓] Go.wp_at_zero Go.wp_at_succ slo1

theorem rdSome_ok {mark : UInt8} {l : List UInt8} {br : Bool} (h : okB l br mark = true) : rdSome mark l br = ((l.drop 5).take (numTo l 4), l.drop (5 + numTo l 4), false) := by unfold rdSome; rw [h]; rfl
theorem rdSome_no {mark : UInt8} {l : List UInt8} {br : Bool} (h : okB l br mark = false) : rdSome mark l br = ([], l, true) := by unfold rdSome; rw [h]; rfl

set_option maxRecDepth 20000 in
set_option maxHeartbeats 1000000 in
theorem cBytes (B : Nat) (l : List UInt8) (br : Bool) (w : World) (h : IsR w B l br) :
    Calls Tryz.prog 61 #[.pointer (some ⟨B, 0, none⟩)] w fun e w' => ∃ v, e = .returned v ∧ OwnB w' w.heap.size v (rdSome 98 l br).1 ∧ IsR w' B (rdSome 98 l br).2.1 (rdSome 98 l br).2.2 ∧ w.grownBy w' (some B) := by
  have H : Hid (IsR w B l br) := h
  clear h
  cases hok : okB l br 98
  · have HO : Hid (okB l br 98 = false) := hok
    rw [rdSome_no hok]
    clear hok
    go_enter Tryz.func61, Tryz.ntmps61
    go_wp2_with fail
    refine (cbodyNo B l br 98 w H.out (by decide) HO.out).mono ?_
    rintro e w1 ⟨rfl, hr, hg⟩
    go_wp2_with fail
    refine (cClone none 0 0 [] w1 (isB_none w1) (by omega)).mono ?_
    rintro e w2 ⟨v, rfl, ho, hb⟩
    go_wp2_with fail
    go_ret
    exact ⟨_, rfl, ho.base hg.size, hr.on hb, gr_trans hg (gr_bel hb rfl _)⟩
  · have HO : Hid (okB l br 98 = true) := hok
    rw [rdSome_ok hok]
    clear hok
    have hnum := numTo_lt4 l
    go_enter Tryz.func61, Tryz.ntmps61
    go_wp2_with fail
    refine (cbodyOk B l br 98 w H.out HO.out).mono ?_
    rintro e w1 ⟨b, off, cap, rfl, hne, hi, hr, hg⟩
    have HI : Hid (IsB w1 (some ⟨b, off, none⟩) (numTo l 4) cap ((l.drop 5).take (numTo l 4))) := hi
    clear hi
    go_wp2_with fail
    refine (cClone _ _ _ _ w1 HI.out (by omega)).mono ?_
    rintro e w2 ⟨v, rfl, ho, hb⟩
    go_wp2_with fail
    go_ret
    exact ⟨_, rfl, ho.base hg.size, hr.on hb, gr_trans hg (gr_bel hb rfl _)⟩

set_option maxRecDepth 20000 in
set_option maxHeartbeats 1000000 in
theorem cText (B : Nat) (l : List UInt8) (br : Bool) (w : World) (h : IsR w B l br) :
    Calls Tryz.prog 123 #[.pointer (some ⟨B, 0, none⟩)] w fun e w' => e = .returned (.string ⟨(rdSome 115 l br).1.toArray⟩) ∧ IsR w' B (rdSome 115 l br).2.1 (rdSome 115 l br).2.2 ∧ w.grownBy w' (some B) := by
  have H : Hid (IsR w B l br) := h
  clear h
  cases hok : okB l br 115
  · have HO : Hid (okB l br 115 = false) := hok
    rw [rdSome_no hok]
    clear hok
    go_enter Tryz.func123, Tryz.ntmps123
    go_wp2_with fail
    refine (cbodyNo B l br 115 w H.out (by decide) HO.out).mono ?_
    rintro e w1 ⟨rfl, hr, hg⟩
    have hcv := conv_isB w1 none 0 0 [] (isB_none w1)
    go_wp2_with fail
    go_ret
    exact ⟨rfl, hr, hg⟩
  · have HO : Hid (okB l br 115 = true) := hok
    rw [rdSome_ok hok]
    clear hok
    have hnum := numTo_lt4 l
    go_enter Tryz.func123, Tryz.ntmps123
    go_wp2_with fail
    refine (cbodyOk B l br 115 w H.out HO.out).mono ?_
    rintro e w1 ⟨b, off, cap, rfl, hne, hi, hr, hg⟩
    have hcv := conv_isB w1 _ _ _ _ hi
    clear hi
    obtain ⟨t, ht⟩ : ∃ t, (l.drop 5).take (numTo l 4) = t := ⟨_, rfl⟩
    have HT : Hid ((l.drop 5).take (numTo l 4) = t) := ht
    rw [ht] at hcv
    clear ht
    have HR : Hid (IsR w1 B (l.drop (5 + numTo l 4)) false) := hr
    clear hr
    go_wp2_with fail
    go_ret
    exact ⟨by show _ = Ending.returned (.string ⟨((l.drop 5).take (numTo l 4)).toArray⟩); rw [HT.out]; rfl, HR.out, hg⟩

/-- whether it is done: OK (0), or ErrForm (4) -/
def doneN (l : List UInt8) (br : Bool) : Int := if br || decide (0 < l.length) then 4 else 0

set_option maxHeartbeats 1000000 in
theorem cDone (B : Nat) (l : List UInt8) (br : Bool) (w : World) (h : IsR w B l br) :
    Calls Tryz.prog 63 #[.pointer (some ⟨B, 0, none⟩)] w fun e w' => e = .returned (.int .i64 (doneN l br)) ∧ w' = w := by
  obtain ⟨a, cap, hb, hi, hne⟩ := h
  have c0 := hb.cell 0
  have c1 := hb.cell 1
  clear hb hi hne
  simp only [rcell, List.getElem?_cons_zero, List.getElem?_cons_succ] at c0 c1
  unfold doneN
  generalize l.length = n at *
  cases br
  · by_cases h0 : 0 < n
    · have e : (if (false || decide (0 < n)) = true then (4 : Int) else 0) = 4 := by simp [h0]
      have h0' : (0 : Int) < (n : Int) := by omega
      rw [e]
      clear e
      go_enter Tryz.func63, Tryz.ntmps63
      go_wp2_with fail
      refine (atLoad B false w c1).mono ?_
      rintro e w1 ⟨rfl, hw⟩
      rw [hw]; clear hw w1
      go_wp2_with fail
      go_ret
      exact ⟨rfl, rfl⟩
    · have e : (if (false || decide (0 < n)) = true then (4 : Int) else 0) = 0 := by simp [h0]
      have h0' : ¬ (0 : Int) < (n : Int) := by omega
      rw [e]
      clear e
      go_enter Tryz.func63, Tryz.ntmps63
      go_wp2_with fail
      refine (atLoad B false w c1).mono ?_
      rintro e w1 ⟨rfl, hw⟩
      rw [hw]; clear hw w1
      go_wp2_with fail
      go_ret
      exact ⟨rfl, rfl⟩
  · have e : (if (true || decide (0 < n)) = true then (4 : Int) else 0) = 4 := by simp
    rw [e]
    clear e
    go_enter Tryz.func63, Tryz.ntmps63
    go_wp2_with fail
    refine (atLoad B true w c1).mono ?_
    rintro e w1 ⟨rfl, hw⟩
    rw [hw]; clear hw w1
    go_wp2_with fail
    go_ret
    exact ⟨rfl, rfl⟩
end Go.Proofs.YthjdmfbengpepaaGreat
