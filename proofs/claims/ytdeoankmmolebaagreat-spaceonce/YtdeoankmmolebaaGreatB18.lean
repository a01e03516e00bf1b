/- The document's sum and seal. · The document's seal. · canon's reader: Bytes, Text, Bool, Left, Done. · The document's reader: a block of three cells; number. · The document's reader: Uint, List, Bool. -/
import Derived.Test.YtdeoankmmolebaaGreatB17
import Derived.Test.YtdeoankmmolebaaGreatB8
namespace Go.Proofs.YtdeoankmmolebaaGreat
open Go.RowKit

def sumTo (seq : Nat) (l : Qs) (k : Nat) : List UInt8 := (l.take k).foldl (fun b g => b ++ g.2) (headJ seq l)
theorem sumTo_succ (seq : Nat) (l : Qs) (k : Nat) (h : k < l.length) : sumTo seq l (k + 1) = sumTo seq l k ++ (l.getD k (0, [])).2 := by
  unfold sumTo; rw [takeQs l k h, List.foldl_append]; rfl
theorem sumTo_all (seq : Nat) (l : Qs) : sumJ seq l = sha256L (sumTo seq l l.length) := by unfold sumJ sumTo; rw [List.take_length]
theorem sumTo_length (seq : Nat) (l : Qs) (hb : ∀ g ∈ l, g.2.length = 512) (k : Nat) (hk : k ≤ l.length) : (sumTo seq l k).length = 24 + 9 * l.length + 512 * k := by
  induction k with
  | zero => show (headJ seq l).length = _; rw [headJ_length]; omega
  | succ k ih =>
    have hm : l.getD k (0, []) ∈ l := by rw [List.getD_eq_getElem?_getD, List.getElem?_eq_getElem (by omega)]; exact List.getElem_mem (by omega)
    rw [sumTo_succ _ _ _ (by omega), List.length_append, ih (by omega), hb _ hm]; omega

set_option maxRecDepth 20000 in
set_option maxHeartbeats 2000000 in
theorem refSum10 (seq : Nat) (v : Value) (l : List Wg) (base : Nat) (w : World) (h : GsAt w base v l) (hl : l.length ≤ 1000) (ha : ∀ g ∈ l, g.at_ ≤ 1000000) :
    Calls Tryz.prog 110 #[.int .u64 (seq : Int), v] w fun e w' => ∃ v', e = .returned v' ∧ OwnB w' w.heap.size v' (sumJ seq (l.map plW)) ∧ Below w.heap.size w w' := by
  have HHd := refHead10 seq v l base w h hl ha
  have HG := mkHid h
  obtain ⟨a, cap, hv, hle, hmx, hnl, hcs⟩ := h.own.form
  subst hv
  have HCs : Hid (0 < l.length → ∃ g, a = some ⟨g, 0, none⟩ ∧ base ≤ g ∧ g < w.heap.size ∧ ∀ i, i < l.length → w.cell? ⟨g, i * 2, none⟩ = some (.int .i64 ((nthG l i).at_ : Int)) ∧ w.cell? ⟨g, i * 2 + 1, none⟩ = some (.slice (nthG l i).ad (nthG l i).b.length (nthG l i).cap)) := hcs
  obtain ⟨n, hn⟩ : ∃ n, n = l.length := ⟨_, rfl⟩
  have HN := mkHid hn
  have HM : Hid ((l.map plW).length = n) := by unfold Hid; rw [List.length_map, ← hn]
  have HB5 : Hid (∀ g ∈ l.map plW, g.2.length = 512) := fun g hg => by
    obtain ⟨x, hx, rfl⟩ := List.mem_map.1 hg
    exact (HG.out.bys x hx).1
  rw [← hn] at hl hle HHd ⊢
  have HS : Hid (sumJ seq (l.map plW) = sha256L (sumTo seq (l.map plW) n)) := by unfold Hid; rw [sumTo_all, HM.out]
  have HS0 : Hid (headJ seq (l.map plW) = sumTo seq (l.map plW) 0) := rfl
  rw [HS0.out] at HHd
  clear hcs h ha hn hmx hnl hle HS0
  go_enter Tryz.func110, Tryz.ntmps110
  go_wp2_with fail
  refine HHd.mono ?_
  rintro e w1 ⟨v1, rfl, ho1, hb1⟩
  have HB1 := mkHid hb1
  have HI1 := mkHid ho1
  clear ho1 hb1 HHd
  go_wp2_with fail
  go_loopw [5, 6] (fun v i wr => ∃ k : Nat, k ≤ n ∧ i = .int .i64 (k : Int) ∧ Hid (OwnB wr w.heap.size v (sumTo seq (l.map plW) k)) ∧ Hid (Below w.heap.size w wr)) (fun _ i _ => n - (intOf i).toNat)
  case atStart => exact ⟨0, Nat.zero_le _, rfl, HI1, HB1⟩
  case round =>
    obtain ⟨k, hk, rfl, HO, HB⟩ := hrel
    have HLe : Hid ((sumTo seq (l.map plW) k).length = 24 + 9 * n + 512 * k) := by unfold Hid; rw [sumTo_length _ _ HB5.out _ (by rw [HM.out]; exact hk), HM.out]
    by_cases hlt : k < n
    · obtain ⟨g, rfl, hg1, hg2, hc⟩ := HCs.out (by rw [← HN.out]; omega)
      have HkL : Hid (k < l.length) := by unfold Hid; rw [← HN.out]; exact hlt
      have c0 := (HB.out.cell (p := ⟨g, k * 2 + 1, none⟩) hg2).trans (hc k HkL.out).2
      have hlt' : (k : Int) < (n : Int) := by omega
      have hk0 : (0 : Int) ≤ (k : Int) := by omega
      have HSu : Hid (sumTo seq (l.map plW) (k + 1) = sumTo seq (l.map plW) k ++ (nthG l k).b) := by
        have := sumTo_succ seq (l.map plW) k (by rw [HM.out]; exact hlt)
        unfold Hid; rw [this, map_getD]; rfl
      have hmem : nthG l k ∈ l := by rw [nthG_eq l k HkL.out]; exact List.getElem_mem HkL.out
      have hby := HG.out.bys _ hmem
      obtain ⟨ab, cb, eb, hib⟩ := hby.2.isB
      simp only [Value.slice.injEq] at eb
      obtain ⟨rfl, _, rfl⟩ := eb
      have HI : Hid (IsB wr (nthG l k).ad 512 (nthG l k).cap (nthG l k).b) := by rw [hby.1] at hib; exact hib.below HB.out rfl
      rw [hby.1] at c0
      clear hc hib hby hmem
      generalize (nthG l k).ad = ad at *
      generalize (nthG l k).cap = cb at *
      generalize (nthG l k).b = bb at *
      generalize sumTo seq (l.map plW) k = s1 at *
      have HOb := HO.out.blk
      go_wp2_with (at_builtin; refine list_appS _ rfl (.tmp 16) (.tmp 21) rfl w.heap.size u5 s1 rfl HO.out ad 512 cb bb rfl HI.out (by rw [HLe.out]; omega) HB.out.size ?_; intro v4 w4 ho4 hg4; have HB4 : Hid (Below w.heap.size w w4) := HB.out.grown hg4 HB.out.size (fun j hj => (HOb j hj).1); have HI4 : Hid (OwnB w4 w.heap.size v4 (sumTo seq (l.map plW) (k + 1))) := (by rw [HSu.out]; exact ho4); clear ho4 hg4)
      go_roundw
      case rel => exact ⟨k + 1, by omega, by go_num, HI4, HB4⟩
      case measure => simp [intOf]; omega
    · have hge : ¬ (k : Int) < (n : Int) := by omega
      have hkn : k = n := by omega
      subst hkn
      generalize sumTo seq (l.map plW) k = s1 at *
      go_wp2_with fail
      refine (refShaV u5 s1 wr HO.out.isV (by rw [HLe.out]; omega)).mono ?_
      rintro e w4 ⟨v4, rfl, ho4, hb4⟩
      have HB4 : Hid (Below w.heap.size w w4) := HB.out.trans (hb4.mono HB.out.size)
      have HI4 : Hid (OwnB w4 w.heap.size v4 (sha256L s1)) := ho4.base HB.out.size
      clear ho4 hb4
      go_wp2_with fail
      go_ret
      exact ⟨_, rfl, by rw [HS.out]; exact HI4.out, HB4.out⟩
end Go.Proofs.YtdeoankmmolebaaGreat
namespace Go.Proofs.YtdeoankmmolebaaGreat
open Go.RowKit

theorem preJ_length (seq : Nat) (l : Qs) : (preJ seq l).length = 61 + 9 * l.length := by
  unfold preJ bytesL behL sumJ
  rw [List.length_append, List.length_append, List.length_cons, beL_length, headJ_length, sha256L_length]; omega
theorem pad_succ (b : List UInt8) (k : Nat) : b ++ List.replicate (k + 1) 0 = (b ++ List.replicate k 0) ++ [0] := by
  rw [List.append_assoc]; congr 1; rw [List.replicate_succ']

set_option maxRecDepth 20000 in
set_option maxHeartbeats 2000000 in
theorem refSeal10 (seq : Nat) (v : Value) (l : List Wg) (base : Nat) (w : World) (h : GsAt w base v l) (hl : l.length ≤ 48) (ha : ∀ g ∈ l, g.at_ ≤ 1000000) :
    Calls Tryz.prog 78 #[.int .u64 (seq : Int), v] w fun e w' => ∃ v', e = .returned v' ∧ OwnB w' w.heap.size v' (sealJ seq (l.map plW)) ∧ Below w.heap.size w w' := by
  have HHd := refHead10 seq v l base w h (by omega) ha
  have HSm := fun W (hb : Below w.heap.size w W) => refSum10 seq v l base W (h.on hb) (by omega) ha
  have HP : Hid (preJ seq (l.map plW) = bytesL (headJ seq (l.map plW)) (sumJ seq (l.map plW))) := rfl
  have HPl : Hid ((preJ seq (l.map plW)).length ≤ 512) := by unfold Hid; rw [preJ_length, List.length_map]; omega
  have HHl : Hid ((headJ seq (l.map plW)).length ≤ 1099511627776) := by unfold Hid; rw [headJ_length, List.length_map]; omega
  have HSl : Hid ((sumJ seq (l.map plW)).length ≤ 1099511627776) := by unfold Hid sumJ; rw [sha256L_length]; omega
  have HF : Hid (sealJ seq (l.map plW) = preJ seq (l.map plW) ++ List.replicate (512 - (preJ seq (l.map plW)).length) 0) := rfl
  clear h ha
  generalize sealJ seq (l.map plW) = sj at *
  generalize headJ seq (l.map plW) = hj at *
  generalize sumJ seq (l.map plW) = mj at *
  generalize preJ seq (l.map plW) = pj at *
  go_enter Tryz.func78, Tryz.ntmps78
  go_wp2_with fail
  refine HHd.mono ?_
  rintro e w1 ⟨v1, rfl, ho1, hb1⟩
  have HB1 := mkHid hb1
  have HI1 := mkHid ho1.isV
  clear ho1 hb1 HHd
  go_wp2_with fail
  refine (HSm w1 HB1.out).mono ?_
  rintro e w2 ⟨v2, rfl, ho2, hb2⟩
  have HB2 : Hid (Below w.heap.size w w2) := HB1.out.trans (hb2.mono HB1.out.size)
  have HI2 := mkHid ho2.isV
  have HI12 := mkHid (HI1.out.below hb2 rfl)
  clear ho2 hb2 HB1 HI1 HSm
  go_wp2_with fail
  refine (refBytesV v1 v2 hj mj w2 HI12.out HI2.out HHl.out HSl.out).mono ?_
  rintro e w3 ⟨v3, rfl, ho3, hb3⟩
  have HB3 : Hid (Below w.heap.size w w3) := HB2.out.trans (hb3.mono HB2.out.size)
  have HI3 : Hid (OwnB w3 w.heap.size v3 (pj ++ List.replicate 0 0)) := by unfold Hid; rw [HP.out, List.replicate_zero, List.append_nil]; exact ho3.base HB2.out.size
  clear ho3 hb3 HB2 HI2 HI12 HP
  go_wp2_with fail
  go_loopw [5] (fun v wr => ∃ k : Nat, pj.length + k ≤ 512 ∧ Hid (OwnB wr w.heap.size v (pj ++ List.replicate k 0)) ∧ Hid (Below w.heap.size w wr)) (fun v _ => match v with | .slice _ n _ => 512 - n | _ => 0)
  case atStart => exact ⟨0, by have := HPl.out; omega, HI3, HB3⟩
  case round =>
    obtain ⟨k, hk, HO, HB⟩ := hrel
    obtain ⟨a5, c5, hv5, hi5⟩ := HO.out.isB
    have hlen : (pj ++ List.replicate k 0).length = pj.length + k := by rw [List.length_append, List.length_replicate]
    rw [hlen] at hv5
    subst hv5
    by_cases hlt : pj.length + k < 512
    · obtain ⟨m, hm⟩ : ∃ m, m = pj.length + k := ⟨_, rfl⟩
      rw [← hm] at HO hlt ⊢
      have HM := mkHid hm
      have hlt' : (m : Int) < 512 := by omega
      have HOb := HO.out.blk
      have HSu : Hid (pj ++ List.replicate (k + 1) 0 = (pj ++ List.replicate k 0) ++ [0]) := pad_succ pj k
      have HLk : Hid ((pj ++ List.replicate k 0).length = m) := by unfold Hid; rw [hlen, ← hm]
      clear hi5 hlen hm
      generalize pj ++ List.replicate k 0 = q1 at *
      go_wp2_with (at_builtin; refine list_app1 _ rfl (.tmp 16) (.tmp 17) rfl w.heap.size _ q1 rfl (HO.out.alloc _) wr.heap.size 1 [0] rfl rfl (heap_alloc_new wr _) (by rw [HLk.out]; omega) (by rw [World.size_alloc]; have := HB.out.size; omega) ?_; intro v4 w4 ho4 hg4; have HB4 : Hid (Below w.heap.size w w4) := (HB.out.alloc HB.out.size _).grown hg4 (by rw [World.size_alloc]; have := HB.out.size; omega) (fun j hj => (HOb j hj).1); have HI4 : Hid (OwnB w4 w.heap.size v4 (pj ++ List.replicate (k + 1) 0)) := (by rw [HSu.out]; exact ho4); clear ho4 hg4)
      obtain ⟨a6, c6, hv6, _⟩ := HI4.out.isB
      have hl6 : (pj ++ List.replicate (k + 1) 0).length = m + 1 := by rw [List.length_append, List.length_replicate, HM.out]; omega
      rw [hl6] at hv6
      subst hv6
      go_roundw
      case rel => exact ⟨k + 1, by have := HM.out; omega, HI4, HB4⟩
      case measure => simp; omega
    · obtain ⟨m, hm⟩ : ∃ m, m = pj.length + k := ⟨_, rfl⟩
      have hge : ¬ ((m : Nat) : Int) < 512 := by omega
      have HE : Hid (pj ++ List.replicate k 0 = sj) := by unfold Hid; rw [HF.out]; congr 2; omega
      rw [← hm]
      have HM := mkHid hm
      clear hm hi5 hlen
      go_wp2_with fail
      go_ret
      exact ⟨_, rfl, by rw [← HE.out, HM.out]; exact HO.out, HB.out⟩
end Go.Proofs.YtdeoankmmolebaaGreat
namespace Go.Proofs.YtdeoankmmolebaaGreat
open Go.RowKit
attribute [local go_sem ↓] Go.wp_at_zero Go.wp_at_succ slo1

theorem rdSome_ok {mark : UInt8} {l : List UInt8} {br : Bool} (h : okB l br mark = true) : rdSome mark l br = ((l.drop 5).take (numTo l 4), l.drop (5 + numTo l 4), false) := by unfold rdSome; rw [h]; rfl
theorem rdSome_no {mark : UInt8} {l : List UInt8} {br : Bool} (h : okB l br mark = false) : rdSome mark l br = ([], l, true) := by unfold rdSome; rw [h]; rfl

set_option maxRecDepth 20000 in
set_option maxHeartbeats 1000000 in
theorem cText (B : Nat) (l : List UInt8) (br : Bool) (w : World) (h : IsR w B l br) :
    Calls Tryz.prog 67 #[.pointer (some ⟨B, 0, none⟩)] w fun e w' => e = .returned (.string ⟨(rdSome 115 l br).1.toArray⟩) ∧ IsR w' B (rdSome 115 l br).2.1 (rdSome 115 l br).2.2 ∧ w.grownBy w' (some B) := by
  have H : Hid (IsR w B l br) := h
  clear h
  cases hok : okB l br 115
  · have HO : Hid (okB l br 115 = false) := hok
    rw [rdSome_no hok]
    clear hok
    go_enter Tryz.func67, Tryz.ntmps67
    go_wp2_with fail
    refine (cbodyNo B l br 115 w H.out (by decide) HO.out).mono ?_
    rintro e w1 ⟨rfl, hr, hg⟩
    have hcv := conv_isB w1 none 0 0 [] (isB_none w1)
    go_wp2_with fail
    go_ret
    exact ⟨rfl, hr, hg⟩
  · have HO : Hid (okB l br 115 = true) := hok
    rw [rdSome_ok hok]
    clear hok
    have hnum := numTo_lt4 l
    go_enter Tryz.func67, Tryz.ntmps67
    go_wp2_with fail
    refine (cbodyOk B l br 115 w H.out HO.out).mono ?_
    rintro e w1 ⟨b, off, cap, rfl, hne, hi, hr, hg⟩
    have hcv := conv_isB w1 _ _ _ _ hi
    clear hi
    obtain ⟨t, ht⟩ : ∃ t, (l.drop 5).take (numTo l 4) = t := ⟨_, rfl⟩
    have HT : Hid ((l.drop 5).take (numTo l 4) = t) := ht
    rw [ht] at hcv
    clear ht
    have HR : Hid (IsR w1 B (l.drop (5 + numTo l 4)) false) := hr
    clear hr
    go_wp2_with fail
    go_ret
    exact ⟨by show _ = Ending.returned (.string ⟨((l.drop 5).take (numTo l 4)).toArray⟩); rw [HT.out]; rfl, HR.out, hg⟩

/-- whether it is done: OK (0), or ErrForm (4) -/
def doneN (l : List UInt8) (br : Bool) : Int := if br || decide (0 < l.length) then 4 else 0

end Go.Proofs.YtdeoankmmolebaaGreat
namespace Go.Proofs.YtdeoankmmolebaaGreat
open Go.RowKit
attribute [local go_sem ↓] Go.wp_at_zero Go.wp_at_succ

/-- its cells -/
def xcell (a : Option Addr) (len cap k : Nat) (bad : Bool) : List Value := [.slice a len cap, .int .i64 (k : Int), .bool bad]

/-- the document's reader of the bytes l, at place k -/
def IsX (w : World) (X : Nat) (a : Option Addr) (len cap : Nat) (l : List UInt8) (k : Nat) (bad : Bool) : Prop :=
  Blk w X 125 (xcell a len cap k bad) ∧ IsB w a len cap l ∧ (0 < len → ∀ x, a = some x → x.block ≠ X) ∧ k ≤ len


/-- the reader turned: its place, its truth -/
theorem IsX.at {w : World} {X : Nat} {a : Option Addr} {len cap : Nat} {l : List UInt8} {k : Nat} {bad : Bool} (h : IsX w X a len cap l k bad) (k' : Nat) (hk : k' ≤ len) : IsX (w.setCell ⟨X, 1, none⟩ (.int .i64 (k' : Int))) X a len cap l k' bad :=
  ⟨h.1.set 1 _, h.2.1.setOther X 1 _ h.2.2.1, h.2.2.1, hk⟩
theorem IsX.bad {w : World} {X : Nat} {a : Option Addr} {len cap : Nat} {l : List UInt8} {k : Nat} {bad : Bool} (h : IsX w X a len cap l k bad) : IsX (w.setCell ⟨X, 2, none⟩ (.bool true)) X a len cap l k true :=
  ⟨h.1.set 2 _, h.2.1.setOther X 2 _ h.2.2.1, h.2.2.1, h.2.2.2⟩
theorem IsX.drewN {w : World} {X : Nat} {a : Option Addr} {len cap : Nat} {l : List UInt8} {k : Nat} {bad : Bool} (h : IsX w X a len cap l k bad) (n : Nat) : IsX (w.drewN n) X a len cap l k bad :=
  ⟨h.1.drewN n, h.2.1.drewN n, h.2.2.1, h.2.2.2⟩
theorem gr_drewN (w : World) (n : Nat) (o : Option Nat) : w.grownBy (w.drewN n) o := ⟨rfl, rfl, rfl, Nat.le_refl _, fun _ _ _ => rfl⟩

theorem okX_not {l : List UInt8} {k : Nat} {bad : Bool} {mark : UInt8} {size len : Nat} (hlen : l.length = len) (h : okH (l.drop k) bad mark size = false) : bad = true ∨ (bad = false ∧ len - k < size + 1) ∨ (bad = false ∧ size + 1 ≤ len - k ∧ nth l k ≠ mark) := by
  cases bad
  · refine .inr ?_
    by_cases h1 : len - k < size + 1
    · exact .inl ⟨rfl, h1⟩
    · refine .inr ⟨rfl, by omega, fun e => ?_⟩
      unfold okH at h
      rw [nth_drop, Nat.add_zero, e] at h
      simp [hlen] at h
      omega
  · exact .inl rfl

set_option maxRecDepth 20000 in
set_option maxHeartbeats 1000000 in
theorem xnumNo (X : Nat) (a : Option Addr) (len cap : Nat) (l : List UInt8) (k : Nat) (bad : Bool) (mark : UInt8) (size : Nat) (w : World) (h : IsX w X a len cap l k bad) (hs : size ≤ 8) (hno : okH (l.drop k) bad mark size = false) :
    Calls Tryz.prog 107 #[.pointer (some ⟨X, 0, none⟩), .int .u8 (mark.toNat : Int), .int .i64 (size : Int)] w fun e w' => e = .returned (.tuple #[.int .u64 0, .bool false]) ∧ IsX w' X a len cap l k true ∧ w.grownBy w' (some X) := by
  have H : Hid (IsX w X a len cap l k bad) := h
  obtain ⟨hb, hi, hne, hk⟩ := h
  have c0 := hb.cell 0
  have c1 := hb.cell 1
  have c2 := hb.cell 2
  have f2 := hb.frozen 2
  have hmx := hi.max
  have hle := hi.le
  unfold maxLen at hmx
  have HI : Hid (IsB w a len cap l) := hi
  simp only [xcell, List.getElem?_cons_zero, List.getElem?_cons_succ] at c0 c1 c2
  have hcase := okX_not hi.len_eq hno
  clear hb hi hne hno
  rcases hcase with rfl | ⟨rfl, h1⟩ | ⟨rfl, h1, h2⟩
  · go_enter Tryz.func107, Tryz.ntmps107
    go_wp2
    go_quiet (fail)
    go_wp2
    go_ret2
    exact ⟨rfl, (H.out.drewN _).bad, gr_trans (gr_drewN w _ _) (gr_set _ _ _ _)⟩
  · have h1' : (len : Int) - (k : Int) < (size : Int) + 1 := by omega
    go_enter Tryz.func107, Tryz.ntmps107
    go_wp2
    go_quiet (fail)
    go_wp2
    go_ret2
    exact ⟨rfl, (H.out.drewN _).bad, gr_trans (gr_drewN w _ _) (gr_set _ _ _ _)⟩
  · have h1' : decide ((len : Int) - (k : Int) < (size : Int) + 1) = false := decide_eq_false (by omega)
    have hq : (((nth l k).toNat : Int) != (mark.toNat : Int)) = true := by
      rw [bne_iff_ne]; intro h; exact h2 ((toNat8_inj _ _).1 h)
    obtain ⟨b, off, rfl, hc⟩ := HI.out.cells (by omega)
    have g := hc k (by omega)
    have hlt : (k : Int) < (len : Int) := by omega
    clear hc h2
    go_enter Tryz.func107, Tryz.ntmps107
    go_wp2
    go_quiet (fail)
    go_wp2
    go_ret2
    exact ⟨rfl, (H.out.drewN _).bad, gr_trans (gr_drewN w _ _) (gr_set _ _ _ _)⟩

theorem okX_of {l : List UInt8} {k : Nat} {bad : Bool} {mark : UInt8} {size len : Nat} (hlen : l.length = len) (h : okH (l.drop k) bad mark size = true) : bad = false ∧ 1 + size + k ≤ len ∧ nth l k = mark := by
  obtain ⟨h1, h2, h3⟩ := okH_of h
  rw [List.length_drop, hlen] at h2
  rw [nth_drop, Nat.add_zero] at h3
  exact ⟨h1, by omega, h3⟩

set_option maxRecDepth 20000 in
set_option maxHeartbeats 2000000 in
theorem xnumOk (X : Nat) (a : Option Addr) (len cap : Nat) (l : List UInt8) (k : Nat) (bad : Bool) (mark : UInt8) (size : Nat) (w : World) (h : IsX w X a len cap l k bad) (hs : size ≤ 8) (hok : okH (l.drop k) bad mark size = true) :
    Calls Tryz.prog 107 #[.pointer (some ⟨X, 0, none⟩), .int .u8 (mark.toNat : Int), .int .i64 (size : Int)] w fun e w' => e = .returned (.tuple #[.int .u64 (numTo (l.drop k) size : Int), .bool true]) ∧ ∃ n, w' = w.drewN n := by
  obtain ⟨hb, hi, hne, hk⟩ := h
  have c0 := hb.cell 0
  have c1 := hb.cell 1
  have c2 := hb.cell 2
  have hmx := hi.max
  have hle := hi.le
  unfold maxLen at hmx
  have HI : Hid (IsB w a len cap l) := hi
  simp only [xcell, List.getElem?_cons_zero, List.getElem?_cons_succ] at c0 c1 c2
  obtain ⟨rfl, h1, h2⟩ := okX_of hi.len_eq hok
  clear hb hi hne hok
  have h1' : decide ((len : Int) - (k : Int) < (size : Int) + 1) = false := decide_eq_false (by omega)
  have hq : (((nth l k).toNat : Int) != (mark.toNat : Int)) = false := by rw [h2]; simp
  obtain ⟨b, off, rfl, hc⟩ := HI.out.cells (by omega)
  have g := hc k (by omega)
  have HC : Hid (∀ i, i < len → w.cell? ⟨b, off + i, none⟩ = some (.int .u8 ((nth l i).toNat : Int))) := hc
  have hlt : (k : Int) < (len : Int) := by omega
  clear hc h2
  go_enter Tryz.func107, Tryz.ntmps107
  go_wp2
  go_quiet (fail)
  go_wp2
  clear g
  go_loopw [8, 9] (fun v i wr => ∃ j t n : Nat, j ≤ size ∧ Hid (t = 1 + j) ∧ v = .int .u64 (numTo (l.drop k) j : Int) ∧ i = .int .i64 (t : Int) ∧ wr = w.drewN n) (fun _ i _ => size + 1 - (intOf i).toNat)
  case atStart => exact ⟨0, 1, _, by omega, rfl, rfl, rfl, rfl⟩
  case round =>
    obtain ⟨j, t, n, hj, ht, rfl, rfl, hww⟩ := hrel
    have ht1 := ht.out
    rw [hww]; clear hww wr
    by_cases hjl : j < size
    · have hlt2 : (t : Int) ≤ (size : Int) := by omega
      have g := HC.out (k + t) (by omega)
      have hx := (nth l (k + t)).toNat_lt
      have h7 := numTo_lt7 (l.drop k) j (by omega)
      have HV : Hid (numTo (l.drop k) (j + 1) = numTo (l.drop k) j * 256 + (nth l (k + t)).toNat) := by
        unfold Hid; rw [numTo, nth_drop, ht1]
      have hm7 : numTo (l.drop k) j * 256 + (nth l (k + t)).toNat < 18446744073709551616 := by
        rw [← HV.out]; exact numTo_lt64 _ _ (by omega)
      have hb1 : (k : Int) + (t : Int) < (len : Int) := by omega
      have hidx : ((k : Int) + (t : Int)).toNat = k + t := by omega
      have ht8 : t ≤ 8 := by omega
      clear ht1
      generalize numTo (l.drop k) j = N at *
      generalize (nth l (k + t)).toNat = Y at *
      go_wp2
      go_quiet (fail)
      go_wp2
      go_roundw
      case rel => exact ⟨j + 1, t + 1, _, by omega, by have := ht.out; unfold Hid; omega, by rw [HV.out]; go_num, by go_num, rfl⟩
      case measure => have := ht.out; simp [intOf]; omega
    · have e : j = size := by omega
      have hlt2 : ¬ ((t : Int) ≤ (size : Int)) := by omega
      have HE : Hid (j = size) := e
      clear e ht1
      go_wp2
      go_ret2
      rw [HE.out]
      exact ⟨rfl, _, rfl⟩
end Go.Proofs.YtdeoankmmolebaaGreat
namespace Go.Proofs.YtdeoankmmolebaaGreat
open Go.RowKit
attribute [local go_sem ↓] Go.wp_at_zero Go.wp_at_succ

theorem rdUint_ok {l : List UInt8} {br : Bool} (h : okH l br 117 8 = true) : rdUint l br = (numTo l 8, l.drop 9, false) := by unfold rdUint; rw [h]; rfl
theorem rdUint_no {l : List UInt8} {br : Bool} (h : okH l br 117 8 = false) : rdUint l br = (0, l, true) := by unfold rdUint; rw [h]; rfl

set_option maxRecDepth 20000 in
set_option maxHeartbeats 1000000 in
theorem xUint (X : Nat) (a : Option Addr) (len cap : Nat) (l : List UInt8) (k : Nat) (bad : Bool) (w : World) (h : IsX w X a len cap l k bad) :
    Calls Tryz.prog 76 #[.pointer (some ⟨X, 0, none⟩)] w fun e w' => e = .returned (.int .u64 ((rdUint (l.drop k) bad).1 : Int)) ∧ (∃ k', IsX w' X a len cap l k' (rdUint (l.drop k) bad).2.2 ∧ (rdUint (l.drop k) bad).2.1 = l.drop k') ∧ w.grownBy w' (some X) := by
  have H : Hid (IsX w X a len cap l k bad) := h
  clear h
  cases hok : okH (l.drop k) bad 117 8
  · have HO : Hid (okH (l.drop k) bad 117 8 = false) := hok
    rw [rdUint_no hok]
    clear hok
    go_enter Tryz.func76, Tryz.ntmps76
    go_wp2_with fail
    refine (xnumNo X a len cap l k bad 117 8 w H.out (by omega) HO.out).mono ?_
    rintro e w1 ⟨rfl, hr, hg⟩
    go_wp2_with fail
    go_ret
    exact ⟨rfl, ⟨k, hr, rfl⟩, hg⟩
  · have HO : Hid (okH (l.drop k) bad 117 8 = true) := hok
    rw [rdUint_ok hok]
    obtain ⟨hb, h1, _⟩ := okX_of H.out.2.1.len_eq hok
    clear hok
    have hmx := H.out.2.1.max
    have hle := H.out.2.1.le
    unfold maxLen at hmx
    obtain ⟨m, hm⟩ : ∃ m, numTo (l.drop k) 8 = m := ⟨_, rfl⟩
    have Hm : Hid (numTo (l.drop k) 8 = m) := hm
    rw [hm]; clear hm
    go_enter Tryz.func76, Tryz.ntmps76
    go_wp2_with fail
    refine (xnumOk X a len cap l k bad 117 8 w H.out (by omega) HO.out).mono ?_
    rintro e w1 ⟨rfl, n1, hw⟩
    rw [Hm.out]
    have H1 : Hid (IsX w1 X a len cap l k bad) := by rw [hw]; exact H.out.drewN n1
    have G1 : w.grownBy w1 (some X) := by rw [hw]; exact gr_drewN w n1 _
    clear hw
    have c1 := H1.out.1.cell 1
    have f1 := H1.out.1.frozen 1
    simp only [xcell, List.getElem?_cons_zero, List.getElem?_cons_succ] at c1
    have HX : Hid (IsX (w1.setCell ⟨X, 1, none⟩ (.int .i64 ((k : Int) + 9))) X a len cap l (k + 9) bad) := by
      have := H1.out.at (k + 9) (by omega)
      rw [show ((k + 9 : Nat) : Int) = (k : Int) + 9 by omega] at this
      exact this
    go_wp2_with fail
    go_ret
    exact ⟨rfl, ⟨k + 9, by rw [← hb]; exact HX.out, by rw [List.drop_drop]⟩, gr_trans G1 (gr_set _ _ _ _)⟩

theorem rdList_ok {l : List UInt8} {br : Bool} {most : Int} (h : okH l br 108 4 = true) (hm : (numTo l 4 : Int) ≤ most) : rdList l br most = (numTo l 4, l.drop 5, false) := by unfold rdList okL; rw [h]; simp [hm]
theorem rdList_no {l : List UInt8} {br : Bool} {most : Int} (h : okH l br 108 4 = false) : rdList l br most = (0, l, true) := by unfold rdList okL; rw [h]; rfl
theorem rdList_big {l : List UInt8} {br : Bool} {most : Int} (hm : ¬ (numTo l 4 : Int) ≤ most) : rdList l br most = (0, l, true) := by unfold rdList okL; simp [hm]

set_option maxRecDepth 20000 in
set_option maxHeartbeats 1000000 in
theorem xList (X : Nat) (a : Option Addr) (len cap : Nat) (l : List UInt8) (k : Nat) (bad : Bool) (most : Int) (w : World) (h : IsX w X a len cap l k bad) (hm0 : most ≤ 9223372036854775807) :
    Calls Tryz.prog 77 #[.pointer (some ⟨X, 0, none⟩), .int .i64 most] w fun e w' => e = .returned (.int .i64 ((rdList (l.drop k) bad most).1 : Int)) ∧ (∃ k', IsX w' X a len cap l k' (rdList (l.drop k) bad most).2.2 ∧ (rdList (l.drop k) bad most).2.1 = l.drop k') ∧ w.grownBy w' (some X) := by
  have H : Hid (IsX w X a len cap l k bad) := h
  clear h
  cases hok : okH (l.drop k) bad 108 4
  · have HO : Hid (okH (l.drop k) bad 108 4 = false) := hok
    rw [rdList_no hok]
    clear hok
    go_enter Tryz.func77, Tryz.ntmps77
    go_wp2_with fail
    refine (xnumNo X a len cap l k bad 108 4 w H.out (by omega) HO.out).mono ?_
    rintro e w1 ⟨rfl, hr, hg⟩
    have c2 := hr.1.cell 2
    have f2 := hr.1.frozen 2
    have HR : Hid (IsX w1 X a len cap l k true) := hr
    clear hr
    simp only [xcell, List.getElem?_cons_zero, List.getElem?_cons_succ] at c2
    go_wp2_with fail
    go_ret
    exact ⟨rfl, ⟨k, HR.out.bad, rfl⟩, gr_trans hg (gr_set _ _ _ _)⟩
  · have HO : Hid (okH (l.drop k) bad 108 4 = true) := hok
    obtain ⟨hb, h1, _⟩ := okX_of H.out.2.1.len_eq hok
    have hmx := H.out.2.1.max
    have hle := H.out.2.1.le
    unfold maxLen at hmx
    have hnum := numTo_lt4 (l.drop k)
    by_cases hmost : (numTo (l.drop k) 4 : Int) ≤ most
    · rw [rdList_ok hok hmost]
      clear hok
      obtain ⟨m, hm⟩ : ∃ m, numTo (l.drop k) 4 = m := ⟨_, rfl⟩
      have Hm : Hid (numTo (l.drop k) 4 = m) := hm
      rw [hm] at hmost hnum ⊢; clear hm
      have hmn : ¬ (most < 0) := by omega
      have hmg : ¬ (most < (m : Int)) := by omega
      go_enter Tryz.func77, Tryz.ntmps77
      go_wp2_with fail
      refine (xnumOk X a len cap l k bad 108 4 w H.out (by omega) HO.out).mono ?_
      rintro e w1 ⟨rfl, n1, hw⟩
      rw [Hm.out]
      have H1 : Hid (IsX w1 X a len cap l k bad) := by rw [hw]; exact H.out.drewN n1
      have G1 : w.grownBy w1 (some X) := by rw [hw]; exact gr_drewN w n1 _
      clear hw
      have c1 := H1.out.1.cell 1
      have f1 := H1.out.1.frozen 1
      simp only [xcell, List.getElem?_cons_zero, List.getElem?_cons_succ] at c1
      have HX : Hid (IsX (w1.setCell ⟨X, 1, none⟩ (.int .i64 ((k : Int) + 5))) X a len cap l (k + 5) bad) := by
        have := H1.out.at (k + 5) (by omega)
        rw [show ((k + 5 : Nat) : Int) = (k : Int) + 5 by omega] at this
        exact this
      go_wp2_with fail
      go_ret
      exact ⟨rfl, ⟨k + 5, by rw [← hb]; exact HX.out, by rw [List.drop_drop]⟩, gr_trans G1 (gr_set _ _ _ _)⟩
    · rw [rdList_big hmost]
      clear hok
      obtain ⟨m, hm⟩ : ∃ m, numTo (l.drop k) 4 = m := ⟨_, rfl⟩
      have Hm : Hid (numTo (l.drop k) 4 = m) := hm
      rw [hm] at hmost hnum; clear hm
      by_cases hmn : most < 0
      · go_enter Tryz.func77, Tryz.ntmps77
        go_wp2_with fail
        refine (xnumOk X a len cap l k bad 108 4 w H.out (by omega) HO.out).mono ?_
        rintro e w1 ⟨rfl, n1, hw⟩
        rw [Hm.out]
        have H1 : Hid (IsX w1 X a len cap l k bad) := by rw [hw]; exact H.out.drewN n1
        have G1 : w.grownBy w1 (some X) := by rw [hw]; exact gr_drewN w n1 _
        clear hw
        have c2 := H1.out.1.cell 2
        have f2 := H1.out.1.frozen 2
        simp only [xcell, List.getElem?_cons_zero, List.getElem?_cons_succ] at c2
        go_wp2_with fail
        go_ret
        exact ⟨rfl, ⟨k, H1.out.bad, rfl⟩, gr_trans G1 (gr_set _ _ _ _)⟩
      · have hmg : most < (m : Int) := by omega
        go_enter Tryz.func77, Tryz.ntmps77
        go_wp2_with fail
        refine (xnumOk X a len cap l k bad 108 4 w H.out (by omega) HO.out).mono ?_
        rintro e w1 ⟨rfl, n1, hw⟩
        rw [Hm.out]
        have H1 : Hid (IsX w1 X a len cap l k bad) := by rw [hw]; exact H.out.drewN n1
        have G1 : w.grownBy w1 (some X) := by rw [hw]; exact gr_drewN w n1 _
        clear hw
        have c2 := H1.out.1.cell 2
        have f2 := H1.out.1.frozen 2
        simp only [xcell, List.getElem?_cons_zero, List.getElem?_cons_succ] at c2
        go_wp2_with fail
        go_ret
        exact ⟨rfl, ⟨k, H1.out.bad, rfl⟩, gr_trans G1 (gr_set _ _ _ _)⟩
end Go.Proofs.YtdeoankmmolebaaGreat
