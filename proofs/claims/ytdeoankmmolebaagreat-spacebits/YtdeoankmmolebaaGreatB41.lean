/- What the document's Take leaves. · What the document's Open answers. · The chapter's example, plain. · What the statements ask of the program's space; their alive. -/
import Derived.Test.YtdeoankmmolebaaGreatB40
import Derived.Test.YtdeoankmmolebaaGreatB36
import Derived.KernelRfl
namespace Go.Proofs.YtdeoankmmolebaaGreat
open Go.RowKit

/-- the sector, the two writes -/
def tkK (t : Tl) (j : Jl) : Nat := tkI (mapL t j) j.p.n
def tkE1 (t : Tl) (j : Jl) (k : Nat) : Int := t.wrE j (k : Int) zero512
def tkT1 (t : Tl) (j : Jl) (k : Nat) : Tl := t.write j (k : Int) zero512
def tkE2 (t : Tl) (j : Jl) (k : Nat) : Int := (tkT1 t j k).wrE j 49 (flipL (mapL (tkT1 t j k) j) k)
def tkT2 (t : Tl) (j : Jl) (k : Nat) : Tl := (tkT1 t j k).write j 49 (flipL (mapL (tkT1 t j k) j) k)
def tkE (t : Tl) (j : Jl) : Int := if tkK t j = j.p.n then 44 else if tkE1 t j (tkK t j) ≠ 0 then tkE1 t j (tkK t j) else tkE2 t j (tkK t j)
def tkV (t : Tl) (j : Jl) : Nat := if tkE t j = 0 then tkK t j else 0
def tkT (t : Tl) (j : Jl) : Tl := if tkK t j = j.p.n then t else if tkE1 t j (tkK t j) ≠ 0 then tkT1 t j (tkK t j) else tkT2 t j (tkK t j)
theorem tk_full {t : Tl} {j : Jl} (hk : tkK t j = j.p.n) : tkE t j = 44 ∧ tkV t j = 0 ∧ tkT t j = t := by
  have e : tkE t j = 44 := by unfold tkE; rw [if_pos hk]
  exact ⟨e, by unfold tkV; rw [e]; rfl, by unfold tkT; rw [if_pos hk]⟩
theorem tk_no1 {t : Tl} {j : Jl} {x : Nat} (hk : tkK t j = x) (hn : x < j.p.n) (h1 : tkE1 t j x ≠ 0) : tkE t j = tkE1 t j x ∧ tkV t j = 0 ∧ tkT t j = tkT1 t j x := by
  have e : tkE t j = tkE1 t j x := by unfold tkE; rw [hk, if_neg (by omega), if_pos h1]
  exact ⟨e, by unfold tkV; rw [e, if_neg h1], by unfold tkT; rw [hk, if_neg (by omega), if_pos h1]⟩
theorem tk_two {t : Tl} {j : Jl} {x : Nat} (hk : tkK t j = x) (hn : x < j.p.n) (h1 : tkE1 t j x = 0) : tkE t j = tkE2 t j x ∧ tkT t j = tkT2 t j x := by
  have h : ¬ tkE1 t j x ≠ 0 := fun h => h h1
  exact ⟨by unfold tkE; rw [hk, if_neg (by omega), if_neg h], by unfold tkT; rw [hk, if_neg (by omega), if_neg h]⟩
theorem tk_no2 {t : Tl} {j : Jl} {x : Nat} (hk : tkK t j = x) (hn : x < j.p.n) (h1 : tkE1 t j x = 0) (h2 : tkE2 t j x ≠ 0) : tkE t j = tkE2 t j x ∧ tkV t j = 0 ∧ tkT t j = tkT2 t j x := by
  obtain ⟨a, b⟩ := tk_two hk hn h1
  exact ⟨a, by unfold tkV; rw [a, if_neg h2], b⟩
theorem tk_yes {t : Tl} {j : Jl} {x : Nat} (hk : tkK t j = x) (hn : x < j.p.n) (h1 : tkE1 t j x = 0) (h2 : tkE2 t j x = 0) : tkE t j = 0 ∧ tkV t j = x ∧ tkT t j = tkT2 t j x := by
  obtain ⟨a, b⟩ := tk_two hk hn h1
  exact ⟨a.trans h2, by unfold tkV; rw [a, if_pos h2, hk], b⟩
set_option maxHeartbeats 1000000 in
theorem refTake11 {w : World} {R U K D base m : Nat} {t : Tl} {j : Jl} (h : RefS w R U K D base m t j) (hm : m ≤ 100000) (ho : j.p.off = false) :
    Calls Tryz.prog 48 #[.pointer (some ⟨R, 0, none⟩)] w fun e w' => e = .returned (.tuple #[.int .i64 (tkV t j : Int), .int .i64 (tkE t j)]) ∧ Hid (RefS w' R U K D base m (tkT t j) j) ∧ Hid (KC base w w') := by
  have HBi := refBits11 h hm
  have HS := mkHid h
  have HLo := mkHid h.lo
  have hn0 := h.few.n0
  have hn1 := h.few.n
  have HF := mkHid h.few
  clear h
  go_enter Tryz.func48, Tryz.ntmps48
  go_wp2_with (go_at_call 54; refine HBi.mono ?_; rintro e y1 ⟨v, rfl, hv, hb⟩; have HV := mkHid hv; have HB := mkHid hb; clear hv hb)
  obtain ⟨a, cap, rfl, hI⟩ := HV.out.isB
  have HRo : ∀ W, Hid (Below w.heap.size w W) → Road W R U K D j.p.n := fun W hW => (HS.out.on hW.out).road
  have HIo : ∀ W, Hid (Below y1.heap.size y1 W) → IsB W a (mapL t j).length cap (mapL t j) := fun W hW => hI.below hW.out rfl
  clear hI HV HBi
  have HTr : Hid (∀ W, Hid (Below w.heap.size w W) → RefS W R U K D base m t j) := fun W hW => HS.out.on hW.out
  go_loopw [5] (fun i wr => ∃ d : Nat, 51 + d ≤ j.p.n ∧ i = .int .i64 ((51 + d : Nat) : Int) ∧ Hid (∀ x, 51 ≤ x → x < 51 + d → bitN (mapL t j) x = true) ∧ Hid (Below w.heap.size w wr) ∧ Hid (Below y1.heap.size y1 wr)) (fun i _ => j.p.n - (intOf i).toNat)
  case atStart => exact ⟨0, by omega, rfl, fun x h1 h2 => absurd h2 (by omega), HB, Below.refl _ _⟩
  case round =>
    obtain ⟨d, hd, rfl, HA, HB1, HB2⟩ := hrel
    obtain ⟨r0, u0, k0, d0⟩ := HRo _ HB1
    obtain ⟨x, hx⟩ : ∃ x, x = 51 + d := ⟨_, rfl⟩
    rw [← hx]
    by_cases hlt : x < j.p.n
    · have hlt' : (x : Int) < (j.p.n : Int) := by omega
      have HT := refTaken11 a _ cap (mapL t j) (x : Int) wr (HIo _ HB2) (by omega) (by omega)
      rw [takenL_nat] at HT
      have HX := mkHid hx
      have hx51 : 51 ≤ x := by omega
      clear HRo HIo
      cases hb : bitN (mapL t j) x with
      | true =>
        rw [hb] at HT
        have HA1 : Hid (∀ z, 51 ≤ z → z < 51 + (d + 1) → bitN (mapL t j) z = true) := fun z h1 h2 => by
          by_cases e : z = x
          · rw [e]; exact hb
          · exact HA.out z h1 (by omega)
        clear hb hx
        go_wp2_with (go_at_call 8; refine HT.mono ?_; rintro e y2 ⟨rfl, hb2⟩)
        go_roundw
        case rel => exact ⟨d + 1, by have := HX.out; omega, by rw [HX.out]; go_num, HA1, HB1.out.trans (hb2.mono HB1.out.size), HB2.out.trans (hb2.mono HB2.out.size)⟩
        case measure => simp [intOf]; omega
      | false =>
        rw [hb] at HT
        have HK : Hid (tkK t j = x) := tkI_hit _ _ x hx51 hlt (fun z h1 h2 => HA.out z h1 (by omega)) hb
        clear hb hx HA
        go_upto_region 6 with (go_at_call 8; refine HT.mono ?_; rintro e y2 ⟨rfl, hb2⟩)
        have HBy : Hid (Below w.heap.size w y2) := HB1.out.trans (hb2.mono HB1.out.size)
        have HS2 := mkHid (HTr.out _ HBy)
        have c0 := HS2.out.road.r
        clear r0 u0 k0 d0 HT hb2 HB1 HB2
        obtain ⟨w4, hrun4, hob4, hbb4⟩ := make_run512 y2.drew
        have Hrun := mkHid hrun4
        clear hrun4
        refine wp_region_noPanic ?_
        refine wp_region_held_drew (S := fun w' => w'.cell? ⟨R, 0, none⟩ = some (.pointer (some ⟨U, 0, none⟩))) (by kernel_rfl) c0 (fun hHeld => ?_)
        refine takeH (some 30) (i := 0) (v := ?_) rfl (by kernel_rfl) (by kernel_rfl) (by kernel_rfl) (fun _ _ _ h => h) (Or.inl ⟨by rfl, ?_⟩) hHeld rfl ?_
        rotate_left
        · intro w hSw; go_simp; with_reducible rfl
        (try simp only [Act.put, List.setIfInBounds_toArray, List.set_cons_zero, List.set_cons_succ])
        refine takeH (some 31) (i := 1) (v := ?_) rfl (by kernel_rfl) (by kernel_rfl) (by kernel_rfl) (fun _ _ _ h => h) (Or.inl ⟨by rfl, ?_⟩) hHeld rfl ?_
        rotate_left
        · intro w hSw; go_simp; with_reducible rfl
        (try simp only [Act.put, List.setIfInBounds_toArray, List.set_cons_zero, List.set_cons_succ])
        refine takeH (some 32) (i := 2) (v := ?_) rfl (by kernel_rfl) (by kernel_rfl) (by kernel_rfl) (fun _ _ _ h => h) (Or.inl ⟨by rfl, ?_⟩) hHeld rfl ?_
        rotate_left
        · intro w hSw; go_simp; with_reducible rfl
        (try simp only [Act.put, List.setIfInBounds_toArray, List.set_cons_zero, List.set_cons_succ])
        refine takeH (some 33) (i := 3) (v := ?_) rfl (by kernel_rfl) (by kernel_rfl) (by kernel_rfl) (fun _ _ _ h => h) (Or.inl ⟨by rfl, ?_⟩) hHeld rfl ?_
        rotate_left
        · intro w hSw; go_simp; with_reducible rfl
        (try simp only [Act.put, List.setIfInBounds_toArray, List.set_cons_zero, List.set_cons_succ])
        refine takeH (some 34) (i := 4) (v := ?_) rfl (by kernel_rfl) (by kernel_rfl) (by kernel_rfl) (fun _ _ _ h => h) (Or.inl ⟨by rfl, ?_⟩) hHeld rfl ?_
        rotate_left
        · intro w hSw; go_simp; with_reducible rfl
        (try simp only [Act.put, List.setIfInBounds_toArray, List.set_cons_zero, List.set_cons_succ])
        refine wpAnyH_ready (rs := [5]) (by kernel_rfl) (by simp) (AllReadyH.cons rfl (fun K hK => ?_) AllReadyH.nil)
        go_simp
        rw [Hrun.out]
        go_simp
        have HV4 := mkHid hob4
        have HB4 : Hid (Below y2.heap.size y2 w4) := ((Below.refl _ y2).drew).trans hbb4
        have HS4 := mkHid (HS2.out.on HB4.out)
        clear hob4 hbb4 Hrun
        refine hK.out _ _ HS4.out.road.r (fun hHeld => ?_)
        (try simp only [Act.put, List.setIfInBounds_toArray, List.set_cons_zero, List.set_cons_succ])
        clear hK K
        refine wpAnyH_ready (rs := [6]) (by kernel_rfl) (by simp) (AllReadyH.cons rfl (fun K hK => ?_) AllReadyH.nil)
        go_simp
        go_wp2_with (go_at_call 82; refine (HS4.out.writeV _ HV4.out).mono ?_; rintro e y5 ⟨rfl, hs5, hk5⟩)
        refine hK.out _ _ hs5.out.road.r (fun hHeld => ?_)
        (try simp only [Act.put, List.setIfInBounds_toArray, List.set_cons_zero, List.set_cons_succ])
        clear hK K
        refine takeH (some 6) (i := 7) (v := ?_) rfl (by kernel_rfl) (by kernel_rfl) (by kernel_rfl) (fun _ _ _ h => h) (Or.inl ⟨by rfl, ?_⟩) hHeld rfl ?_
        rotate_left
        · intro w hSw; go_simp; with_reducible rfl
        (try simp only [Act.put, List.setIfInBounds_toArray, List.set_cons_zero, List.set_cons_succ])
        refine wpAnyH_done (by kernel_rfl) ?_ _
        refine NoPanic.normal ?_
        have HS5 : Hid (RefS y5 R U K D base m (tkT1 t j x) j) := hs5
        have HK5 := mkHid ((KC.of_below (HBy.out.trans (HB4.out.mono HBy.out.size)) HLo.out).trans hk5.out)
        have HE1 : Hid (tkE1 t j x = t.wrE j (x : Int) zero512) := rfl
        clear hs5 hk5 HB4 HS4 HV4 hHeld c0 HS2 HBy HTr
        generalize t.wrE j (x : Int) zero512 = E1 at *
        by_cases hz : E1 = 0
        · subst hz
          have HSt := refSet11 HS5.out hm x (by omega) (map_ok HF.out ho HS5.out.lens).2
          have HE2 : Hid (tkE2 t j x = (tkT1 t j x).wrE j 49 (flipL (mapL (tkT1 t j x) j) x)) := rfl
          have HT2 : Hid (tkT2 t j x = (tkT1 t j x).write j 49 (flipL (mapL (tkT1 t j x) j) x)) := rfl
          generalize (tkT1 t j x).wrE j 49 (flipL (mapL (tkT1 t j x) j) x) = E2 at *
          generalize (tkT1 t j x).write j 49 (flipL (mapL (tkT1 t j x) j) x) = T2 at *
          by_cases hz2 : E2 = 0
          · subst hz2
            have HO := mkHid (tk_yes HK.out hlt HE1.out HE2.out)
            go_wp2_with (go_at_call 83; refine HSt.mono ?_; rintro e y6 ⟨rfl, hs6, hk6⟩)
            go_ret2
            exact ⟨by rw [HO.out.1, HO.out.2.1]; rfl, by rw [HO.out.2.2, HT2.out]; exact hs6, HK5.out.trans hk6.out⟩
          · have HO := mkHid (tk_no2 HK.out hlt HE1.out (by rw [HE2.out]; exact hz2))
            go_wp2_with (go_at_call 83; refine HSt.mono ?_; rintro e y6 ⟨rfl, hs6, hk6⟩)
            go_ret2
            exact ⟨by rw [HO.out.1, HO.out.2.1, HE2.out]; rfl, by rw [HO.out.2.2, HT2.out]; exact hs6, HK5.out.trans hk6.out⟩
        · have HO := mkHid (tk_no1 HK.out hlt (by rw [HE1.out]; exact hz))
          go_wp2_with fail
          go_ret2
          exact ⟨by rw [HO.out.1, HO.out.2.1, HE1.out]; rfl, by rw [HO.out.2.2]; exact HS5, HK5⟩
    · have hlt' : ¬ (x : Int) < (j.p.n : Int) := by omega
      have hxn : x = j.p.n := by omega
      have HO := mkHid (tk_full (t := t) (j := j) (tkI_none _ _ (by omega) (fun z h1 h2 => HA.out z h1 (by omega))))
      clear HRo HIo hxn hx
      go_wp2_with fail
      go_ret2
      exact ⟨by rw [HO.out.1, HO.out.2.1]; rfl, by rw [HO.out.2.2]; exact HTr.out _ HB1, KC.of_below HB1.out HLo.out⟩
end Go.Proofs.YtdeoankmmolebaaGreat
namespace Go.Proofs.YtdeoankmmolebaaGreat
open Go.RowKit

theorem jr_map {p : Pl} {m : Nat} (hf : FewM p m) (ho : p.off = false) : jrE p 49 = 0 := by
  have hn := hf.n0
  have ha : areaI p.n 49 = true := by unfold areaI; exact decide_eq_true (by omega)
  have hi : inR p.n 49 = true := by unfold inR; exact decide_eq_true (by omega)
  unfold jrE
  rw [ha]
  unfold Pl.rdE Pl.stE
  rw [ho, hi]; rfl
set_option maxHeartbeats 1000000 in
theorem refOpen11 {X : Nat → Prop} {w : World} {K D base m : Nat} {j : Jl} (rj : RjAt w K D j.seq j.dead) (rk : IsRk X w D base m j.p) (few : FewM j.p m) (seq : j.seq < 18446744073709551616) (hlK : base ≤ K) (hm : m ≤ 100000) (ho : j.p.off = false) :
    Calls Tryz.prog 17 #[.pointer (some ⟨K, 0, none⟩)] w fun e w' => (∃ R U, e = .returned (.tuple #[.pointer (some ⟨R, 0, none⟩), .int .i64 0]) ∧ Hid (RefS w' R U K D base m ⟨[], false⟩ j)) ∧ Hid (Below w.heap.size w w') := by
  have HR := refJRead10 K D base m j.seq j.dead j.p 49 w rj rk hm
  rw [jr_map few ho] at HR
  have HJ := mkHid rj
  have HD := mkHid rk
  have HF := mkHid few
  have HQ := mkHid seq
  have HK := mkHid hlK
  have HL := mkHid rk.low
  clear rj rk few seq hlK
  go_enter Tryz.func17, Tryz.ntmps17
  go_upto_region 4 with (go_at_call 47; refine HR.mono ?_; rintro e y1 ⟨v, rfl, hv, hb⟩)
  have HB := mkHid hb
  have HJ1 : Hid (RjAt y1 K D j.seq j.dead) := Blk.on HJ.out hb
  have HD1 := mkHid (HD.out.on hb)
  clear hv hb HR HJ HD
  go_wp2_with fail
  go_ret2
  have bU := Blk.new y1 105 [.pointer (some ⟨K, 0, none⟩), .slice none 0 0, .bool false]
  have b1 : Below y1.heap.size y1 (y1.alloc (.cells #[.pointer (some ⟨K, 0, none⟩), .slice none 0 0, .bool false] 105)) := (Below.refl _ y1).alloc (Nat.le_refl _) _
  generalize hW : y1.alloc (.cells #[.pointer (some ⟨K, 0, none⟩), .slice none 0 0, .bool false] 105) = W at *
  have bR := Blk.new W 107 [.pointer (some ⟨y1.heap.size, 0, none⟩)]
  have hz : W.heap.size = y1.heap.size + 1 := by rw [← hW]; exact Array.size_push _
  rw [hz] at bR
  have b2 : Below W.heap.size W (W.alloc (.cells #[.pointer (some ⟨y1.heap.size, 0, none⟩)] 107)) := (Below.refl _ W).alloc (Nat.le_refl _) _
  have b3 := b1.trans (b2.mono b1.size)
  have l1 := HL.out
  have l2 := HB.out.size
  have l3 := b1.size
  exact ⟨⟨_, y1.heap.size, rfl, ⟨bR, by omega, ⟨_, _, RefT.begin_ (bU.on b2) b3 (by omega) HK.out HJ1.out HD1.out HF.out HQ.out⟩, fun g hg => (by cases hg)⟩⟩, HB.out.trans (b3.mono HB.out.size)⟩
end Go.Proofs.YtdeoankmmolebaaGreat
namespace Go.Proofs.YtdeoankmmolebaaGreat
open Go.RowKit

def as0 : Tl := ⟨[], false⟩
def as1 : Tl := tkT as0 aj0
def as2 : Tl := tkT as1 aj0
def as3 : Tl := gvT as2 aj0 51
def as4 : Tl := tkT as3 aj0
theorem as_1 : (tkE as0 aj0, tkV as0 aj0) = (0, 51) := by kernel_rfl
theorem as_2 : (tkE as1 aj0, tkV as1 aj0) = (0, 52) := by kernel_rfl
theorem as_3 : gvE as2 aj0 51 = 0 := by kernel_rfl
theorem as_4 : (tkE as3 aj0, tkV as3 aj0) = (0, 51) := by kernel_rfl
theorem as_5 : freeL (mapL as4 aj0) 13 = 11 := by kernel_rfl
theorem as_6 : as4.over = false ∧ as4.l.length ≤ 48 ∧ as4.l ≠ [] := by
  have h : (as4.over, as4.l.length) = (false, 3) := by kernel_rfl
  obtain ⟨h1, h2⟩ := Prod.mk.inj h
  exact ⟨h1, by omega, fun e => by rw [e] at h2; cases h2⟩
theorem as_7 : as4.l.all (fun g => decide (g.1 < 64 ∧ g.2.length = 512)) = true := by kernel_rfl
theorem as_8 : cmE as4 aj0 = 0 := (commit_ok (t := as4) (j := aj0) (few_mnew 64 (by omega) (by omega)) (good_new 64) as_6.1 rfl as_6.2.2 as_6.2.1 (fun g hg => of_decide_eq_true (List.all_eq_true.1 as_7 g hg))).1
end Go.Proofs.YtdeoankmmolebaaGreat
namespace Go.Proofs.YtdeoankmmolebaaGreat
open Go.RowKit

/-- how a transaction and its journal stand while nothing has gone wrong -/
structure Fit (t : Tl) (j : Jl) (m : Nat) : Prop where
  few : FewM j.p m
  m : m ≤ 80000
  good : Good j.p
  len : t.l.length ≤ 48
  lens : ∀ g ∈ t.l, g.2.length = 512
  at_ : ∀ g ∈ t.l, g.1 < j.p.n
  over : t.over = false
  dead : j.dead = false
  seq : j.seq < 18446744073709551616
/-- what is asked of the program's space: 'SA w S J P base t j': at block S, over the journal at J, a transaction stands as t -/
structure SpcOK (JA : World → Nat → Nat → Nat → Jl → Prop) (SA : World → Nat → Nat → Nat → Nat → Tl → Jl → Prop) : Prop where
  toJ : ∀ {w : World} {S J P base : Nat} {t : Tl} {j : Jl}, SA w S J P base t j → JA w J P base j
  keep : ∀ {w w' : World} {S J P base : Nat} {t : Tl} {j : Jl}, SA w S J P base t j → KeepT CT w w' → SA w' S J P base t j
  open_ : ∀ (w : World) (J P base m : Nat) (j : Jl), JA w J P base j → Fit ⟨[], false⟩ j m →
    Calls Tryz.prog 16 #[.pointer (some ⟨J, 0, none⟩)] w fun e w' => (∃ S, e = .returned (.tuple #[.pointer (some ⟨S, 0, none⟩), .int .i64 0]) ∧ SA w' S J P base ⟨[], false⟩ j) ∧ KS base w w'
  take : ∀ (w : World) (S J P base m : Nat) (t : Tl) (j : Jl), SA w S J P base t j → Fit t j m →
    Calls Tryz.prog 26 #[.pointer (some ⟨S, 0, none⟩)] w fun e w' => e = .returned (.tuple #[.int .i64 (tkV t j : Int), .int .i64 (tkE t j)]) ∧ SA w' S J P base (tkT t j) j ∧ KS base w w'
  give : ∀ (w : World) (S J P base m : Nat) (t : Tl) (j : Jl) (i : Int), SA w S J P base t j → Fit t j m → -9223372036854775808 ≤ i → i ≤ 9223372036854775807 →
    Calls Tryz.prog 28 #[.pointer (some ⟨S, 0, none⟩), .int .i64 i] w fun e w' => e = .returned (.int .i64 (gvE t j i)) ∧ SA w' S J P base (gvT t j i) j ∧ KS base w w'
  read : ∀ (w : World) (S J P base m : Nat) (t : Tl) (j : Jl) (i : Int), SA w S J P base t j → Fit t j m → -9223372036854775808 ≤ i → i ≤ 9223372036854775807 →
    Calls Tryz.prog 30 #[.pointer (some ⟨S, 0, none⟩), .int .i64 i] w fun e w' => (∃ v, e = .returned (.tuple #[v, .int .i64 (spRdE t j i)]) ∧ IsV w' v (spRdB t j i)) ∧ SA w' S J P base t j ∧ KS base w w'
  write : ∀ (w : World) (S J P base m : Nat) (t : Tl) (j : Jl) (i : Int) (ba : Option Addr) (bc : Nat) (b : List UInt8), SA w S J P base t j → Fit t j m → -9223372036854775808 ≤ i → i ≤ 9223372036854775807 → b.length ≤ 140737488351232 → (∀ W, KeepO [5] w W → Below base w W → IsB W ba b.length bc b) →
    Calls Tryz.prog 31 #[.pointer (some ⟨S, 0, none⟩), .int .i64 i, .slice ba b.length bc] w fun e w' => e = .returned (.int .i64 (spWrE t j i b)) ∧ SA w' S J P base (spWr t j i b) j ∧ KS base w w'
  free : ∀ (w : World) (S J P base m : Nat) (t : Tl) (j : Jl), SA w S J P base t j → Fit t j m →
    Calls Tryz.prog 19 #[.pointer (some ⟨S, 0, none⟩)] w fun e w' => e = .returned (.int .i64 (freeL (mapL t j) (j.p.n - 51) : Int)) ∧ SA w' S J P base t j ∧ KS base w w'
  left : ∀ (w : World) (S J P base m : Nat) (t : Tl) (j : Jl), SA w S J P base t j → Fit t j m →
    Calls Tryz.prog 21 #[.pointer (some ⟨S, 0, none⟩)] w fun e w' => e = .returned (.int .i64 (48 - (t.l.length : Int))) ∧ SA w' S J P base t j ∧ KS base w w'
  commit : ∀ (w : World) (S J P base m : Nat) (t : Tl) (j : Jl), SA w S J P base t j → Fit t j m →
    Calls Tryz.prog 32 #[.pointer (some ⟨S, 0, none⟩)] w fun e w' => e = .returned (.int .i64 (cmE t j)) ∧ JA w' J P base (cmJ t j) ∧ KS base w w'
  taken : ∀ (w : World) (a : Option Addr) (len cap : Nat) (l : List UInt8) (i : Int), IsB w a len cap l → len ≤ 10000 → -9223372036854775808 ≤ i → i ≤ 9223372036854775807 →
    Calls Tryz.prog 7 #[.slice a len cap, .int .i64 i] w fun e w' => e = .returned (.bool (takenL l i)) ∧ Below w.heap.size w w'
  count : ∀ (w : World) (a : Option Addr) (len cap : Nat) (l : List UInt8) (n : Int), IsB w a len cap l → len ≤ 10000 → -9223372036854775808 ≤ n → n ≤ 9223372036854775807 →
    Calls Tryz.prog 9 #[.slice a len cap, .int .i64 n] w fun e w' => e = .returned (.int .i64 (countL l n : Int)) ∧ Below w.heap.size w w'
theorem as_len : as1.l.length ≤ 48 ∧ as2.l.length ≤ 48 ∧ as3.l.length ≤ 48 := by
  have h : (as1.l.length, as2.l.length, as3.l.length) = (2, 3, 3) := by kernel_rfl
  obtain ⟨h1, h2⟩ := Prod.mk.inj h
  obtain ⟨h2, h3⟩ := Prod.mk.inj h2
  omega
def allOk (t : Tl) : Bool := t.l.all (fun g => decide (g.1 < 64 ∧ g.2.length = 512)) && !t.over
theorem allOk_fit {t : Tl} (h : allOk t = true) (hl : t.l.length ≤ 48) : Fit t aj0 0 := by
  unfold allOk at h
  obtain ⟨h1, h2⟩ := Bool.and_eq_true_iff.1 h
  have ho : t.over = false := by
    cases ho : t.over with
    | false => rfl
    | true => rw [ho] at h2; cases h2
  have h3 := fun g hg => of_decide_eq_true (List.all_eq_true.1 h1 g hg)
  exact ⟨few_mnew 64 (by omega) (by omega), by omega, good_new 64, hl, fun g hg => (h3 g hg).2, fun g hg => (h3 g hg).1, ho, rfl, by show (0 : Nat) < 18446744073709551616; omega⟩
theorem fit_0 : Fit as0 aj0 0 := allOk_fit (by kernel_rfl) (by show 0 ≤ 48; omega)
theorem fit_1 : Fit as1 aj0 0 := allOk_fit (by kernel_rfl) as_len.1
theorem fit_2 : Fit as2 aj0 0 := allOk_fit (by kernel_rfl) as_len.2.1
theorem fit_3 : Fit as3 aj0 0 := allOk_fit (by kernel_rfl) as_len.2.2
theorem fit_4 : Fit as4 aj0 0 := allOk_fit (by kernel_rfl) as_6.2.1
set_option maxRecDepth 20000 in
set_option maxHeartbeats 4000000 in
theorem lawAlive11 {JA : World → Nat → Nat → Nat → Jl → Prop} {TA SA : World → Nat → Nat → Nat → Nat → Tl → Jl → Prop} (ok : JrnOK JA TA) (so : SpcOK JA SA) (w : World) :
    Calls Tryz.prog 11 #[] w fun e w' => e = .returned (.bool true) ∧ Below w.heap.size w w' := by
  obtain ⟨base, hbase⟩ : ∃ base, base = w.heap.size := ⟨_, rfl⟩
  have HN : Calls Tryz.prog 12 #[.int .i64 64] w fun e w' => (∃ P, e = .returned (.tuple #[.pointer (some ⟨P, 0, none⟩), .int .i64 0]) ∧ IsD0 w' P base (Pl.new 64)) ∧ Below base w w' := by
    refine (codNew (fun _ => False) 64 w base (Nat.le_of_eq hbase) (fun _ h => h.elim)).mono ?_
    rintro e w' ⟨h1, h2⟩
    rw [if_pos (by omega)] at h1
    exact ⟨h1, by rw [hbase]; exact h2⟩
  have HBase := mkHid hbase
  rw [← hbase]
  clear hbase
  go_enter Tryz.func11, Tryz.ntmps11
  go_wp2_with fail
  refine HN.mono ?_
  rintro e x1 ⟨⟨P, rfl, hI1⟩, hb1⟩
  have HB1 := mkHid hb1
  have HM := jMount ok hI1 (few_mnew 64 (by omega) (by omega)) (by omega) aj_mount.1
  rw [aj_mount.2.1, aj_mount.2.2] at HM
  clear HN hI1 hb1
  go_wp2_with fail
  refine HM.mono ?_
  rintro e x2 ⟨⟨J, rfl, hJ2⟩, hk2⟩
  have HB2 := mkHid (HB1.out.trans hk2.b)
  have HO := so.open_ x2 J P base 0 aj0 hJ2 fit_0
  clear HM hJ2 hk2
  go_wp2_with fail
  refine HO.mono ?_
  rintro e x3 ⟨⟨S, rfl, hS3⟩, hk3⟩
  have HB3 := mkHid (HB2.out.trans hk3.b)
  have HT := so.take x3 S J P base 0 as0 aj0 hS3 fit_0
  obtain ⟨e1, e2⟩ := Prod.mk.inj as_1
  rw [e1, e2] at HT
  clear HO hS3 hk3 e1 e2
  go_wp2_with fail
  refine HT.mono ?_
  rintro e x4 ⟨rfl, hS4, hk4⟩
  have HB4 := mkHid (HB3.out.trans hk4.b)
  clear HT hk4
  have HT := so.take x4 S J P base 0 as1 aj0 hS4 fit_1
  obtain ⟨e1, e2⟩ := Prod.mk.inj as_2
  rw [e1, e2] at HT
  clear hS4 e1 e2
  go_wp2_with fail
  refine HT.mono ?_
  rintro e x5 ⟨rfl, hS5, hk5⟩
  have HB5 := mkHid (HB4.out.trans hk5.b)
  clear HT hk5
  have HG := so.give x5 S J P base 0 as2 aj0 51 hS5 fit_2 (by omega) (by omega)
  rw [as_3] at HG
  clear hS5
  go_wp2_with fail
  refine HG.mono ?_
  rintro e x6 ⟨rfl, hS6, hk6⟩
  have HB6 := mkHid (HB5.out.trans hk6.b)
  clear HG hk6
  have HT := so.take x6 S J P base 0 as3 aj0 hS6 fit_3
  obtain ⟨e1, e2⟩ := Prod.mk.inj as_4
  rw [e1, e2] at HT
  clear hS6 e1 e2
  go_wp2_with fail
  refine HT.mono ?_
  rintro e x7 ⟨rfl, hS7, hk7⟩
  have HB7 := mkHid (HB6.out.trans hk7.b)
  clear HT hk7
  have HF := so.free x7 S J P base 0 as4 aj0 hS7 fit_4
  have e5 : freeL (mapL as4 aj0) (aj0.p.n - 51) = 11 := as_5
  rw [e5] at HF
  clear hS7 e5
  go_wp2_with fail
  refine HF.mono ?_
  rintro e x8 ⟨rfl, hS8, hk8⟩
  have HB8 := mkHid (HB7.out.trans hk8.b)
  clear HF hk8
  have HC := so.commit x8 S J P base 0 as4 aj0 hS8 fit_4
  rw [as_8] at HC
  clear hS8
  go_wp2_with fail
  refine HC.mono ?_
  rintro e x9 ⟨rfl, hJ9, hk9⟩
  have HB9 := mkHid (HB8.out.trans hk9.b)
  clear HC hk9 hJ9
  go_wp2_with fail
  go_ret
  exact ⟨rfl, HB9.out⟩
end Go.Proofs.YtdeoankmmolebaaGreat
