/- What the document's Held answers. -/
import Derived.Test.YthjdmfbengpepaaGreatB14
import Derived.Test.YthjdmfbengpepaaGreatB15
namespace Go.Proofs.YthjdmfbengpepaaGreat
open Go.RowKit

theorem lastW_512 (l : List Wg) (h : ∀ g ∈ l, g.b.length = 512) (i : Nat) : ∀ b, lastW l i = some b → b.length = 512 := by
  induction l with
  | nil => intro b e; cases e
  | cons g l ih =>
    intro b e
    rw [lastW] at e
    cases hl : lastW l i with
    | some c => rw [hl] at e; exact (Option.some.inj e) ▸ ih (fun x hx => h x (by simp [hx])) c hl
    | none =>
      rw [hl] at e
      by_cases hg : g.at_ = i
      · simp only [if_pos hg] at e; exact (Option.some.inj e) ▸ h g (by simp)
      · simp only [if_neg hg] at e; cases e
theorem IsRk.rd512 {X : Nat → Prop} {w : World} {D base m : Nat} {p : Pl} (h : IsRk X w D base m p) (i : Int) (h0 : p.rdE i = 0) : (p.rdB i).length = 512 := by
  obtain ⟨r, vS, vC, a, rfl, _⟩ := h
  rw [← pl_rdE] at h0
  rw [← pl_rdB]
  unfold rdE stE at h0
  unfold rdB
  cases ho : r.off with
  | true => rw [ho] at h0; simp at h0
  | false =>
    cases hi : inR r.n i with
    | false => rw [ho, hi] at h0; simp at h0
    | true =>
      simp only [Bool.false_eq_true, if_false, if_true]
      unfold readOf stableOf
      cases hc : lastW r.C i.toNat with
      | some b => exact lastW_512 _ (fun g hg => (a.bC g hg).1) _ b hc
      | none =>
        cases hs : lastW r.S i.toNat with
        | some b => exact lastW_512 _ (fun g hg => (a.bS g hg).1) _ b hs
        | none => show zero512.length = 512; unfold zero512; rw [List.length_replicate]
theorem heldGo_len (p : Pl) : ∀ (k i : Nat) (r : List UInt8) (bad : Bool) (l : Qs) (q : Qs × Bool), heldGo p k i r bad l = some q → q.1.length = l.length + k ∧ ((∀ g ∈ l, 49 ≤ g.1 ∧ g.1 < p.n) → ∀ g ∈ q.1, 49 ≤ g.1 ∧ g.1 < p.n)
  | 0, i, r, bad, l, q, h => by
    rw [heldGo] at h
    rw [← Option.some.inj h]
    exact ⟨rfl, fun h => h⟩
  | k + 1, i, r, bad, l, q, h => by
    rw [heldGo] at h
    split at h
    · cases h
    · rename_i hn
      obtain ⟨h1, h2⟩ := heldGo_len p k _ _ _ _ q h
      refine ⟨by rw [h1, List.length_append, List.length_singleton]; omega, fun hl => h2 (fun g hg => ?_)⟩
      rcases List.mem_append.1 hg with hg | hg
      · exact hl g hg
      · rw [List.mem_singleton.1 hg]
        constructor
        · exact Nat.le_of_not_lt fun e => hn (.inr (.inl e))
        · exact Nat.lt_of_not_le fun e => hn (.inr (.inr e))
theorem rdList_le (l : List UInt8) (br : Bool) : (rdList l br 48).1 ≤ 48 := by
  unfold rdList
  split
  · rename_i h
    unfold okL at h
    rw [Bool.and_eq_true] at h
    have := of_decide_eq_true h.2
    show numTo l 4 ≤ 48
    omega
  · exact Nat.zero_le _
theorem heldJ_len {p : Pl} {s : Nat} {l : Qs} (h : heldJ p = some (s, l)) : l.length ≤ 48 ∧ ∀ g ∈ l, 49 ≤ g.1 ∧ g.1 < p.n := by
  unfold heldJ at h
  split at h
  · cases h
  · unfold heldB at h
    cases hq : heldGo p (hdN (p.rdB 0)).1 0 (hdN (p.rdB 0)).2.1 (hdN (p.rdB 0)).2.2 [] with
    | none => rw [hq] at h; cases h
    | some q =>
      obtain ⟨q, bad⟩ := q
      rw [hq, heldEnd] at h
      split at h
      · cases h
      · have e := (Prod.mk.inj (Option.some.inj h)).2
        have h1 := heldGo_len p _ _ _ _ _ _ hq
        rw [← e]
        refine ⟨?_, h1.2 (fun g hg => by cases hg)⟩
        rw [h1.1]
        have := rdList_le (hdSeq (p.rdB 0)).2.1 (hdSeq (p.rdB 0)).2.2
        show 0 + (hdN (p.rdB 0)).1 ≤ 48
        unfold hdN
        omega
/-- what is told of a seal -/
def HeldPost (o : Option (Nat × Qs)) (base : Nat) (e : Ending) (w' : World) : Prop :=
  match o with
  | none => e = .returned (.tuple #[.int .u64 0, .slice none 0 0, .bool false])
  | some (s, l) => ∃ v ls, e = .returned (.tuple #[.int .u64 (s : Int), v, .bool true]) ∧ GsAt w' base v ls ∧ ls.map plW = l
theorem gr_keepT {w w' : World} {B t : Nat} {cs : List Value} (hb : Blk w B t cs) (hg : w.grownBy w' (some B)) : KeepT [t] w w' :=
  ⟨hg.size, fun k o hk ho => by
    refine (hg.block k (Array.getElem?_eq_some_iff.1 hk).1 (fun e => ?_)).trans hk
    have e2 : k = B := Option.some.inj e
    subst e2
    exact ho _ _ _ (Option.some.inj (hk.symm.trans hb)) (by simp)⟩
theorem GsAt.keep {w w' : World} {base : Nat} {v : Value} {l : List Wg} (h : GsAt w base v l) {ts : List TypeId} (hk : KeepT ts w w') (h1 : 88 ∉ ts) (h2 : 5 ∉ ts) : GsAt w' base v l := ⟨own_keep hk h.own h1, h.bys.keep hk h2⟩

theorem eqB_no {x y : List UInt8} (h : ¬ x = y) : eqB x y = false := by simp [eqB, h]
theorem KeepT.wide {ts us : List TypeId} {w w' : World} (h : KeepT ts w w') (hs : ∀ t ∈ ts, t ∈ us) : KeepT us w w' := ⟨h.size, fun k o hk ho => h.same k o hk (fun c t fz e ht => ho c t fz e (hs t ht))⟩
abbrev RW : List TypeId := [117, 88]
theorem heldGo_none {p : Pl} {k i : Nat} {r : List UInt8} {bad : Bool} {l : Qs} (h : (rdUint r bad).2.2 = true ∨ (rdUint r bad).1 < 49 ∨ p.n ≤ (rdUint r bad).1) : heldGo p (k + 1) i r bad l = none := by rw [heldGo, if_pos h]
theorem heldGo_some {p : Pl} {k i : Nat} {r : List UInt8} {bad : Bool} {l : Qs} (h : ¬ ((rdUint r bad).2.2 = true ∨ (rdUint r bad).1 < 49 ∨ p.n ≤ (rdUint r bad).1)) : heldGo p (k + 1) i r bad l = heldGo p k (i + 1) (rdUint r bad).2.1 (rdUint r bad).2.2 (l ++ [((rdUint r bad).1, p.rdB ((1 + i : Nat) : Int))]) := by rw [heldGo, if_neg h]

set_option maxRecDepth 20000 in
set_option maxHeartbeats 8000000 in
theorem refHeld10 {X : Nat → Prop} (D base m : Nat) (p : Pl) (w : World) (h : IsRk X w D base m p) (hm : m ≤ 100000) (hn64 : 64 ≤ p.n) (hn4 : p.n ≤ 4096) :
    Calls Tryz.prog 37 #[.pointer (some ⟨D, 0, none⟩)] w fun e w' => HeldPost (heldJ p) w.heap.size e w' ∧ Below w.heap.size w w' := by
  have HR := rkRead D base m p 0 w h hm
  have HH := mkHid h
  clear h
  by_cases h0 : p.rdE 0 = 0
  · have H512 := mkHid (HH.out.rd512 0 h0)
    rw [h0] at HR
    have HJ : Hid (heldJ p = heldB p (p.rdB 0)) := by unfold Hid; rw [heldJ, if_neg (by simp [h0])]
    have HRd : Hid (∀ k : Nat, k < 48 → p.rdE ((1 + k : Nat) : Int) = 0) := fun k hk => by
      have h1 : p.off = false := by
        cases ho : p.off with
        | false => rfl
        | true => unfold Pl.rdE at h0; rw [ho] at h0; simp at h0
      have h2 : inR p.n ((1 + k : Nat) : Int) = true := by unfold inR; exact decide_eq_true ⟨by omega, by omega⟩
      unfold Pl.rdE Pl.stE
      rw [h1, h2]; rfl
    clear h0
    generalize p.rdB 0 = b at *
    go_enter Tryz.func37, Tryz.ntmps37
    go_wp2_with fail
    refine HR.mono ?_
    rintro e w1 ⟨v1, rfl, ho1, hb1⟩
    obtain ⟨a1, c1, rfl, hi1⟩ := ho1.isB
    rw [H512.out] at hi1 ho1 ⊢
    have HB1 := mkHid hb1
    have HI1 := mkHid hi1
    have HOb := mkHid ho1
    clear hb1 ho1 HR
    have HX0 : Hid (IsX (w1.alloc (.cells (xcell a1 512 c1 0 false).toArray 117)) w1.heap.size a1 512 c1 b 0 false) := by
      refine ⟨Blk.new w1 _ _, hi1.below ((Below.refl _ w1).alloc (Nat.le_refl _) _) rfl, fun _ x hx => ?_, Nat.zero_le _⟩
      obtain ⟨bb, off, e1, hc⟩ := hi1.cells (by omega)
      rw [hx] at e1
      have e2 := Option.some.inj e1
      have := cell_lt (hc 0 (by omega))
      rw [e2]
      exact Nat.ne_of_lt this
    have HB2 : Hid (Below w.heap.size w (w1.alloc (.cells (xcell a1 512 c1 0 false).toArray 117))) := HB1.out.alloc HB1.out.size _
    have HRb : Hid (w.heap.size ≤ w1.heap.size) := HB1.out.size
    have HK2 : Hid (KeepT RW w1 (w1.alloc (.cells (xcell a1 512 c1 0 false).toArray 117))) := KeepT.of_below ((Below.refl _ w1).alloc (Nat.le_refl _) _)
    clear hi1 HI1 HB1
    simp only [xcell] at HX0 HB2 HK2
    go_upto_region 5 with fail
    generalize w1.heap.size = Rb at *
    have hz : ((0 : Nat) : Int) = 0 := rfl
    rw [hz] at HX0 HB2 HK2
    generalize w1.alloc (.cells #[.slice a1 512 c1, .int .i64 0, .bool false] 117) = w2 at *
    have HT := xText Rb a1 512 c1 b 0 false w2 HX0.out (by omega)
    rw [List.drop_zero] at HT
    change Calls Tryz.prog _ _ w2 (fun e w' => e = .returned (.string ⟨(hdName b).1.toArray⟩) ∧ (∃ k', IsX w' Rb a1 512 c1 b k' (hdName b).2.2 ∧ (hdName b).2.1 = b.drop k') ∧ w2.grownBy w' (some Rb)) at HT
    generalize hnm : (hdName b).1 = nm at *
    have HNm := mkHid hnm
    clear hnm
    go_wp2_with fail
    refine HT.mono ?_
    rintro e w3 ⟨rfl, ⟨k1, hx3, he3⟩, hg3⟩
    have HX3 := mkHid hx3
    have HE3 := mkHid he3
    have HB3 : Hid (Below w.heap.size w w3) := HB2.out.grown hg3 HB2.out.size (fun j hj => by have := Option.some.inj hj; have := HRb.out; omega)
    have HK3 : Hid (KeepT RW w1 w3) := HK2.out.trans ((gr_keepT HX0.out.1 hg3).wide (by decide))
    clear hx3 he3 hg3 HT HX0 HB2 HK2
    have HU := xUint Rb a1 512 c1 b k1 _ w3 HX3.out
    rw [← HE3.out] at HU
    change Calls Tryz.prog _ _ w3 (fun e w' => e = .returned (.int .u64 ((hdSeq b).1 : Int)) ∧ (∃ k', IsX w' Rb a1 512 c1 b k' (hdSeq b).2.2 ∧ (hdSeq b).2.1 = b.drop k') ∧ w3.grownBy w' (some Rb)) at HU
    go_wp2_with fail
    refine HU.mono ?_
    rintro e w4 ⟨rfl, ⟨k2, hx4, he4⟩, hg4⟩
    have HX4 := mkHid hx4
    have HE4 := mkHid he4
    have HB4 : Hid (Below w.heap.size w w4) := HB3.out.grown hg4 HB3.out.size (fun j hj => by have := Option.some.inj hj; have := HRb.out; omega)
    have HK4 : Hid (KeepT RW w1 w4) := HK3.out.trans ((gr_keepT HX3.out.1 hg4).wide (by decide))
    clear hx4 he4 hg4 HU HX3 HB3 HE3 HK3
    have HLi := xList Rb a1 512 c1 b k2 _ 48 w4 HX4.out (by omega)
    rw [← HE4.out] at HLi
    change Calls Tryz.prog _ _ w4 (fun e w' => e = .returned (.int .i64 ((hdN b).1 : Int)) ∧ (∃ k', IsX w' Rb a1 512 c1 b k' (hdN b).2.2 ∧ (hdN b).2.1 = b.drop k') ∧ w4.grownBy w' (some Rb)) at HLi
    go_wp2_with fail
    refine HLi.mono ?_
    rintro e w5 ⟨rfl, ⟨k3, hx5, he5⟩, hg5⟩
    have HX5 := mkHid hx5
    have HB5 : Hid (Below w.heap.size w w5) := HB4.out.grown hg5 HB4.out.size (fun j hj => by have := Option.some.inj hj; have := HRb.out; omega)
    have hn48 : (hdN b).1 ≤ 48 := rdList_le _ _
    have HHB : Hid (heldB p b = heldEnd b (heldGo p (hdN b).1 0 (b.drop k3) (hdN b).2.2 [])) := by unfold Hid; rw [← he5]; rfl
    have HK5 : Hid (KeepT RW w1 w5) := HK4.out.trans ((gr_keepT HX4.out.1 hg5).wide (by decide))
    clear hx5 he5 hg5 HLi HX4 HB4 HE4 HK4
    generalize (hdN b).1 = n at *
    generalize (hdN b).2.2 = bad0 at *
    generalize hsq : (hdSeq b).1 = sq at *
    have HSq := mkHid hsq
    clear hsq
    go_wp2_with fail
    go_loopw [11, 12] (fun vl i wr => ∃ (k kk : Nat) (bad : Bool) (ls : List Wg), k ≤ n ∧ i = .int .i64 (k : Int) ∧ ls.length = k ∧ Hid (IsX wr Rb a1 512 c1 b kk bad) ∧ Hid (heldB p b = heldEnd b (heldGo p (n - k) k (b.drop kk) bad (ls.map plW))) ∧ Hid (GsAt wr w.heap.size vl ls) ∧ Hid (∀ g ∈ ls, g.at_ ≤ 1000000) ∧ Hid (KeepT RW w1 wr) ∧ Hid (Below w.heap.size w wr)) (fun _ i _ => n - (intOf i).toNat)
    case atStart => exact ⟨0, k3, bad0, [], Nat.zero_le _, rfl, rfl, HX5, HHB, ⟨OwnG.nil _ _ _, fun g hg => (by cases hg)⟩, (fun g hg => (by cases hg)), HK5, HB5⟩
    case round =>
      clear HX5 HHB HB5 HK5
      obtain ⟨k, kk, bad, ls, hk, rfl, hlk, HX6, HHe, HG, HA, HK, HB⟩ := hrel
      have HlK := mkHid hlk
      clear hlk
      by_cases hlt : k < n
      · have hlt' : (k : Int) < (n : Int) := by omega
        obtain ⟨j, hj⟩ : ∃ j, n - k = j + 1 := ⟨n - k - 1, by omega⟩
        have HJj : Hid (n - (k + 1) = j) := by unfold Hid; omega
        rw [hj] at HHe
        clear hj
        have HU := xUint Rb a1 512 c1 b kk bad wr HX6.out
        have cN := (HH.out.on HB.out).cellN
        generalize hru : rdUint (b.drop kk) bad = ru at *
        have HRu := mkHid hru
        clear hru
        go_upto_region 13 with (go_at_call 64; refine HU.mono ?_; rintro e w6 ⟨rfl, ⟨k4, hx7, he7⟩, hg7⟩; have HX7 := mkHid hx7; have HE7 := mkHid he7; have HG7 := mkHid hg7; clear hx7 he7 hg7)
        have HB7 : Hid (Below w.heap.size w w6) := HB.out.grown HG7.out HB.out.size (fun j hj => by have := Option.some.inj hj; have := HRb.out; omega)
        have HG8 : Hid (GsAt w6 w.heap.size u11 ls) := HG.out.keep (gr_keepT HX6.out.1 HG7.out) (by decide) (by decide)
        have HK7 : Hid (KeepT RW w1 w6) := HK.out.trans ((gr_keepT HX6.out.1 HG7.out).wide (by decide))
        have HD7 := mkHid (HH.out.on HB7.out)
        have d0 := HD7.out.cellN
        have r2 : w6.cell? ⟨Rb, 2, none⟩ = some (.bool ru.2.2) := HX7.out.1.cell 2
        have hwN : IntKind.u64.wrap (p.n : Int) = (p.n : Int) := wrap64_nat _ (by omega)
        clear HU cN HX6 HG HB HG7 HK
        by_cases hno : ru.2.2 = true ∨ ru.1 < 49 ∨ p.n ≤ ru.1
        · have HF : Hid (heldJ p = none) := by
            unfold Hid
            rw [HJ.out, HHe.out, heldGo_none (by rw [HRu.out]; exact hno)]
            rfl
          cases hb' : ru.2.2 with
          | true =>
            rw [hb'] at r2
            clear hno hb'
            go_wp2_with fail
            go_ret3
            exact ⟨by rw [HF.out]; rfl, HB7.out⟩
          | false =>
            rw [hb'] at r2
            by_cases h49 : ru.1 < 49
            · have h49' : (ru.1 : Int) < 49 := by omega
              clear hno hb' HHe HE7 HX7
              generalize ru.1 = at1 at *
              go_wp2_with fail
              go_ret3
              exact ⟨by rw [HF.out]; rfl, HB7.out⟩
            · have h49' : ¬ (ru.1 : Int) < 49 := by omega
              have hge : p.n ≤ ru.1 := by
                rcases hno with h | h | h
                · rw [hb'] at h; cases h
                · exact absurd h h49
                · exact h
              have hge' : (p.n : Int) ≤ (ru.1 : Int) := by omega
              clear hno hb' HHe HE7 HX7 h49
              generalize ru.1 = at1 at *
              go_wp2_with fail
              go_ret3
              exact ⟨by rw [HF.out]; rfl, HB7.out⟩
        · have hb' : ru.2.2 = false := by
            cases h : ru.2.2 with
            | false => rfl
            | true => exact absurd (.inl h) hno
          have h49' : ¬ (ru.1 : Int) < 49 := by have := fun h => hno (.inr (.inl h)); omega
          have hlt2 : ¬ (p.n : Int) ≤ (ru.1 : Int) := by have := fun h => hno (.inr (.inr h)); omega
          have hat : ru.1 ≤ 4096 := by omega
          rw [heldGo_some (by rw [HRu.out]; exact hno), HRu.out, HE7.out] at HHe
          rw [hb'] at r2
          have H0k := HRd.out k (by omega)
          have H5k := mkHid (HD7.out.rd512 _ H0k)
          have HRk := rkRead D base m p ((1 + k : Nat) : Int) w6 HD7.out hm
          have hcast : ((1 + k : Nat) : Int) = 1 + (k : Int) := by omega
          rw [H0k, hcast] at HRk
          rw [hcast] at HHe H5k
          have hwi : IntKind.i64.wrap (ru.1 : Int) = (ru.1 : Int) := by rw [IntKind.wrap_i64]; omega
          have hw1 : IntKind.i64.wrap (1 + (k : Int)) = 1 + (k : Int) := by rw [IntKind.wrap_i64]; omega
          clear hno hb' HE7 H0k
          generalize p.rdB (1 + (k : Int)) = sb at *
          generalize hat1 : ru.1 = at1 at *
          clear hat1
          generalize hbd1 : ru.2.2 = bd1 at *
          clear hbd1 HRu hcast
          go_upto_region 16 with (go_at_call 36; refine HRk.mono ?_; rintro e w7 ⟨v7, rfl, ho7, hb7⟩; have HO7 := mkHid ho7; have HBb := mkHid hb7; clear ho7 hb7)
          obtain ⟨a7, c7, hv7, _⟩ := HO7.out.isB
          subst hv7
          rw [H5k.out]
          have HG9 := mkHid (HG8.out.on HBb.out)
          have HX9 : Hid (IsX w7 Rb a1 512 c1 b k4 bd1) := ⟨HX7.out.1.on HBb.out, HX7.out.2.1.below HBb.out rfl, HX7.out.2.2.1, HX7.out.2.2.2⟩
          have HK9 : Hid (KeepT RW w1 w7) := HK7.out.trans (KeepT.of_below HBb.out)
          have HB9 : Hid (Below w.heap.size w w7) := HB7.out.trans (HBb.out.mono HB7.out.size)
          have HSx : Hid (w.heap.size ≤ w6.heap.size) := HB7.out.size
          clear HRk HG8 HX7 HB7 HD7 d0 r2 HBb HK7
          have HLs : Hid (ls.length ≤ 48) := by unfold Hid; rw [HlK.out]; omega
          go_wp2_with (at_builtin; refine list_appG 78 88 Tryz.underlying78 infoW9 _ rfl (.tmp 63) (.tmp 68) rfl w.heap.size _ ls rfl (HG9.out.own.alloc _) w7.heap.size ⟨at1, sb, a7, c7⟩ rfl (by unfold wgc; rw [H5k.out]; exact heap_alloc_new w7 _) (by have := HLs.out; omega) (by rw [World.size_alloc]; have := HB9.out.size; omega) ?_; intro v8 w8 ho8 hg8; have HO8 := mkHid ho8; have HG10 := mkHid hg8; clear ho8 hg8)
          have hbl : Below w7.heap.size w7 (w7.alloc (.cells #[.int .i64 (at1 : Int), .slice a7 512 c7] 88)) := (Below.refl _ w7).alloc (Nat.le_refl _) _
          have hkT : KeepT [88] w7 w8 := (KeepT.of_below hbl).grown (HG9.out.own.alloc _) HG10.out (by simp)
          have HB10 : Hid (Below w.heap.size w w8) := (HB9.out.alloc HB9.out.size _).grown HG10.out (by rw [World.size_alloc]; have := HB9.out.size; omega) (fun j hj => (HG9.out.own.blk j hj).1)
          have HK10 : Hid (KeepT RW w1 w8) := HK9.out.trans (hkT.wide (by decide))
          have HX10 : Hid (IsX w8 Rb a1 512 c1 b k4 bd1) := by
            have ho : OwnB w8 w.heap.size (.slice a1 512 c1) b := own_keep HK10.out HOb.out (by decide)
            obtain ⟨a9, c9, e9, hi9⟩ := ho.isB
            injection e9 with e1 e2 e3
            subst e1 e3
            rw [H512.out] at hi9
            exact ⟨hkT.blk HX9.out.1 (by decide), hi9, HX9.out.2.2.1, HX9.out.2.2.2⟩
          have HG11 : Hid (GsAt w8 w.heap.size v8 (ls ++ [⟨at1, sb, a7, c7⟩])) := ⟨HO8.out, Bys.append (HG9.out.bys.keep hkT (by decide)) (fun x hx => by
            rw [List.mem_singleton.1 hx]
            exact ⟨H5k.out, OwnB.base (own_keep hkT HO7.out (by decide)) HSx.out⟩)⟩
          have HA2 : Hid (∀ g ∈ ls ++ [(⟨at1, sb, a7, c7⟩ : Wg)], g.at_ ≤ 1000000) := fun g hg => by
            rcases List.mem_append.1 hg with hg | hg
            · exact HA.out g hg
            · rw [List.mem_singleton.1 hg]; show at1 ≤ _; omega
          have HHe2 : Hid (heldB p b = heldEnd b (heldGo p (n - (k + 1)) (k + 1) (b.drop k4) bd1 ((ls ++ [(⟨at1, sb, a7, c7⟩ : Wg)]).map plW))) := by
            unfold Hid; rw [HHe.out, HJj.out, List.map_append]; rfl
          clear hkT hbl HO8 HG10 HG9 HX9 HB9 HHe HK9
          go_roundw
          case rel => exact ⟨k + 1, k4, bd1, ls ++ [⟨at1, sb, a7, c7⟩], by omega, by go_num, by rw [List.length_append, HlK.out]; rfl, HX10, HHe2, HG11, HA2, HK10, HB10⟩
          case measure => simp [intOf]; omega
      · have hge : ¬ (k : Int) < (n : Int) := by omega
        have hkn : k = n := by omega
        subst hkn
        have HHf : Hid (heldJ p = heldEnd b (some (ls.map plW, bad))) := by
          unfold Hid; rw [HJ.out, HHe.out, Nat.sub_self]; rfl
        have r2 : wr.cell? ⟨Rb, 2, none⟩ = some (.bool bad) := HX6.out.1.cell 2
        clear HHe
        cases bad with
        | true =>
          have HF : Hid (heldJ p = none) := by unfold Hid; rw [HHf.out, heldEnd, if_pos (.inl rfl)]
          go_wp2_with fail
          go_ret3
          exact ⟨by rw [HF.out]; rfl, HB.out⟩
        | false =>
          by_cases hnm : nm = steleB
          · have HSe := refSeal10 sq u11 ls w.heap.size wr HG.out (by rw [HlK.out]; exact hn48) HA.out
            have HSl : Hid ((sealJ sq (ls.map plW)).length = 512) := sealJ_length _ _ (by rw [preJ_length, List.length_map, HlK.out]; omega)
            have hO : OwnB wr w.heap.size (.slice a1 512 c1) b := own_keep HK.out HOb.out (by decide)
            have HIb : Hid (IsB wr a1 512 c1 b) := HX6.out.2.1
            subst hnm
            go_wp2_with fail
            refine HSe.mono ?_
            rintro e w9 ⟨v9, rfl, ho9, hb9⟩
            obtain ⟨a9, c9, rfl, hi9⟩ := ho9.isB
            rw [HSl.out] at hi9 ⊢
            have HB9 : Hid (Below w.heap.size w w9) := HB.out.trans (hb9.mono HB.out.size)
            have HG9 : Hid (GsAt w9 w.heap.size u11 ls) := HG.out.on hb9
            have HSa := refSame a9 512 c9 (sealJ sq (ls.map plW)) a1 512 c1 b w9 hi9 (HIb.out.below hb9 rfl)
            clear ho9 hi9 hb9 HSe hO
            by_cases hse : sealJ sq (ls.map plW) = b
            · have HF : Hid (heldJ p = some (sq, ls.map plW)) := by
                unfold Hid; rw [HHf.out, heldEnd, if_neg, HSq.out]
                rintro (h | h | h)
                · cases h
                · exact h HNm.out
                · rw [HSq.out] at h; exact h hse
              have heq : eqB (sealJ sq (ls.map plW)) b = true := by rw [hse]; exact eqB_self b
              rw [heq] at HSa
              clear hse heq
              go_wp2_with fail
              refine HSa.mono ?_
              rintro e w10 ⟨rfl, nd, hw10⟩
              have HBd : Hid (Below w9.heap.size w9 w10) := by rw [hw10]; exact bel_drewN (Below.refl _ w9) nd
              clear hw10
              go_wp2_with fail
              go_ret3
              exact ⟨by rw [HF.out]; exact ⟨_, ls, rfl, HG9.out.on HBd.out, rfl⟩, HB9.out.trans (HBd.out.mono HB9.out.size)⟩
            · have HF : Hid (heldJ p = none) := by
                unfold Hid; rw [HHf.out, heldEnd, if_pos (.inr (.inr (by rw [HSq.out]; exact hse)))]
              have heq : eqB (sealJ sq (ls.map plW)) b = false := eqB_no hse
              rw [heq] at HSa
              clear hse heq
              go_wp2_with fail
              refine HSa.mono ?_
              rintro e w10 ⟨rfl, nd, hw10⟩
              have HBd : Hid (Below w9.heap.size w9 w10) := by rw [hw10]; exact bel_drewN (Below.refl _ w9) nd
              clear hw10
              go_wp2_with fail
              go_ret3
              exact ⟨by rw [HF.out]; rfl, HB9.out.trans (HBd.out.mono HB9.out.size)⟩
          · have HF : Hid (heldJ p = none) := by
              unfold Hid; rw [HHf.out, heldEnd, if_pos (.inr (.inl (by rw [HNm.out]; exact hnm)))]
            go_wp2_with fail
            go_ret3
            exact ⟨by rw [HF.out]; rfl, HB.out⟩
  · have HJ : Hid (heldJ p = none) := by unfold Hid; rw [heldJ, if_pos h0]
    generalize hz : p.rdE 0 = z at *
    have hzb : (z == 0) = false := by rw [beq_eq_false_iff_ne]; exact h0
    clear hz
    go_enter Tryz.func37, Tryz.ntmps37
    go_wp2_with fail
    refine HR.mono ?_
    rintro e w1 ⟨v1, rfl, ho1, hb1⟩
    have HB1 := mkHid hb1
    clear hb1 ho1
    go_wp2_with fail
    go_ret3
    exact ⟨by rw [HJ.out]; rfl, HB1.out⟩
end Go.Proofs.YthjdmfbengpepaaGreat
