/- The walk of ExpiryStands. -/
import Derived.Test.YtjmkfkkkjcjplaaEx4
import Derived.Deep.Cut
import Derived.Sort.AtCall
namespace Go.Proofs.Ytjmkfkkkjcjplaa
open Go.RowKit

attribute [local go_sem] undef
/-- no two of the first so many have one Order -/
def OneU (l : List Vs) (m : Nat) : Prop := ∀ (i j : Nat) (v u : Vs), i < m → j < m → l[i]? = some v → l[j]? = some u → v.ord = u.ord → i = j
theorem OneU.next {l : List Vs} {m : Nat} {v : Vs} (h : OneU l m) (hv : l[m]? = some v) (hn : ∀ (j : Nat) (u : Vs), j < m → l[j]? = some u → u.ord ≠ v.ord) : OneU l (m + 1) := fun i j x y hi hj hx hy e => by
  rcases Nat.lt_or_ge i m with h1 | h1
  · rcases Nat.lt_or_ge j m with h2 | h2
    · exact h i j x y h1 h2 hx hy e
    · obtain rfl : j = m := by omega
      obtain rfl := Option.some.inj (hv.symm.trans hy)
      exact absurd e (hn i x h1 hx)
  · obtain rfl : i = m := by omega
    obtain rfl := Option.some.inj (hv.symm.trans hx)
    rcases Nat.lt_or_ge j i with h2 | h2
    · exact absurd e.symm (hn j y h2 hy)
    · omega
theorem OneU.all {l : List Vs} (h : OneU l l.length) : OneO l := fun i j v u hi hj e => h i j v u (List.getElem?_eq_some_iff.1 hi).1 (List.getElem?_eq_some_iff.1 hj).1 hi hj e
theorem OneB.drewN {w W : World} {T : Nat} {cs : List Value} (h : OneB w W T cs) (x : Nat) : OneB w (W.drewN x) T cs := h.on (bel_drewN (Below.refl _ W) x)
theorem OneB.set {w W : World} {T : Nat} {cs : List Value} (h : OneB w W T cs) (j : Nat) (v : Value) : OneB w (W.setCell ⟨w.heap.size, j, none⟩ v) T (cs.set j v) := ⟨h.k.set j v, h.bel.setCell (p := ⟨w.heap.size, j, none⟩) (Nat.le_refl _) _⟩
set_option maxRecDepth 20000 in
set_option maxHeartbeats 16000000 in
theorem stands17 (E : ExOK) (b : Bk) (a : Option Addr) (n cap : Nat) (l : List Vq) (now later : Nat) (w : World) (h : IsVl w a n cap l) (hb : (-9223372036854775808 ≤ b.exp ∧ b.exp ≤ 9223372036854775807) ∧ -9223372036854775808 ≤ b.nonc ∧ b.nonc ≤ 9223372036854775807) (ht : now < 18446744073709551616) (hla : later < 18446744073709551616) :
    Calls Try.prog 5 #[.agg (bkc b).toArray, .slice a n cap, .int .u64 (now : Int), .int .u64 (later : Int)] w fun e w' => e = .returned (.bool true) ∧ Below w.heap.size w w' := by
  have HO := mkHid (OneB.new w 27 (bkc b))
  have CA := mkHid (lawAlive17 E)
  by_cases hn : ¬ n ≤ 100
  · have hn' : (100 : Int) < (n : Int) := by omega
    clear h hb ht hla hn
    go_enter Try.func5, Try.ntmps5
    go_upto_region 1 with fail
    generalize World.alloc _ _ = y at *
    go_wp2_with fail
    refine (CA.out _).mono ?_
    rintro e y3 ⟨rfl, hb3⟩
    have H3 := mkHid (HO.out.bel.trans (hb3.mono HO.out.bel.size))
    clear CA hb3 HO
    go_wp2_with fail
    go_ret
    exact ⟨rfl, H3.out⟩
  have hn1 : n ≤ 100 := by omega
  have hn' : ¬ (100 : Int) < (n : Int) := by omega
  by_cases hnl : later < now
  · have hnl' : (later : Int) < (now : Int) := by omega
    clear h hb ht hla hn hnl
    go_enter Try.func5, Try.ntmps5
    go_upto_region 1 with fail
    generalize World.alloc _ _ = y at *
    go_wp2_with fail
    refine (CA.out _).mono ?_
    rintro e y3 ⟨rfl, hb3⟩
    have H3 := mkHid (HO.out.bel.trans (hb3.mono HO.out.bel.size))
    clear CA hb3 HO
    go_wp2_with fail
    go_ret
    exact ⟨rfl, H3.out⟩
  have hnl' : ¬ (later : Int) < (now : Int) := by omega
  have HNL : Hid (now ≤ later) := Nat.le_of_not_lt hnl
  have HX := mkHid h
  have HLn : Hid ((l.map Prod.fst).length = n) := by unfold Hid; rw [List.length_map]; exact h.row.len
  have C1 : Hid (∀ (W : World) (t : Nat), t < 18446744073709551616 → Below w.heap.size w W → Calls Try.prog 10 #[.agg (bkc b).toArray, .slice a n cap, .int .u64 (t : Int)] W fun e w' => (∃ v, e = .returned v ∧ OwnRw rtU w' W.heap.size v (dueK b (l.map Prod.fst) t)) ∧ Below W.heap.size W w') := fun W t ht hW => E.due b a n cap l t W (h.below hW) hn1 hb.1.1 hb.1.2 hb.2.1 hb.2.2 ht
  have C0 : Hid (∀ W, Below w.heap.size w W → Calls Try.prog 10 #[.agg (bkc { b with exp := 0, nonc := 0 }).toArray, .slice a n cap, .int .u64 (later : Int)] W fun e w' => (∃ v, e = .returned v ∧ OwnRw rtU w' W.heap.size v []) ∧ Below W.heap.size W w') := fun W hW => by
    have := E.due { b with exp := 0, nonc := 0 } a n cap l later W (h.below hW) hn1 (show (-9223372036854775808 : Int) ≤ 0 by omega) (show (0 : Int) ≤ 9223372036854775807 by omega) (show (-9223372036854775808 : Int) ≤ 0 by omega) (show (0 : Int) ≤ 9223372036854775807 by omega) hla
    rw [due_none { b with exp := 0, nonc := 0 } (l.map Prod.fst) later rfl rfl] at this
    exact this
  have HT := mkHid (And.intro ht hla)
  have HDl : Hid (∀ t, (dueK b (l.map Prod.fst) t).length ≤ n) := fun t => by
    have := dueN_len b (l.map Prod.fst) t (l.map Prod.fst).length
    rw [HLn.out] at this
    unfold dueK; rw [HLn.out]; exact this
  clear h hb ht hla hn hnl
  have HBk := mkHid (Eq.refl b)
  obtain ⟨name, ver, lock, mfa, dflt, days, pol, exp, nonc⟩ := b
  simp only [bkc] at HO C1 C0 ⊢
  go_enter Try.func5, Try.ntmps5
  go_upto_region 1 with fail
  generalize World.alloc _ _ = y at *
  go_wp2_with fail
  go_loopw [9] (fun i wr => ∃ m : Nat, m ≤ n ∧ i = .int .i64 (m : Int) ∧ Hid (OneU (l.map Prod.fst) m) ∧ Hid (OneB w wr 27 [.string name, .int .i64 ver, .bool lock, .bool mfa, .int .i64 dflt, .int .i64 days, .string pol, .int .i64 exp, .int .i64 nonc])) (fun i _ => n - (Go.RowKit.intOf i).toNat)
  case atStart => exact ⟨0, Nat.zero_le _, rfl, fun i j v u hi => absurd hi (Nat.not_lt_zero _), HO⟩
  case round =>
    clear HO
    obtain ⟨m, hm, rfl, HU, HO⟩ := hrel
    by_cases hlt : m < n
    · have hlt' : (m : Int) < (n : Int) := by omega
      have Hlt := mkHid hlt
      have hm0 : (0 : Int) ≤ (m : Int) := by omega
      obtain ⟨B, off, p, rfl, hp, hpm, hcs⟩ := vq_cells HX.out.row m hlt
      have HC3 : Hid (∀ W, Below w.heap.size w W → W.cell? ⟨B, off + m * 10 + 3, none⟩ = some (.int .u64 (p.1.ord : Int))) := fun W hW => (hcs W hW).2.2.2.1
      have HPm := mkHid hpm
      clear hcs hp hpm hlt hm
      generalize p.1 = pv at *
      go_wp2_with fail
      obtain ⟨wo, hwo⟩ : ∃ wo : World, wo = wr := ⟨_, rfl⟩
      clear hwo wo
      go_loopw [10] (fun i wr => ∃ k : Nat, k ≤ m ∧ i = .int .i64 (k : Int) ∧ Hid (∀ (j : Nat) (u : Vs), j < k → (l.map Prod.fst)[j]? = some u → u.ord ≠ pv.ord) ∧ Hid (OneB w wr 27 [.string name, .int .i64 ver, .bool lock, .bool mfa, .int .i64 dflt, .int .i64 days, .string pol, .int .i64 exp, .int .i64 nonc])) (fun i _ => m - (Go.RowKit.intOf i).toNat)
      case atStart => exact ⟨0, Nat.zero_le _, rfl, fun j u hj => absurd hj (Nat.not_lt_zero _), HO⟩
      case round =>
        clear HO
        obtain ⟨k, hk, rfl, HK, HO⟩ := hrel
        by_cases hkm : k < m
        · have hkm' : (k : Int) < (m : Int) := by omega
          have Hkm := mkHid hkm
          have hk0 : (0 : Int) ≤ (k : Int) := by omega
          have hkn : (k : Int) < (n : Int) := by have := Hlt.out; omega
          obtain ⟨B', off', q, hB', hq, hqm, hcs'⟩ := vq_cells HX.out.row k (by have := Hlt.out; omega)
          obtain ⟨rfl, rfl⟩ : B = B' ∧ off = off' := by cases hB'; exact ⟨rfl, rfl⟩
          have e0 := HC3.out _ HO.out.bel
          have e1 := (hcs' _ HO.out.bel).2.2.2.1
          have HQm := mkHid hqm
          clear hcs' hq hqm hkm hk
          generalize q.1 = qv at *
          by_cases he : qv.ord = pv.ord
          · rw [he] at e1
            clear HK HQm he
            go_wp2_with fail
            go_quiet (fail)
            go_wp2_with fail
            refine (CA.out _).mono ?_
            rintro e y3 ⟨rfl, hb3⟩
            have H3 := mkHid ((bel_drewN HO.out.bel _).trans (hb3.mono (bel_drewN HO.out.bel _).size))
            clear CA hb3 HO e0 e1
            go_wp2_with fail
            go_ret
            exact ⟨rfl, H3.out⟩
          · have hed : ((qv.ord : Int) == (pv.ord : Int)) = false := by rw [beq_eq_false_iff_ne]; omega
            have HK2 : Hid (∀ (j : Nat) (u : Vs), j < k + 1 → (l.map Prod.fst)[j]? = some u → u.ord ≠ pv.ord) := fun j u hj hu => by
              rcases Nat.lt_or_ge j k with h1 | h1
              · exact HK.out j u h1 hu
              · obtain rfl : j = k := by omega
                obtain rfl := Option.some.inj (HQm.out.symm.trans hu)
                exact he
            clear HK HQm he
            go_wp2_with fail
            go_quiet (fail)
            go_wp2_with fail
            go_roundw
            case rel => exact ⟨k + 1, Hkm.out, by go_num, HK2, mkHid (HO.out.drewN _)⟩
            case measure => simp [Go.RowKit.intOf]; have := Hkm.out; omega
        · obtain rfl : k = m := by omega
          have hge : ¬ (k : Int) < (k : Int) := by omega
          have HU2 := mkHid (HU.out.next HPm.out HK.out)
          clear HU HK
          go_wp2_with fail
          go_roundw
          case rel => exact ⟨k + 1, Hlt.out, by go_num, HU2, HO⟩
          case measure => simp [Go.RowKit.intOf]; have := Hlt.out; omega
    obtain rfl : m = n := by omega
    have hge : ¬ (m : Int) < (m : Int) := by omega
    have H1 : Hid (OneO (l.map Prod.fst)) := mkHid (OneU.all (by rw [HLn.out]; exact HU.out))
    clear HU hlt hm
    obtain ⟨D1, hD1⟩ : ∃ D1, D1 = dueK ⟨name, ver, lock, mfa, dflt, days, pol, exp, nonc⟩ (l.map Prod.fst) now := ⟨_, rfl⟩
    obtain ⟨D2, hD2⟩ : ∃ D2, D2 = dueK ⟨name, ver, lock, mfa, dflt, days, pol, exp, nonc⟩ (l.map Prod.fst) later := ⟨_, rfl⟩
    have CD1 : Hid (∀ W, Below w.heap.size w W → Calls Try.prog 10 #[.agg #[.string name, .int .i64 ver, .bool lock, .bool mfa, .int .i64 dflt, .int .i64 days, .string pol, .int .i64 exp, .int .i64 nonc], .slice a m cap, .int .u64 (now : Int)] W fun e w' => (∃ v, e = .returned v ∧ OwnRw rtU w' W.heap.size v D1) ∧ Below W.heap.size W w') := fun W hW => by rw [hD1]; exact C1.out W now HT.out.1 hW
    have CD2 : Hid (∀ W, Below w.heap.size w W → Calls Try.prog 10 #[.agg #[.string name, .int .i64 ver, .bool lock, .bool mfa, .int .i64 dflt, .int .i64 days, .string pol, .int .i64 exp, .int .i64 nonc], .slice a m cap, .int .u64 (later : Int)] W fun e w' => (∃ v, e = .returned v ∧ OwnRw rtU w' W.heap.size v D2) ∧ Below W.heap.size W w') := fun W hW => by rw [hD2]; exact C1.out W later HT.out.2 hW
    have hl1 : D1.length ≤ m := by rw [hD1]; exact HDl.out _
    have hl2 : D2.length ≤ m := by rw [hD2]; exact HDl.out _
    have HD1 := mkHid hD1
    have HD2 := mkHid hD2
    clear C1 hD1 hD2
    obtain ⟨Y, hY⟩ : ∃ Y : World, Y = wr := ⟨_, rfl⟩
    rw [← hY] at HO ⊢
    clear hY
    have HBy := HO.out.bel
    have HKP : ∀ w', Below Y.heap.size Y w' → Below Y.heap.size Y w' ∧ w'.cell? ⟨w.heap.size, 0, none⟩ = some (.string name) ∧ w'.cell? ⟨w.heap.size, 1, none⟩ = some (.int .i64 ver) ∧ w'.cell? ⟨w.heap.size, 2, none⟩ = some (.bool lock) ∧ w'.cell? ⟨w.heap.size, 3, none⟩ = some (.bool mfa) ∧ w'.cell? ⟨w.heap.size, 4, none⟩ = some (.int .i64 dflt) ∧ w'.cell? ⟨w.heap.size, 5, none⟩ = some (.int .i64 days) ∧ w'.cell? ⟨w.heap.size, 6, none⟩ = some (.string pol) ∧ w'.cell? ⟨w.heap.size, 7, none⟩ = some (.int .i64 exp) ∧ w'.cell? ⟨w.heap.size, 8, none⟩ = some (.int .i64 nonc) := fun w' hw => by
      have k := HO.out.k.on hw
      exact ⟨hw, k.cell 0, k.cell 1, k.cell 2, k.cell 3, k.cell 4, k.cell 5, k.cell 6, k.cell 7, k.cell 8⟩
    go_wp2_with fail
    go_cut [11, 12] from 24 (fun v1 v2 wx => ∃ a1 c1 a2 c2, v1 = .slice a1 D1.length c1 ∧ v2 = .slice a2 D2.length c2 ∧ Hid (RowC 1 rtU.c wx a1 D1.length D1) ∧ Hid (RowC 1 rtU.c wx a2 D2.length D2) ∧ Hid (Below Y.heap.size Y wx))
    case first =>
      go_region_held3 (fun w' => Below Y.heap.size Y w' ∧ w'.cell? ⟨w.heap.size, 0, none⟩ = some (.string name) ∧ w'.cell? ⟨w.heap.size, 1, none⟩ = some (.int .i64 ver) ∧ w'.cell? ⟨w.heap.size, 2, none⟩ = some (.bool lock) ∧ w'.cell? ⟨w.heap.size, 3, none⟩ = some (.bool mfa) ∧ w'.cell? ⟨w.heap.size, 4, none⟩ = some (.int .i64 dflt) ∧ w'.cell? ⟨w.heap.size, 5, none⟩ = some (.int .i64 days) ∧ w'.cell? ⟨w.heap.size, 6, none⟩ = some (.string pol) ∧ w'.cell? ⟨w.heap.size, 7, none⟩ = some (.int .i64 exp) ∧ w'.cell? ⟨w.heap.size, 8, none⟩ = some (.int .i64 nonc))
        (first | exact HKP _ ((Below.refl _ Y).drew) | assumption | (have hq0 := ‹Below _ _ _ ∧ _›; exact HKP _ (hq0.1.trans (hbx.mono hq0.1.size))))
        (first
          | (go_at_call_has 10 (Value.int .u64 (now : Int)); refine (CD1.out _ (HBy.trans ((‹Below _ _ _ ∧ _›).1.mono HBy.size))).mono ?_; rintro e w2 ⟨⟨v, rfl, ho⟩, hbx⟩; obtain ⟨pa, pc, rfl, -⟩ := ho.form okU; have HP := mkHid (ho.row okU); (try have HR := mkHid (HR.out.below hbx (Nat.le_refl _))); clear ho)
          | (go_at_call_has 10 (Value.int .u64 (later : Int)); refine (CD2.out _ (HBy.trans ((‹Below _ _ _ ∧ _›).1.mono HBy.size))).mono ?_; rintro e w2 ⟨⟨v, rfl, ho⟩, hbx⟩; obtain ⟨ra, rc, rfl, -⟩ := ho.form okU; have HR := mkHid (ho.row okU); (try have HP := mkHid (HP.out.below hbx (Nat.le_refl _))); clear ho))
      all_goals
        have hq9 := ‹Below _ _ _ ∧ _›
        go_wp2_with fail
        go_meet
        case rel => exact ⟨pa, pc, ra, rc, rfl, rfl, HP, HR, mkHid hq9.1⟩
    case rest =>
      obtain ⟨a1, c1, a2, c2, rfl, rfl, HP, HR, HYx⟩ := hcut
      have HO2 := mkHid (HO.out.on HYx.out)
      have HL12 : Hid (D1.length ≤ 1000 ∧ D2.length ≤ 1000) := ⟨by omega, by omega⟩
      clear HKP HBy CD1 CD2 HYx HO hl1 hl2
      go_wp2_with fail
      go_loopw [13] (fun i wr => ∃ k : Nat, k ≤ m ∧ i = .int .i64 (k : Int) ∧ Hid (Below wc.heap.size wc wr)) (fun i _ => m - (Go.RowKit.intOf i).toNat)
      case atStart => exact ⟨0, Nat.zero_le _, rfl, Below.refl _ _⟩
      case round =>
        obtain ⟨k, hk, rfl, HW⟩ := hrel
        by_cases hlt : k < m
        · have hlt' : (k : Int) < (m : Int) := by omega
          have Hlt := mkHid hlt
          have hk0 : (0 : Int) ≤ (k : Int) := by omega
          obtain ⟨B, off, p, rfl, hp, hpm, hcs⟩ := vq_cells HX.out.row k hlt
          have HOw := HO2.out.on HW.out
          obtain ⟨e0, e1, e2, e3, e4, e5, e6, e7, e8, e9⟩ := hcs _ HOw.bel
          have HI1 := due_in (b := ⟨name, ver, lock, mfa, dflt, days, pol, exp, nonc⟩) (now := now) H1.out hpm
          have HI2 := due_in (b := ⟨name, ver, lock, mfa, dflt, days, pol, exp, nonc⟩) (now := later) H1.out hpm
          rw [← HD1.out] at HI1
          rw [← HD2.out] at HI2
          obtain ⟨⟨vbkt, vkey, vid, vord, vmark, vdata, vrm, vru, vhold, vtime⟩, ⟨va, vc⟩⟩ := p
          simp only at e0 e1 e2 e3 e4 e5 e6 e7 e8 e9 HI1 HI2
          generalize vdata.length = dl at e5
          have HVn : Hid (BvAt w (wr.alloc (.cells #[.string vbkt, .string vkey, .int .u64 (vid : Int), .int .u64 (vord : Int), .bool vmark, .slice va dl vc, .int .i64 vrm, .int .u64 (vru : Int), .bool vhold, .int .u64 (vtime : Int)] 37)) wr.heap.size [.string name, .int .i64 ver, .bool lock, .bool mfa, .int .i64 dflt, .int .i64 days, .string pol, .int .i64 exp, .int .i64 nonc] [.string vbkt, .string vkey, .int .u64 (vid : Int), .int .u64 (vord : Int), .bool vmark, .slice va dl vc, .int .i64 vrm, .int .u64 (vru : Int), .bool vhold, .int .u64 (vtime : Int)]) := ⟨HOw.k.lt, HOw.k.alloc _, Blk.new wr _ _, HOw.bel.alloc HOw.bel.size _⟩
          have HWn : Hid (Below wc.heap.size wc (wr.alloc (.cells #[.string vbkt, .string vkey, .int .u64 (vid : Int), .int .u64 (vord : Int), .bool vmark, .slice va dl vc, .int .i64 vrm, .int .u64 (vru : Int), .bool vhold, .int .u64 (vtime : Int)] 37))) := HW.out.alloc HW.out.size _
          have HI1 := mkHid HI1
          have HI2 := mkHid HI2
          clear hcs hp hpm hlt hk HW HOw
          go_upto_region 16 with fail
          generalize wr.alloc (.cells #[.string vbkt, .string vkey, .int .u64 (vid : Int), .int .u64 (vord : Int), .bool vmark, .slice va dl vc, .int .i64 vrm, .int .u64 (vru : Int), .bool vhold, .int .u64 (vtime : Int)] 37) = Y3 at *
          generalize wr.heap.size = V at *
          clear e0 e1 e2 e3 e4 e5 e6 e7 e8 e9
          obtain ⟨e0, e1, e2, e3, e4, e5, e6, e7, e8, e9⟩ := HVn.out.ten
          obtain ⟨f0, f1, f7, f8⟩ := HVn.out.nine
          have CI1 := lawIn17 a1 D1.length c1 D1 vord Y3 (HP.out.below HWn.out (Nat.le_refl _)) HL12.out.1
          by_cases hd : vord ∈ D1
          · have hdu := HI1.out.1 hd
            obtain ⟨g1, g2, g3⟩ := due_free hdu
            have hin2 : vord ∈ D2 := HI2.out.2 (due_later HNL.out hdu)
            simp only at g1 g2 g3
            subst g2
            rw [g1] at e0
            rw [decide_eq_true hd] at CI1
            have CAc := refActive vrm vru now Y3
            rw [g3] at CAc
            have HG1 := mkHid g1
            have Hin2 := mkHid hin2
            have Hd := mkHid hd
            clear hdu g1 g3 hd hin2
            go_wp2_with fail
            refine CI1.mono ?_
            rintro e y ⟨rfl, hww⟩
            rw [hww]
            clear hww y
            go_wp2_with fail
            refine CAc.mono ?_
            rintro e Y4 ⟨rfl, hb⟩
            have HV4 := mkHid (HVn.out.on hb)
            have HW4 := mkHid (HWn.out.trans (hb.mono HWn.out.size))
            clear hb HVn HWn CI1 CAc e0 e1 e2 e3 e4 e5 e6 e7 e8 e9 f0 f1 f7 f8
            obtain ⟨e0, e1, e2, e3, e4, e5, e6, e7, e8, e9⟩ := HV4.out.ten
            obtain ⟨f0, f1, f7, f8⟩ := HV4.out.nine
            rw [HG1.out] at e0
            have CI1 := lawIn17 a1 D1.length c1 D1 vord Y4 (HP.out.below HW4.out (Nat.le_refl _)) HL12.out.1
            have CI2 := lawIn17 a2 D2.length c2 D2 vord Y4 (HR.out.below HW4.out (Nat.le_refl _)) HL12.out.2
            rw [decide_eq_true Hd.out] at CI1
            rw [decide_eq_true Hin2.out] at CI2
            go_wp2_with fail
            refine CI1.mono ?_
            rintro e y ⟨rfl, hww⟩
            rw [hww]
            clear hww y
            go_wp2_with fail
            refine CI2.mono ?_
            rintro e y ⟨rfl, hww⟩
            rw [hww]
            clear hww y
            go_wp2_with fail
            (try rw [show (Value.tuple #[] : Value) = undef from rfl])
            go_roundw
            case rel => exact ⟨k + 1, Hlt.out, by go_num, HW4⟩
            case measure => simp [Go.RowKit.intOf]; have := Hlt.out; omega
          · rw [decide_eq_false hd] at CI1
            clear hd HI1 HI2
            go_wp2_with fail
            refine CI1.mono ?_
            rintro e y ⟨rfl, hww⟩
            rw [hww]
            clear hww y
            go_wp2_with fail
            refine CI1.mono ?_
            rintro e y ⟨rfl, hww⟩
            rw [hww]
            clear hww y
            go_wp2_with fail
            (try rw [show (Value.tuple #[] : Value) = undef from rfl])
            go_roundw
            case rel => exact ⟨k + 1, Hlt.out, by go_num, HWn⟩
            case measure => simp [Go.RowKit.intOf]; have := Hlt.out; omega
        · obtain rfl : k = m := by omega
          have hge : ¬ (k : Int) < (k : Int) := by omega
          have HO3 := mkHid (HO2.out.on HW.out)
          have z7 := HO3.out.k.cell 7
          have z8 := HO3.out.k.cell 8
          have w7 := HO3.out.k.frozen 7
          have w8 := HO3.out.k.frozen 8
          simp only [List.getElem?_cons_zero, List.getElem?_cons_succ] at z7 z8
          have HO4 := mkHid ((HO3.out.set 7 (.int .i64 0)).set 8 (.int .i64 0))
          simp only [List.set_cons_zero, List.set_cons_succ] at HO4
          clear HP HR HW HO2 HO3 HD1 HD2 H1 HDl HL12 HNL hlt hk
          go_upto_region 21 with fail
          generalize (World.setCell wr _ _).setCell _ _ = Y5 at *
          clear z7 z8 w7 w8
          have e0 := HO4.out.k.cell 0
          have e1 := HO4.out.k.cell 1
          have e2 := HO4.out.k.cell 2
          have e3 := HO4.out.k.cell 3
          have e4 := HO4.out.k.cell 4
          have e5 := HO4.out.k.cell 5
          have e6 := HO4.out.k.cell 6
          have e7 := HO4.out.k.cell 7
          have e8 := HO4.out.k.cell 8
          simp only [List.getElem?_cons_zero, List.getElem?_cons_succ] at e0 e1 e2 e3 e4 e5 e6 e7 e8
          have C0' := C0.out Y5 HO4.out.bel
          go_wp2_with fail
          refine C0'.mono ?_
          rintro e Y6 ⟨⟨v, rfl, ho⟩, hb⟩
          obtain ⟨oa, oc, rfl, -⟩ := ho.form okU
          have H6 := mkHid (HO4.out.bel.trans (hb.mono HO4.out.bel.size))
          clear ho hb C0 C0' HO4 e0 e1 e2 e3 e4 e5 e6 e7 e8
          go_wp2_with fail
          refine (CA.out _).mono ?_
          rintro e y3 ⟨rfl, hb3⟩
          have H7 := mkHid (H6.out.trans (hb3.mono H6.out.size))
          clear CA hb3 H6
          go_wp2_with fail
          go_ret
          exact ⟨rfl, H7.out⟩
end Go.Proofs.Ytjmkfkkkjcjplaa
