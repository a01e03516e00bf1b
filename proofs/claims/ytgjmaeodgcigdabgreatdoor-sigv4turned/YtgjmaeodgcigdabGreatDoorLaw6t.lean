/- The walk of Sigv4Turned. -/
import Derived.Test.YtgjmaeodgcigdabGreatDoorB42
import Derived.Test.YtgjmaeodgcigdabGreatDoorB41
import Derived.Test.YtgjmaeodgcigdabGreatDoorB43
import Derived.Test.YtgjmaeodgcigdabGreatDoorB18
import Derived.BigRegion
namespace Go.Proofs.YtgjmaeodgcigdabGreatDoor
open Go.RowKit

theorem OwnP.setV {e : TypeId} {w : World} {N g cap n : Nat} {l : List Pr} (h : OwnP e w N (.slice (some ⟨g, 0, none⟩) n cap) l) (hn : l.length = n) (i : Nat) (hi : i < n) (v : List UInt8) :
    OwnP e (w.setCell ⟨g, i * 2 + 1, none⟩ (.string (str v))) N (.slice (some ⟨g, 0, none⟩) n cap) (l.set i ((nthP l i).1, v)) := by
  subst hn
  have h2 := (World.ownsRow.stored h (i * 2 + 1) (.string (str v))).1
  unfold OwnP
  rw [List.length_set, pcs_set]
  have e : (pcs l).set (i * 2) (sv (nthP l i).1) = pcs l := by
    obtain ⟨p1, _⟩ := pcs_at l i hi
    apply List.ext_getElem?
    intro j
    rw [List.getElem?_set]
    by_cases hj : i * 2 = j
    · subst hj
      rw [if_pos rfl, if_pos (by rw [pcs_length]; omega), p1]; rfl
    · rw [if_neg hj]
  dsimp only
  rw [e]
  exact h2

theorem OwnB.setOther6 {w : World} {base : Nat} {v : Value} {l : List UInt8} (h : OwnB w base v l) (a : Addr) (u : Value) (ha : a.block < base) : OwnB (w.setCell a u) base v l := by
  refine ⟨h.1, ?_⟩
  rcases h.2 with h2 | ⟨g, cap, cur, h3, h4, h5, h6⟩
  · exact .inl h2
  · exact .inr ⟨g, cap, cur, h3, h4, by rw [heap_setCell_other w a g u (by omega)]; exact h5, h6⟩


set_option maxRecDepth 20000 in
set_option maxHeartbeats 16000000 in
theorem walkTurned6 (sec m p q : List UInt8) (ha : Option Addr) (hn hc : Nat) (hs : List Pr) (ba : Option Addr) (bn bc : Nat) (bd : List UInt8) (t : Nat) (how at_ : Int) (w : World)
    (hP : IsP w ha hn hc hs) (hB : IsB w ba bn bc bd) (hm : MxS w) (zm : m.length ≤ 140737488351232) (zp : p.length ≤ 140737488351232) (zq : q.length ≤ 140737488351232) (zb : bn ≤ 140737488351232) (zn : hn * 32 ≤ 140737488351232) (zh : ∀ i, i < hs.length → (nthP hs i).1.length ≤ 140737488351232 ∧ (nthP hs i).2.length ≤ 140737488351232) (zs : sec.length ≤ 140737488351232) (ht : t < 18446744073709551616) (hh1 : -9223372036854775808 ≤ at_) (hh2 : at_ ≤ 9223372036854775807) :
    Calls Tryz.prog 3 #[.agg #[.string (str m), .string (str p), .string (str q), .slice ha hn hc, .slice ba bn bc], .string (str sec), .int .u64 (t : Int), .int .i64 how, .int .i64 at_] w fun e w' => e = .returned (.bool true) ∧ Below w.heap.size w w' := by
  have T0 : Below w.heap.size w (w.alloc (.cells #[.string (str m), .string (str p), .string (str q), .slice ha hn hc, .slice ba bn bc] 25)) := (Below.refl _ w).alloc (Nat.le_refl _) _
  have K0 := Blk.newAt w w.heap.size 25 _ [.string (str m), .string (str p), .string (str q), .slice ha hn hc, .slice ba bn bc] rfl rfl
  have c0 := K0.cell 0
  have c1 := K0.cell 1
  have c2 := K0.cell 2
  have c3 := K0.cell 3
  have c4 := K0.cell 4
  have HLi := lawLight6 m p q ha hn hc hs ba bn bc _ (hP.below T0 rfl) zm zp zq zb zh
  have HAl : ∀ W, Below w.heap.size w W → Calls Tryz.prog 5 #[] W fun e w' => e = .returned (.bool true) ∧ Below W.heap.size W w' := fun W hW => lawAlive6 W (hm.below hW hm.lt)
  have HOw : ∀ W, Below w.heap.size w W → Calls Tryz.prog 7 #[.agg #[.string (str m), .string (str p), .string (str q), .slice ha hn hc, .slice ba bn bc]] W fun e w' => (∃ va vc, e = .returned (.agg #[.string (str m), .string (str p), .string (str q), .slice va hn vc, .slice ba bn bc]) ∧ IsP w' va hn vc hs) ∧ Below W.heap.size W w' := fun W hW => (lawOwn5 (str m) (str p) (str q) ba bn bc ha hn hc hs W (hP.below hW rfl) (by omega)).mono (by
    rintro e w' ⟨v, rfl, ho, hb⟩
    have hl := hP.len_eq
    obtain ⟨va, vc, rfl, hi⟩ := ho.isP
    rw [hl] at hi ⊢
    exact ⟨⟨va, vc, rfl, hi⟩, hb⟩)
  have hlen := hP.len_eq
  have y1 : (str sec).size = sec.length := str_size sec
  have hbi : bn ≤ 9223372036854775807 := by omega
  by_cases hgo : lightB m p q hn bn hs = true ∧ sec.length ≤ 10000 ∧ bn ≤ 1000
  · obtain ⟨hlt, hws, hb1000⟩ := hgo
    have SH := light_short hlt hlen
    rw [hlt] at HLi
    have iws : ¬ (10000 : Int) < (sec.length : Int) := by omega
    have ibn : ¬ (1000 : Int) < (bn : Int) := by omega
    have hbl := hB.len_eq
    obtain ⟨S, E, hE, HAt⟩ := att_any [97, 49] sec m p q hs bd t (by decide) (by omega) (by have := SH.m; omega) (by have := SH.p; omega) (by have := SH.q; omega) (by have := SH.b; omega) (fun i hi => by have := SH.h i hi; omega)
    have HBw : Hid (∀ W, Below w.heap.size w W → IsB W ba bn bc bd) := fun W hW => hB.below hW rfl
    have HMw : Hid (∀ W, Below w.heap.size w W → MxS W) := fun W hW => hm.below hW hm.lt
    by_cases hA0 : attE [97, 49] sec S E ⟨m, p, q, hs, bd⟩ = 0
    · have hE0 : E = 0 ∧ IsTime S t := by
        rcases hE with h | h
        · exact h
        · exfalso
          unfold attE at hA0
          rw [if_pos (by rw [h]; decide)] at hA0
          rw [h] at hA0; cases hA0
      obtain ⟨rfl, hTi⟩ := hE0
      simp only [hA0, if_true] at HAt
      have zO := att_vals hTi hA0 (fun i hi => Nat.le_trans (SH.h i hi).2 (by decide))
      have hOl : hs.length ≤ (attO [97, 49] sec S 0 ⟨m, p, q, hs, bd⟩).length ∧ (attO [97, 49] sec S 0 ⟨m, p, q, hs, bd⟩).length ≤ 1000 := by
        unfold attO attH
        rw [List.length_append, List.length_append]
        have := SH.n
        exact ⟨by show hs.length ≤ hs.length + 1 + 1; omega, by show hs.length + 1 + 1 ≤ 1000; omega⟩
      have hOv : ∀ i, i < hs.length → (nthP (attO [97, 49] sec S 0 ⟨m, p, q, hs, bd⟩) i).2.length ≤ 20000 := fun i hi => by
        have e : nthP (attO [97, 49] sec S 0 ⟨m, p, q, hs, bd⟩) i = nthP hs i := by
          unfold attO attH
          rw [nthP_eq _ i (by rw [List.length_append, List.length_append]; exact Nat.lt_of_lt_of_le hi (by show hs.length ≤ hs.length + 1 + 1; omega)), nthP_eq hs i hi, List.getElem_append_left (by rw [List.length_append]; exact Nat.lt_of_lt_of_le hi (Nat.le_add_right _ _)), List.getElem_append_left hi]
        rw [e]; exact (SH.h i hi).2
      have HBk : ∀ W va vn vc ua un uc, IsP W va vn vc (attO [97, 49] sec S 0 ⟨m, p, q, hs, bd⟩) → Calls Tryz.prog 8 #[.agg #[.string (str m), .string (str p), .string (str q), .slice va vn vc, .slice ua un uc]] W fun e w' => (∃ va2 vc2, e = .returned (.agg #[.string (str m), .string (str p), .string (str q), .slice va2 vn vc2, .slice ua un uc]) ∧ OwnP 38 w' W.heap.size (.slice va2 vn vc2) (attO [97, 49] sec S 0 ⟨m, p, q, hs, bd⟩)) ∧ Below W.heap.size W w' := fun W va vn vc ua un uc hi => (lawBack5 (str m) (str p) (str q) ua un uc va vn vc _ W hi (by have := hi.len_eq; omega)).mono (by
        rintro e w' ⟨v, rfl, ho, hb⟩
        have hl := hi.len_eq
        obtain ⟨va2, vc2, rfl, _⟩ := ho.isP
        rw [hl] at ho ⊢
        exact ⟨⟨va2, vc2, rfl, ho⟩, hb⟩)
      generalize attO [97, 49] sec S 0 ⟨m, p, q, hs, bd⟩ = aO at *
      clear hE hlt hm hP hB zh hTi hA0 hws zm zp zq
      generalize hxs : str sec = xs at *
      go_enter Tryz.func3, Tryz.ntmps3
      go_upto_region 7 with (first
        | (go_at_call 4; refine HLi.mono ?_; rintro e w1 ⟨rfl, hb1⟩; have T1 := T0.trans (hb1.mono T0.size); have K1 := K0.on hb1; have d0 := K1.cell 0; have d1 := K1.cell 1; have d2 := K1.cell 2; have d3 := K1.cell 3; have d4 := K1.cell 4)
        | (go_at_call 7; refine (HOw _ T1).mono ?_; rintro e w2 ⟨⟨va9, vc9, rfl, hi2⟩, hb2⟩; have T2 := T1.trans (hb2.mono T1.size))
        | (go_at_call 6; refine (HAt _ _ _ _ _ _ _ hi2 (HBw.out _ T2) (HMw.out _ T2)).mono ?_; rintro e w3 ⟨⟨va, vn, vc, ua, un, uc, rfl, hi3, hB3⟩, hb3⟩; have T3 := T2.trans (hb3.mono T2.size); have A4 : Below w3.heap.size w3 (w3.alloc (.cells #[.string (str m), .string (str p), .string (str q), .slice va vn vc, .slice ua un uc] 31)) := (Below.refl _ w3).alloc (Nat.le_refl _) _; have hi4 := hi3.below A4 rfl; have hB4 := hB3.below A4 rfl; have T4 := T3.trans (A4.mono T3.size))
        | (go_at_call 8; refine (HBk _ _ _ _ _ _ _ hi4).mono ?_; rintro e w5 ⟨⟨va2, vc2, rfl, ho5⟩, hb5⟩; have T5 := T4.trans (hb5.mono T4.size)))
      have A6 : Below w5.heap.size w5 (w5.alloc (.cells #[.string (str m), .string (str p), .string (str q), .slice va2 vn vc2, .slice ua un uc] 25)) := (Below.refl _ w5).alloc (Nat.le_refl _) _
      have KB := Blk.newAt w5 w5.heap.size 25 _ [.string (str m), .string (str p), .string (str q), .slice va2 vn vc2, .slice ua un uc] rfl rfl
      have IB5 := hB4.below hb5 rfl
      have IO5 : IsP w5 va2 vn vc2 aO := ho5.toP
      have KR5 := ((((K1.on hb2).on hb3).on A4).on hb5)
      have hbase : w.heap.size ≤ (w3.alloc (.cells #[.string (str m), .string (str p), .string (str q), .slice va vn vc, .slice ua un uc] 31)).heap.size := T4.size
      have HBs : Hid (∀ W, Below (w3.alloc (.cells #[.string (str m), .string (str p), .string (str q), .slice va vn vc, .slice ua un uc] 31)).heap.size w5 W → IsB W ua un uc bd) := fun W hW => hB4.below (hb5.trans hW) rfl
      clear HLi HOw HAt HBk T0 K0 c0 c1 c2 c3 c4 T1 K1 d0 d1 d2 d3 d4 hi2 T2 hi3 hB3 T3 A4 hi4 hB4 T4 hb1 hb2 hb3 hb5
      generalize (w3.alloc (.cells #[.string (str m), .string (str p), .string (str q), .slice va vn vc, .slice ua un uc] 31)).heap.size = base at *
      have hBn : w.heap.size ≤ w5.heap.size := T5.size
      have KR := KR5.on A6
      have OB := ho5.on A6
      have hOlt := ho5.blk
      have hvn : aO.length = vn := IO5.len_eq
      have hun : bd.length = un := IB5.len_eq
      have HAw : Hid (∀ j v, Below w5.heap.size w5 ((w5.alloc (.cells #[.string (str m), .string (str p), .string (str q), .slice va2 vn vc2, .slice ua un uc] 25)).setCell ⟨w5.heap.size, j, none⟩ v)) := fun j v => A6.setCell (p := ⟨w5.heap.size, j, none⟩) (Nat.le_refl _) v
      have T6 := T5.trans (A6.mono T5.size)
      generalize hW6 : w5.alloc (.cells #[.string (str m), .string (str p), .string (str q), .slice va2 vn vc2, .slice ua un uc] 25) = W6 at *
      clear hW6
      generalize hB : w5.heap.size = B at *
      have b0 : W6.cell? ⟨B, 0, none⟩ = some (.string (str m)) := KB.cell 0
      have b2 : W6.cell? ⟨B, 2, none⟩ = some (.string (str q)) := KB.cell 2
      have b3 : W6.cell? ⟨B, 3, none⟩ = some (.slice va2 vn vc2) := KB.cell 3
      have b4 : W6.cell? ⟨B, 4, none⟩ = some (.slice ua un uc) := KB.cell 4
      have f0 := KB.frozen 0
      have f2 := KB.frozen 2
      have f4 := KB.frozen 4
      have r2 : W6.cell? ⟨w.heap.size, 2, none⟩ = some (.string (str q)) := KR.cell 2
      have r3 : W6.cell? ⟨w.heap.size, 3, none⟩ = some (.slice ha hn hc) := KR.cell 3
      have hRB : w.heap.size ≠ B := by have := KR5.lt; omega
      by_cases h0 : how = 0
      · subst h0
        have e9 : str m ++ ⟨#[88]⟩ = str (m ++ [88]) := by rw [show (⟨#[88]⟩ : ByteArray) = str [88] from rfl, str_append2]
        have zz : ¬ 9223372036854775807 < (str m).size + 1 := by rw [str_size]; have := SH.m; omega
        go_upto_region 19 with fail
        have KX : Blk _ B 25 [.string (str (m ++ [88])), .string (str p), .string (str q), .slice va2 vn vc2, .slice ua un uc] := KB.set 0 (.string (str (m ++ [88])))
        have IPX := IO5.below (HAw.out 0 (.string (str (m ++ [88])))) hB.symm
        have IBX := IB5.below (HAw.out 0 (.string (str (m ++ [88])))) hB.symm
        have TX := T6.setCell (p := ⟨B, 0, none⟩) hBn (.string (str (m ++ [88])))
        generalize hX : W6.setCell ⟨B, 0, none⟩ (.string (str (m ++ [88]))) = X at *
        clear hX
        have zm2 : (m ++ [88]).length ≤ 30000 := by rw [List.length_append]; have := SH.m; show m.length + 1 ≤ 30000; omega
        have zq2 : q.length ≤ 30000 := by have := SH.q; omega
        have zb2 : bd.length ≤ 30000 := by omega
        have zh2 := zO
        generalize m ++ [88] = m2 at *
        clear e9 zz b0 b2 b3 b4 f0 f2 f4 r2 r3 KB KR KR5 OB ho5 HAw A6 IO5 IB5 T6
        obtain ⟨R, HV, HR⟩ := ver_both sec m2 p q aO bd t (by omega) zm2 (by have := SH.p; omega) zq2 zb2 zh2 ht
        simp only [hxs] at HV HR
        have HOw2 : ∀ W, Below X.heap.size X W → Calls Tryz.prog 7 #[.agg #[.string (str m2), .string (str p), .string (str q), .slice va2 vn vc2, .slice ua un uc]] W fun e w' => (∃ va9 vc9, e = .returned (.agg #[.string (str m2), .string (str p), .string (str q), .slice va9 vn vc9, .slice ua un uc]) ∧ IsP w' va9 vn vc9 aO) ∧ Below W.heap.size W w' := fun W hW => (lawOwn5 (str m2) (str p) (str q) ua un uc va2 vn vc2 aO W (IPX.below hW rfl) (by have := IPX.len_eq; omega)).mono (by
          rintro e w' ⟨v, rfl, ho, hb⟩
          have hl := IPX.len_eq
          obtain ⟨va9, vc9, rfl, hi⟩ := ho.isP
          rw [hl] at hi ⊢
          exact ⟨⟨va9, vc9, rfl, hi⟩, hb⟩)
        have HKP : ∀ w', Below X.heap.size X w' → Below X.heap.size X w' ∧ w'.cell? ⟨B, 0, none⟩ = some (.string (str m2)) ∧ w'.cell? ⟨B, 1, none⟩ = some (.string (str p)) ∧ w'.cell? ⟨B, 2, none⟩ = some (.string (str q)) ∧ w'.cell? ⟨B, 3, none⟩ = some (.slice va2 vn vc2) ∧ w'.cell? ⟨B, 4, none⟩ = some (.slice ua un uc) := fun w' hb => ⟨hb, (KX.on hb).cell 0, (KX.on hb).cell 1, (KX.on hb).cell 2, (KX.on hb).cell 3, (KX.on hb).cell 4⟩
        have HTX : ∀ w', Below X.heap.size X w' → Below w.heap.size w w' := fun w' hb => TX.trans (hb.mono TX.size)
        have HPX : Hid (∀ w', Below X.heap.size X w' → IsP w' va2 vn vc2 aO) := fun w' hb => IPX.below hb rfl
        have HBX : Hid (∀ w', Below X.heap.size X w' → IsB w' ua un uc bd) := fun w' hb => IBX.below hb rfl
        clear KX IPX IBX
        generalize str m2 = xm2 at *
        generalize str p = xp at *
        generalize str q = xq2 at *
        go_upto_region 19 with fail
        go_region_held3 (fun w' => Below X.heap.size X w' ∧ w'.cell? ⟨B, 0, none⟩ = some (.string xm2) ∧ w'.cell? ⟨B, 1, none⟩ = some (.string xp) ∧ w'.cell? ⟨B, 2, none⟩ = some (.string xq2) ∧ w'.cell? ⟨B, 3, none⟩ = some (.slice va2 vn vc2) ∧ w'.cell? ⟨B, 4, none⟩ = some (.slice ua un uc))
          (first | exact HKP _ ((Below.refl _ X).drew) | assumption | (have hq0 := ‹Below _ _ _ ∧ _›; first | exact HKP _ (hq0.1.trans (hbO.mono hq0.1.size)) | exact HKP _ (hq0.1.trans (hbV.mono hq0.1.size)) | exact HKP _ (hq0.1.trans (hbR.mono hq0.1.size))))
          (first
            | (go_at_call 7; have hq0 := ‹Below _ _ _ ∧ _›; refine (HOw2 _ hq0.1).mono ?_; rintro e y2 ⟨⟨va9, vc9, rfl, hi9⟩, hbO⟩; clear hq0)
            | (go_at_call 9; have hq0 := ‹Below _ _ _ ∧ _›; refine (HV _ _ _ _ _ _ _ (by first | exact hi9 | exact hi9.below hbR rfl) (HBX.out _ hq0.1) (HMw.out _ (HTX _ hq0.1))).mono ?_; rintro e y3 ⟨rfl, hbV⟩; clear hq0)
            | (go_at_call 10; have hq0 := ‹Below _ _ _ ∧ _›; refine (HR _ _ _ _ _ _ _ (HPX.out _ hq0.1) (HBX.out _ hq0.1)).mono ?_; rintro e y4 ⟨rfl, hbR⟩; clear hq0))
        all_goals
          have hq9 := ‹Below _ _ _ ∧ _›
          have TZ := HTX _ hq9.1
          by_cases hR0 : R = 0
          · subst hR0
            go_wp2_with (go_at_call 5; refine (HAl _ TZ).mono ?_; rintro e y9 ⟨rfl, hb9⟩)
            go_ret
            exact ⟨rfl, TZ.trans (hb9.mono TZ.size)⟩
          · have hz : (R == 0) = false := by simpa using hR0
            have hzz : (R == R) = true := by simp
            have hne : (R != 0) = true := by simpa using hR0
            go_wp2_with (go_at_call 5; refine (HAl _ TZ).mono ?_; rintro e y9 ⟨rfl, hb9⟩)
            go_ret
            exact ⟨rfl, TZ.trans (hb9.mono TZ.size)⟩
      · by_cases h1 : how = 1
        · subst h1
          have O0 : OwnB (W6.alloc (.cells #[] 5)) W6.heap.size (.slice (some ⟨W6.heap.size, 0, none⟩) 0 0) [] := World.ownsRow_made W6 #[] 0 (Nat.le_refl _) (Nat.zero_le _) rfl
          have B0 : Below W6.heap.size W6 (W6.alloc (.cells #[] 5)) := (Below.refl _ W6).alloc (Nat.le_refl _) _
          have IB6 : IsB W6 ua un uc bd := IB5.below A6 hB.symm
          have I0 := IB6.below B0 rfl
          have KB0 := KB.on B0
          have b40 := KB0.cell 4
          have hBW : B < W6.heap.size := KB.lt
          have hL2 : Hid ((bd ++ [120]).length = un + 1) := by unfold Hid; rw [List.length_append, hun]; rfl
          go_upto_region 19 with (first
            | (at_builtin; refine list_appS _ rfl (.tmp 75) (.tmp 77) rfl W6.heap.size _ [] rfl O0 ua un uc bd rfl I0 (by show 0 + un ≤ _; omega) B0.size ?_; intro v1 x1 ho1 hg1; have b1 := B0.grown hg1 B0.size (fun i hi => by cases hi; exact Nat.le_refl _))
            | (at_builtin; refine list_app1 _ rfl (.tmp 78) (.tmp 79) rfl W6.heap.size v1 ([] ++ bd) rfl (ho1.alloc _) x1.heap.size 1 [120] rfl rfl (heap_alloc_new x1 _) (by show bd.length + 1 ≤ _; omega) (by have := b1.size; simp; omega) ?_; intro v2 x2 ho2 hg2; have b2' : Below W6.heap.size W6 x2 := grow_bel1 b1 ho1 hg2; have HO2 : Hid (OwnB x2 W6.heap.size v2 (bd ++ [120])) := ho2; obtain ⟨ub, uc2, ev2, hib⟩ := HO2.out.isB; rw [hL2.out] at ev2 hib; subst ev2; have KB2 := KB.on b2'; have g4 := KB2.cell 4; have gf4 := KB2.frozen 4))
          generalize hb9 : bd ++ [120] = bd2 at *
          have zb2 : bd2.length ≤ 30000 := by rw [← hb9, List.length_append]; show bd.length + 1 ≤ 30000; omega
          clear ho2
          have KX : Blk _ B 25 [.string (str m), .string (str p), .string (str q), .slice va2 vn vc2, .slice ub (un + 1) uc2] := KB2.set 4 (.slice ub (un + 1) uc2)
          have IPX := IO5.below ((A6.trans (b2'.mono (Nat.le_of_lt hBW))).setCell (p := ⟨B, 4, none⟩) (Nat.le_refl _) (.slice ub (un + 1) uc2)) hB.symm
          have IBX : IsB _ ub (un + 1) uc2 bd2 := (HO2.out.setOther6 ⟨B, 4, none⟩ (.slice ub (un + 1) uc2) hBW).toB
          have TX := (T6.trans (b2'.mono T6.size)).setCell (p := ⟨B, 4, none⟩) hBn (.slice ub (un + 1) uc2)
          generalize hX : x2.setCell ⟨B, 4, none⟩ (.slice ub (un + 1) uc2) = X at *
          clear hX
          have zm2 : m.length ≤ 30000 := by have := SH.m; omega
          have zq2 : q.length ≤ 30000 := by have := SH.q; omega
          have zh2 := zO
          obtain ⟨R, HV, HR⟩ := ver_both sec m p q aO bd2 t (by omega) zm2 (by have := SH.p; omega) zq2 zb2 zh2 ht
          simp only [hxs] at HV HR
          have HOw2 : ∀ W, Below X.heap.size X W → Calls Tryz.prog 7 #[.agg #[.string (str m), .string (str p), .string (str q), .slice va2 vn vc2, .slice ub (un + 1) uc2]] W fun e w' => (∃ va9 vc9, e = .returned (.agg #[.string (str m), .string (str p), .string (str q), .slice va9 vn vc9, .slice ub (un + 1) uc2]) ∧ IsP w' va9 vn vc9 aO) ∧ Below W.heap.size W w' := fun W hW => (lawOwn5 (str m) (str p) (str q) ub (un + 1) uc2 va2 vn vc2 aO W (IPX.below hW rfl) (by have := IPX.len_eq; omega)).mono (by
            rintro e w' ⟨v, rfl, ho, hb⟩
            have hl := IPX.len_eq
            obtain ⟨va9, vc9, rfl, hi⟩ := ho.isP
            rw [hl] at hi ⊢
            exact ⟨⟨va9, vc9, rfl, hi⟩, hb⟩)
          have HKP : ∀ w', Below X.heap.size X w' → Below X.heap.size X w' ∧ w'.cell? ⟨B, 0, none⟩ = some (.string (str m)) ∧ w'.cell? ⟨B, 1, none⟩ = some (.string (str p)) ∧ w'.cell? ⟨B, 2, none⟩ = some (.string (str q)) ∧ w'.cell? ⟨B, 3, none⟩ = some (.slice va2 vn vc2) ∧ w'.cell? ⟨B, 4, none⟩ = some (.slice ub (un + 1) uc2) := fun w' hb => ⟨hb, (KX.on hb).cell 0, (KX.on hb).cell 1, (KX.on hb).cell 2, (KX.on hb).cell 3, (KX.on hb).cell 4⟩
          have HTX : ∀ w', Below X.heap.size X w' → Below w.heap.size w w' := fun w' hb => TX.trans (hb.mono TX.size)
          have HPX : Hid (∀ w', Below X.heap.size X w' → IsP w' va2 vn vc2 aO) := fun w' hb => IPX.below hb rfl
          have HBX : Hid (∀ w', Below X.heap.size X w' → IsB w' ub (un + 1) uc2 bd2) := fun w' hb => IBX.below hb rfl
          clear KX IPX IBX
          generalize str m = xm2 at *
          generalize str p = xp at *
          generalize str q = xq2 at *
          go_upto_region 19 with fail
          go_region_held3 (fun w' => Below X.heap.size X w' ∧ w'.cell? ⟨B, 0, none⟩ = some (.string xm2) ∧ w'.cell? ⟨B, 1, none⟩ = some (.string xp) ∧ w'.cell? ⟨B, 2, none⟩ = some (.string xq2) ∧ w'.cell? ⟨B, 3, none⟩ = some (.slice va2 vn vc2) ∧ w'.cell? ⟨B, 4, none⟩ = some (.slice ub (un + 1) uc2))
            (first | exact HKP _ ((Below.refl _ X).drew) | assumption | (have hq0 := ‹Below _ _ _ ∧ _›; first | exact HKP _ (hq0.1.trans (hbO.mono hq0.1.size)) | exact HKP _ (hq0.1.trans (hbV.mono hq0.1.size)) | exact HKP _ (hq0.1.trans (hbR.mono hq0.1.size))))
            (first
              | (go_at_call 7; have hq0 := ‹Below _ _ _ ∧ _›; refine (HOw2 _ hq0.1).mono ?_; rintro e y2 ⟨⟨va9, vc9, rfl, hi9⟩, hbO⟩; clear hq0)
              | (go_at_call 9; have hq0 := ‹Below _ _ _ ∧ _›; refine (HV _ _ _ _ _ _ _ (by first | exact hi9 | exact hi9.below hbR rfl) (HBX.out _ hq0.1) (HMw.out _ (HTX _ hq0.1))).mono ?_; rintro e y3 ⟨rfl, hbV⟩; clear hq0)
              | (go_at_call 10; have hq0 := ‹Below _ _ _ ∧ _›; refine (HR _ _ _ _ _ _ _ (HPX.out _ hq0.1) (HBX.out _ hq0.1)).mono ?_; rintro e y4 ⟨rfl, hbR⟩; clear hq0))
          all_goals
            have hq9 := ‹Below _ _ _ ∧ _›
            have TZ := HTX _ hq9.1
            by_cases hR0 : R = 0
            · subst hR0
              go_wp2_with (go_at_call 5; refine (HAl _ TZ).mono ?_; rintro e y9 ⟨rfl, hb9⟩)
              go_ret
              exact ⟨rfl, TZ.trans (hb9.mono TZ.size)⟩
            · have hz : (R == 0) = false := by simpa using hR0
              have hzz : (R == R) = true := by simp
              have hne : (R != 0) = true := by simpa using hR0
              go_wp2_with (go_at_call 5; refine (HAl _ TZ).mono ?_; rintro e y9 ⟨rfl, hb9⟩)
              go_ret
              exact ⟨rfl, TZ.trans (hb9.mono TZ.size)⟩
        · by_cases h2 : how = 2
          · subst h2
            have e9 : str q ++ ⟨#[38, 122, 122, 57, 61, 49]⟩ = str (q ++ [38, 122, 122, 57, 61, 49]) := by rw [show (⟨#[38, 122, 122, 57, 61, 49]⟩ : ByteArray) = str [38, 122, 122, 57, 61, 49] from rfl, str_append2]
            have zz : ¬ 9223372036854775807 < (str q).size + 6 := by rw [str_size]; have := SH.q; omega
            have hqe : ((str q).toList == []) = q.isEmpty := by rw [str_toList]; cases q <;> rfl
            have hqi : (str q).toList.isEmpty = q.isEmpty := by rw [str_toList]
            have zm2 : m.length ≤ 30000 := by have := SH.m; omega
            have zb2 : bd.length ≤ 30000 := by omega
            have zh2 := zO
            have g2 : (W6.setCell ⟨B, 2, none⟩ (.string (str (q ++ [38, 122, 122, 57, 61, 49])))).cell? ⟨w.heap.size, 2, none⟩ = some (.string (str q)) := (KR.other ⟨B, 2, none⟩ _ hRB).cell 2
            have s9 : (⟨#[122, 122, 57, 61, 49]⟩ : ByteArray) = str [122, 122, 57, 61, 49] := rfl
            cases hqq : q.isEmpty with
            | true =>
              rw [hqq] at hqe hqi
              go_upto_region 19 with fail
              have KX : Blk ((W6.setCell ⟨B, 2, none⟩ (.string (str (q ++ [38, 122, 122, 57, 61, 49])))).setCell ⟨B, 2, none⟩ (.string (str [122, 122, 57, 61, 49]))) B 25 [.string (str m), .string (str p), .string (str ([122, 122, 57, 61, 49] : List UInt8)), .slice va2 vn vc2, .slice ua un uc] := (KB.set 2 (.string (str (q ++ [38, 122, 122, 57, 61, 49])))).set 2 (.string (str [122, 122, 57, 61, 49]))
              have IPX := IO5.below ((HAw.out 2 (.string (str (q ++ [38, 122, 122, 57, 61, 49])))).setCell (p := ⟨B, 2, none⟩) (Nat.le_refl _) (.string (str [122, 122, 57, 61, 49]))) hB.symm
              have IBX := IB5.below ((HAw.out 2 (.string (str (q ++ [38, 122, 122, 57, 61, 49])))).setCell (p := ⟨B, 2, none⟩) (Nat.le_refl _) (.string (str [122, 122, 57, 61, 49]))) hB.symm
              have TX := (T6.setCell (p := ⟨B, 2, none⟩) hBn (.string (str (q ++ [38, 122, 122, 57, 61, 49])))).setCell (p := ⟨B, 2, none⟩) hBn (.string (str [122, 122, 57, 61, 49]))
              generalize hX : (W6.setCell ⟨B, 2, none⟩ (.string (str (q ++ [38, 122, 122, 57, 61, 49])))).setCell ⟨B, 2, none⟩ (.string (str [122, 122, 57, 61, 49])) = X at *
              clear hX
              have zq2 : ([122, 122, 57, 61, 49] : List UInt8).length ≤ 30000 := by decide
              generalize ([122, 122, 57, 61, 49] : List UInt8) = q2 at *
              clear e9 zz s9 hqe hqi hqq g2 b0 b2 b3 b4 f0 f2 f4 r2 r3 KB KR KR5 OB ho5 HAw A6 IO5 IB5 T6
              obtain ⟨R, HV, HR⟩ := ver_both sec m p q2 aO bd t (by omega) zm2 (by have := SH.p; omega) zq2 zb2 zh2 ht
              simp only [hxs] at HV HR
              have HOw2 : ∀ W, Below X.heap.size X W → Calls Tryz.prog 7 #[.agg #[.string (str m), .string (str p), .string (str q2), .slice va2 vn vc2, .slice ua un uc]] W fun e w' => (∃ va9 vc9, e = .returned (.agg #[.string (str m), .string (str p), .string (str q2), .slice va9 vn vc9, .slice ua un uc]) ∧ IsP w' va9 vn vc9 aO) ∧ Below W.heap.size W w' := fun W hW => (lawOwn5 (str m) (str p) (str q2) ua un uc va2 vn vc2 aO W (IPX.below hW rfl) (by have := IPX.len_eq; omega)).mono (by
                rintro e w' ⟨v, rfl, ho, hb⟩
                have hl := IPX.len_eq
                obtain ⟨va9, vc9, rfl, hi⟩ := ho.isP
                rw [hl] at hi ⊢
                exact ⟨⟨va9, vc9, rfl, hi⟩, hb⟩)
              have HKP : ∀ w', Below X.heap.size X w' → Below X.heap.size X w' ∧ w'.cell? ⟨B, 0, none⟩ = some (.string (str m)) ∧ w'.cell? ⟨B, 1, none⟩ = some (.string (str p)) ∧ w'.cell? ⟨B, 2, none⟩ = some (.string (str q2)) ∧ w'.cell? ⟨B, 3, none⟩ = some (.slice va2 vn vc2) ∧ w'.cell? ⟨B, 4, none⟩ = some (.slice ua un uc) := fun w' hb => ⟨hb, (KX.on hb).cell 0, (KX.on hb).cell 1, (KX.on hb).cell 2, (KX.on hb).cell 3, (KX.on hb).cell 4⟩
              have HTX : ∀ w', Below X.heap.size X w' → Below w.heap.size w w' := fun w' hb => TX.trans (hb.mono TX.size)
              have HPX : Hid (∀ w', Below X.heap.size X w' → IsP w' va2 vn vc2 aO) := fun w' hb => IPX.below hb rfl
              have HBX : Hid (∀ w', Below X.heap.size X w' → IsB w' ua un uc bd) := fun w' hb => IBX.below hb rfl
              clear KX IPX IBX
              generalize str m = xm2 at *
              generalize str p = xp at *
              generalize str q2 = xq2 at *
              go_upto_region 19 with fail
              go_region_held3 (fun w' => Below X.heap.size X w' ∧ w'.cell? ⟨B, 0, none⟩ = some (.string xm2) ∧ w'.cell? ⟨B, 1, none⟩ = some (.string xp) ∧ w'.cell? ⟨B, 2, none⟩ = some (.string xq2) ∧ w'.cell? ⟨B, 3, none⟩ = some (.slice va2 vn vc2) ∧ w'.cell? ⟨B, 4, none⟩ = some (.slice ua un uc))
                (first | exact HKP _ ((Below.refl _ X).drew) | assumption | (have hq0 := ‹Below _ _ _ ∧ _›; first | exact HKP _ (hq0.1.trans (hbO.mono hq0.1.size)) | exact HKP _ (hq0.1.trans (hbV.mono hq0.1.size)) | exact HKP _ (hq0.1.trans (hbR.mono hq0.1.size))))
                (first
                  | (go_at_call 7; have hq0 := ‹Below _ _ _ ∧ _›; refine (HOw2 _ hq0.1).mono ?_; rintro e y2 ⟨⟨va9, vc9, rfl, hi9⟩, hbO⟩; clear hq0)
                  | (go_at_call 9; have hq0 := ‹Below _ _ _ ∧ _›; refine (HV _ _ _ _ _ _ _ (by first | exact hi9 | exact hi9.below hbR rfl) (HBX.out _ hq0.1) (HMw.out _ (HTX _ hq0.1))).mono ?_; rintro e y3 ⟨rfl, hbV⟩; clear hq0)
                  | (go_at_call 10; have hq0 := ‹Below _ _ _ ∧ _›; refine (HR _ _ _ _ _ _ _ (HPX.out _ hq0.1) (HBX.out _ hq0.1)).mono ?_; rintro e y4 ⟨rfl, hbR⟩; clear hq0))
              all_goals
                have hq9 := ‹Below _ _ _ ∧ _›
                have TZ := HTX _ hq9.1
                by_cases hR0 : R = 0
                · subst hR0
                  go_wp2_with (go_at_call 5; refine (HAl _ TZ).mono ?_; rintro e y9 ⟨rfl, hb9⟩)
                  go_ret
                  exact ⟨rfl, TZ.trans (hb9.mono TZ.size)⟩
                · have hz : (R == 0) = false := by simpa using hR0
                  have hzz : (R == R) = true := by simp
                  have hne : (R != 0) = true := by simpa using hR0
                  go_wp2_with (go_at_call 5; refine (HAl _ TZ).mono ?_; rintro e y9 ⟨rfl, hb9⟩)
                  go_ret
                  exact ⟨rfl, TZ.trans (hb9.mono TZ.size)⟩
            | false =>
              rw [hqq] at hqe hqi
              go_upto_region 19 with fail
              have KX : Blk (W6.setCell ⟨B, 2, none⟩ (.string (str (q ++ [38, 122, 122, 57, 61, 49])))) B 25 [.string (str m), .string (str p), .string (str (q ++ [38, 122, 122, 57, 61, 49])), .slice va2 vn vc2, .slice ua un uc] := KB.set 2 (.string (str (q ++ [38, 122, 122, 57, 61, 49])))
              have IPX := IO5.below (HAw.out 2 (.string (str (q ++ [38, 122, 122, 57, 61, 49])))) hB.symm
              have IBX := IB5.below (HAw.out 2 (.string (str (q ++ [38, 122, 122, 57, 61, 49])))) hB.symm
              have TX := T6.setCell (p := ⟨B, 2, none⟩) hBn (.string (str (q ++ [38, 122, 122, 57, 61, 49])))
              generalize hX : W6.setCell ⟨B, 2, none⟩ (.string (str (q ++ [38, 122, 122, 57, 61, 49]))) = X at *
              clear hX
              have zq2 : (q ++ [38, 122, 122, 57, 61, 49]).length ≤ 30000 := by rw [List.length_append]; have := SH.q; show q.length + 6 ≤ 30000; omega
              generalize (q ++ [38, 122, 122, 57, 61, 49]) = q2 at *
              obtain ⟨R, HV, HR⟩ := ver_both sec m p q2 aO bd t (by omega) zm2 (by have := SH.p; omega) zq2 zb2 zh2 ht
              simp only [hxs] at HV HR
              have HOw2 : ∀ W, Below X.heap.size X W → Calls Tryz.prog 7 #[.agg #[.string (str m), .string (str p), .string (str q2), .slice va2 vn vc2, .slice ua un uc]] W fun e w' => (∃ va9 vc9, e = .returned (.agg #[.string (str m), .string (str p), .string (str q2), .slice va9 vn vc9, .slice ua un uc]) ∧ IsP w' va9 vn vc9 aO) ∧ Below W.heap.size W w' := fun W hW => (lawOwn5 (str m) (str p) (str q2) ua un uc va2 vn vc2 aO W (IPX.below hW rfl) (by have := IPX.len_eq; omega)).mono (by
                rintro e w' ⟨v, rfl, ho, hb⟩
                have hl := IPX.len_eq
                obtain ⟨va9, vc9, rfl, hi⟩ := ho.isP
                rw [hl] at hi ⊢
                exact ⟨⟨va9, vc9, rfl, hi⟩, hb⟩)
              have HKP : ∀ w', Below X.heap.size X w' → Below X.heap.size X w' ∧ w'.cell? ⟨B, 0, none⟩ = some (.string (str m)) ∧ w'.cell? ⟨B, 1, none⟩ = some (.string (str p)) ∧ w'.cell? ⟨B, 2, none⟩ = some (.string (str q2)) ∧ w'.cell? ⟨B, 3, none⟩ = some (.slice va2 vn vc2) ∧ w'.cell? ⟨B, 4, none⟩ = some (.slice ua un uc) := fun w' hb => ⟨hb, (KX.on hb).cell 0, (KX.on hb).cell 1, (KX.on hb).cell 2, (KX.on hb).cell 3, (KX.on hb).cell 4⟩
              have HTX : ∀ w', Below X.heap.size X w' → Below w.heap.size w w' := fun w' hb => TX.trans (hb.mono TX.size)
              have HPX : Hid (∀ w', Below X.heap.size X w' → IsP w' va2 vn vc2 aO) := fun w' hb => IPX.below hb rfl
              have HBX : Hid (∀ w', Below X.heap.size X w' → IsB w' ua un uc bd) := fun w' hb => IBX.below hb rfl
              clear KX IPX IBX
              generalize str m = xm2 at *
              generalize str p = xp at *
              generalize str q2 = xq2 at *
              go_upto_region 19 with fail
              go_region_held3 (fun w' => Below X.heap.size X w' ∧ w'.cell? ⟨B, 0, none⟩ = some (.string xm2) ∧ w'.cell? ⟨B, 1, none⟩ = some (.string xp) ∧ w'.cell? ⟨B, 2, none⟩ = some (.string xq2) ∧ w'.cell? ⟨B, 3, none⟩ = some (.slice va2 vn vc2) ∧ w'.cell? ⟨B, 4, none⟩ = some (.slice ua un uc))
                (first | exact HKP _ ((Below.refl _ X).drew) | assumption | (have hq0 := ‹Below _ _ _ ∧ _›; first | exact HKP _ (hq0.1.trans (hbO.mono hq0.1.size)) | exact HKP _ (hq0.1.trans (hbV.mono hq0.1.size)) | exact HKP _ (hq0.1.trans (hbR.mono hq0.1.size))))
                (first
                  | (go_at_call 7; have hq0 := ‹Below _ _ _ ∧ _›; refine (HOw2 _ hq0.1).mono ?_; rintro e y2 ⟨⟨va9, vc9, rfl, hi9⟩, hbO⟩; clear hq0)
                  | (go_at_call 9; have hq0 := ‹Below _ _ _ ∧ _›; refine (HV _ _ _ _ _ _ _ (by first | exact hi9 | exact hi9.below hbR rfl) (HBX.out _ hq0.1) (HMw.out _ (HTX _ hq0.1))).mono ?_; rintro e y3 ⟨rfl, hbV⟩; clear hq0)
                  | (go_at_call 10; have hq0 := ‹Below _ _ _ ∧ _›; refine (HR _ _ _ _ _ _ _ (HPX.out _ hq0.1) (HBX.out _ hq0.1)).mono ?_; rintro e y4 ⟨rfl, hbR⟩; clear hq0))
              all_goals
                have hq9 := ‹Below _ _ _ ∧ _›
                have TZ := HTX _ hq9.1
                by_cases hR0 : R = 0
                · subst hR0
                  go_wp2_with (go_at_call 5; refine (HAl _ TZ).mono ?_; rintro e y9 ⟨rfl, hb9⟩)
                  go_ret
                  exact ⟨rfl, TZ.trans (hb9.mono TZ.size)⟩
                · have hz : (R == 0) = false := by simpa using hR0
                  have hzz : (R == R) = true := by simp
                  have hne : (R != 0) = true := by simpa using hR0
                  go_wp2_with (go_at_call 5; refine (HAl _ TZ).mono ?_; rintro e y9 ⟨rfl, hb9⟩)
                  go_ret
                  exact ⟨rfl, TZ.trans (hb9.mono TZ.size)⟩
          · have d0 : (how == 0) = false := by simpa using h0
            have d1 : (how == 1) = false := by simpa using h1
            have d2 : (how == 2) = false := by simpa using h2
            by_cases hk0 : at_ < 0
            · go_wp2_with (go_at_call 5; refine (HAl _ T6).mono ?_; rintro e y9 ⟨rfl, hb9⟩)
              go_ret
              exact ⟨rfl, T6.trans (hb9.mono T6.size)⟩
            · by_cases hk1 : (hn : Int) ≤ at_
              · go_wp2_with (go_at_call 5; refine (HAl _ T6).mono ?_; rintro e y9 ⟨rfl, hb9⟩)
                go_ret
                exact ⟨rfl, T6.trans (hb9.mono T6.size)⟩
              · obtain ⟨k, rfl⟩ : ∃ k : Nat, at_ = (k : Int) := ⟨at_.toNat, by omega⟩
                obtain ⟨g, rfl⟩ : ∃ g, va2 = some ⟨g, 0, none⟩ := by
                  rcases OB.2 with ⟨e, _⟩ | ⟨g, cap, cur, e, _⟩
                  · cases e; exfalso; omega
                  · cases e; exact ⟨g, rfl⟩
                obtain ⟨hg1, hg2⟩ := hOlt g rfl
                have hkv : k < vn := by omega
                have hi0 : (0 : Int) ≤ (k : Int) := by omega
                have hi1 : (k : Int) < (vn : Int) := by omega
                obtain ⟨p1, p2⟩ := OB.cellAt hvn k hkv
                have fz := OB.frozenAt hvn (k * 2 + 1)
                have e9 : str (nthP aO k).2 ++ ⟨#[120]⟩ = str ((nthP aO k).2 ++ [120]) := by rw [show (⟨#[120]⟩ : ByteArray) = str [120] from rfl, str_append2]
                have hvl := hOv k (by omega)
                have zz : ¬ 9223372036854775807 < (str (nthP aO k).2).size + 1 := by rw [str_size]; omega
                go_upto_region 18 with fail
                go_region
                have KX : Blk (W6.setCell ⟨g, k * 2 + 1, none⟩ (.string (str ((nthP aO k).2 ++ [120])))).drew B 25 [.string (str m), .string (str p), .string (str q), .slice (some ⟨g, 0, none⟩) vn vc2, .slice ua un uc] := KB.other ⟨g, k * 2 + 1, none⟩ (.string (str ((nthP aO k).2 ++ [120]))) (by show B ≠ g; omega)
                have IPX : IsP _ (some ⟨g, 0, none⟩) vn vc2 (aO.set k ((nthP aO k).1, (nthP aO k).2 ++ [120])) := ((OB.setV hvn k hkv ((nthP aO k).2 ++ [120])).heap (w' := (W6.setCell ⟨g, k * 2 + 1, none⟩ (.string (str ((nthP aO k).2 ++ [120])))).drew) rfl |> fun (h : OwnP _ _ _ (.slice (some ⟨g, 0, none⟩) vn vc2) _) => h.toP)
                have IBX := HBs.out _ (((A6.mono (Nat.le_of_lt (Nat.lt_of_le_of_lt hg1 hg2))).setCell (p := ⟨g, k * 2 + 1, none⟩) hg1 (.string (str ((nthP aO k).2 ++ [120])))).drew)
                have TX := (T6.setCell (p := ⟨g, k * 2 + 1, none⟩) (Nat.le_trans hbase hg1) (.string (str ((nthP aO k).2 ++ [120])))).drew
                generalize hX : (W6.setCell ⟨g, k * 2 + 1, none⟩ (.string (str ((nthP aO k).2 ++ [120])))).drew = X at *
                clear hX
                have zh2 : ∀ i, i < (aO.set k ((nthP aO k).1, (nthP aO k).2 ++ [120])).length → (nthP (aO.set k ((nthP aO k).1, (nthP aO k).2 ++ [120])) i).2.length ≤ 30000 := fun i hi => by
                  rw [List.length_set] at hi
                  rw [nthP_eq _ i (by rw [List.length_set]; exact hi), List.getElem_set]
                  split
                  · show ((nthP aO k).2 ++ [120]).length ≤ 30000
                    rw [List.length_append]; show _ + 1 ≤ 30000; omega
                  · have := zO i hi
                    rw [nthP_eq aO i hi] at this
                    exact this
                generalize aO.set k ((nthP aO k).1, (nthP aO k).2 ++ [120]) = aO2 at *
                have zm2 : m.length ≤ 30000 := by have := SH.m; omega
                have zq2 : q.length ≤ 30000 := by have := SH.q; omega
                have zb2 : bd.length ≤ 30000 := by omega
                obtain ⟨R, HV, HR⟩ := ver_both sec m p q aO2 bd t (by omega) zm2 (by have := SH.p; omega) zq2 zb2 zh2 ht
                simp only [hxs] at HV HR
                have HOw2 : ∀ W, Below X.heap.size X W → Calls Tryz.prog 7 #[.agg #[.string (str m), .string (str p), .string (str q), .slice (some ⟨g, 0, none⟩) vn vc2, .slice ua un uc]] W fun e w' => (∃ va9 vc9, e = .returned (.agg #[.string (str m), .string (str p), .string (str q), .slice va9 vn vc9, .slice ua un uc]) ∧ IsP w' va9 vn vc9 aO2) ∧ Below W.heap.size W w' := fun W hW => (lawOwn5 (str m) (str p) (str q) ua un uc (some ⟨g, 0, none⟩) vn vc2 aO2 W (IPX.below hW rfl) (by have := IPX.len_eq; omega)).mono (by
                  rintro e w' ⟨v, rfl, ho, hb⟩
                  have hl := IPX.len_eq
                  obtain ⟨va9, vc9, rfl, hi⟩ := ho.isP
                  rw [hl] at hi ⊢
                  exact ⟨⟨va9, vc9, rfl, hi⟩, hb⟩)
                have HKP : ∀ w', Below X.heap.size X w' → Below X.heap.size X w' ∧ w'.cell? ⟨B, 0, none⟩ = some (.string (str m)) ∧ w'.cell? ⟨B, 1, none⟩ = some (.string (str p)) ∧ w'.cell? ⟨B, 2, none⟩ = some (.string (str q)) ∧ w'.cell? ⟨B, 3, none⟩ = some (.slice (some ⟨g, 0, none⟩) vn vc2) ∧ w'.cell? ⟨B, 4, none⟩ = some (.slice ua un uc) := fun w' hb => ⟨hb, (KX.on hb).cell 0, (KX.on hb).cell 1, (KX.on hb).cell 2, (KX.on hb).cell 3, (KX.on hb).cell 4⟩
                have HTX : ∀ w', Below X.heap.size X w' → Below w.heap.size w w' := fun w' hb => TX.trans (hb.mono TX.size)
                have HPX : Hid (∀ w', Below X.heap.size X w' → IsP w' (some ⟨g, 0, none⟩) vn vc2 aO2) := fun w' hb => IPX.below hb rfl
                have HBX : Hid (∀ w', Below X.heap.size X w' → IsB w' ua un uc bd) := fun w' hb => IBX.below hb rfl
                clear KX IPX IBX
                generalize str m = xm2 at *
                generalize str p = xp at *
                generalize str q = xq2 at *
                go_upto_region 19 with fail
                go_region_held3 (fun w' => Below X.heap.size X w' ∧ w'.cell? ⟨B, 0, none⟩ = some (.string xm2) ∧ w'.cell? ⟨B, 1, none⟩ = some (.string xp) ∧ w'.cell? ⟨B, 2, none⟩ = some (.string xq2) ∧ w'.cell? ⟨B, 3, none⟩ = some (.slice (some ⟨g, 0, none⟩) vn vc2) ∧ w'.cell? ⟨B, 4, none⟩ = some (.slice ua un uc))
                  (first | exact HKP _ ((Below.refl _ X).drew) | assumption | (have hq0 := ‹Below _ _ _ ∧ _›; first | exact HKP _ (hq0.1.trans (hbO.mono hq0.1.size)) | exact HKP _ (hq0.1.trans (hbV.mono hq0.1.size)) | exact HKP _ (hq0.1.trans (hbR.mono hq0.1.size))))
                  (first
                    | (go_at_call 7; have hq0 := ‹Below _ _ _ ∧ _›; refine (HOw2 _ hq0.1).mono ?_; rintro e y2 ⟨⟨va9, vc9, rfl, hi9⟩, hbO⟩; clear hq0)
                    | (go_at_call 9; have hq0 := ‹Below _ _ _ ∧ _›; refine (HV _ _ _ _ _ _ _ (by first | exact hi9 | exact hi9.below hbR rfl) (HBX.out _ hq0.1) (HMw.out _ (HTX _ hq0.1))).mono ?_; rintro e y3 ⟨rfl, hbV⟩; clear hq0)
                    | (go_at_call 10; have hq0 := ‹Below _ _ _ ∧ _›; refine (HR _ _ _ _ _ _ _ (HPX.out _ hq0.1) (HBX.out _ hq0.1)).mono ?_; rintro e y4 ⟨rfl, hbR⟩; clear hq0))
                all_goals
                  have hq9 := ‹Below _ _ _ ∧ _›
                  have TZ := HTX _ hq9.1
                  by_cases hR0 : R = 0
                  · subst hR0
                    go_wp2_with (go_at_call 5; refine (HAl _ TZ).mono ?_; rintro e y9 ⟨rfl, hb9⟩)
                    go_ret
                    exact ⟨rfl, TZ.trans (hb9.mono TZ.size)⟩
                  · have hz : (R == 0) = false := by simpa using hR0
                    have hzz : (R == R) = true := by simp
                    have hne : (R != 0) = true := by simpa using hR0
                    go_wp2_with (go_at_call 5; refine (HAl _ TZ).mono ?_; rintro e y9 ⟨rfl, hb9⟩)
                    go_ret
                    exact ⟨rfl, TZ.trans (hb9.mono TZ.size)⟩
    · simp only [hA0, if_false] at HAt
      unfold rqNone at HAt
      have hz : (attE [97, 49] sec S E ⟨m, p, q, hs, bd⟩ == 0) = false := by simpa using hA0
      generalize attE [97, 49] sec S E ⟨m, p, q, hs, bd⟩ = aE at *
      clear hE SH hlt hm hP hB hws zh
      generalize str m = xm at *
      generalize str p = xp at *
      generalize str q = xq at *
      generalize sec.length = ls at *
      generalize str sec = xs at *
      go_enter Tryz.func3, Tryz.ntmps3
      go_wp2_with (first
        | (go_at_call 4; refine HLi.mono ?_; rintro e w1 ⟨rfl, hb1⟩; have T1 := T0.trans (hb1.mono T0.size); have K1 := K0.on hb1; have d0 := K1.cell 0; have d1 := K1.cell 1; have d2 := K1.cell 2; have d3 := K1.cell 3; have d4 := K1.cell 4)
        | (go_at_call 7; refine (HOw _ T1).mono ?_; rintro e w2 ⟨⟨va2, vc2, rfl, hi2⟩, hb2⟩; have T2 := T1.trans (hb2.mono T1.size))
        | (go_at_call 6; refine (HAt _ _ _ _ _ _ _ hi2 (HBw.out _ T2) (HMw.out _ T2)).mono ?_; rintro e w3 ⟨rfl, hb3⟩; have T3 := T2.trans (hb3.mono T2.size))
        | (go_at_call 5; refine (HAl _ (T3.alloc T3.size _)).mono ?_; rintro e w4 ⟨rfl, hb4⟩))
      go_ret
      have T4 := T3.alloc T3.size (.cells #[.string ⟨#[]⟩, .string ⟨#[]⟩, .string ⟨#[]⟩, .slice none 0 0, .slice none 0 0] 31)
      exact ⟨rfl, T4.trans (hb4.mono T4.size)⟩
  · by_cases hlt : lightB m p q hn bn hs = true
    · rw [hlt] at HLi
      by_cases hse : sec.length ≤ 10000
      · have iws : ¬ (10000 : Int) < (sec.length : Int) := by omega
        have ibn : (1000 : Int) < (bn : Int) := by have : ¬ bn ≤ 1000 := fun h => hgo ⟨hlt, hse, h⟩; omega
        clear hgo hP hB hm zh HOw hlt zm zp zq hlen zs
        generalize str m = xm at *
        generalize str p = xp at *
        generalize str q = xq at *
        generalize str sec = xs at *
        generalize sec.length = ls at *
        go_enter Tryz.func3, Tryz.ntmps3
        go_wp2_with (first | (go_at_call 4; refine HLi.mono ?_; rintro e w1 ⟨rfl, hb1⟩; have T1 := T0.trans (hb1.mono T0.size); have K1 := K0.on hb1; have d0 := K1.cell 0; have d1 := K1.cell 1; have d2 := K1.cell 2; have d3 := K1.cell 3; have d4 := K1.cell 4) | (go_at_call 5; refine (HAl _ T1).mono ?_; rintro e w9 ⟨rfl, hb9⟩))
        go_ret
        exact ⟨rfl, T1.trans (hb9.mono T1.size)⟩
      · have iws : (10000 : Int) < (sec.length : Int) := by omega
        clear hgo hP hB hm zh HOw hlt zm zp zq hlen zs
        generalize str m = xm at *
        generalize str p = xp at *
        generalize str q = xq at *
        generalize str sec = xs at *
        generalize sec.length = ls at *
        go_enter Tryz.func3, Tryz.ntmps3
        go_wp2_with (first | (go_at_call 4; refine HLi.mono ?_; rintro e w1 ⟨rfl, hb1⟩; have T1 := T0.trans (hb1.mono T0.size); have K1 := K0.on hb1; have d0 := K1.cell 0; have d1 := K1.cell 1; have d2 := K1.cell 2; have d3 := K1.cell 3; have d4 := K1.cell 4) | (go_at_call 5; refine (HAl _ T1).mono ?_; rintro e w9 ⟨rfl, hb9⟩))
        go_ret
        exact ⟨rfl, T1.trans (hb9.mono T1.size)⟩
    · have hlt' : lightB m p q hn bn hs = false := by simpa using hlt
      rw [hlt'] at HLi
      clear hgo hP hB hm zh HOw hlt hlt' zm zp zq hlen zs
      generalize str m = xm at *
      generalize str p = xp at *
      generalize str q = xq at *
      generalize str sec = xs at *
      generalize sec.length = ls at *
      go_enter Tryz.func3, Tryz.ntmps3
      go_wp2_with (first | (go_at_call 4; refine HLi.mono ?_; rintro e w1 ⟨rfl, hb1⟩; have T1 := T0.trans (hb1.mono T0.size); have K1 := K0.on hb1; have d0 := K1.cell 0; have d1 := K1.cell 1; have d2 := K1.cell 2; have d3 := K1.cell 3; have d4 := K1.cell 4) | (go_at_call 5; refine (HAl _ T1).mono ?_; rintro e w9 ⟨rfl, hb9⟩))
      go_ret
      exact ⟨rfl, T1.trans (hb9.mono T1.size)⟩
end Go.Proofs.YtgjmaeodgcigdabGreatDoor
