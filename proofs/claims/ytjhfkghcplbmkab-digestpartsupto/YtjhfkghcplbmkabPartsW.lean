/- The walk of DigestParts. -/
import Derived.Test.YtjhfkghcplbmkabHashO
import Derived.Test.YtjhfkghcplbmkabRefShaP
import Derived.Test.YtjhfkghcplbmkabRefSame
namespace Go.Proofs.Ytjhfkghcplbmkab
open Go.RowKit

/-- a slice of slices of bytes -/
structure IsLs (w : World) (a : Option Addr) (n cap : Nat) (ls : List (List UInt8)) : Prop where
  len_eq : ls.length = n
  max : n ≤ cap ∧ cap ≤ maxLen
  cells : 0 < n → ∃ b off, a = some ⟨b, off, none⟩ ∧ ∀ i, i < n → ∃ ai ci, w.cell? ⟨b, off + i, none⟩ = some (.slice ai (ls.getD i []).length ci) ∧ IsB w ai (ls.getD i []).length ci (ls.getD i [])
theorem IsLs.below {w w' : World} {a : Option Addr} {n cap : Nat} {ls : List (List UInt8)} (h : IsLs w a n cap ls) (hb : Below w.heap.size w w') : IsLs w' a n cap ls :=
  ⟨h.len_eq, h.max, fun hp => by
    obtain ⟨b, off, e, hc⟩ := h.cells hp
    refine ⟨b, off, e, fun i hi => ?_⟩
    obtain ⟨ai, ci, h0, h1⟩ := hc i hi
    exact ⟨ai, ci, (hb.cell (p := ⟨b, _, none⟩) (cell_lt h0)).trans h0, h1.below hb rfl⟩⟩

/-- the first k parts, one behind the other -/
def catTo (ls : List (List UInt8)) (k : Nat) : List UInt8 := (ls.take k).flatten
theorem catTo_succ (ls : List (List UInt8)) (k : Nat) (h : k < ls.length) : catTo ls (k + 1) = catTo ls k ++ ls.getD k [] := by
  unfold catTo
  rw [List.take_succ_eq_append_getElem h, List.flatten_append]
  simp [List.getElem?_eq_getElem h]
theorem catTo_le (ls : List (List UInt8)) (k : Nat) : (catTo ls k).length ≤ ls.flatten.length := by
  have : ls.flatten = (ls.take k).flatten ++ (ls.drop k).flatten := by rw [← List.flatten_append, List.take_append_drop]
  unfold catTo; rw [this, List.length_append]; omega
theorem catTo_all (ls : List (List UInt8)) (k : Nat) (h : ls.length ≤ k) : catTo ls k = ls.flatten := by unfold catTo; rw [List.take_of_length_le h]

theorem ret_boolP {a b : Bool} (h : a = b) : Ending.returned (.bool a) = .returned (.bool b) := by rw [h]

set_option maxHeartbeats 1000000 in
theorem lLightS (a : Option Addr) (n cap : Nat) (ls : List (List UInt8)) (w : World) (h : IsLs w a n cap ls) (hs : ls.flatten.length ≤ 1099511627776) :
    Calls Try.prog 7 #[.slice a n cap] w fun e w' => e = .returned (.bool (decide (ls.flatten.length ≤ 200000))) ∧ w' = w := by
  have H : Hid (IsLs w a n cap ls) := h
  have HE : Hid (ls.length = n) := h.len_eq
  have hmx := h.max
  unfold maxLen at hmx
  clear h
  obtain ⟨F, hF⟩ : ∃ F, ls.flatten.length = F := ⟨_, rfl⟩
  have HF : Hid (ls.flatten.length = F) := hF
  rw [hF] at hs ⊢
  clear hF
  go_enter Try.func7, Try.ntmps7
  go_wp2
  go_loopw [3, 4] (fun v i wr => ∃ k : Nat, k ≤ n ∧ i = .int .i64 (k : Int) ∧ v = .int .i64 ((catTo ls k).length : Int) ∧ wr = w) (fun _ i _ => n - (intOf i).toNat)
  case atStart => exact ⟨0, by omega, rfl, rfl, rfl⟩
  case round =>
    obtain ⟨k, hk, rfl, rfl, hww⟩ := hrel
    rw [hww]; clear hww wr
    by_cases hlt : k < n
    · obtain ⟨b, off, rfl, hc⟩ := H.out.cells (by omega)
      obtain ⟨ai, ci, g, _⟩ := hc k hlt
      have hlt' : (k : Int) < (n : Int) := by omega
      have HV : Hid ((catTo ls (k + 1)).length = (catTo ls k).length + (ls.getD k []).length) := by unfold Hid; rw [catTo_succ ls k (by rw [HE.out]; exact hlt), List.length_append]
      have hle := catTo_le ls (k + 1)
      rw [HV.out, HF.out] at hle
      clear hc
      generalize (catTo ls k).length = N at *
      generalize (ls.getD k []).length = L at *
      go_wp2
      go_roundw
      case rel => exact ⟨k + 1, by omega, by go_num, by rw [HV.out]; go_num, by first | rfl | trivial⟩
      case measure => simp [intOf]; omega
    · have HC : Hid (catTo ls k = ls.flatten) := catTo_all ls k (by rw [HE.out]; omega)
      have hge : ¬ (k : Int) < (n : Int) := by omega
      rw [HC.out, HF.out]
      go_wp2
      go_ret
      exact ⟨ret_boolP (by rw [decide_eq_decide]; omega), rfl⟩

theorem OwnB.otherG {w w' : World} {base G : Nat} {v : Value} {l : List UInt8} (h : OwnB w base v l) (hg : w.grownBy w' (some G)) (hG : G < base) : OwnB w' base v l := by
  have hk := h.blk
  refine ⟨h.1, ?_⟩
  rcases h.2 with h2 | ⟨g, cap, cur, h3, h4, h5, h6⟩
  · exact .inl h2
  · exact .inr ⟨g, cap, cur, h3, h4, by rw [hg.block g (hk g (by rw [h3]; rfl)).2 (fun e => by injection e with e; omega)]; exact h5, h6⟩
theorem IsH.otherV {w w' : World} {G base : Nat} {A l : List UInt8} {v : Value} (h : IsH w G A) (ho : OwnB w base v l) (hg : w.grownBy w' v.ownBlock) (hG : G < base) : IsH w' G A := by
  obtain ⟨ws, buf, h1, h2, h3⟩ := h
  refine ⟨ws, buf, h1, ?_, h3⟩
  unfold Blk
  rw [hg.block G h2.lt (fun e => by have := (ho.blk G e.symm).1; omega)]
  exact h2
theorem OwnB.belowP {w w' : World} {base : Nat} {v : Value} {l : List UInt8} (h : OwnB w base v l) (hb : Below w.heap.size w w') : OwnB w' base v l := by
  have hk := h.blk
  refine ⟨h.1, ?_⟩
  rcases h.2 with h2 | ⟨g, cap, cur, h3, h4, h5, h6⟩
  · exact .inl h2
  · exact .inr ⟨g, cap, cur, h3, h4, by rw [hb.block g (hk g (by rw [h3]; rfl)).2]; exact h5, h6⟩

set_option maxRecDepth 20000 in
set_option maxHeartbeats 2000000 in
theorem partsWalk (a : Option Addr) (n cap : Nat) (ls : List (List UInt8)) (w : World) (h : IsLs w a n cap ls) (hs : ls.flatten.length ≤ 1099511627776) :
    Calls Try.prog 4 #[.slice a n cap] w fun e w' => e = .returned (.bool true) ∧ Below w.heap.size w w' := by
  have H : Hid (IsLs w a n cap ls) := h
  have HE : Hid (ls.length = n) := h.len_eq
  have hmx := h.max
  unfold maxLen at hmx
  clear h
  by_cases hl : ls.flatten.length ≤ 200000
  · have hd : decide (ls.flatten.length ≤ 200000) = true := decide_eq_true hl
    by_cases hn : 1000 < n
    · have hn' : (1000 : Int) < (n : Int) := by omega
      go_enter Try.func4, Try.ntmps4
      go_wp2_with fail
      refine (lLightS a n cap ls w H.out hs).mono ?_
      rintro e w1 ⟨rfl, hw⟩
      rw [hw, hd]; clear hw hd w1
      go_wp2_with fail
      go_ret
      exact ⟨rfl, Below.refl _ _⟩
    · have hn' : ¬ (1000 : Int) < (n : Int) := by omega
      go_enter Try.func4, Try.ntmps4
      go_wp2_with fail
      refine (lLightS a n cap ls w H.out hs).mono ?_
      rintro e w1 ⟨rfl, hw⟩
      rw [hw, hd]; clear hw hd w1
      go_wp2_with fail
      refine (hNew w).mono ?_
      rintro e x1 ⟨G, rfl, hGw, hH, T1⟩
      have hGx : G < x1.heap.size := hH.lt
      have HH : Hid (IsH x1 G (catTo ls 0)) := hH
      clear hH
      go_wp2_with fail
      go_loopw [4, 5] (fun v i wx => ∃ j : Nat, j ≤ n ∧ i = .int .i64 (j : Int) ∧ Hid (OwnB wx x1.heap.size v (catTo ls j)) ∧ Hid (IsH wx G (catTo ls j)) ∧ Below w.heap.size w wx ∧ x1.heap.size ≤ wx.heap.size) (fun _ i _ => n - (intOf i).toNat)
      case atStart => exact ⟨0, by omega, rfl, OwnB.nil _ _, HH, T1, Nat.le_refl _⟩
      case round =>
        clear HH T1
        obtain ⟨j, hj, rfl, hown, hH, hT, hxs⟩ := hrel
        by_cases hjl : j < n
        · obtain ⟨b, off, rfl, hc⟩ := (H.out.below hT).cells (by omega)
          obtain ⟨ai, ci, g0, hi⟩ := hc j hjl
          have hjl' : (j : Int) < (n : Int) := by omega
          have HW : Hid (catTo ls (j + 1) = catTo ls j ++ ls.getD j []) := catTo_succ ls j (by rw [HE.out]; exact hjl)
          have hlen := catTo_le ls (j + 1)
          rw [HW.out, List.length_append] at hlen
          have hlt1 : b < w.heap.size := by
            obtain ⟨b2, o2, e2, hc2⟩ := H.out.cells (by omega)
            injection e2 with e2; injection e2 with e3 e4
            obtain ⟨_, _, g2, _⟩ := hc2 j hjl
            rw [e3]; exact cell_lt g2
          have hG : 0 < (ls.getD j []).length → ∀ b' off', ai = some ⟨b', off', none⟩ → b' ≠ G := fun hp b' off' e => by
            obtain ⟨b2, o2, e2, hc2⟩ := H.out.cells (by omega)
            obtain ⟨aj, cj, g2, i2⟩ := hc2 j hjl
            injection e2 with e2; injection e2 with e3 e4
            have hh := (hT.cell (p := ⟨b, off + j, none⟩) hlt1)
            rw [g0, e3, e4, g2] at hh
            injection hh with hh; injection hh with hh1 hh2 hh3
            obtain ⟨b5, o5, e5, hc5⟩ := i2.cells hp
            have hlt5 := cell_lt (hc5 0 hp)
            rw [← hh1, e] at e5
            injection e5 with e5; injection e5 with e6 e7
            rw [e6]; simp only at hlt5; omega
          have HI : Hid (IsB wr ai (ls.getD j []).length ci (ls.getD j [])) := hi
          have HGG : Hid (0 < (ls.getD j []).length → ∀ b' off', ai = some ⟨b', off', none⟩ → b' ≠ G) := hG
          have HA : Hid ((catTo ls j).length + (ls.getD j []).length ≤ 200000) := by unfold Hid; omega
          clear hc hi hG
          obtain ⟨P, hP⟩ : ∃ P, ls.getD j [] = P := ⟨_, rfl⟩
          rw [hP] at HI HGG HA HW g0 hlen
          clear hP
          have hlt0 : b < wr.heap.size := cell_lt g0
          go_wp2_with fail
          refine (hAdd G (catTo ls j) P ai P.length ci wr hH.out HI.out HGG.out (by have := HA.out; omega)).mono ?_
          rintro e y1 ⟨rfl, hH1, g1⟩
          have hGb : G ≠ b := by omega
          have own1 : OwnB y1 x1.heap.size u4 (catTo ls j) := hown.out.otherG g1 hGx
          have t1 : Below w.heap.size w y1 := hT.grown g1 hT.size (fun q hq => by injection hq with hq; omega)
          have gy := g1.cell_far ⟨b, off + j, none⟩ hlt0 (by intro e; injection e with e; exact hGb e.symm)
          rw [g0] at gy
          have IY : Hid (IsB y1 ai P.length ci P) := by
            have := HI.out
            exact ⟨this.len_eq, this.le, this.max, this.nil, fun hp => by
              obtain ⟨b', off', e, hc⟩ := this.cells hp
              refine ⟨b', off', e, fun i hi => ?_⟩
              rw [g1.cell_far ⟨b', off' + i, none⟩ (cell_lt (hc i hi)) (by intro e2; injection e2 with e2; exact HGG.out hp b' off' e e2)]
              exact hc i hi⟩
          have hsz1 : x1.heap.size ≤ y1.heap.size := Nat.le_trans hxs g1.size
          have HH1 : Hid (IsH y1 G (catTo ls j ++ P)) := hH1
          clear hH hown hT g0 HI hH1 hxs
          generalize P.length = pl at *
          go_wp2_with (at_builtin; refine list_appS _ rfl (.tmp 30) (.tmp 34) rfl x1.heap.size u4 (catTo ls j) rfl own1 ai pl ci P rfl IY.out (by have := HA.out; omega) hsz1 ?_; intro v2 y2 own2 g2)
          have HH2 : Hid (IsH y2 G (catTo ls j ++ P)) := HH1.out.otherV own1 g2 hGx
          have t2 : Below w.heap.size w y2 := t1.grown g2 t1.size (fun k hk => Nat.le_trans (by omega) (own1.blk k hk).1)
          have hsz2 : x1.heap.size ≤ y2.heap.size := Nat.le_trans hsz1 g2.size
          rw [← HW.out] at own2 HH2
          have hAl : (catTo ls (j + 1)).length ≤ 200000 := Nat.le_trans (catTo_le ls (j + 1)) hl
          obtain ⟨xa, qa, rfl, ia⟩ := own2.isB
          have IA : Hid (IsB y2 xa (catTo ls (j + 1)).length qa (catTo ls (j + 1))) := ia
          have OW : Hid (OwnB y2 x1.heap.size (.slice xa (catTo ls (j + 1)).length qa) (catTo ls (j + 1))) := own2
          have hL := hLen G (catTo ls (j + 1)) y2 HH2.out
          have HLn : Hid (Calls Try.prog _ _ _ _) := hL
          clear hL own1 g1 g2 IY HH1 own2 ia gy HW HA hlen HGG t1
          generalize hma : (catTo ls (j + 1)).length = ma at *
          refine HLn.out.mono ?_
          rintro e y3 ⟨rfl, hw⟩
          rw [hw]; clear hw HLn y3
          by_cases hj5 : j < 5
          · have hj5' : (j : Int) < 5 := by omega
            go_wp2_with fail
            refine (hSum G (catTo ls (j + 1)) y2 HH2.out (by omega)).mono ?_
            rintro e z1 ⟨u1, rfl, o1, e1⟩
            obtain ⟨p1, q1, rfl, i1⟩ := o1.isB
            have I1 : Hid (IsB z1 p1 (sha256L (catTo ls (j + 1))).length q1 (sha256L (catTo ls (j + 1)))) := i1
            have AZ : Hid (IsB z1 xa ma qa (catTo ls (j + 1))) := IA.out.below e1 rfl
            have tz1 : Below w.heap.size w z1 := t2.trans (e1.mono t2.size)
            clear i1 o1
            go_wp2_with fail
            refine (refSha256 xa ma qa (catTo ls (j + 1)) z1 AZ.out (by omega)).mono ?_
            rintro e z2 ⟨u2, rfl, o2, e2⟩
            obtain ⟨p2, q2, rfl, i2⟩ := o2.isB
            have I2 : Hid (IsB z2 p2 (sha256L (catTo ls (j + 1))).length q2 (sha256L (catTo ls (j + 1)))) := i2
            have I1' : Hid (IsB z2 p1 (sha256L (catTo ls (j + 1))).length q1 (sha256L (catTo ls (j + 1)))) := I1.out.below e2 rfl
            have tz2 : Below w.heap.size w z2 := tz1.trans (e2.mono tz1.size)
            clear i2 o2 I1
            go_wp2_with fail
            refine (refSame _ _ _ _ _ _ _ _ z2 I1'.out I2.out).mono ?_
            rintro e z3 ⟨rfl, n3, hw3⟩
            rw [eqB_self]
            have b3 : Below y2.heap.size y2 z3 := by rw [hw3]; exact bel_drewN (e1.trans (e2.mono e1.size)) n3
            have OW3 : Hid (OwnB z3 x1.heap.size (.slice xa ma qa) (catTo ls (j + 1))) := OW.out.belowP b3
            have HH3 : Hid (IsH z3 G (catTo ls (j + 1))) := HH2.out.on b3
            have t3 : Below w.heap.size w z3 := t2.trans (b3.mono t2.size)
            have hsz3 : x1.heap.size ≤ z3.heap.size := Nat.le_trans hsz2 b3.size
            clear hw3 I1' I2 AZ tz1 tz2 e1 e2 IA OW HH2 t2 b3
            go_wp2_with fail
            go_roundw
            case rel => exact ⟨j + 1, by omega, by go_num, OW3, HH3, t3, hsz3⟩
            case measure => simp [intOf]; omega
          · have hj5' : ¬ (j : Int) < 5 := by omega
            clear IA
            go_wp2_with fail
            go_roundw
            case rel => exact ⟨j + 1, by omega, by go_num, OW, HH2, t2, hsz2⟩
            case measure => simp [intOf]; omega
        · have hjl' : ¬ (j : Int) < (n : Int) := by omega
          have hAl : (catTo ls j).length ≤ 200000 := Nat.le_trans (catTo_le ls j) hl
          obtain ⟨xa, qa, rfl, ia⟩ := hown.out.isB
          have IA : Hid (IsB wr xa (catTo ls j).length qa (catTo ls j)) := ia
          clear hown ia
          generalize hma : (catTo ls j).length = ma at *
          go_wp2_with fail
          refine (hnAdd _ wr).mono ?_
          rintro e y1 ⟨rfl, hw⟩
          rw [hw]; clear hw y1
          go_wp2_with fail
          refine (hSum G (catTo ls j) wr hH.out (by omega)).mono ?_
          rintro e z1 ⟨u1, rfl, o1, e1⟩
          obtain ⟨p1, q1, rfl, i1⟩ := o1.isB
          have I1 : Hid (IsB z1 p1 (sha256L (catTo ls j)).length q1 (sha256L (catTo ls j))) := i1
          have AZ : Hid (IsB z1 xa ma qa (catTo ls j)) := IA.out.below e1 rfl
          have tz1 : Below w.heap.size w z1 := hT.trans (e1.mono hT.size)
          clear i1 o1
          go_wp2_with fail
          refine (refSha256 xa ma qa (catTo ls j) z1 AZ.out (by omega)).mono ?_
          rintro e z2 ⟨u2, rfl, o2, e2⟩
          obtain ⟨p2, q2, rfl, i2⟩ := o2.isB
          have I2 : Hid (IsB z2 p2 (sha256L (catTo ls j)).length q2 (sha256L (catTo ls j))) := i2
          have I1' : Hid (IsB z2 p1 (sha256L (catTo ls j)).length q1 (sha256L (catTo ls j))) := I1.out.below e2 rfl
          have tz2 : Below w.heap.size w z2 := tz1.trans (e2.mono tz1.size)
          clear i2 o2 I1
          go_wp2_with fail
          refine (refSame _ _ _ _ _ _ _ _ z2 I1'.out I2.out).mono ?_
          rintro e z3 ⟨rfl, n3, hw3⟩
          rw [eqB_self]
          have t3 : Below w.heap.size w z3 := by rw [hw3]; exact bel_drewN tz2 n3
          clear hw3 I1' I2 AZ tz1 tz2 IA e1 e2
          go_wp2_with fail
          refine (hnSum z3).mono ?_
          rintro e y1 ⟨rfl, hw⟩
          rw [hw]; clear hw y1
          go_wp2_with fail
          refine (hnLen z3).mono ?_
          rintro e y1 ⟨rfl, hw⟩
          rw [hw]; clear hw y1
          go_wp2_with fail
          go_ret
          exact ⟨rfl, t3⟩
  · have hd : decide (ls.flatten.length ≤ 200000) = false := decide_eq_false hl
    go_enter Try.func4, Try.ntmps4
    go_wp2_with fail
    refine (lLightS a n cap ls w H.out hs).mono ?_
    rintro e w1 ⟨rfl, hw⟩
    rw [hw, hd]; clear hw hd w1
    go_wp2_with fail
    go_ret
    exact ⟨rfl, Below.refl _ _⟩
end Go.Proofs.Ytjhfkghcplbmkab
