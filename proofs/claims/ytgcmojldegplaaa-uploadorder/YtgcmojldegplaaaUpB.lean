/- The walk of UploadOrder, over any upload that keeps the document. -/
import Derived.Test.YtgcmojldegplaaaUpA
namespace Go.Proofs.Ytgcmojldegplaaa
open Go.RowKit

attribute [local go_sem] undef
set_option maxRecDepth 20000 in
set_option maxHeartbeats 8000000 in
theorem order16 (S : UpOK) (a : Option Addr) (n cap : Nat) (l : List Pq) (w : World) (h : IsPs16 w a n cap l) :
    Calls Try.prog 5 #[.slice a n cap] w fun e w' => e = .returned (.bool true) ∧ Below w.heap.size w w' := by
  have HX := mkHid h
  have HLn := mkHid h.row.len
  clear h
  go_enter Try.func5, Try.ntmps5
  by_cases hn : 100 < n
  · have hn' : (100 : Int) < (n : Int) := by omega
    go_wp2_with fail
    refine (lawAlive16 S _).mono ?_
    rintro e yA ⟨rfl, hb⟩
    have HB := mkHid hb
    clear hb
    go_wp2_with fail
    go_ret
    exact ⟨rfl, HB.out⟩
  have hn' : ¬ (100 : Int) < (n : Int) := by omega
  have Hn := mkHid hn
  clear hn
  go_upto_region 6 with fail
  have HW : Hid (LpW w (((w.alloc (.cells #[.string ⟨#[]⟩, .string ⟨#[107]⟩, .int .u64 0, .int .u64 0, .slice none 0 0] 25)).alloc (.cells #[.slice none 0 0, .slice none 0 0, .slice none 0 0, .slice none 0 0, .slice none 0 0] 40)).alloc (.cells #[.bool false, .bool false, .bool false, .bool false, .bool false] 41)) []) := by
    have b0 := Blk.new w 25 [.string ⟨#[]⟩, .string ⟨#[107]⟩, .int .u64 0, .int .u64 0, .slice none 0 0]
    have b1 := Blk.newAt (w.alloc (.cells #[.string ⟨#[]⟩, .string ⟨#[107]⟩, .int .u64 0, .int .u64 0, .slice none 0 0] 25)) (w.heap.size + 1) 40 _ [.slice none 0 0, .slice none 0 0, .slice none 0 0, .slice none 0 0, .slice none 0 0] (Array.size_push _) rfl
    have b2 := Blk.newAt ((w.alloc (.cells #[.string ⟨#[]⟩, .string ⟨#[107]⟩, .int .u64 0, .int .u64 0, .slice none 0 0] 25)).alloc (.cells #[.slice none 0 0, .slice none 0 0, .slice none 0 0, .slice none 0 0, .slice none 0 0] 40)) (w.heap.size + 1 + 1) 41 _ [.bool false, .bool false, .bool false, .bool false, .bool false] (by rw [World.size_alloc, World.size_alloc]) rfl
    have z0 : Below w.heap.size w (w.alloc (.cells #[.string ⟨#[]⟩, .string ⟨#[107]⟩, .int .u64 0, .int .u64 0, .slice none 0 0] 25)) := (Below.refl _ w).alloc (Nat.le_refl _) _
    have z1 := z0.alloc z0.size (.cells #[.slice none 0 0, .slice none 0 0, .slice none 0 0, .slice none 0 0, .slice none 0 0] 40)
    have z2 := z1.alloc z1.size (.cells #[.bool false, .bool false, .bool false, .bool false, .bool false] 41)
    refine ⟨z2, rfl, ⟨none, 0, 0, [], (b0.alloc _).alloc _, isPs16_none _, rfl⟩, ⟨_, b1.alloc _, rfl, rfl, fun j h1 h4 => ⟨none, 0, 0, ?_, isB_none _⟩⟩, ⟨_, b2, rfl, rfl, fun j h1 h4 => ?_⟩⟩
    · have : j = 1 ∨ j = 2 ∨ j = 3 ∨ j = 4 := by omega
      rcases this with rfl | rfl | rfl | rfl <;> rfl
    · have : j = 1 ∨ j = 2 ∨ j = 3 ∨ j = 4 := by omega
      rcases this with rfl | rfl | rfl | rfl <;> rfl
  generalize World.alloc (World.alloc _ _) _ = y at *
  go_wp2_with fail
  go_loopw [6, 7, 8] (fun i _ _ wr => ∃ k : Nat, k ≤ n ∧ i = .int .i64 (k : Int) ∧ Hid (LpW w wr (((l.take k).map Prod.fst).foldl stO []))) (fun i _ _ _ => n - (Go.RowKit.intOf i).toNat)
  case atStart => exact ⟨0, Nat.zero_le _, rfl, HW⟩
  case round =>
    clear HW
    obtain ⟨k, hk, rfl, HW⟩ := hrel
    by_cases hlt : k < n
    · have hlt' : (k : Int) < (n : Int) := by omega
      have Hlt := mkHid hlt
      have hk0 : (0 : Int) ≤ (k : Int) := by omega
      obtain ⟨B, off, p, rfl, hB, hp, hc⟩ := HX.out.row.at k hlt
      have HSt := mkHid (stO_take l k p hp)
      have HPk := mkHid (HX.out.ok p (List.mem_of_getElem? hp))
      obtain ⟨⟨pn, pd⟩, ⟨pa, pc⟩⟩ := p
      obtain ⟨dl, hdl⟩ : ∃ dl, dl = pd.length := ⟨_, rfl⟩
      have hc0 := hc 0 _ rfl
      have hc1 := hc 1 _ rfl
      simp only at hc0 hc1
      rw [← hdl] at hc1
      have Hdl := mkHid hdl
      have HCl : Hid (∀ W, Below w.heap.size w W → W.cell? ⟨B, off + k * 2, none⟩ = some (.int .i64 pn) ∧ W.cell? ⟨B, off + k * 2 + 1, none⟩ = some (.slice pa dl pc)) := fun W hW => ⟨(hW.cell (p := ⟨B, off + k * 2, none⟩) hB).trans hc0, (hW.cell (p := ⟨B, off + k * 2 + 1, none⟩) hB).trans hc1⟩
      clear hc0 hc1 hc hB hp hdl hlt
      generalize ((l.take k).map Prod.fst).foldl stO [] = s at *
      obtain ⟨ua, um, uc, ul, hU, hUi, hUe⟩ := HW.out.u
      have HU := mkHid hU
      have HUi := mkHid hUi
      have HUe := mkHid hUe
      clear hU hUi hUe
      obtain ⟨U2, hU2⟩ : ∃ U2, U2 = pwU ⟨⟨#[]⟩, ⟨#[107]⟩, 0, 0⟩ pn pd := ⟨_, rfl⟩
      obtain ⟨pw, hpw⟩ : ∃ pw, pw = pwL s pn pd := ⟨_, rfl⟩
      obtain ⟨pe, hpe⟩ : ∃ pe, pe = putE16 pn pd := ⟨_, rfl⟩
      obtain ⟨b2, k2, i2, t2⟩ := U2
      have CP : ∀ W, Below wr.heap.size wr W → Calls Try.prog 10 #[.agg #[.string ⟨#[]⟩, .string ⟨#[107]⟩, .int .u64 0, .int .u64 0, .slice ua um uc], .int .i64 pn, .slice pa dl pc] W fun e w' =>
          (∃ a6 m6 p6 l6, e = .returned (.tuple #[.agg #[.string b2, .string k2, .int .u64 (i2 : Int), .int .u64 (t2 : Int), .slice a6 m6 p6], .int .i64 pe]) ∧ IsPs16 w' a6 m6 p6 l6 ∧ l6.map Prod.fst = pw) ∧ Below W.heap.size W w' := fun W hW => by
        refine (S.put ⟨⟨#[]⟩, ⟨#[107]⟩, 0, 0⟩ ua um uc ul pn pa dl pc pd W (HUi.out.below hW) (by rw [HUe.out]; exact HW.out.right) (by rw [Hdl.out]; exact HPk.out.d.below (HW.out.bel.trans (hW.mono HW.out.bel.size)) rfl) HPk.out.n0 HPk.out.n1).mono ?_
        rintro e w' ⟨hp, hb⟩
        obtain ⟨a6, m6, p6, l6, rfl, hi, he⟩ := hp.form
        rw [← hU2, ← hpe, HUe.out, ← hpw] at *
        exact ⟨⟨a6, m6, p6, l6, rfl, hi, he⟩, hb⟩
      have HU2 := mkHid hU2
      have Hpw := mkHid hpw
      have Hpe := mkHid hpe
      clear hU2 hpw hpe
      have HKP : ∀ w', Below wr.heap.size wr w' → Below wr.heap.size wr w' ∧ w'.cell? ⟨w.heap.size, 0, none⟩ = some (.string ⟨#[]⟩) ∧ w'.cell? ⟨w.heap.size, 1, none⟩ = some (.string ⟨#[107]⟩) ∧ w'.cell? ⟨w.heap.size, 2, none⟩ = some (.int .u64 0) ∧ w'.cell? ⟨w.heap.size, 3, none⟩ = some (.int .u64 0) ∧ w'.cell? ⟨w.heap.size, 4, none⟩ = some (.slice ua um uc) ∧ w'.cell? ⟨B, off + k * 2, none⟩ = some (.int .i64 pn) ∧ w'.cell? ⟨B, off + k * 2 + 1, none⟩ = some (.slice pa dl pc) := fun w' hW => ⟨hW, by have h := HU.out.on hW; exact ⟨h.cell 0, h.cell 1, h.cell 2, h.cell 3, h.cell 4, HCl.out _ (HW.out.bel.trans (hW.mono HW.out.bel.size))⟩⟩
      go_wp2_with fail
      go_cut [7, 8] from 25 to 39 (fun v7 v8 wx => ∃ g a6 m6 p6 l6, v7 = .pointer (some ⟨g, 0, none⟩) ∧ v8 = .int .i64 pe ∧ Hid (w.heap.size + 1 + 1 < g ∧ Blk wx g 25 [.string b2, .string k2, .int .u64 (i2 : Int), .int .u64 (t2 : Int), .slice a6 m6 p6]) ∧ Hid (IsPs16 wx a6 m6 p6 l6) ∧ Hid (l6.map Prod.fst = pw) ∧ Hid (Below wr.heap.size wr wx))
      case first =>
        have HSz : Hid (w.heap.size + 1 + 1 < wr.heap.size) := by
          obtain ⟨ds, f1, _⟩ := HW.out.has
          exact f1.lt
        go_region_held3 (fun w' => Below wr.heap.size wr w' ∧ w'.cell? ⟨w.heap.size, 0, none⟩ = some (.string ⟨#[]⟩) ∧ w'.cell? ⟨w.heap.size, 1, none⟩ = some (.string ⟨#[107]⟩) ∧ w'.cell? ⟨w.heap.size, 2, none⟩ = some (.int .u64 0) ∧ w'.cell? ⟨w.heap.size, 3, none⟩ = some (.int .u64 0) ∧ w'.cell? ⟨w.heap.size, 4, none⟩ = some (.slice ua um uc) ∧ w'.cell? ⟨B, off + k * 2, none⟩ = some (.int .i64 pn) ∧ w'.cell? ⟨B, off + k * 2 + 1, none⟩ = some (.slice pa dl pc))
        (first | exact HKP _ ((Below.refl _ wr).drew) | assumption | (have hq0 := ‹Below _ _ _ ∧ _›; first | exact HKP _ (hq0.1.trans (hb0.mono hq0.1.size)) | exact HKP _ (hq0.1.alloc hq0.1.size _) | exact HKP _ (hbw.alloc hbw.size _) | exact HKP _ (((((hbw.setCell (Nat.le_refl _) _).setCell (Nat.le_refl _) _).setCell (Nat.le_refl _) _).setCell (Nat.le_refl _) _).setCell (Nat.le_refl _) _)))
        (first
          | (go_at_call 10; refine (CP _ (‹Below _ _ _ ∧ _›).1).mono ?_; rintro e w4 ⟨⟨a6, m6, p6, l6, rfl, hi6, he6⟩, hb0⟩; have hbw := (‹Below _ _ _ ∧ _›).1.trans (hb0.mono (‹Below _ _ _ ∧ _›).1.size); have HI6 := mkHid hi6; have HE6 := mkHid he6; clear hi6 he6; try (have hk : Blk w4 wr.heap.size 25 [.string ⟨#[]⟩, .string ⟨#[]⟩, .int .u64 0, .int .u64 0, .slice none 0 0] := Blk.on (w := (wr.alloc (.cells #[.string ⟨#[]⟩, .string ⟨#[]⟩, .int .u64 0, .int .u64 0, .slice none 0 0] 25)).drew) (Blk.new wr 25 [.string ⟨#[]⟩, .string ⟨#[]⟩, .int .u64 0, .int .u64 0, .slice none 0 0]) (by with_reducible exact hb0); have hK := mkHid hk; have g0 := hk.cell 0; have g1 := hk.cell 1; have g2 := hk.cell 2; have g3 := hk.cell 3; have g4 := hk.cell 4; have f0 := hk.frozen 0; have f1 := hk.frozen 1; have f2 := hk.frozen 2; have f3 := hk.frozen 3; have f4 := hk.frozen 4; simp only [List.getElem?_cons_zero, List.getElem?_cons_succ] at g0 g1 g2 g3 g4; clear hk)))
        all_goals
          have hq9 := ‹Below _ _ _ ∧ _›
          go_wp2_with fail
          go_meet
          case rel =>
            first
              | exact ⟨_, _, _, _, _, rfl, rfl, mkHid ⟨Nat.lt_of_lt_of_le HSz.out hbw.size, Blk.new _ _ _⟩, mkHid (HI6.out.below ((Below.refl _ _).alloc (Nat.le_refl _) _)), HE6, mkHid hq9.1⟩
              | exact ⟨_, _, _, _, _, rfl, rfl, mkHid ⟨HSz.out, ((((hK.out.set 0 _).set 1 _).set 2 _).set 3 _).set 4 _⟩, mkHid (ps_set5 HI6.out hK.out), HE6, mkHid hq9.1⟩
      case rest =>
        obtain ⟨g, a6, m6, p6, l6, rfl, rfl, HG, HI6, HE6, HBx⟩ := hcut
        have HWx := mkHid (HW.out.on HBx.out)
        clear HKP CP HU HUi HUe HW HBx
        have h := HCl.out wc HWx.out.bel
        obtain ⟨e0, e1⟩ := h
        by_cases hpe : pe = 0
        rotate_left
        · have hped : (pe != 0) = true := by simpa using hpe
          have HS2 : Hid (((l.take (k + 1)).map Prod.fst).foldl stO [] = s) := by
            unfold Hid; rw [HSt.out]; unfold stO; rw [if_neg (by rw [← Hpe.out]; exact hpe)]
          clear hpe e0 e1
          go_wp2_with fail
          go_roundw
          case rel => exact ⟨k + 1, Hlt.out, by go_num, by rw [HS2.out]; exact HWx⟩
          case measure => simp [Go.RowKit.intOf]; have := Hlt.out; omega
        subst hpe
        obtain ⟨hn1, hn4, hdl⟩ := putE_ok Hpe.out.symm
        obtain ⟨q, rfl⟩ : ∃ q : Nat, pn = (q : Int) := ⟨pn.toNat, by omega⟩
        have HS2 : Hid (((l.take (k + 1)).map Prod.fst).foldl stO [] = putPs s (q : Int) pd) := by
          unfold Hid; rw [HSt.out]; unfold stO; rw [if_pos Hpe.out.symm]
        have HE7 : Hid (l6.map Prod.fst = putPs s (q : Int) pd) := by
          unfold Hid; rw [HE6.out, Hpw.out]; unfold pwL; rw [if_pos Hpe.out.symm]
        have HR7 : Hid (rightPs (putPs s (q : Int) pd) = true) := by
          have := right_pw s (q : Int) pd HWx.out.right
          unfold pwL at this; rw [if_pos Hpe.out.symm] at this; exact this
        have hU := HU2.out
        unfold pwU at hU
        rw [if_pos Hpe.out.symm] at hU
        simp only [UpH.mk.injEq] at hU
        obtain ⟨rfl, rfl, rfl, rfl⟩ := hU
        have hn1d : decide ((q : Int) < 1) = false := decide_eq_false (by omega)
        have hn4d : decide ((4 : Int) < (q : Int)) = false := decide_eq_false (by omega)
        have hdld : decide ((1536 : Int) < (dl : Int)) = false := decide_eq_false (by have := Hdl.out; omega)
        have hq4 : q ≤ 4 := by omega
        have hn1q : 1 ≤ q := by omega
        have hq5 : (q : Int) < 5 := by omega
        have hq0 : (0 : Int) ≤ (q : Int) := by omega
        have HD7 : Hid (IsB wc pa dl pc pd) := by unfold Hid; rw [Hdl.out]; exact HPk.out.d.below HWx.out.bel rfl
        clear HSt HPk HE6 Hpe Hpw HU2 hn1 hn4 hdl
        obtain ⟨ua, um, uc, ul, hU, _, _⟩ := HWx.out.u
        obtain ⟨cs, hC, hCl, hC0, hC3⟩ := HWx.out.last
        obtain ⟨ds, hD, hDl, hD0, hD3⟩ := HWx.out.has
        have HP := mkHid (LpW.put HWx.out HI6.out HE7.out HD7.out hq4 HR7.out)
        have HC1 := mkHid (((((hC.other ⟨w.heap.size, 0, none⟩ (.string ⟨#[]⟩) (by simp)).other ⟨w.heap.size, 1, none⟩ (.string ⟨#[107]⟩) (by simp)).other ⟨w.heap.size, 2, none⟩ (.int .u64 0) (by simp)).other ⟨w.heap.size, 3, none⟩ (.int .u64 0) (by simp)).other ⟨w.heap.size, 4, none⟩ (.slice a6 m6 p6) (by simp))
        have HD1 := mkHid (((((hD.other ⟨w.heap.size, 0, none⟩ (.string ⟨#[]⟩) (by show w.heap.size + 1 + 1 ≠ w.heap.size; omega)).other ⟨w.heap.size, 1, none⟩ (.string ⟨#[107]⟩) (by show w.heap.size + 1 + 1 ≠ w.heap.size; omega)).other ⟨w.heap.size, 2, none⟩ (.int .u64 0) (by show w.heap.size + 1 + 1 ≠ w.heap.size; omega)).other ⟨w.heap.size, 3, none⟩ (.int .u64 0) (by show w.heap.size + 1 + 1 ≠ w.heap.size; omega)).other ⟨w.heap.size, 4, none⟩ (.slice a6 m6 p6) (by show w.heap.size + 1 + 1 ≠ w.heap.size; omega))
        have HB1 := mkHid (((((HWx.out.bel.setCell (p := ⟨w.heap.size, 0, none⟩) (Nat.le_refl _) (.string ⟨#[]⟩)).setCell (p := ⟨w.heap.size, 1, none⟩) (Nat.le_refl _) (.string ⟨#[107]⟩)).setCell (p := ⟨w.heap.size, 2, none⟩) (Nat.le_refl _) (.int .u64 0)).setCell (p := ⟨w.heap.size, 3, none⟩) (Nat.le_refl _) (.int .u64 0)).setCell (p := ⟨w.heap.size, 4, none⟩) (Nat.le_refl _) (.slice a6 m6 p6))
        obtain ⟨ca, cm, cc, hcq, _⟩ := hC3 q hn1q hq4
        have Hcq := mkHid hcq
        have Hdq := mkHid (hD3 q hn1q hq4)
        clear hcq
        have x0 := hU.cell 0
        have x1 := hU.cell 1
        have x2 := hU.cell 2
        have x3 := hU.cell 3
        have x4 := hU.cell 4
        have f0 := hU.frozen 0
        have f1 := hU.frozen 1
        have f2 := hU.frozen 2
        have f3 := hU.frozen 3
        have f4 := hU.frozen 4
        have z0 := HG.out.2.cell 0
        have z1 := HG.out.2.cell 1
        have z2 := HG.out.2.cell 2
        have z3 := HG.out.2.cell 3
        have z4 := HG.out.2.cell 4
        simp only [List.getElem?_cons_zero, List.getElem?_cons_succ] at x0 x1 x2 x3 x4 z0 z1 z2 z3 z4
        have Hq4 := mkHid hq4
        have HBw := mkHid HWx.out.bel
        clear hq4 hC hD hC3 hD3 hCl hDl hC0 hD0 hU HI6 HE7 HD7 HR7
        go_upto_region 14 with fail
        generalize (((((wc.setCell ⟨w.heap.size, 0, none⟩ (.string ⟨#[]⟩)).setCell ⟨w.heap.size, 1, none⟩ (.string ⟨#[107]⟩)).setCell ⟨w.heap.size, 2, none⟩ (.int .u64 0)).setCell ⟨w.heap.size, 3, none⟩ (.int .u64 0)).setCell ⟨w.heap.size, 4, none⟩ (.slice a6 m6 p6)) = w1 at *
        clear x0 x1 x2 x3 x4 z0 z1 z2 z3 z4 f0 f1 f2 f3 f4 e0 e1 hn1d hn4d hdld
        have HKP : ∀ w', Below w.heap.size w w' → Below w.heap.size w w' ∧ w'.cell? ⟨B, off + k * 2, none⟩ = some (.int .i64 (q : Int)) ∧ w'.cell? ⟨B, off + k * 2 + 1, none⟩ = some (.slice pa dl pc) := fun w' hW => ⟨hW, HCl.out _ hW⟩
        have c0 : w1.cell? ⟨w.heap.size + 1, q, none⟩ = some (.slice ca cm cc) := (HC1.out.cell q).trans Hcq.out
        have g0 := HC1.out.frozen q
        have hbel1 := HB1.out
        go_region_held3 (fun w' => Below w.heap.size w w' ∧ w'.cell? ⟨B, off + k * 2, none⟩ = some (.int .i64 (q : Int)) ∧ w'.cell? ⟨B, off + k * 2 + 1, none⟩ = some (.slice pa dl pc))
          (first | assumption | exact HKP _ hbel1.drew | (have hq0 := ‹Below _ _ _ ∧ _›; exact HKP _ (hq0.1.setCell (Nat.le_succ _) _)))
          (fail)
        all_goals
          have hq9 := (‹Below _ _ _ ∧ _›).1
          have HD2 := HD1.out.other ⟨w.heap.size + 1, q, none⟩ (.slice pa dl pc) (by simp)
          have d0 : ((w1.setCell ⟨w.heap.size + 1, q, none⟩ (.slice pa dl pc)).drew).cell? ⟨w.heap.size + 1 + 1, q, none⟩ = some (.bool (hasN s (q : Int))) := (HD2.cell q).trans Hdq.out
          have j0 : ((w1.setCell ⟨w.heap.size + 1, q, none⟩ (.slice pa dl pc)).drew).frozen? ⟨w.heap.size + 1 + 1, q, none⟩ = false := HD2.frozen q
          obtain ⟨e0, e1⟩ := HCl.out _ hq9
          have HP2 : Hid (LpW w ((w1.setCell ⟨w.heap.size + 1, q, none⟩ (.slice pa dl pc)).drew.setCell ⟨w.heap.size + 1 + 1, q, none⟩ (.bool true)) (putPs s (q : Int) pd)) := HP.out.on (Below.refl _ _).drew
          have HSz : Hid (w1.heap.size = w1.heap.size) := rfl
          clear HD2 HC1 HD1 hbel1 HKP c0 g0 HP hq9 HB1
          generalize (w1.setCell ⟨w.heap.size + 1, q, none⟩ (.slice pa dl pc)).drew = w2 at *
          go_wp2_with fail
          go_roundw
          case rel => exact ⟨k + 1, Hlt.out, by go_num, by rw [HS2.out]; exact HP2⟩
          case measure => simp [Go.RowKit.intOf]; have := Hlt.out; omega
    · have hkn : k = n := by omega
      subst hkn
      have hge : ¬ (k : Int) < (k : Int) := by omega
      clear hlt hk HX HLn Hn
      generalize ((l.take k).map Prod.fst).foldl stO [] = s at *
      go_wp2_with fail
      rename World => W0
      have Hr := mkHid HW.out.right
      have hsz := HW.out.bel.size
      go_loopw [9, 10, 11] (fun pv wv nv wr => ∃ j : Nat, j ≤ 4 ∧ nv = .int .i64 ((j + 1 : Nat) : Int) ∧ Hid (OwnC rtZ16 wr W0.heap.size pv (numT s (j : Int))) ∧ Hid (OwnB wr W0.heap.size wv (bytT s (j : Int))) ∧ Hid (Below W0.heap.size W0 wr)) (fun _ _ nv _ => 5 - (Go.RowKit.intOf nv).toNat)
      case atStart => exact ⟨0, by omega, rfl, by unfold Hid numT; rw [show ((0 : Nat) : Int) = 0 from rfl, upTo_zero Hr.out]; exact OwnC.nil _ _ _, by unfold Hid bytT; rw [show ((0 : Nat) : Int) = 0 from rfl, upTo_zero Hr.out]; exact OwnB.nil _ _, mkHid (Below.refl _ _)⟩
      case round =>
        obtain ⟨j, hj, rfl, HP, HQ, HB⟩ := hrel
        have HWr := mkHid (HW.out.on HB.out)
        by_cases hj4 : j < 4
        · have hjd : decide (((j + 1 : Nat) : Int) ≤ 4) = true := decide_eq_true (by omega)
          have hj5 : ((j + 1 : Nat) : Int) < 5 := by omega
          have hj0 : (0 : Int) ≤ ((j + 1 : Nat) : Int) := by omega
          obtain ⟨ds, hD, hDl, hD0, hD3⟩ := HWr.out.has
          have d0 := (hD.cell (j + 1)).trans (hD3 (j + 1) (by omega) (by omega))
          have Hj4 := mkHid hj4
          have hcast : ((j + 1 : Nat) : Int) = (j : Int) + 1 := by omega
          cases hh : hasN s ((j + 1 : Nat) : Int) with
          | false =>
            rw [hh] at d0
            rw [hcast] at hh
            obtain ⟨hN1, hN2⟩ := num_no Hr.out hh
            have HP2 : Hid (OwnC rtZ16 wr W0.heap.size u9 (numT s ((j + 1 : Nat) : Int))) := by unfold Hid; rw [hcast, hN1]; exact HP.out
            have HQ2 : Hid (OwnB wr W0.heap.size u10 (bytT s ((j + 1 : Nat) : Int))) := by unfold Hid; rw [hcast, hN2]; exact HQ.out
            clear hD hDl hD0 hD3 hh hN1 hN2 hcast hj4 hj HP HQ
            go_wp2_with fail
            go_roundw
            case rel => exact ⟨j + 1, Hj4.out, by go_num, HP2, HQ2, HB⟩
            case measure => simp [Go.RowKit.intOf]; have := Hj4.out; omega
          | true =>
            rw [hh] at d0
            rw [hcast] at hh
            obtain ⟨hN1, hN2⟩ := num_yes Hr.out hh
            obtain ⟨cs, hC, hCl, hC0, hC3⟩ := HW.out.last
            obtain ⟨da, dm, dc, hdc, hdB⟩ := hC3 (j + 1) (by omega) (by omega)
            have HN1 := mkHid hN1
            have HN2 := mkHid hN2
            have HCc : Hid (∀ W, Below W0.heap.size W0 W → W.cell? ⟨w.heap.size + 1, j + 1, none⟩ = some (.slice da dm dc)) := fun W hW => ((hC.on hW).cell (j + 1)).trans hdc
            have HdB := mkHid hdB
            have hle1 := numT_le Hr.out (j : Int)
            have hle2 := bytT_le Hr.out (j : Int)
            have hle3 : dm ≤ 6144 := by
              rw [← hdB.len_eq]
              have h1 := bytT_le Hr.out ((j : Int) + 1)
              rw [hN2, List.length_append, hcast.symm] at h1
              omega
            have Hle := mkHid (And.intro hle1 (And.intro hle2 hle3))
            have HBa : Hid (Below wr.heap.size wr (wr.alloc (.cells #[.int .i64 ((j : Int) + 1)] 3))) := mkHid ((Below.refl _ wr).alloc (Nat.le_refl _) _)
            have HSa : Hid (SrcC rtZ16 (wr.alloc (.cells #[.int .i64 ((j : Int) + 1)] 3)) (some ⟨wr.heap.size, 0, none⟩) 1 1 [((j : Int) + 1)]) := mkHid (Blk.srcC (show Blk _ _ _ [.int .i64 ((j : Int) + 1)] from Blk.new _ _ _))
            have hW0 := HB.out.size
            clear hD hDl hD0 hD3 hh hN1 hN2 hj4 hj hC hCl hC0 hC3 hdc hdB hle1 hle2 hle3
            have Hcast := mkHid hcast
            clear hcast
            go_upto_region 23 with (at_builtin; refine list_appC okZ16 _ rfl (.tmp 90) (.tmp 92) rfl W0.heap.size _ _ rfl (HP.out.on HBa.out) (some ⟨wr.heap.size, 0, none⟩) 1 1 [((j : Int) + 1)] rfl HSa.out (by have := Hle.out.1; simp only; omega) (by rw [World.size_alloc]; omega) ?_; intro v1 V1 ho1 hg1)
            have HP1 : Hid (OwnC rtZ16 V1 W0.heap.size v1 (numT s ((j + 1 : Nat) : Int))) := by unfold Hid; rw [Hcast.out, HN1.out]; exact ho1
            have HB1 : Hid (Below W0.heap.size W0 V1) := mkHid ((HB.out.trans (HBa.out.mono HB.out.size)).grown hg1 (Nat.le_trans HB.out.size HBa.out.size) (fun g hg => ((HP.out.on HBa.out).lt hg).1))
            have HQ1 : Hid (OwnB V1 W0.heap.size u10 (bytT s (j : Int))) := mkHid (own_keepO (us := [5]) (KeepO.ofT (KeepT.grownRow (HP.out.on HBa.out) hg1) (by decide)) (HQ.out.alloc _) (List.mem_singleton.2 rfl))
            have e2 := HCc.out V1 HB1.out
            have HI1 := mkHid (HdB.out.below HB1.out rfl)
            clear ho1 hg1 HSa HBa HP HQ HB HCc HdB HN1 hW0 d0
            go_wp2_with (at_builtin; refine list_appS _ rfl (.tmp 94) (.tmp 97) rfl W0.heap.size _ _ rfl HQ1.out da dm dc _ rfl HI1.out (by have := Hle.out.2; omega) HB1.out.size ?_; intro v2 V2 ho2 hg2; have HQ2 : Hid (OwnB V2 W0.heap.size v2 (bytT s ((j + 1 : Nat) : Int))) := (by unfold Hid; rw [Hcast.out, HN2.out]; exact ho2); have HB2 : Hid (Below W0.heap.size W0 V2) := mkHid (HB1.out.grown hg2 HB1.out.size (fun g hg => (World.ownsRow.lt HQ1.out g hg).1)); have HP2 : Hid (OwnC rtZ16 V2 W0.heap.size v1 (numT s ((j + 1 : Nat) : Int))) := mkHid (HP1.out.keep (us := [3]) (KeepO.ofT (KeepT.grownRow HQ1.out hg2) (by decide)) (List.mem_singleton.2 rfl)); clear ho2 hg2)
            go_roundw
            case rel => exact ⟨j + 1, Hj4.out, by go_num, HP2, HQ2, HB2⟩
            case measure => simp [Go.RowKit.intOf]; have := Hj4.out; omega
        · have hj44 : j = 4 := by omega
          subst hj44
          have hjd : decide (((4 + 1 : Nat) : Int) ≤ 4) = false := by decide
          have hlen : (numT s ((4 : Nat) : Int)).length = s.length := num_len Hr.out
          obtain ⟨ua, um, uc, ul, hU, hUi, hUe⟩ := HWr.out.u
          have hum : um = s.length := by rw [← hUe, List.length_map, hUi.row.len]
          obtain ⟨na, nc, hn1, hn2, hn3⟩ := HP.out.form okZ16
          rw [hlen, ← hum] at hn1
          subst hn1
          obtain ⟨wa, wc, hw1, hw2⟩ := HQ.out.isB
          have hlb : (bytT s ((4 : Nat) : Int)).length = totalPs s := (total_all Hr.out).symm
          rw [hlb] at hw1 hw2
          subst hw1
          have HIn : Hid (IsN16 wr na um nc (numT s 4)) := mkHid (HP.out.n16 (numT_small Hr.out _))
          have HIw : Hid (IsB wr wa (totalPs s) wc (bytT s 4)) := mkHid hw2
          have HU := mkHid hU
          have HUi := mkHid hUi
          have HUe := mkHid hUe
          have Hum := mkHid hum
          have x0 := hU.cell 0
          have x1 := hU.cell 1
          have x2 := hU.cell 2
          have x3 := hU.cell 3
          have x4 := hU.cell 4
          simp only [List.getElem?_cons_zero, List.getElem?_cons_succ] at x0 x1 x2 x3 x4
          have CJ := S.join ⟨⟨#[]⟩, ⟨#[107]⟩, 0, 0⟩ ua um uc ul na um nc (numT s 4) wr hUi (by rw [hUe]; exact Hr.out) HIn.out (by have := hUi.len4 (by rw [hUe]; exact Hr.out); omega)
          rw [hUe] at CJ
          simp only [upc] at CJ
          have hk3 : ((⟨#[107]⟩ : ByteArray) == ⟨#[107]⟩) = true := rfl
          have HW9 := mkHid HWr.out.bel
          clear HP HQ hn2 hn3 hw2 hlb hlen hU hUi hUe hum hj hj4 HWr HW HB
          go_wp2_with fail
          refine CJ.mono ?_
          rintro e y2 ⟨hp, hb⟩
          have HW2 := mkHid (HW9.out.trans (hb.mono HW9.out.size))
          have HU2 := mkHid (HU.out.on hb)
          have HIw2 := mkHid (HIw.out.below hb rfl)
          have HUi2 := mkHid (HUi.out.below hb)
          clear CJ hb HW9 HU HIw HUi HIn x0 x1 x2 x3 x4
          by_cases hs : s = []
          · have hjn : joinPs s (numT s 4) = none := by rw [hs]; rfl
            obtain rfl := hp.no hjn
            have hu0 : um = 0 := by rw [Hum.out, hs]; rfl
            subst hu0
            clear hp hs hjn
            go_wp2_with fail
            refine (lawAlive16 S _).mono ?_
            rintro e yA ⟨rfl, hb⟩
            have H9 := mkHid (HW2.out.trans (hb.mono HW2.out.size))
            clear hb
            go_wp2_with fail
            go_ret
            exact ⟨rfl, H9.out⟩
          · obtain ⟨v3, rfl, ho3⟩ := hp.yes _ (join_all Hr.out hs)
            obtain ⟨oa, oc, rfl, hi3⟩ := ho3.isB
            rw [← total_all Hr.out] at hi3
            have HI3 := mkHid hi3
            have hu0 : ((um : Int) == 0) = false := by
              have h0 : um ≠ 0 := fun h => hs (List.eq_nil_of_length_eq_zero (Hum.out.symm.trans h))
              rw [beq_eq_false_iff_ne]; omega
            have CS := refSame oa (totalPs s) oc (bytT s 4) wa (totalPs s) wc (bytT s 4) y2 hi3 HIw2.out
            rw [eqB_self] at CS
            have HT3 := mkHid (total_all Hr.out)
            clear hp hs ho3 hi3
            rw [show (bytT s 4).length = totalPs s from HT3.out.symm]
            go_wp2_with fail
            refine CS.mono ?_
            rintro e y3 ⟨rfl, nq, rfl⟩
            have hb3 : Below y2.heap.size y2 (y2.drewN nq) := bel_drewN (Below.refl _ y2) nq
            have HW3 := mkHid (HW2.out.trans (hb3.mono HW2.out.size))
            have hU3 := HU2.out.on hb3
            have hUi3 := HUi2.out.below hb3
            have x0 := hU3.cell 0
            have x1 := hU3.cell 1
            have x2 := hU3.cell 2
            have x3 := hU3.cell 3
            have x4 := hU3.cell 4
            simp only [List.getElem?_cons_zero, List.getElem?_cons_succ] at x0 x1 x2 x3 x4
            have CT := S.total ⟨⟨#[]⟩, ⟨#[107]⟩, 0, 0⟩ ua um uc ul (y2.drewN nq) hUi3 (by rw [HUe.out]; exact Hr.out)
            rw [HUe.out] at CT
            simp only [upc] at CT
            clear hU3 hUi3 HU2 HUi2 HW2 CS hb3
            generalize y2.drewN nq = y4 at *
            go_wp2_with fail
            refine CT.mono ?_
            rintro e y5 ⟨rfl, hb⟩
            have HW5 := mkHid (HW3.out.trans (hb.mono HW3.out.size))
            clear hb CT HW3 x0 x1 x2 x3 x4
            go_wp2_with fail
            refine (lawAlive16 S _).mono ?_
            rintro e yA ⟨rfl, hb⟩
            have H9 := mkHid (HW5.out.trans (hb.mono HW5.out.size))
            clear hb
            go_wp2_with fail
            go_ret
            exact ⟨rfl, H9.out⟩
end Go.Proofs.Ytgcmojldegplaaa
