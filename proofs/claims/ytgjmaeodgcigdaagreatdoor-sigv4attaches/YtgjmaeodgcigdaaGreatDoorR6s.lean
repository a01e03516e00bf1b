/- The document's sorted. -/
import Derived.Test.YtgjmaeodgcigdaaGreatDoorOwnTS
import Derived.Test.YtgjmaeodgcigdaaGreatDoorRefCanon
namespace Go.Proofs.YtgjmaeodgcigdaaGreatDoor
open Go.RowKit

set_option maxRecDepth 20000 in
set_option maxHeartbeats 4000000 in
theorem refSorted (a : Option Addr) (n cap : Nat) (l : List (List UInt8)) (w : World) (h : IsT w a n cap l) (hn : n ≤ 1000) :
    Calls Tryz.prog 67 #[.slice a n cap] w fun e w' => ∃ v, e = .returned v ∧ OwnT w' w.heap.size v (sortT l) ∧ Below w.heap.size w w' := by
  have HL : Hid (l.length = n) := h.len_eq
  have H : Hid (IsT w a n cap l) := h
  clear h
  go_enter Tryz.func67, Tryz.ntmps67
  go_wp2
  go_loopw [3, 4] (fun v i wr => ∃ (k : Nat), k ≤ n ∧ i = .int .i64 k ∧ OwnT wr w.heap.size v (sortT (l.take k)) ∧ Below w.heap.size w wr) (fun _ i _ => n - (intOf i).toNat)
  case atStart => exact ⟨0, Nat.zero_le _, rfl, OwnT.nil _ _, Below.refl _ _⟩
  case round =>
    obtain ⟨k, hk, rfl, hown, hbel⟩ := hrel
    by_cases hlt : k < n
    · obtain ⟨b, off, rfl, hc⟩ := H.out.cells (by omega)
      have c1 := hc k hlt
      have gb : b < w.heap.size := cell_lt c1
      have g1 := (hbel.cell (p := ⟨b, off + k, none⟩) gb).trans c1
      have gz : b < wr.heap.size := Nat.lt_of_lt_of_le gb hbel.size
      have hb0 : (0 : Int) ≤ (k : Int) := by omega
      have hb1 : (k : Int) < (n : Int) := by omega
      have HT := sortT_take l k (by rw [HL.out]; exact hlt)
      have HK := sortT_length (l.take k)
      rw [List.length_take, HL.out, Nat.min_eq_left hk] at HK
      clear hc c1
      generalize nthT l k = p at *
      generalize sortT (l.take k) = out at *
      have HT2 : Hid (sortT (l.take (k + 1)) = insT out p) := HT
      have HK' : Hid (out.length = k) := HK
      clear HT HK
      have HPV := hown.isTV
      have HPV' : Hid (IsTV wr _ out) := HPV
      obtain ⟨a', cap', ev, hi⟩ := HPV
      rw [ev]
      have hol : out.length ≤ 1000 := by rw [HK'.out]; omega
      have HI : Hid (IsT wr a' out.length cap' out) := hi
      clear hi
      obtain ⟨N, hN⟩ : ∃ N, out.length = N := ⟨_, rfl⟩
      rw [hN] at hol HI ⊢
      have HN : Hid (out.length = N) := hN
      clear hN
      have HG : Hid (wr.cell? ⟨b, off + k, none⟩ = some (.string (str p))) := g1
      go_upto_block 2 with fail
      go_cut [5] from 6 to 44 (fun v6 wy => ∃ (J q : Nat), v6 = .int .i64 (J : Int) ∧ Hid (J = insKT out p N) ∧ wy = wr.drewN q)
      case first =>
        go_wp2_with fail
        go_loopw [5] (fun i wy => ∃ (j q : Nat), j ≤ N ∧ i = .int .i64 (j : Int) ∧ Hid (insKT out p j = insKT out p N) ∧ wy = wr.drewN q) (fun i _ => (intOf i).toNat)
        case atStart => exact ⟨N, 0, Nat.le_refl _, rfl, rfl, rfl⟩
        case round =>
          obtain ⟨j, q, hj, rfl, HJ, rfl⟩ := hrel
          rcases Nat.eq_zero_or_pos j with hj0 | hj0
          · subst hj0
            have h0 : (decide ((0 : Int) < ((0 : Nat) : Int))) = false := by decide
            have HJ2 : Hid (0 = insKT out p N) := HJ.out
            clear HJ
            go_wp2_with fail
            go_quiet (fail)
            go_wp2_with fail
            go_meet
            case rel => exact ⟨0, _, rfl, HJ2, drew2 _ _ _⟩
          · obtain ⟨i, hi⟩ : ∃ i, j = i + 1 := ⟨j - 1, by omega⟩
            have h0 : (0 : Int) < (j : Int) := by omega
            have hw : IntKind.i64.wrap ((j : Int) - 1) = (i : Int) := by rw [wrapi64_in _ (by omega) (by omega)]; omega
            have hb2 : (0 : Int) ≤ (i : Int) := by omega
            have hb3 : (i : Int) < (N : Int) := by omega
            obtain ⟨b2, off2, rfl, hc⟩ := HI.out.cells (by omega)
            have r1 := hc i (by omega)
            have HJ3 : insKT out p j = if Op.bytesLess p (nthT out i) then insKT out p i else i + 1 := by rw [hi]; rfl
            rw [HJ.out] at HJ3
            generalize nthT out i = x at *
            have bl1 : ∀ y z : List UInt8, Op.bytesLess (str y).toList (str z).toList = Op.bytesLess y z := fun y z => by rw [str_toList, str_toList]
            clear hc HJ
            by_cases cA : Op.bytesLess p x = true
            · have t1 : Op.bytesLess (str x).toList (str p).toList = false := by rw [bl1]; exact less_no cA
              have t2 : ((str x).toList == (str p).toList) = false := by rw [str_beq]; exact less_ne cA
              have HJ4 : Hid (insKT out p i = insKT out p N) := by unfold Hid; rw [HJ3, if_pos cA]
              have HI2 : Hid (j = i + 1) := hi
              clear HJ3 cA bl1 hi
              go_wp2_with fail
              go_quiet (fail)
              go_wp2_with fail
              go_roundw
              case rel => exact ⟨i, _, by have := HI2.out; omega, by have := HI2.out; go_num, HJ4, rfl⟩
              case measure => have := HI2.out; simp [intOf]; omega
            · have HJ4 : Hid (j = insKT out p N) := by unfold Hid; rw [HJ3, if_neg cA]; exact hi
              by_cases cB : x = p
              · have t1 : Op.bytesLess (str x).toList (str p).toList = false := by rw [bl1, cB]; exact bless_irrefl _
                have t2 : ((str x).toList == (str p).toList) = true := by rw [str_beq]; simpa using cB
                clear HJ3 cA cB bl1 hi
                go_wp2_with fail
                go_quiet (fail)
                go_wp2_with fail
                go_meet
                case rel => exact ⟨j, _, rfl, HJ4, drew2 _ _ _⟩
              · have t1 : Op.bytesLess (str x).toList (str p).toList = true := by rw [bl1]; exact less_yes cA cB
                have t2 : ((str x).toList == (str p).toList) = false := by rw [str_beq]; simpa using cB
                clear HJ3 cA cB bl1 hi
                go_wp2_with fail
                go_quiet (fail)
                go_wp2_with fail
                go_meet
                case rel => exact ⟨j, _, rfl, HJ4, drew2 _ _ _⟩
      case rest =>
        obtain ⟨J, q, rfl, HJ, rfl⟩ := hcut
        have hJN : J ≤ N := by have := insKT_le out p N; rw [HJ.out]; exact this
        have HR : Hid (sortT (l.take (k + 1)) = out.take J ++ [p] ++ out.drop J) := by
          unfold Hid; rw [HT2.out]; unfold insT; rw [HN.out, ← HJ.out]; simp
        rw [ev] at HPV'
        rw [HN.out] at HPV'
        obtain ⟨v1, sl1, i1⟩ := cutHeadT HPV'.out J (by rw [HN.out]; exact hJN)
        obtain ⟨v2, sl2, i2⟩ := cutTailT HPV'.out J (by rw [HN.out]; exact hJN)
        have BY : Below wr.heap.size wr (wr.drewN q) := bel_drewN (Below.refl _ _) q
        have BW := hbel.trans (BY.mono hbel.size)
        have I1' : Hid (IsTV (wr.drewN q) v1 (out.take J)) := i1.below BY rfl
        have I2' : Hid (IsTV (wr.drewN q) v2 (out.drop J)) := i2.below BY rfl
        have HG2 : Hid ((wr.drewN q).cell? ⟨b, off + k, none⟩ = some (.string (str p))) := (BY.cell (p := ⟨b, off + k, none⟩) gz).trans HG.out
        have hBy : b < (wr.drewN q).heap.size := Nat.lt_of_lt_of_le gz BY.size
        clear i1 i2 HPV' HI HG g1 HT2 HJ BY hown hbel gz
        generalize wr.drewN q = y at *
        have I1 := I1'
        have I2 := I2'
        have q1 := HG2.out
        have HLen1 : Hid ((([] : List (List UInt8)).length + (out.take J).length) * 16 ≤ 140737488355328) := by unfold Hid; simp [List.length_take]; have := HN.out; omega
        have HLen2 : Hid (((out.take J).length + [p].length) * 16 ≤ 140737488355328) := by unfold Hid; simp [List.length_take]; have := HN.out; omega
        have HLen3 : Hid (((out.take J ++ [p]).length + (out.drop J).length) * 16 ≤ 140737488355328) := by unfold Hid; simp [List.length_take, List.length_drop]; have := HN.out; omega
        clear I1' I2' HG2
        have HE3 : Hid (OwnT ((y.alloc (.cells #[.string (str p)] 9)).alloc (.cells #[] 9)) y.heap.size (.slice (some ⟨y.heap.size + 1, 0, none⟩) 0 0) []) := by
          have h3 := OwnT.empty (y.alloc (.cells #[.string (str p)] 9)) y.heap.size (by simp)
          rw [World.size_alloc] at h3
          exact h3
        go_wp2_with fail
        go_region_held3 (fun w' => w'.cell? ⟨b, off + k, none⟩ = some (.string (str p)))
          (first | (exact ((D3).cell (p := ⟨b, off + k, none⟩) hBy).trans q1) | (exact ((D2).cell (p := ⟨b, off + k, none⟩) hBy).trans q1) | (exact ((D1.alloc D1.size _).cell (p := ⟨b, off + k, none⟩) hBy).trans q1) | (exact ((D1).cell (p := ⟨b, off + k, none⟩) hBy).trans q1) | (exact (((((Below.refl y.heap.size y).alloc (Nat.le_refl _) _).alloc (by simp) _).drew).cell (p := ⟨b, off + k, none⟩) hBy).trans q1) | (exact ((((Below.refl y.heap.size y).alloc (Nat.le_refl _) _).drew).cell (p := ⟨b, off + k, none⟩) hBy).trans q1) | go_keep)
          (first | (have hh := hown2; refine step_appTs _ (by rfl) _ _ (by rfl) y.heap.size _ (out.take J ++ [p]) (by rfl) hown2 v2 (out.drop J) (by rfl) (I2.out.below D2 rfl) HLen3.out D2.size ?_; intro u3 y3 hown3 hgrow3; have D3 : Below y.heap.size y y3 := D2.grown hgrow3 D2.size (fun j hj => (hown2.blk j hj).1)) | (have hh := hown1; refine step_appTs _ (by rfl) _ _ (by rfl) y.heap.size _ (out.take J) (by rfl) hown1 _ [p] (by rfl) (isTV_one p HPb) HLen2.out D1.size ?_; intro u2 y2 hown2 hgrow2; have D2 : Below y.heap.size y y2 := D1.grown hgrow2 D1.size (fun j hj => (hown1.blk j hj).1)) | (have hh := hown1; refine step_appTs _ (by rfl) _ _ (by rfl) y.heap.size _ (out.take J) (by rfl) (hown1.alloc _) _ [p] (by rfl) (isTV_one p (heap_alloc_new y1 _)) HLen2.out (by have := D1.size; simp; omega) ?_; intro u2 y2 hown2 hgrow2; have D2 : Below y.heap.size y y2 := (D1.alloc D1.size _).grown hgrow2 (by have := D1.size; simp; omega) (fun j hj => (hown1.blk j hj).1)) | (refine step_appTs _ (by rfl) _ _ (by rfl) y.heap.size _ [] (by rfl) ((OwnT.empty y y.heap.size (Nat.le_refl _)).heap rfl) v1 (out.take J) (by rfl) (I1.out.below (((Below.refl y.heap.size y).alloc (Nat.le_refl _) _).drew) rfl) HLen1.out (by simp <;> omega) ?_; intro u1 y1 hown1 hgrow1; have D1 : Below y.heap.size y y1 := (((Below.refl y.heap.size y).alloc (Nat.le_refl _) _).drew).grown hgrow1 (by simp <;> omega) (fun j hj => (by simp [Value.ownBlock] at hj <;> omega))) | (refine step_appTs _ (by rfl) _ _ (by rfl) y.heap.size _ [] (by rfl) (((OwnT.empty y y.heap.size (Nat.le_refl _)).alloc _).heap rfl) v1 (out.take J) (by rfl) (I1.out.below ((((Below.refl y.heap.size y).alloc (Nat.le_refl _) _).alloc (by simp) _).drew) rfl) HLen1.out (by simp <;> omega) ?_; intro u1 y1 hown1 hgrow1; have D1 : Below y.heap.size y y1 := ((((Below.refl y.heap.size y).alloc (Nat.le_refl _) _).alloc (by simp) _).drew).grown hgrow1 (by simp <;> omega) (fun j hj => (by simp [Value.ownBlock] at hj <;> omega)); have HPb : y1.heap[y.heap.size + 1]? = some (.cells #[.string (str p)] 9 (0, 0)) := (hgrow1.block (y.heap.size + 1) (by simp <;> omega) (by simp [Value.ownBlock])).trans (Blk.newAt (y.alloc (.cells #[] 9)) (y.heap.size + 1) 9 #[.string (str p)] [.string (str p)] (by simp) rfl)) | (refine step_appTs _ (by rfl) _ _ (by rfl) y.heap.size _ [] (by rfl) (HE3.out.heap rfl) v1 (out.take J) (by rfl) (I1.out.below ((((Below.refl y.heap.size y).alloc (Nat.le_refl _) _).alloc (by simp) _).drew) rfl) HLen1.out (by simp <;> omega) ?_; intro u1 y1 hown1 hgrow1; have D1 : Below y.heap.size y y1 := ((((Below.refl y.heap.size y).alloc (Nat.le_refl _) _).alloc (by simp) _).drew).grown hgrow1 (by simp <;> omega) (fun j hj => (by simp [Value.ownBlock] at hj <;> omega)); have HPb : y1.heap[y.heap.size]? = some (.cells #[.string (str p)] 9 (0, 0)) := (hgrow1.block y.heap.size (by simp <;> omega) (by simp [Value.ownBlock])).trans ((Below.heap_alloc (y.alloc (.cells #[.string (str p)] 9)) (.cells #[] 9) y.heap.size (by simp)).trans (heap_alloc_new y _))))
        all_goals
          have HF := hown3.base BW.size
          have BF := BW.trans (D3.mono BW.size)
          rw [← HR.out] at HF
          clear hown1 hown2 hown3 hgrow1 hgrow2 hgrow3 D1 D2 D3
          go_wp2_with fail
          go_roundw
          case rel => exact ⟨k + 1, by omega, by go_num, HF, BF⟩
          case measure => simp [intOf]; omega
    · have ek : k = n := by omega
      subst ek
      rw [List.take_of_length_le (by rw [HL.out]; exact Nat.le_refl _)] at hown
      have HO : Hid (OwnT wr w.heap.size _ (sortT l)) := hown
      have HB : Hid (Below w.heap.size w wr) := hbel
      clear hown hbel
      go_wp2
      go_ret
      exact ⟨_, rfl, HO.out, HB.out⟩
end Go.Proofs.YtgjmaeodgcigdaaGreatDoor
