/- The walk of CanonReads. -/
import Derived.Test.YtonndplenacgjaaRefRdr6
import Derived.Test.YtonndplenacgjaaReads
import Derived.Test.YtonndplenacgjaaRefSame
import Derived.Deep.CutBlock
import Derived.Deep.CutRange
namespace Go.Proofs.Ytonndplenacgjaa
open Go.RowKit
attribute [local go_sem ↓] Go.wp_at_zero Go.wp_at_succ

theorem IsR.drewN {w : World} {B : Nat} {l : List UInt8} {br : Bool} (h : IsR w B l br) (n : Nat) : IsR (w.drewN n) B l br := by
  obtain ⟨a, cap, h1, h2, h3⟩ := h
  exact ⟨a, cap, h1.drewN n, h2.drewN n, h3⟩

set_option maxRecDepth 20000 in
set_option maxHeartbeats 1000000 in
theorem readsWalk (a0 : Option Addr) (len0 cap0 : Nat) (l : List UInt8) (a1 : Option Addr) (len1 cap1 : Nat) (zs : List Int) (most : Int) (w : World) (b0 : IsB w a0 len0 cap0 l) (hs : IsRow .i64 w a1 len1 cap1 zs) (hm : len0 ≤ 140737488351232) (hm1 : len1 ≤ 140737488351232) (hmost : most ≤ 9223372036854775807) :
    Calls Try.prog 5 #[.slice a0 len0 cap0, .slice a1 len1 cap1, .int .i64 most] w fun e w' => e = .returned (.bool true) ∧ Below w.heap.size w w' := by
  have B0 : Hid (IsB w a0 len0 cap0 l) := b0
  have HS : Hid (IsRow .i64 w a1 len1 cap1 zs) := hs
  have HL : Hid (l.length = len0) := b0.len_eq
  clear b0 hs
  go_enter Try.func5, Try.ntmps5
  go_wp2_with fail
  refine (cRead a0 len0 cap0 l w B0.out (by omega)).mono ?_
  rintro e x1 ⟨B, rfl, hB, hr, hb⟩
  have R1 : Hid (IsR x1 B l false) := hr
  have hBlt := hr.lt
  clear hr
  go_wp2_with fail
  have hXs : w.heap.size ≤ x1.heap.size := hb.size
  have bX : Below w.heap.size w (x1.alloc (.cells #[.slice a0 len0 cap0, .int .i64 0, .bool false] 38)) := hb.alloc hb.size _
  have X2 : Hid (IsX (x1.alloc (.cells #[.slice a0 len0 cap0, .int .i64 0, .bool false] 38)) x1.heap.size a0 len0 cap0 l 0 false) :=
    ⟨Blk.newAt x1 _ _ _ (xcell a0 len0 cap0 0 false) rfl rfl, B0.out.below bX rfl, fun hp x hx e => by
      obtain ⟨b, off, e1, hc⟩ := B0.out.cells hp
      have hlt := cell_lt (hc 0 hp)
      rw [hx] at e1
      injection e1 with e1
      subst e1
      simp only at e hlt
      omega, by omega⟩
  have R2 : Hid (IsR (x1.alloc (.cells #[.slice a0 len0 cap0, .int .i64 0, .bool false] 38)) B l false) := R1.out.on ((Below.refl _ _).alloc (Nat.le_refl _) _)
  have hBX : B ≠ x1.heap.size := by omega
  generalize x1.alloc (.cells #[.slice a0 len0 cap0, .int .i64 0, .bool false] 38) = x2 at *
  generalize x1.heap.size = X at *
  clear R1 hb hBlt
  refine (alive x2).mono ?_
  rintro e x3 ⟨rfl, b3⟩
  have R3 : Hid (IsR x3 B l false) := R2.out.on b3
  have X3 : Hid (IsX x3 X a0 len0 cap0 l 0 false) := ⟨X2.out.1.on b3, X2.out.2.1.below b3 rfl, X2.out.2.2.1, X2.out.2.2.2⟩
  have T3 : Below w.heap.size w x3 := bX.trans (b3.mono bX.size)
  clear R2 X2 b3 bX
  go_wp2_with fail
  go_loopw [9] (fun i wr => ∃ (j k : Nat) (br : Bool), j ≤ len1 ∧ i = .int .i64 (j : Int) ∧ Hid (IsR wr B (l.drop k) br) ∧ Hid (IsX wr X a0 len0 cap0 l k br) ∧ Below w.heap.size w wr) (fun i _ => len1 - (intOf i).toNat)
  case atStart => exact ⟨0, 0, false, by omega, rfl, R3.out, X3.out, T3⟩
  case round =>
    clear R3 X3 T3
    obtain ⟨j, k, br, hj, rfl, hR, hX, hT⟩ := hrel
    by_cases hjl : j < len1
    · obtain ⟨b1, o1, rfl, hc⟩ := HS.out.ints (by omega)
      have g0 := hc j hjl
      have g := (hT.cell (p := ⟨b1, o1 + j, none⟩) (cell_lt g0)).trans g0
      have hjl' : (j : Int) < (len1 : Int) := by omega
      clear hc g0
      generalize zs.getD j 0 = z at *
      go_upto_block 2 with fail
      go_cut [10] from 23 to 102 (fun s wx => s = .bool true ∧ ∃ (k' : Nat) (br' : Bool), Hid (IsR wx B (l.drop k') br') ∧ Hid (IsX wx X a0 len0 cap0 l k' br') ∧ Below w.heap.size w wx)
      case first =>
        by_cases h0 : z = 0
        · have q0 : (z == 0) = true := by simpa using h0
          clear h0
          clear g
          go_wp2_with fail
          refine (cUint B _ _ _ hR.out).mono ?_
          rintro e y1 ⟨rfl, r1, g1⟩
          have x1 := hX.out.other g1 hBX hR.out
          have t1 : Below w.heap.size w y1 := hT.grown g1 hT.size (fun q hq => by injection hq with hq; omega)
          have R1 : Hid (IsR y1 B (rdUint (l.drop k) br).2.1 (rdUint (l.drop k) br).2.2) := r1
          have X1 : Hid (IsX y1 X a0 len0 cap0 l k br) := x1
          clear r1 x1 g1
          go_wp2_with fail
          refine (xUint X a0 len0 cap0 l k br y1 X1.out).mono ?_
          rintro e y2 ⟨rfl, ⟨k2, x2, hd⟩, g2⟩
          have r2 := R1.out.other g2 hBX.symm X1.out.1
          rw [hd] at r2
          have t2 : Below w.heap.size w y2 := t1.grown g2 t1.size (fun q hq => by injection hq with hq; omega)
          have R2 : Hid (IsR y2 B (l.drop k2) (rdUint (l.drop k) br).2.2) := r2
          have X2 : Hid (IsX y2 X a0 len0 cap0 l k2 (rdUint (l.drop k) br).2.2) := x2
          clear r2 x2 hd R1 X1
          generalize (rdUint (l.drop k) br).2.2 = br2 at *
          generalize (rdUint (l.drop k) br).1 = N at *
          go_wp2_with fail
          go_meet
          case rel => exact ⟨by simp, k2, br2, R2, X2, t2⟩
        · skip
          by_cases h1 : z = 1
          · have q0 : (z == 0) = false := by simpa using h0
            have q1 : (z == 1) = true := by simpa using h1
            clear h0 h1
            clear g
            go_wp2_with fail
            refine (cBytes B _ _ _ hR.out).mono ?_
            rintro e y1 ⟨v1, rfl, o1, r1, g1⟩
            have x1 := hX.out.other g1 hBX hR.out
            have t1 : Below w.heap.size w y1 := hT.grown g1 hT.size (fun q hq => by injection hq with hq; omega)
            have R1 : Hid (IsR y1 B (rdSome 98 (l.drop k) br).2.1 (rdSome 98 (l.drop k) br).2.2) := r1
            have X1 : Hid (IsX y1 X a0 len0 cap0 l k br) := x1
            have V1 : Hid (IsV y1 v1 (rdSome 98 (l.drop k) br).1) := o1.isV
            clear r1 x1 g1 o1
            go_wp2_with fail
            refine (xBytes X a0 len0 cap0 l k br y1 X1.out (by omega)).mono ?_
            rintro e y2 ⟨v2, rfl, o2, ⟨k2, x2, hd⟩, g2⟩
            have r2 := R1.out.other g2 hBX.symm X1.out.1
            rw [hd] at r2
            have t2 : Below w.heap.size w y2 := t1.grown g2 t1.size (fun q hq => by injection hq with hq; omega)
            have R2 : Hid (IsR y2 B (l.drop k2) (rdSome 98 (l.drop k) br).2.2) := r2
            have X2 : Hid (IsX y2 X a0 len0 cap0 l k2 (rdSome 98 (l.drop k) br).2.2) := x2
            obtain ⟨p1, c1, rfl, i1⟩ := V1.out
            have i1 := i1.other g2 (xcell_no X1.out.1)
            obtain ⟨p2, c2, rfl, i2⟩ := o2.isB
            clear r2 x2 hd R1 X1 V1 o2
            generalize (rdSome 98 (l.drop k) br).2.2 = br2 at *
            generalize (rdSome 98 (l.drop k) br).1 = N at *
            go_wp2_with fail
            refine (refSame _ _ _ _ _ _ _ _ y2 i1 i2).mono ?_
            rintro e y3 ⟨rfl, k3, hw⟩
            rw [eqB_self]
            have t3 : Below w.heap.size w y3 := by rw [hw]; exact bel_drewN t2 k3
            have R3 : Hid (IsR y3 B (l.drop k2) br2) := by rw [hw]; exact R2.out.drewN k3
            have X3 : Hid (IsX y3 X a0 len0 cap0 l k2 br2) := by rw [hw]; exact X2.out.drewN k3
            clear R2 X2 hw i1 i2
            go_wp2_with fail
            go_meet
            case rel => exact ⟨by simp, k2, br2, R3, X3, t3⟩
          · skip
            by_cases h2 : z = 2
            · have q0 : (z == 0) = false := by simpa using h0
              have q1 : (z == 1) = false := by simpa using h1
              have q2 : (z == 2) = true := by simpa using h2
              clear h0 h1 h2
              clear g
              go_wp2_with fail
              refine (cText B _ _ _ hR.out).mono ?_
              rintro e y1 ⟨rfl, r1, g1⟩
              have x1 := hX.out.other g1 hBX hR.out
              have t1 : Below w.heap.size w y1 := hT.grown g1 hT.size (fun q hq => by injection hq with hq; omega)
              have R1 : Hid (IsR y1 B (rdSome 115 (l.drop k) br).2.1 (rdSome 115 (l.drop k) br).2.2) := r1
              have X1 : Hid (IsX y1 X a0 len0 cap0 l k br) := x1
              clear r1 x1 g1
              go_wp2_with fail
              refine (xText X a0 len0 cap0 l k br y1 X1.out (by omega)).mono ?_
              rintro e y2 ⟨rfl, ⟨k2, x2, hd⟩, g2⟩
              have r2 := R1.out.other g2 hBX.symm X1.out.1
              rw [hd] at r2
              have t2 : Below w.heap.size w y2 := t1.grown g2 t1.size (fun q hq => by injection hq with hq; omega)
              have R2 : Hid (IsR y2 B (l.drop k2) (rdSome 115 (l.drop k) br).2.2) := r2
              have X2 : Hid (IsX y2 X a0 len0 cap0 l k2 (rdSome 115 (l.drop k) br).2.2) := x2
              clear r2 x2 hd R1 X1
              generalize (rdSome 115 (l.drop k) br).2.2 = br2 at *
              generalize (rdSome 115 (l.drop k) br).1 = N at *
              go_wp2_with fail
              go_meet
              case rel => exact ⟨by simp, k2, br2, R2, X2, t2⟩
            · skip
              by_cases h3 : z = 3
              · have q0 : (z == 0) = false := by simpa using h0
                have q1 : (z == 1) = false := by simpa using h1
                have q2 : (z == 2) = false := by simpa using h2
                have q3 : (z == 3) = true := by simpa using h3
                clear h0 h1 h2 h3
                clear g
                go_wp2_with fail
                refine (cBool B _ _ _ hR.out).mono ?_
                rintro e y1 ⟨rfl, r1, g1⟩
                have x1 := hX.out.other g1 hBX hR.out
                have t1 : Below w.heap.size w y1 := hT.grown g1 hT.size (fun q hq => by injection hq with hq; omega)
                have R1 : Hid (IsR y1 B (rdBool (l.drop k) br).2.1 (rdBool (l.drop k) br).2.2) := r1
                have X1 : Hid (IsX y1 X a0 len0 cap0 l k br) := x1
                clear r1 x1 g1
                go_wp2_with fail
                refine (xBool X a0 len0 cap0 l k br y1 X1.out).mono ?_
                rintro e y2 ⟨rfl, ⟨k2, x2, hd⟩, g2⟩
                have r2 := R1.out.other g2 hBX.symm X1.out.1
                rw [hd] at r2
                have t2 : Below w.heap.size w y2 := t1.grown g2 t1.size (fun q hq => by injection hq with hq; omega)
                have R2 : Hid (IsR y2 B (l.drop k2) (rdBool (l.drop k) br).2.2) := r2
                have X2 : Hid (IsX y2 X a0 len0 cap0 l k2 (rdBool (l.drop k) br).2.2) := x2
                clear r2 x2 hd R1 X1
                generalize (rdBool (l.drop k) br).2.2 = br2 at *
                generalize (rdBool (l.drop k) br).1 = N at *
                go_wp2_with fail
                go_meet
                case rel => exact ⟨by simp, k2, br2, R2, X2, t2⟩
              · skip
                by_cases h4 : z = 4
                · have q0 : (z == 0) = false := by simpa using h0
                  have q1 : (z == 1) = false := by simpa using h1
                  have q2 : (z == 2) = false := by simpa using h2
                  have q3 : (z == 3) = false := by simpa using h3
                  have q4 : (z == 4) = true := by simpa using h4
                  clear h0 h1 h2 h3 h4
                  clear g
                  go_wp2_with fail
                  refine (cList B _ _ most _ hR.out hmost).mono ?_
                  rintro e y1 ⟨rfl, r1, g1⟩
                  have x1 := hX.out.other g1 hBX hR.out
                  have t1 : Below w.heap.size w y1 := hT.grown g1 hT.size (fun q hq => by injection hq with hq; omega)
                  have R1 : Hid (IsR y1 B (rdList (l.drop k) br most).2.1 (rdList (l.drop k) br most).2.2) := r1
                  have X1 : Hid (IsX y1 X a0 len0 cap0 l k br) := x1
                  clear r1 x1 g1
                  go_wp2_with fail
                  refine (xList X a0 len0 cap0 l k br most y1 X1.out hmost).mono ?_
                  rintro e y2 ⟨rfl, ⟨k2, x2, hd⟩, g2⟩
                  have r2 := R1.out.other g2 hBX.symm X1.out.1
                  rw [hd] at r2
                  have t2 : Below w.heap.size w y2 := t1.grown g2 t1.size (fun q hq => by injection hq with hq; omega)
                  have R2 : Hid (IsR y2 B (l.drop k2) (rdList (l.drop k) br most).2.2) := r2
                  have X2 : Hid (IsX y2 X a0 len0 cap0 l k2 (rdList (l.drop k) br most).2.2) := x2
                  clear r2 x2 hd R1 X1
                  generalize (rdList (l.drop k) br most).2.2 = br2 at *
                  generalize (rdList (l.drop k) br most).1 = N at *
                  go_wp2_with fail
                  go_meet
                  case rel => exact ⟨by simp, k2, br2, R2, X2, t2⟩
                · skip
                  have q0 : (z == 0) = false := by simpa using h0
                  have q1 : (z == 1) = false := by simpa using h1
                  have q2 : (z == 2) = false := by simpa using h2
                  have q3 : (z == 3) = false := by simpa using h3
                  have q4 : (z == 4) = false := by simpa using h4
                  clear g
                  go_wp2_with fail
                  go_meet
                  case rel => exact ⟨rfl, k, br, hR, hX, hT⟩
      case rest =>
        obtain ⟨rfl, k2, br2, R2, X2, T2⟩ := hcut
        have hlen : Hid (((l.drop k2).length : Int) = (len0 : Int) - (k2 : Int)) := by
          have h1 := X2.out.2.2.2
          have h2 := HL.out
          unfold Hid; rw [List.length_drop, h2]; omega
        have c1 := X2.out.1.cell 1
        have c2 := X2.out.1.cell 2
        simp only [xcell, List.getElem?_cons_zero, List.getElem?_cons_succ] at c1 c2
        have hk2 := X2.out.2.2.2
        obtain ⟨Lr, hLr⟩ : ∃ Lr, (l.drop k2).length = Lr := ⟨_, rfl⟩
        have L1 : Hid (∀ n, Calls Try.prog 32 #[.pointer (some ⟨B, 0, none⟩)] (wc.drewN n) fun e w' => e = .returned (.int .i64 (Lr : Int)) ∧ w' = wc.drewN n) := fun n => by
          have := cLeft B _ _ _ (R2.out.drewN n)
          rw [hLr] at this; exact this
        have hL2 : (Lr : Int) = (len0 : Int) - (k2 : Int) := by rw [← hLr]; exact hlen.out
        have hL : ((Lr : Int) != (len0 : Int) - (k2 : Int)) = false := by rw [hL2]; simp
        have DN : ∀ d, doneN (l.drop k2) br2 = d → Hid (∀ n, Calls Try.prog 33 #[.pointer (some ⟨B, 0, none⟩)] (wc.drewN n) fun e w' => e = .returned (.int .i64 d) ∧ w' = wc.drewN n) := fun d hd n => by
          have := cDone B _ _ _ (R2.out.drewN n)
          rw [hd] at this; exact this
        unfold doneN at DN
        rw [hLr] at DN
        clear hLr hlen g hR hX hT
        cases br2
        · by_cases hk : k2 < len0
          · have D1 := DN 4 (by rw [if_pos (by simp; omega)])
            have hk' : (k2 : Int) < (len0 : Int) := by omega
            clear DN hL2
            go_wp2_with fail
            go_quiet (first | exact Calls.quiet_of_same (L1.out _) | exact Calls.quiet_of_same (D1.out _))
            go_wp2
            go_roundw
            case rel => exact ⟨j + 1, k2, _, by omega, by go_num, R2.out.drewN _, X2.out.drewN _, bel_drewN T2 _⟩
            case measure => simp [intOf]; omega
          · have D1 := DN 0 (by rw [if_neg (by simp; omega)])
            have hk' : ¬ (k2 : Int) < (len0 : Int) := by omega
            clear DN hL2
            go_wp2_with fail
            go_quiet (first | exact Calls.quiet_of_same (L1.out _) | exact Calls.quiet_of_same (D1.out _))
            go_wp2
            go_roundw
            case rel => exact ⟨j + 1, k2, _, by omega, by go_num, R2.out.drewN _, X2.out.drewN _, bel_drewN T2 _⟩
            case measure => simp [intOf]; omega
        · have D1 := DN 4 (by simp)
          clear DN hL2
          go_wp2_with fail
          go_quiet (first | exact Calls.quiet_of_same (L1.out _) | exact Calls.quiet_of_same (D1.out _))
          go_wp2
          go_roundw
          case rel => exact ⟨j + 1, k2, _, by omega, by go_num, R2.out.drewN _, X2.out.drewN _, bel_drewN T2 _⟩
          case measure => simp [intOf]; omega
    · go_wp2
      go_ret
      exact ⟨rfl, hT⟩
end Go.Proofs.Ytonndplenacgjaa
