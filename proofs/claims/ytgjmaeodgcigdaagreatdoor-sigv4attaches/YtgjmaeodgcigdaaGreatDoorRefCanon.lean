/- What the document's Canon answers. -/
import Derived.Test.YtgjmaeodgcigdaaGreatDoorB15
import Derived.Test.YtgjmaeodgcigdaaGreatDoorB2
import Derived.Test.YtgjmaeodgcigdaaGreatDoorB5
import Derived.Deep.RegionHeld3
import Derived.Deep.RegionWith
import Derived.Deep.CutBlock
import Derived.Deep.CutRange
import Derived.WalkLawsBesides
namespace Go.Proofs.YtgjmaeodgcigdaaGreatDoor
open Go.RowKit

theorem infoRP2 : (Tryz.prog.info? 143).map (fun i => (i.zero, i.size, i.bytes)) = some (some (.agg #[.string ⟨#[]⟩, .string ⟨#[]⟩]), 2, 32) := by kernel_rfl
theorem refEncodeL (l : List UInt8) (w : World) (hs : l.length ≤ 30000) :
    Calls Tryz.prog 44 #[.string (str l), .bool false] w fun e w' => e = .returned (.string (str (encL false l))) ∧ Below w.heap.size w w' := by
  have := refEncode (str l) false w (by rw [str_size]; omega)
  rw [str_list] at this
  exact this
theorem cat5 (x y z : List UInt8) : str x ++ ByteArray.mk #[38] ++ str y ++ ByteArray.mk #[61] ++ str z = str (x ++ [38] ++ y ++ [61] ++ z) := by
  have e1 : ByteArray.mk #[38] = str [38] := rfl
  have e2 : ByteArray.mk #[61] = str [61] := rfl
  rw [e1, e2, str_append, str_append, str_append, str_append]
theorem cat4 (x y z : List UInt8) : str x ++ str y ++ ByteArray.mk #[61] ++ str z = str (x ++ [] ++ y ++ [61] ++ z) := by
  have e2 : ByteArray.mk #[61] = str [61] := rfl
  rw [e2, str_append, str_append, str_append, List.append_nil]
theorem drew2 (w : World) (a b : Nat) : (w.drewN a).drewN b = w.drewN (a + b) := by simp [World.drewN, Nat.add_assoc]
/-- an empty pair in a block of its own -/
def Laid (x : World) (B : Nat) : Prop := Blk x B 143 [.string ⟨#[]⟩, .string ⟨#[]⟩]
theorem Laid.facts {x : World} {B : Nat} (h : Hid (Laid x B)) : B < x.heap.size ∧ x.cell? ⟨B, 0, none⟩ = some (.string ⟨#[]⟩) ∧ x.frozen? ⟨B, 0, none⟩ = false ∧ x.cell? ⟨B, 1, none⟩ = some (.string ⟨#[]⟩) ∧ x.frozen? ⟨B, 1, none⟩ = false :=
  ⟨Blk.lt h.out, Blk.cell h.out 0, Blk.frozen h.out 0, Blk.cell h.out 1, Blk.frozen h.out 1⟩
theorem laid2 {w u x : World} {n : Nat} (hb : Below n u x) (hu : u.heap = (w.alloc (Obj.cells #[.string ⟨#[]⟩, .string ⟨#[]⟩] 143)).heap) (hn : n = u.heap.size) : Hid (Laid x w.heap.size) := by
  have hlt : w.heap.size < u.heap.size := by rw [hu]; simp
  unfold Hid Laid Blk
  rw [hb.block _ (by omega), hu]; exact heap_alloc_new w _
theorem Laid.on {u x : World} {B n : Nat} (h : Hid (Laid u B)) (hb : Below n u x) (hn : n = u.heap.size) : Hid (Laid x B) := Blk.below h.out hb (by rw [hn]; exact Blk.lt h.out)
theorem Laid.set {x : World} {B : Nat} (h : Hid (Laid x B)) (u v : Value) : Blk ((x.setCell ⟨B, 0, none⟩ u).setCell ⟨B, 1, none⟩ v) B 143 [u, v] := (Blk.set h.out 0 u).set 1 v

set_option maxRecDepth 20000 in
set_option maxHeartbeats 4000000 in
theorem refCanon (a : Option Addr) (n cap : Nat) (l : List Pr) (w : World) (h : IsP w a n cap l) (hn : n ≤ 50) (hz : ∀ p ∈ l, p.1.length ≤ 30000 ∧ p.2.length ≤ 30000) :
    Calls Tryz.prog 45 #[.slice a n cap] w fun e w' => e = .returned (.string (str (canonL l))) ∧ Below w.heap.size w w' := by
  have HL : Hid (l.length = n) := h.len_eq
  have H : Hid (IsP w a n cap l) := h
  have HZ : Hid (∀ k, k < n → (nthP l k).1.length ≤ 30000 ∧ (nthP l k).2.length ≤ 30000) := fun k hk => by rw [nthP_eq l k (by rw [HL.out]; exact hk)]; exact hz _ (List.getElem_mem _)
  clear h hz
  go_enter Tryz.func45, Tryz.ntmps45
  go_wp2
  go_loopw [3, 4] (fun v i wr => ∃ (k : Nat), k ≤ n ∧ i = .int .i64 k ∧ OwnP 143 wr w.heap.size v (sortL (l.take k)) ∧ Below w.heap.size w wr) (fun _ i _ => n - (intOf i).toNat)
  case atStart => exact ⟨0, Nat.zero_le _, rfl, OwnP.nil _ _ _, Below.refl _ _⟩
  case round =>
    obtain ⟨k, hk, rfl, hown, hbel⟩ := hrel
    by_cases hlt : k < n
    · obtain ⟨b, off, rfl, hc⟩ := H.out.cells (by omega)
      obtain ⟨c1, c2⟩ := hc k hlt
      have gb : b < w.heap.size := cell_lt c1
      have g1 := (hbel.cell (p := ⟨b, off + k * 2, none⟩) gb).trans c1
      have g2 := (hbel.cell (p := ⟨b, off + k * 2 + 1, none⟩) gb).trans c2
      have gz : b < wr.heap.size := Nat.lt_of_lt_of_le gb hbel.size
      have hb0 : (0 : Int) ≤ (k : Int) := by omega
      have hb1 : (k : Int) < (n : Int) := by omega
      have HT := sortL_take l k (by rw [HL.out]; exact hlt)
      have HK := sortL_length (l.take k)
      rw [List.length_take, HL.out, Nat.min_eq_left hk] at HK
      obtain ⟨z1, z2⟩ := HZ.out k hlt
      clear hc c1 c2
      generalize nthP l k = p at *
      obtain ⟨p1, p2⟩ := p
      have Z1 : Hid (p1.length ≤ 30000) := z1
      have Z2 : Hid (p2.length ≤ 30000) := z2
      clear z1 z2
      generalize sortL (l.take k) = out at *
      have HT' : Hid (sortL (l.take (k + 1)) = insP out (encP (p1, p2))) := HT
      have HK' : Hid (out.length = k) := HK
      clear HT HK
      go_upto_region 5 with fail
      go_cut [5] from 9 to 78 (fun v5 wx => ∃ B, v5 = .pointer (some ⟨B, 0, none⟩) ∧ w.heap.size ≤ B ∧ Hid (Blk wx B 143 [.string (str (encL false p1)), .string (str (encL false p2))]) ∧ Below wr.heap.size wr wx)
      case first =>
        go_region_held3 (fun w' => w'.cell? ⟨b, off + k * 2, none⟩ = some (.string (str p1)) ∧ w'.cell? ⟨b, off + k * 2 + 1, none⟩ = some (.string (str p2)))
          (first | (exact ⟨((d2).cell (p := ⟨b, off + k * 2, none⟩) gz).trans g1, ((d2).cell (p := ⟨b, off + k * 2 + 1, none⟩) gz).trans g2⟩) | (exact ⟨((d2.alloc d2.size _).cell (p := ⟨b, off + k * 2, none⟩) gz).trans g1, ((d2.alloc d2.size _).cell (p := ⟨b, off + k * 2 + 1, none⟩) gz).trans g2⟩) | (exact ⟨(((d2.setCell hBx _).setCell hBx _).cell (p := ⟨b, off + k * 2, none⟩) gz).trans g1, (((d2.setCell hBx _).setCell hBx _).cell (p := ⟨b, off + k * 2 + 1, none⟩) gz).trans g2⟩) | (exact ⟨((d1).cell (p := ⟨b, off + k * 2, none⟩) gz).trans g1, ((d1).cell (p := ⟨b, off + k * 2 + 1, none⟩) gz).trans g2⟩) | (exact ⟨((d1.alloc d1.size _).cell (p := ⟨b, off + k * 2, none⟩) gz).trans g1, ((d1.alloc d1.size _).cell (p := ⟨b, off + k * 2 + 1, none⟩) gz).trans g2⟩) | (exact ⟨((((Below.refl wr.heap.size wr).alloc (Nat.le_refl _) _).drew).cell (p := ⟨b, off + k * 2, none⟩) gz).trans g1, ((((Below.refl wr.heap.size wr).alloc (Nat.le_refl _) _).drew).cell (p := ⟨b, off + k * 2 + 1, none⟩) gz).trans g2⟩) | go_keep)
          ((first | (go_at_call 44; have hdd := d1; refine (refEncodeL p2 _ Z2.out).mono ?_; rintro e x2 ⟨rfl, b2⟩; have d2 : Below wr.heap.size wr x2 := (by first | exact d1.trans (b2.mono d1.size) | exact (d1.alloc d1.size _).trans (b2.mono (by have := d1.size; simp; omega))); first | (have Hk2 := Laid.on Hk b2 (by rfl); obtain ⟨hkl, k0, f0, k1, f1⟩ := Laid.facts Hk2; have hBx : wr.heap.size ≤ wr.heap.size := Nat.le_refl _) | (have Hk2 := @laid2 x1 _ _ _ b2 (by rfl) (by rfl); obtain ⟨hkl, k0, f0, k1, f1⟩ := Laid.facts Hk2; have hBx : wr.heap.size ≤ x1.heap.size := d1.size) | skip) | (go_at_call 44; refine (refEncodeL p1 _ Z1.out).mono ?_; rintro e x1 ⟨rfl, b1⟩; have d1 : Below wr.heap.size wr x1 := (by first | exact ((Below.refl wr.heap.size wr).drew).trans (b1.mono (Nat.le_refl _)) | exact (((Below.refl wr.heap.size wr).alloc (Nat.le_refl _) _).drew).trans (b1.mono (by simp))); first | (have Hk := @laid2 wr _ _ _ b1 (by rfl) (by rfl)) | skip)))
        all_goals
          go_wp2_with fail
          go_meet
          case rel => first | (have h2 := Hk2; exact ⟨_, rfl, Nat.le_trans hbel.size hBx, Laid.set Hk2 _ _, (d2.setCell hBx _).setCell hBx _⟩) | exact ⟨_, rfl, Nat.le_trans hbel.size d2.size, Blk.newAt _ _ _ _ _ rfl rfl, d2.alloc d2.size _⟩
      case rest =>
        obtain ⟨B, rfl, hB, hblk, hbx⟩ := hcut
        have hownx := hown.on hbx
        have BX := hbel.trans (hbx.mono hbel.size)
        have HT2 : Hid (sortL (l.take (k + 1)) = insP out (encL false p1, encL false p2)) := HT'.out
        have le1 : Hid ((encL false p1).length ≤ 90000) := by have := encL_length false p1; have := Z1.out; unfold Hid; omega
        have le2 : Hid ((encL false p2).length ≤ 90000) := by have := encL_length false p2; have := Z2.out; unfold Hid; omega
        clear HT' g1 g2 gz gb Z1 Z2 hown
        generalize encL false p1 = e1 at *
        generalize encL false p2 = e2 at *
        have HPV := hownx.isPV
        have HPV' : Hid (IsPV wc _ out) := HPV
        obtain ⟨a', cap', ev, hi⟩ := HPV
        rw [ev]
        have q1 := hblk.out.cell 0
        have q2 := hblk.out.cell 1
        simp only [List.getElem?_cons_zero, List.getElem?_cons_succ] at q1 q2
        have hol : out.length ≤ 50 := by rw [HK'.out]; omega
        have HI : Hid (IsP wc a' out.length cap' out) := hi
        clear hi
        obtain ⟨N, hN⟩ : ∃ N, out.length = N := ⟨_, rfl⟩
        rw [hN] at hol HI ⊢
        have HN : Hid (out.length = N) := hN
        clear hN
        go_upto_block 2 with fail
        go_cut [6] from 9 to 78 (fun v6 wy => ∃ (J q : Nat), v6 = .int .i64 (J : Int) ∧ Hid (J = insK out (e1, e2) N) ∧ wy = wc.drewN q)
        case first =>
          go_wp2_with fail
          go_loopw [6] (fun i wy => ∃ (j q : Nat), j ≤ N ∧ i = .int .i64 (j : Int) ∧ Hid (insK out (e1, e2) j = insK out (e1, e2) N) ∧ wy = wc.drewN q) (fun i _ => (intOf i).toNat)
          case atStart => exact ⟨N, 0, Nat.le_refl _, rfl, rfl, rfl⟩
          case round =>
            obtain ⟨j, q, hj, rfl, HJ, rfl⟩ := hrel
            rcases Nat.eq_zero_or_pos j with hj0 | hj0
            · subst hj0
              have h0 : (decide ((0 : Int) < ((0 : Nat) : Int))) = false := by decide
              have HJ2 : Hid (0 = insK out (e1, e2) N) := HJ.out
              clear HJ
              go_wp2_with fail
              go_quiet (fail)
              go_wp2_with fail
              go_meet
              case rel => exact ⟨0, _, rfl, HJ2, drew2 _ _ _⟩
            · obtain ⟨i, hi⟩ : ∃ i, j = i + 1 := ⟨j - 1, by omega⟩
              have h0 : (0 : Int) < (j : Int) := by omega
              have hw : IntKind.i64.wrap ((j : Int) - 1) = (i : Int) := by rw [wrapi64_in _ (by omega) (by omega)]; omega
              have hb2 : (0 : Int) ≤ (i : Int) := by omega
              have hb3 : (i : Int) < (N : Int) := by omega
              obtain ⟨b2, off2, rfl, hc⟩ := HI.out.cells (by omega)
              obtain ⟨r1, r2⟩ := hc i (by omega)
              have HJ3 : insK out (e1, e2) j = if gtP (nthP out i) (e1, e2) then insK out (e1, e2) i else i + 1 := by rw [hi]; rfl
              rw [HJ.out] at HJ3
              have hgt := gtP_iff (nthP out i) (e1, e2)
              generalize nthP out i = x at *
              obtain ⟨x1, x2⟩ := x
              simp only at hgt r1 r2
              have bl1 : ∀ y z : List UInt8, Op.bytesLess (str y).toList (str z).toList = Op.bytesLess y z := fun y z => by rw [str_toList, str_toList]
              clear hc HJ
              by_cases cA : Op.bytesLess e1 x1 = true
              · have t1 : Op.bytesLess (str x1).toList (str e1).toList = false := by rw [bl1]; exact less_no cA
                have t2 : ((str x1).toList == (str e1).toList) = false := by rw [str_beq]; exact less_ne cA
                have HJ4 : Hid (insK out (e1, e2) i = insK out (e1, e2) N) := by unfold Hid; rw [HJ3, if_pos (hgt.2 (.inl cA))]
                have HI2 : Hid (j = i + 1) := hi
                clear hgt HJ3 cA bl1 hi
                go_wp2_with fail
                go_quiet (fail)
                go_wp2_with fail
                go_roundw
                case rel => exact ⟨i, _, by have := HI2.out; omega, by have := HI2.out; go_num, HJ4, rfl⟩
                case measure => have := HI2.out; simp [intOf]; omega
              by_cases cB : x1 = e1
              · have t1 : Op.bytesLess (str x1).toList (str e1).toList = false := by rw [bl1, cB]; exact bless_irrefl _
                have t2 : ((str x1).toList == (str e1).toList) = true := by rw [str_beq]; simpa using cB
                by_cases cC : Op.bytesLess e2 x2 = true
                · have t3 : Op.bytesLess (str x2).toList (str e2).toList = false := by rw [bl1]; exact less_no cC
                  have t4 : ((str x2).toList == (str e2).toList) = false := by rw [str_beq]; exact less_ne cC
                  have HJ4 : Hid (insK out (e1, e2) i = insK out (e1, e2) N) := by unfold Hid; rw [HJ3, if_pos (hgt.2 (.inr ⟨cB, cC⟩))]
                  have HI2 : Hid (j = i + 1) := hi
                  clear hgt HJ3 cA cB cC bl1 hi
                  go_wp2_with fail
                  go_quiet (fail)
                  go_wp2_with fail
                  go_roundw
                  case rel => exact ⟨i, _, by have := HI2.out; omega, by have := HI2.out; go_num, HJ4, rfl⟩
                  case measure => have := HI2.out; simp [intOf]; omega
                · have HJ4 : Hid (j = insK out (e1, e2) N) := by unfold Hid; rw [HJ3, if_neg (fun h => by rcases hgt.1 h with h | h; exact cA h; exact cC h.2)]; exact hi
                  by_cases cD : x2 = e2
                  · have t3 : Op.bytesLess (str x2).toList (str e2).toList = false := by rw [bl1, cD]; exact bless_irrefl _
                    have t4 : ((str x2).toList == (str e2).toList) = true := by rw [str_beq]; simpa using cD
                    clear hgt HJ3 cA cB cC cD bl1 hi
                    go_wp2_with fail
                    go_quiet (fail)
                    go_wp2_with fail
                    go_meet
                    case rel => exact ⟨j, _, rfl, HJ4, drew2 _ _ _⟩
                  · have t3 : Op.bytesLess (str x2).toList (str e2).toList = true := by rw [bl1]; exact less_yes cC cD
                    have t4 : ((str x2).toList == (str e2).toList) = false := by rw [str_beq]; simpa using cD
                    clear hgt HJ3 cA cB cC cD bl1 hi
                    go_wp2_with fail
                    go_quiet (fail)
                    go_wp2_with fail
                    go_meet
                    case rel => exact ⟨j, _, rfl, HJ4, drew2 _ _ _⟩
              · have t1 : Op.bytesLess (str x1).toList (str e1).toList = true := by rw [bl1]; exact less_yes cA cB
                have t2 : ((str x1).toList == (str e1).toList) = false := by rw [str_beq]; simpa using cB
                have HJ4 : Hid (j = insK out (e1, e2) N) := by unfold Hid; rw [HJ3, if_neg (fun h => by rcases hgt.1 h with h | h; exact cA h; exact cB h.1)]; exact hi
                clear hgt HJ3 cA cB bl1 hi
                go_wp2_with fail
                go_quiet (fail)
                go_wp2_with fail
                go_meet
                case rel => exact ⟨j, _, rfl, HJ4, drew2 _ _ _⟩
        case rest =>
          obtain ⟨J, q, rfl, HJ, rfl⟩ := hcut
          have hJN : J ≤ N := by have := insK_le out (e1, e2) N; rw [HJ.out]; exact this
          have HR : Hid (sortL (l.take (k + 1)) = out.take J ++ [(e1, e2)] ++ out.drop J) := by
            unfold Hid; rw [HT2.out]; unfold insP; rw [HN.out, ← HJ.out]; simp
          rw [ev] at HPV'
          rw [HN.out] at HPV'
          obtain ⟨v1, sl1, i1⟩ := cutHead 82 143 Tryz.underlying82 infoRP2 (by kernel_rfl) HPV'.out J (by rw [HN.out]; exact hJN)
          obtain ⟨v2, sl2, i2⟩ := cutTail 82 143 Tryz.underlying82 infoRP2 (by kernel_rfl) HPV'.out J (by rw [HN.out]; exact hJN)
          have I1 : Hid (IsPV wc v1 (out.take J)) := i1
          have I2 : Hid (IsPV wc v2 (out.drop J)) := i2
          have HB0 : Hid (Blk wc B 143 [.string (str e1), .string (str e2)]) := hblk
          clear i1 i2 HPV' HI q1 q2 hblk HT2 HJ
          have BY : Below wc.heap.size wc (wc.drewN q) := bel_drewN (Below.refl _ _) q
          have BW := BX.trans (BY.mono BX.size)
          have I1' : Hid (IsPV (wc.drewN q) v1 (out.take J)) := I1.out.below BY rfl
          have I2' : Hid (IsPV (wc.drewN q) v2 (out.drop J)) := I2.out.below BY rfl
          have HB1 : Hid (Blk (wc.drewN q) B 143 [.string (str e1), .string (str e2)]) := HB0.out.drewN q
          clear I1 I2 HB0 BY BX hbx hownx
          generalize wc.drewN q = y at *
          have I1 := I1'
          have I2 := I2'
          have q1 := HB1.out.cell 0
          have q2 := HB1.out.cell 1
          simp only [List.getElem?_cons_zero, List.getElem?_cons_succ] at q1 q2
          have hBy := HB1.out.lt
          have HLen1 : Hid ((([] : List Pr).length + (out.take J).length) * 32 ≤ 140737488355328) := by unfold Hid; simp [List.length_take]; have := HN.out; omega
          have HLen2 : Hid (((out.take J).length + [(e1, e2)].length) * 32 ≤ 140737488355328) := by unfold Hid; simp [List.length_take]; have := HN.out; omega
          have HLen3 : Hid (((out.take J ++ [(e1, e2)]).length + (out.drop J).length) * 32 ≤ 140737488355328) := by unfold Hid; simp [List.length_take, List.length_drop]; have := HN.out; omega
          clear I1' I2'
          have HE3 : Hid (OwnP 143 ((y.alloc (.cells #[.string (str e1), .string (str e2)] 143)).alloc (.cells #[] 143)) y.heap.size (.slice (some ⟨y.heap.size + 1, 0, none⟩) 0 0) []) := by
            have h3 := OwnP.empty 143 (y.alloc (.cells #[.string (str e1), .string (str e2)] 143)) y.heap.size (by simp)
            rw [World.size_alloc] at h3
            exact h3
          go_wp2_with fail
          go_region_held3 (fun w' => w'.cell? ⟨B, 0, none⟩ = some (.string (str e1)) ∧ w'.cell? ⟨B, 1, none⟩ = some (.string (str e2)))
            (first | (exact ⟨((D3).cell (p := ⟨B, 0, none⟩) hBy).trans q1, ((D3).cell (p := ⟨B, 1, none⟩) hBy).trans q2⟩) | (exact ⟨((D2).cell (p := ⟨B, 0, none⟩) hBy).trans q1, ((D2).cell (p := ⟨B, 1, none⟩) hBy).trans q2⟩) | (exact ⟨((D1.alloc D1.size _).cell (p := ⟨B, 0, none⟩) hBy).trans q1, ((D1.alloc D1.size _).cell (p := ⟨B, 1, none⟩) hBy).trans q2⟩) | (exact ⟨((D1).cell (p := ⟨B, 0, none⟩) hBy).trans q1, ((D1).cell (p := ⟨B, 1, none⟩) hBy).trans q2⟩) | (exact ⟨(((((Below.refl y.heap.size y).alloc (Nat.le_refl _) _).alloc (by simp) _).drew).cell (p := ⟨B, 0, none⟩) hBy).trans q1, (((((Below.refl y.heap.size y).alloc (Nat.le_refl _) _).alloc (by simp) _).drew).cell (p := ⟨B, 1, none⟩) hBy).trans q2⟩) | (exact ⟨((((Below.refl y.heap.size y).alloc (Nat.le_refl _) _).drew).cell (p := ⟨B, 0, none⟩) hBy).trans q1, ((((Below.refl y.heap.size y).alloc (Nat.le_refl _) _).drew).cell (p := ⟨B, 1, none⟩) hBy).trans q2⟩) | go_keep)
            (first | (have hh := hown2; refine step_appV 82 143 Tryz.underlying82 infoRP2 _ (by rfl) _ _ (by rfl) y.heap.size _ (out.take J ++ [(e1, e2)]) (by rfl) hown2 v2 (out.drop J) (by rfl) (I2.out.below D2 rfl) HLen3.out D2.size ?_; intro u3 y3 hown3 hgrow3; have D3 : Below y.heap.size y y3 := D2.grown hgrow3 D2.size (fun j hj => (hown2.blk j hj).1)) | (have hh := hown1; refine step_appV 82 143 Tryz.underlying82 infoRP2 _ (by rfl) _ _ (by rfl) y.heap.size _ (out.take J) (by rfl) hown1 _ [(e1, e2)] (by rfl) (isPV_one e1 e2 HPb) HLen2.out D1.size ?_; intro u2 y2 hown2 hgrow2; have D2 : Below y.heap.size y y2 := D1.grown hgrow2 D1.size (fun j hj => (hown1.blk j hj).1)) | (have hh := hown1; refine step_appV 82 143 Tryz.underlying82 infoRP2 _ (by rfl) _ _ (by rfl) y.heap.size _ (out.take J) (by rfl) (hown1.alloc _) _ [(e1, e2)] (by rfl) (isPV_one e1 e2 (heap_alloc_new y1 _)) HLen2.out (by have := D1.size; simp; omega) ?_; intro u2 y2 hown2 hgrow2; have D2 : Below y.heap.size y y2 := (D1.alloc D1.size _).grown hgrow2 (by have := D1.size; simp; omega) (fun j hj => (hown1.blk j hj).1)) | (refine step_appV 82 143 Tryz.underlying82 infoRP2 _ (by rfl) _ _ (by rfl) y.heap.size _ [] (by rfl) ((OwnP.empty 143 y y.heap.size (Nat.le_refl _)).heap rfl) v1 (out.take J) (by rfl) (I1.out.below (((Below.refl y.heap.size y).alloc (Nat.le_refl _) _).drew) rfl) HLen1.out (by simp <;> omega) ?_; intro u1 y1 hown1 hgrow1; have D1 : Below y.heap.size y y1 := (((Below.refl y.heap.size y).alloc (Nat.le_refl _) _).drew).grown hgrow1 (by simp <;> omega) (fun j hj => (by simp [Value.ownBlock] at hj <;> omega))) | (refine step_appV 82 143 Tryz.underlying82 infoRP2 _ (by rfl) _ _ (by rfl) y.heap.size _ [] (by rfl) (((OwnP.empty 143 y y.heap.size (Nat.le_refl _)).alloc _).heap rfl) v1 (out.take J) (by rfl) (I1.out.below ((((Below.refl y.heap.size y).alloc (Nat.le_refl _) _).alloc (by simp) _).drew) rfl) HLen1.out (by simp <;> omega) ?_; intro u1 y1 hown1 hgrow1; have D1 : Below y.heap.size y y1 := ((((Below.refl y.heap.size y).alloc (Nat.le_refl _) _).alloc (by simp) _).drew).grown hgrow1 (by simp <;> omega) (fun j hj => (by simp [Value.ownBlock] at hj <;> omega)); have HPb : y1.heap[y.heap.size + 1]? = some (.cells #[.string (str e1), .string (str e2)] 143 (0, 0)) := (hgrow1.block (y.heap.size + 1) (by simp <;> omega) (by simp [Value.ownBlock])).trans (Blk.newAt (y.alloc (.cells #[] 143)) (y.heap.size + 1) 143 #[.string (str e1), .string (str e2)] [.string (str e1), .string (str e2)] (by simp) rfl)) | (refine step_appV 82 143 Tryz.underlying82 infoRP2 _ (by rfl) _ _ (by rfl) y.heap.size _ [] (by rfl) (HE3.out.heap rfl) v1 (out.take J) (by rfl) (I1.out.below ((((Below.refl y.heap.size y).alloc (Nat.le_refl _) _).alloc (by simp) _).drew) rfl) HLen1.out (by simp <;> omega) ?_; intro u1 y1 hown1 hgrow1; have D1 : Below y.heap.size y y1 := ((((Below.refl y.heap.size y).alloc (Nat.le_refl _) _).alloc (by simp) _).drew).grown hgrow1 (by simp <;> omega) (fun j hj => (by simp [Value.ownBlock] at hj <;> omega)); have HPb : y1.heap[y.heap.size]? = some (.cells #[.string (str e1), .string (str e2)] 143 (0, 0)) := (hgrow1.block y.heap.size (by simp <;> omega) (by simp [Value.ownBlock])).trans ((Below.heap_alloc (y.alloc (.cells #[.string (str e1), .string (str e2)] 143)) (.cells #[] 143) y.heap.size (by simp)).trans (heap_alloc_new y _))))
          all_goals
            have HF := hown3.base BW.size
            have BF := BW.trans (D3.mono BW.size)
            rw [← HR.out] at HF
            clear hown1 hown2 hown3 hgrow1 hgrow2 hgrow3 D1 D2 D3
            go_wp2_with fail
            go_roundw
            case rel => exact ⟨k + 1, by omega, by go_num, HF, BF⟩
            case measure => simp [intOf]; omega
    · have ek : k = n := by omega
      subst ek
      rw [List.take_of_length_le (by rw [HL.out]; exact Nat.le_refl _)] at hown
      have HLen : Hid ((sortL l).length = k) := by unfold Hid; rw [sortL_length, HL.out]
      have HZ2 : Hid (∀ i, i < k → (nthP (sortL l) i).1.length ≤ 90000 ∧ (nthP (sortL l) i).2.length ≤ 90000) := by
        intro i hi
        rw [nthP_eq _ _ (by rw [HLen.out]; exact hi)]
        have hm := (sortL_perm l).mem_iff.1 (List.getElem_mem (l := sortL l) (n := i) (by rw [HLen.out]; exact hi))
        obtain ⟨p, hp, e⟩ := List.mem_map.1 hm
        obtain ⟨j, hj, e2⟩ := List.getElem_of_mem hp
        have hz := HZ.out j (by rw [HL.out] at hj; exact hj)
        rw [nthP_eq _ _ hj, e2] at hz
        rw [← e]
        have h1 := encL_length false p.1
        have h2 := encL_length false p.2
        exact ⟨by show (encL false p.1).length ≤ 90000; omega, by show (encL false p.2).length ≤ 90000; omega⟩
      obtain ⟨a', cap', ev, hi⟩ := hown.isP
      rw [ev]
      have HI : Hid (IsP wr a' k cap' (sortL l)) := by have := hi; rw [HLen.out] at this; exact this
      rw [HLen.out]
      have HF : Hid (canonL l = joinK (sortL l) k) := by unfold Hid canonL joinL; rw [HLen.out]
      clear hi hown ev HZ
      generalize sortL l = out at *
      go_wp2_with fail
      go_loopw [7, 8] (fun sv i wy => ∃ (j q : Nat), j ≤ k ∧ sv = .string (str (joinK out j)) ∧ i = .int .i64 (j : Int) ∧ wy = wr.drewN q) (fun _ i _ => k - (intOf i).toNat)
      case atStart => exact ⟨0, 0, Nat.zero_le _, rfl, rfl, rfl⟩
      case round =>
        obtain ⟨j, q, hj, rfl, rfl, rfl⟩ := hrel
        by_cases hlt2 : j < k
        · obtain ⟨b2, off2, rfl, hc⟩ := HI.out.cells (by omega)
          obtain ⟨r1, r2⟩ := hc j hlt2
          obtain ⟨m1, m2⟩ := HZ2.out j hlt2
          have hb2 : (0 : Int) ≤ (j : Int) := by omega
          have hb3 : (j : Int) < (k : Int) := by omega
          have HJ : joinK out (j + 1) = joinK out j ++ (if 0 < j then [38] else []) ++ (nthP out j).1 ++ [61] ++ (nthP out j).2 := rfl
          have s0 : (str (joinK out j)).size ≤ 10000000 := by
            rw [str_size]
            have := joinK_length out k (fun i hi => HZ2.out i hi) j hj
            omega
          have s1 : (str (nthP out j).1).size ≤ 90000 := by rw [str_size]; exact m1
          have s2 : (str (nthP out j).2).size ≤ 90000 := by rw [str_size]; exact m2
          generalize nthP out j = x at *
          obtain ⟨x1, x2⟩ := x
          simp only at r1 r2 s1 s2 HJ
          clear hc m1 m2
          have S0 : ((str (joinK out j)).size : Int) ≤ 10000000 := by omega
          have S1 : ((str x1).size : Int) ≤ 90000 := by omega
          have S2 : ((str x2).size : Int) ≤ 90000 := by omega
          clear s0 s1 s2
          by_cases hj0 : 0 < j
          · have h0 : (0 : Int) < (j : Int) := by omega
            have Hcat : Hid (str (joinK out j) ++ ByteArray.mk #[38] ++ str x1 ++ ByteArray.mk #[61] ++ str x2 = str (joinK out (j + 1))) := by
              unfold Hid; rw [HJ, if_pos hj0]; exact cat5 _ _ _
            clear HJ
            generalize str (joinK out j) = t at *
            generalize str x1 = t1 at *
            generalize str x2 = t2 at *
            go_wp2_with fail
            go_quiet (fail)
            go_wp2_with fail
            go_roundw
            case rel => exact ⟨j + 1, _, by omega, by rw [← Hcat.out], by go_num, rfl⟩
            case measure => simp [intOf]; omega
          · have h0 : ¬ (0 : Int) < (j : Int) := by omega
            have Hcat : Hid (str (joinK out j) ++ str x1 ++ ByteArray.mk #[61] ++ str x2 = str (joinK out (j + 1))) := by
              unfold Hid; rw [HJ, if_neg hj0]; exact cat4 _ _ _
            clear HJ
            generalize str (joinK out j) = t at *
            generalize str x1 = t1 at *
            generalize str x2 = t2 at *
            go_wp2_with fail
            go_quiet (fail)
            go_wp2_with fail
            go_roundw
            case rel => exact ⟨j + 1, _, by omega, by rw [← Hcat.out], by go_num, rfl⟩
            case measure => simp [intOf]; omega
        · have hge : ¬ (j : Int) < (k : Int) := by omega
          have Hjk : Hid (j = k) := by unfold Hid; omega
          go_wp2_with fail
          go_ret
          exact ⟨by rw [HF.out, ← Hjk.out]; rfl, bel_drewN hbel q⟩
end Go.Proofs.YtgjmaeodgcigdaaGreatDoor
