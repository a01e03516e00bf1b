/- What a kind's hmac answers. -/
import Derived.Test.YtmgflcglmakceaaDigCopy
import Derived.Deep.CutBlock
import Derived.Deep.CutRange
namespace Go.Proofs.Ytmgflcglmakceaa
open Go.RowKit

theorem IsB.arr {w : World} {I T : Nat} (cs : List UInt8) (hB : Blk w I T (bv cs)) (hl : cs.length = 64) : IsB w (some ⟨I, 0, none⟩) 64 64 cs :=
  ⟨hl, Nat.le_refl _, by decide, fun e => (by cases e), fun _ => ⟨I, 0, rfl, fun i hi => by rw [Nat.zero_add, hB.cell i]; exact bv_at cs i (by omega)⟩⟩
theorem IsPs.two {w : World} (B : Nat) (a1 : Option Addr) (n1 c1 : Nat) (l1 : List UInt8) (a2 : Option Addr) (n2 c2 : Nat) (l2 : List UInt8) (hb : w.cell? ⟨B, 0, none⟩ = some (.slice a1 n1 c1)) (hb2 : w.cell? ⟨B, 1, none⟩ = some (.slice a2 n2 c2)) (h1 : IsB w a1 n1 c1 l1) (h2 : IsB w a2 n2 c2 l2) : IsPs w (some ⟨B, 0, none⟩) 2 2 [l1, l2] := by
  refine ⟨rfl, ⟨Nat.le_refl _, by decide⟩, fun _ => ⟨B, 0, rfl, fun i hi => ?_⟩⟩
  match i, hi with
  | 0, _ =>
    have e : ([l1, l2] : List (List UInt8)).getD 0 [] = l1 := rfl
    rw [e, h1.len_eq]
    exact ⟨a1, c1, hb, h1⟩
  | 1, _ =>
    have e : ([l1, l2] : List (List UInt8)).getD 1 [] = l2 := rfl
    rw [e, h2.len_eq]
    exact ⟨a2, c2, hb2, h2⟩

theorem Blk.other' {w w' : World} {B t : Nat} {cs : List Value} {X : Nat} (h : Blk w B t cs) (hg : w.grownBy w' (some X)) (hne : X ≠ B) : Blk w' B t cs := by
  unfold Blk
  rw [hg.block B h.lt (fun e => hne (by injection e with e; exact e.symm))]
  exact h
theorem bv_set (l : List UInt8) (i : Nat) (x : UInt8) : bv (l.set i x) = (bv l).set i (.int .u8 (x.toNat : Int)) := by unfold bv; rw [List.map_set]

theorem IsPs.at2 (w : World) (a1 : Option Addr) (n1 c1 : Nat) (l1 : List UInt8) (a2 : Option Addr) (n2 c2 : Nat) (l2 : List UInt8) (h1 : IsB w a1 n1 c1 l1) (h2 : IsB w a2 n2 c2 l2) : IsPs (w.alloc (.cells #[.slice a1 n1 c1, .slice a2 n2 c2] 22)) (some ⟨w.heap.size, 0, none⟩) 2 2 [l1, l2] := by
  have b0 : Below w.heap.size w (w.alloc (.cells #[.slice a1 n1 c1, .slice a2 n2 c2] 22)) := (Below.refl _ _).alloc (Nat.le_refl _) _
  have bb : Blk (w.alloc (.cells #[.slice a1 n1 c1, .slice a2 n2 c2] 22)) w.heap.size 22 [.slice a1 n1 c1, .slice a2 n2 c2] := Blk.newAt w _ _ _ _ rfl rfl
  exact IsPs.two w.heap.size _ _ _ _ _ _ _ _ (bb.cell 0) (bb.cell 1) (h1.below b0 rfl) (h2.below b0 rfl)

theorem sl64 (I : Nat) (w : World) : (Instr.sliceAt 57 (.pointer (some ⟨I, 0, none⟩)) none none none).run Try.prog w = .ok (.slice (some ⟨I, 0, none⟩) 64 64) w := by
  have he : Try.prog.elem 57 = 5 := by kernel_rfl
  have hn : Try.prog.arrayLen 57 = 64 := by kernel_rfl
  have hz : (sizeOf 5).run Try.prog w = .ok 1 w := by
    obtain ⟨i0, hi, hz0, hz1, hz2⟩ := info_parts info8
    simp [sizeOf, typeInfo, hi, hz1]
  rw [run_sliceAt_array_all w 57 ⟨I, 0, none⟩ (by rw [he, hn]; exact Try.underlying57), he, hn, hz]
  rfl
attribute [local go_sem ↓] sl64

set_option maxRecDepth 20000 in
set_option maxHeartbeats 1000000 in
theorem digHmac (mf : Nat) (mix : List UInt32 → List UInt8 → List UInt32) (s : S8) (hok : MixOK mf mix) (size : Nat) (hsz : size ≤ 32)
    (a : Option Addr) (len cap : Nat) (key : List UInt8) (a1 : Option Addr) (len1 cap1 : Nat) (l : List UInt8) (w : World) (h : IsB w a len cap key) (h1 : IsB w a1 len1 cap1 l) (hn : len < 1073741824) (hn1 : len1 < 1073741824) :
    Calls Try.prog 30 #[.agg (kcOf size s mf).toArray, .slice a len cap, .slice a1 len1 cap1] w fun e w' => ∃ v, e = .returned v ∧ OwnB w' w.heap.size v (hmL (fun A => hashL mix s.list size A) key l) ∧ Below w.heap.size w w' := by
  have HE : Hid (key.length = len) := h.len_eq
  have HE1 : Hid (l.length = len1) := h1.len_eq
  have bK : Below w.heap.size w (w.alloc (.cells (kcOf size s mf).toArray 53)) := (Below.refl _ _).alloc (Nat.le_refl _) _
  have H : Hid (IsB (w.alloc (.cells (kcOf size s mf).toArray 53)) a len cap key) := h.below bK rfl
  have H1 : Hid (IsB (w.alloc (.cells (kcOf size s mf).toArray 53)) a1 len1 cap1 l) := h1.below bK rfl
  have Bk : Blk (w.alloc (.cells (kcOf size s mf).toArray 53)) w.heap.size 53 (kcOf size s mf) := Blk.new w _ _
  clear h h1
  go_enter Try.func30, Try.ntmps30
  go_upto_if 12 with fail
  go_cut [1] from 12 (fun v wx => ∃ (x : Option Addr) (n c : Nat), v = .slice x n c ∧ n ≤ 64 ∧ Hid (IsB wx x n c (hkey (fun A => hashL mix s.list size A) key)) ∧ Hid (IsB wx a1 len1 cap1 l) ∧ Hid (Blk wx w.heap.size 53 (kcOf size s mf)) ∧ Below w.heap.size w wx)
  case first =>
    by_cases hk : 64 < len
    · have HK : Hid (hkey (fun A => hashL mix s.list size A) key = hashL mix s.list size key) := by unfold Hid hkey; rw [HE.out, if_pos hk]
      have hk' : (64 : Int) < (len : Int) := by omega
      go_wp2_with (refine wpList_load_row rfl 53 _ rfl _ rfl _ _ _ _ Bk Try.underlying53 rfl info10 ?_)
      have hb0 : Below w.heap.size w ((w.alloc (.cells (kcOf size s mf).toArray 53)).alloc (.cells #[.slice a len cap] 22)) := bK.alloc (by simp) _
      have hb1 : Below (w.alloc (.cells (kcOf size s mf).toArray 53)).heap.size (w.alloc (.cells (kcOf size s mf).toArray 53)) ((w.alloc (.cells (kcOf size s mf).toArray 53)).alloc (.cells #[.slice a len cap] 22)) := (Below.refl _ _).alloc (Nat.le_refl _) _
      refine (digDigest mf mix s hok size hsz _ _ _ [key] _ (by exact IsPs.one (w.heap.size + 1) a len cap key ((Blk.newAt _ _ _ _ [.slice a len cap] (by simp) rfl).cell 0) (H.out.below hb1 rfl)) (by simp [HE.out]; omega)).mono ?_
      rintro e y1 ⟨v1, rfl, o1, c1⟩
      have e1 : ([key] : List (List UInt8)).flatten = key := by simp
      rw [e1] at o1
      obtain ⟨x, c, rfl, i1⟩ := o1.isB
      have hl1 : (hashL mix s.list size key).length = size := by unfold hashL; rw [outB_length]
      have I1 : Hid (IsB y1 x size c (hkey (fun A => hashL mix s.list size A) key)) := by rw [HK.out]; have := i1; rw [hl1] at this; exact this
      have J1 : Hid (IsB y1 a1 len1 cap1 l) := (H1.out.below hb1 rfl).below c1 rfl
      have K1 : Hid (Blk y1 w.heap.size 53 (kcOf size s mf)) := (Bk.on hb1).on c1
      have T1 : Below w.heap.size w y1 := hb0.trans (c1.mono hb0.size)
      rw [hl1]
      clear i1 o1 hl1 hb0 hb1 c1
      go_wp2_with fail
      go_meet
      case rel => exact ⟨x, size, c, rfl, by omega, I1, J1, K1, T1⟩
    · have HK : Hid (hkey (fun A => hashL mix s.list size A) key = key) := by unfold Hid hkey; rw [HE.out, if_neg hk]
      have hk' : ¬ (64 : Int) < (len : Int) := by omega
      go_wp2_with fail
      go_meet
      case rel => exact ⟨a, len, cap, rfl, by omega, by rw [HK.out]; exact H.out, H1.out, Bk, bK⟩
  case rest =>
    obtain ⟨x, n, c, rfl, hn64, IK, IL, BK, T0⟩ := hcut
    obtain ⟨K, hKK⟩ : ∃ K, hkey (fun A => hashL mix s.list size A) key = K := ⟨_, rfl⟩
    have HKK : Hid (hmL (fun A => hashL mix s.list size A) key l = hashL mix s.list size (blkL K 92 ++ hashL mix s.list size (blkL K 54 ++ l))) := by unfold Hid hmL; rw [hKK]
    rw [hKK] at IK
    clear hKK
    clear H H1 Bk bK
    have HKn : Hid (K.length = n) := IK.out.len_eq
    go_upto_region 4 with fail
    have TB0 : Below wc.heap.size wc ((wc.alloc (.cells (bv (List.replicate 64 0)).toArray 57)).alloc (.cells (bv (List.replicate 64 0)).toArray 57)) := ((Below.refl _ _).alloc (Nat.le_refl _) _).alloc (by simp) _
    refine wp_named (fun y => Blk y wc.heap.size 57 (bv (List.replicate 64 0)) ∧ Blk y (wc.heap.size + 1) 57 (bv (List.replicate 64 0)) ∧ Below wc.heap.size wc y)
      ⟨(Blk.newAt wc _ _ _ (bv (List.replicate 64 0)) rfl rfl).alloc _, Blk.newAt _ _ _ _ (bv (List.replicate 64 0)) (by simp) rfl, TB0⟩ ?_
    clear TB0
    rintro y ⟨bI, bO, TB⟩
    obtain ⟨W1, hr1, bI1, g1⟩ := copy64 y wc.heap.size 57 (List.replicate 64 0) bI (List.length_replicate ..) x n c K (IK.out.below TB rfl) hn64
    have bO1 := bO.other' g1 (by omega)
    have TB1 : Below wc.heap.size wc W1 := TB.grown g1 TB.size (fun k hk => by injection hk with hk; omega)
    obtain ⟨W2, hr2, bO2, g2⟩ := copy64 W1 (wc.heap.size + 1) 57 (List.replicate 64 0) bO1 (List.length_replicate ..) x n c K (IK.out.below TB1 rfl) hn64
    have bI2 := bI1.other' g2 (by omega)
    have TB2 : Below wc.heap.size wc W2 := TB1.grown g2 TB1.size (fun k hk => by injection hk with hk; omega)
    rw [← HKn.out, ← xorTo_zero K 54 (by rw [HKn.out]; exact hn64)] at bI2
    rw [← HKn.out, ← xorTo_zero K 92 (by rw [HKn.out]; exact hn64)] at bO2
    have HI2 : Hid (Blk W2 wc.heap.size 57 (bv (xorTo K 54 0))) := bI2
    have HO2 : Hid (Blk W2 (wc.heap.size + 1) 57 (bv (xorTo K 92 0))) := bO2
    clear bI bO TB g1 bO1 TB1 g2 bI2 bO2 bI1
    go_wp2
    clear hr1 hr2
    go_loopw [23] (fun i wr => ∃ j : Nat, j ≤ 64 ∧ i = .int .i64 (j : Int) ∧ Hid (Blk wr wc.heap.size 57 (bv (xorTo K 54 j))) ∧ Hid (Blk wr (wc.heap.size + 1) 57 (bv (xorTo K 92 j))) ∧ Below wc.heap.size wc wr) (fun i _ => 64 - (intOf i).toNat)
    case atStart => exact ⟨0, by omega, rfl, HI2, HO2, TB2⟩
    case round =>
      clear HI2 HO2 TB2
      obtain ⟨j, hj, rfl, hI, hO, hT⟩ := hrel
      by_cases hlt : j < 64
      · have hj64 : (j : Int) < 64 := by omega
        have cI := (hI.out.cell j).trans (bv_at _ j (by rw [xorTo_length]; exact hlt))
        have cO := (hO.out.cell j).trans (bv_at _ j (by rw [xorTo_length]; exact hlt))
        rw [xorTo_at _ _ _ _ hlt, if_neg (by omega)] at cI cO
        have fI := hI.out.frozen j
        have fO := hO.out.frozen j
        have x1 : bits .xor .u8 ((nth K j).toNat : Int) 54 = ((xor8 (nth K j) 54).toNat : Int) := w_xor8 (nth K j) 54
        have x2 : bits .xor .u8 ((nth K j).toNat : Int) 92 = ((xor8 (nth K j) 92).toNat : Int) := w_xor8 (nth K j) 92
        have NI : Hid (Blk ((wr.setCell ⟨wc.heap.size, j, none⟩ (.int .u8 ((xor8 (nth K j) 54).toNat : Int))).setCell ⟨wc.heap.size + 1, j, none⟩ (.int .u8 ((xor8 (nth K j) 92).toNat : Int))) wc.heap.size 57 (bv (xorTo K 54 (j + 1)))) := by
          have := (hI.out.set j (.int .u8 ((xor8 (nth K j) 54).toNat : Int))).other ⟨wc.heap.size + 1, j, none⟩ (.int .u8 ((xor8 (nth K j) 92).toNat : Int)) (by simp)
          rw [← bv_set, xorTo_succ] at this; exact this
        have NO : Hid (Blk ((wr.setCell ⟨wc.heap.size, j, none⟩ (.int .u8 ((xor8 (nth K j) 54).toNat : Int))).setCell ⟨wc.heap.size + 1, j, none⟩ (.int .u8 ((xor8 (nth K j) 92).toNat : Int))) (wc.heap.size + 1) 57 (bv (xorTo K 92 (j + 1)))) := by
          have := (hO.out.other ⟨wc.heap.size, j, none⟩ (.int .u8 ((xor8 (nth K j) 54).toNat : Int)) (by simp)).set j (.int .u8 ((xor8 (nth K j) 92).toNat : Int))
          rw [← bv_set, xorTo_succ] at this; exact this
        have NT : Below wc.heap.size wc ((wr.setCell ⟨wc.heap.size, j, none⟩ (.int .u8 ((xor8 (nth K j) 54).toNat : Int))).setCell ⟨wc.heap.size + 1, j, none⟩ (.int .u8 ((xor8 (nth K j) 92).toNat : Int))) := (hT.trans (set_bel _ _ _ _ (Nat.le_refl _))).trans (set_bel _ _ _ _ (by omega))
        clear hI hO hT
        go_wp2
        exact ⟨⟨j + 1, by omega, by go_num, NI, NO, NT⟩, by simp [intOf]; omega⟩
      · have ej : j = 64 := by omega
        have hj64 : ¬ (j : Int) < 64 := by omega
        have bI : Blk wr wc.heap.size 57 (bv (blkL K 54)) := by rw [← xorTo_all, ← ej]; exact hI.out
        have bO : Blk wr (wc.heap.size + 1) 57 (bv (blkL K 92)) := by rw [← xorTo_all, ← ej]; exact hO.out
        have II : Hid (IsB wr (some ⟨wc.heap.size, 0, none⟩) 64 64 (blkL K 54)) := IsB.arr _ bI (blkL_length _ _)
        have Iou : Hid (IsB wr (some ⟨wc.heap.size + 1, 0, none⟩) 64 64 (blkL K 92)) := IsB.arr _ bO (blkL_length _ _)
        have IL9 : Hid (IsB wr a1 len1 cap1 l) := IL.out.below hT rfl
        have BK9 : Blk wr w.heap.size 53 (kcOf size s mf) := BK.out.on hT
        have T9 : Below w.heap.size w wr := T0.trans (hT.mono T0.size)
        have lK : w.heap.size < wr.heap.size := BK9.lt
        have k0 : wr.cell? ⟨w.heap.size, 0, none⟩ = some (.int .i64 (size : Int)) := BK9.cell 0
        have k1 : wr.cell? ⟨w.heap.size, 1, none⟩ = some (.int .u32 (s.a.toNat : Int)) := BK9.cell 1
        have k2 : wr.cell? ⟨w.heap.size, 2, none⟩ = some (.int .u32 (s.b.toNat : Int)) := BK9.cell 2
        have k3 : wr.cell? ⟨w.heap.size, 3, none⟩ = some (.int .u32 (s.c.toNat : Int)) := BK9.cell 3
        have k4 : wr.cell? ⟨w.heap.size, 4, none⟩ = some (.int .u32 (s.d.toNat : Int)) := BK9.cell 4
        have k5 : wr.cell? ⟨w.heap.size, 5, none⟩ = some (.int .u32 (s.e.toNat : Int)) := BK9.cell 5
        have k6 : wr.cell? ⟨w.heap.size, 6, none⟩ = some (.int .u32 (s.f.toNat : Int)) := BK9.cell 6
        have k7 : wr.cell? ⟨w.heap.size, 7, none⟩ = some (.int .u32 (s.g.toNat : Int)) := BK9.cell 7
        have k8 : wr.cell? ⟨w.heap.size, 8, none⟩ = some (.int .u32 (s.h.toNat : Int)) := BK9.cell 8
        have k9 : wr.cell? ⟨w.heap.size, 9, none⟩ = some (.func (.func mf) #[] #[]) := BK9.cell 9
        have lI := blkL_length K 54
        have lO := blkL_length K 92
        have hA : Hid (IsPs (wr.alloc (.cells #[.slice (some ⟨wc.heap.size, 0, none⟩) 64 64, .slice a1 len1 cap1] 22)).drew (some ⟨wr.heap.size, 0, none⟩) 2 2 [blkL K 54, l]) := by
          have b0 : Below wr.heap.size wr (wr.alloc (.cells #[.slice (some ⟨wc.heap.size, 0, none⟩) 64 64, .slice a1 len1 cap1] 22)).drew := ((Below.refl _ _).alloc (Nat.le_refl _) _).drew
          have bb : Blk (wr.alloc (.cells #[.slice (some ⟨wc.heap.size, 0, none⟩) 64 64, .slice a1 len1 cap1] 22)).drew wr.heap.size 22 [.slice (some ⟨wc.heap.size, 0, none⟩) 64 64, .slice a1 len1 cap1] := Blk.newAt wr _ _ _ _ rfl rfl
          exact IsPs.two wr.heap.size _ _ _ _ _ _ _ _ (bb.cell 0) (bb.cell 1) (II.out.below b0 rfl) (IL9.out.below b0 rfl)
        have hAl : ([blkL K 54, l] : List (List UInt8)).flatten.length < 4294967296 := by simp [lI, HE1.out]; omega
        have HAf : Hid (([blkL K 54, l] : List (List UInt8)).flatten = blkL K 54 ++ l) := by unfold Hid; simp
        have bA : Below wr.heap.size wr (wr.alloc (.cells #[.slice (some ⟨wc.heap.size, 0, none⟩) 64 64, .slice a1 len1 cap1] 22)).drew := ((Below.refl _ _).alloc (Nat.le_refl _) _).drew
        have HAl : Hid (([blkL K 54, l] : List (List UInt8)).flatten.length < 4294967296) := hAl
        clear hI hO hT bI bO BK9 ej IL BK T0 IK hAl lI
        go_wp2
        go_region_held3 (fun w' => w'.cell? ⟨w.heap.size, 0, none⟩ = some (.int .i64 (size : Int)) ∧ w'.cell? ⟨w.heap.size, 1, none⟩ = some (.int .u32 (s.a.toNat : Int)) ∧ w'.cell? ⟨w.heap.size, 2, none⟩ = some (.int .u32 (s.b.toNat : Int)) ∧ w'.cell? ⟨w.heap.size, 3, none⟩ = some (.int .u32 (s.c.toNat : Int)) ∧ w'.cell? ⟨w.heap.size, 4, none⟩ = some (.int .u32 (s.d.toNat : Int)) ∧ w'.cell? ⟨w.heap.size, 5, none⟩ = some (.int .u32 (s.e.toNat : Int)) ∧ w'.cell? ⟨w.heap.size, 6, none⟩ = some (.int .u32 (s.f.toNat : Int)) ∧ w'.cell? ⟨w.heap.size, 7, none⟩ = some (.int .u32 (s.g.toNat : Int)) ∧ w'.cell? ⟨w.heap.size, 8, none⟩ = some (.int .u32 (s.h.toNat : Int)) ∧ w'.cell? ⟨w.heap.size, 9, none⟩ = some (.func (.func mf) #[] #[]))
          (first | (exact ⟨(d2.cell (p := ⟨w.heap.size, 0, none⟩) lK).trans k0, (d2.cell (p := ⟨w.heap.size, 1, none⟩) lK).trans k1, (d2.cell (p := ⟨w.heap.size, 2, none⟩) lK).trans k2, (d2.cell (p := ⟨w.heap.size, 3, none⟩) lK).trans k3, (d2.cell (p := ⟨w.heap.size, 4, none⟩) lK).trans k4, (d2.cell (p := ⟨w.heap.size, 5, none⟩) lK).trans k5, (d2.cell (p := ⟨w.heap.size, 6, none⟩) lK).trans k6, (d2.cell (p := ⟨w.heap.size, 7, none⟩) lK).trans k7, (d2.cell (p := ⟨w.heap.size, 8, none⟩) lK).trans k8, (d2.cell (p := ⟨w.heap.size, 9, none⟩) lK).trans k9⟩) | (exact ⟨(d1.cell (p := ⟨w.heap.size, 0, none⟩) lK).trans k0, (d1.cell (p := ⟨w.heap.size, 1, none⟩) lK).trans k1, (d1.cell (p := ⟨w.heap.size, 2, none⟩) lK).trans k2, (d1.cell (p := ⟨w.heap.size, 3, none⟩) lK).trans k3, (d1.cell (p := ⟨w.heap.size, 4, none⟩) lK).trans k4, (d1.cell (p := ⟨w.heap.size, 5, none⟩) lK).trans k5, (d1.cell (p := ⟨w.heap.size, 6, none⟩) lK).trans k6, (d1.cell (p := ⟨w.heap.size, 7, none⟩) lK).trans k7, (d1.cell (p := ⟨w.heap.size, 8, none⟩) lK).trans k8, (d1.cell (p := ⟨w.heap.size, 9, none⟩) lK).trans k9⟩) | go_keep)
          ((first
            | (go_at_call 35; refine (digDigest mf mix s hok size hsz _ _ _ [blkL K 92, hashL mix s.list size (blkL K 54 ++ l)] _ (by exact HB2.out) (by simp [lO, hl1]; omega)).mono ?_; rintro e y2 ⟨v2, rfl, o2, c2⟩; have d2 : Below wr.heap.size wr y2 := (d1.alloc d1.size _).trans (c2.mono (by have := d1.size; simp; omega)))
            | (go_at_call 35; refine (digDigest mf mix s hok size hsz _ _ _ [blkL K 54, l] _ hA.out HAl.out).mono ?_; rintro e y1 ⟨v1, rfl, o1, c1⟩; have d1 : Below wr.heap.size wr y1 := bA.trans (c1.mono bA.size); rw [HAf.out] at o1; have hl1 : (hashL mix s.list size (blkL K 54 ++ l)).length = size := (by unfold hashL; rw [outB_length]); obtain ⟨z1, q1, rfl, i1⟩ := o1.isB; rw [hl1] at i1 ⊢; have HB2 : Hid (IsPs (y1.alloc (.cells #[.slice (some ⟨wc.heap.size + 1, 0, none⟩) 64 64, .slice z1 size q1] 22)) (some ⟨y1.heap.size, 0, none⟩) 2 2 [blkL K 92, hashL mix s.list size (blkL K 54 ++ l)]) := IsPs.at2 y1 _ _ _ _ _ _ _ _ (Iou.out.below d1 rfl) i1)))
        all_goals
          have HBf : ([blkL K 92, hashL mix s.list size (blkL K 54 ++ l)] : List (List UInt8)).flatten = blkL K 92 ++ hashL mix s.list size (blkL K 54 ++ l) := by simp
          rw [HBf, ← HKK.out] at o2
          have T10 : Below w.heap.size w y2 := T9.trans (d2.mono T9.size)
          have o3 : Hid (OwnB y2 w.heap.size v2 (hmL (fun A => hashL mix s.list size A) key l)) := o2.base (by have h3 := d1.size; have h4 := T9.size; simp; omega)
          clear o2 o1 HBf i1 c1 c2 d1 d2 k0 k1 k2 k3 k4 k5 k6 k7 k8 k9 HB2
          go_wp2
          go_ret
          exact ⟨_, rfl, o3.out, T10⟩
end Go.Proofs.Ytmgflcglmakceaa
