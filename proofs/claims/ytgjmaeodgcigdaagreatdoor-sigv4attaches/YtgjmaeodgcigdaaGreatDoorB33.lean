/- What a kind's hmac answers. · What digest.Hmac256 answers. · sigv4: the chain of keys. · sigv4.headerLines. -/
import Derived.Test.YtgjmaeodgcigdaaGreatDoorB32
import Derived.Deep.CutBlock
import Derived.Deep.CutRange
import Derived.Test.YtgjmaeodgcigdaaGreatDoorB21
import Derived.Test.YtgjmaeodgcigdaaGreatDoorB29
import Derived.Test.YtgjmaeodgcigdaaGreatDoorS6b
import Derived.Test.YtgjmaeodgcigdaaGreatDoorB25
import Derived.Test.YtgjmaeodgcigdaaGreatDoorB26
namespace Go.Proofs.YtgjmaeodgcigdaaGreatDoor
open Go.RowKit

theorem IsB.arr {w : World} {I T : Nat} (cs : List UInt8) (hB : Blk w I T (bv cs)) (hl : cs.length = 64) : IsB w (some ⟨I, 0, none⟩) 64 64 cs :=
  ⟨hl, Nat.le_refl _, by decide, fun e => (by cases e), fun _ => ⟨I, 0, rfl, fun i hi => by rw [Nat.zero_add, hB.cell i]; exact bv_at cs i (by omega)⟩⟩
theorem IsPs.two {w : World} (B : Nat) (a1 : Option Addr) (n1 c1 : Nat) (l1 : List UInt8) (a2 : Option Addr) (n2 c2 : Nat) (l2 : List UInt8) (hb : w.cell? ⟨B, 0, none⟩ = some (.slice a1 n1 c1)) (hb2 : w.cell? ⟨B, 1, none⟩ = some (.slice a2 n2 c2)) (h1 : IsB w a1 n1 c1 l1) (h2 : IsB w a2 n2 c2 l2) : IsPs w (some ⟨B, 0, none⟩) 2 2 [l1, l2] := by
  refine ⟨rfl, ⟨Nat.le_refl _, by decide⟩, fun _ => ⟨B, 0, rfl, fun i hi => ?_⟩⟩
  match i, hi with
  | 0, _ =>
    have e : ([l1, l2] : List (List UInt8)).getD 0 [] = l1 := rfl
    rw [e, h1.len_eq]
    exact ⟨a1, c1, hb, h1⟩
  | 1, _ =>
    have e : ([l1, l2] : List (List UInt8)).getD 1 [] = l2 := rfl
    rw [e, h2.len_eq]
    exact ⟨a2, c2, hb2, h2⟩

theorem Blk.other' {w w' : World} {B t : Nat} {cs : List Value} {X : Nat} (h : Blk w B t cs) (hg : w.grownBy w' (some X)) (hne : X ≠ B) : Blk w' B t cs := by
  unfold Blk
  rw [hg.block B h.lt (fun e => hne (by injection e with e; exact e.symm))]
  exact h
theorem bv_set (l : List UInt8) (i : Nat) (x : UInt8) : bv (l.set i x) = (bv l).set i (.int .u8 (x.toNat : Int)) := by unfold bv; rw [List.map_set]

theorem IsPs.at2 (w : World) (a1 : Option Addr) (n1 c1 : Nat) (l1 : List UInt8) (a2 : Option Addr) (n2 c2 : Nat) (l2 : List UInt8) (h1 : IsB w a1 n1 c1 l1) (h2 : IsB w a2 n2 c2 l2) : IsPs (w.alloc (.cells #[.slice a1 n1 c1, .slice a2 n2 c2] 23)) (some ⟨w.heap.size, 0, none⟩) 2 2 [l1, l2] := by
  have b0 : Below w.heap.size w (w.alloc (.cells #[.slice a1 n1 c1, .slice a2 n2 c2] 23)) := (Below.refl _ _).alloc (Nat.le_refl _) _
  have bb : Blk (w.alloc (.cells #[.slice a1 n1 c1, .slice a2 n2 c2] 23)) w.heap.size 23 [.slice a1 n1 c1, .slice a2 n2 c2] := Blk.newAt w _ _ _ _ rfl rfl
  exact IsPs.two w.heap.size _ _ _ _ _ _ _ _ (bb.cell 0) (bb.cell 1) (h1.below b0 rfl) (h2.below b0 rfl)

theorem sl64 (I : Nat) (w : World) : (Instr.sliceAt 175 (.pointer (some ⟨I, 0, none⟩)) none none none).run Tryz.prog w = .ok (.slice (some ⟨I, 0, none⟩) 64 64) w := by
  have he : Tryz.prog.elem 175 = 5 := by kernel_rfl
  have hn : Tryz.prog.arrayLen 175 = 64 := by kernel_rfl
  have hz : (sizeOf 5).run Tryz.prog w = .ok 1 w := by
    obtain ⟨i0, hi, hz0, hz1, hz2⟩ := info_parts info8
    simp [sizeOf, typeInfo, hi, hz1]
  rw [run_sliceAt_array_all w 175 ⟨I, 0, none⟩ (by rw [he, hn]; exact Tryz.underlying175), he, hn, hz]
  rfl
attribute [local go_sem ↓] sl64

set_option maxRecDepth 20000 in
set_option maxHeartbeats 1000000 in
theorem digHmac (mf : Nat) (mix : List UInt32 → List UInt8 → List UInt32) (s : S8) (hok : MixOK mf mix) (size : Nat) (hsz : size ≤ 32)
    (a : Option Addr) (len cap : Nat) (key : List UInt8) (a1 : Option Addr) (len1 cap1 : Nat) (l : List UInt8) (w : World) (h : IsB w a len cap key) (h1 : IsB w a1 len1 cap1 l) (hn : len < 1073741824) (hn1 : len1 < 1073741824) :
    Calls Tryz.prog 102 #[.agg (kcOf size s mf).toArray, .slice a len cap, .slice a1 len1 cap1] w fun e w' => ∃ v, e = .returned v ∧ OwnB w' w.heap.size v (hmL (fun A => hashL mix s.list size A) key l) ∧ Below w.heap.size w w' := by
  have HE : Hid (key.length = len) := h.len_eq
  have HE1 : Hid (l.length = len1) := h1.len_eq
  have bK : Below w.heap.size w (w.alloc (.cells (kcOf size s mf).toArray 135)) := (Below.refl _ _).alloc (Nat.le_refl _) _
  have H : Hid (IsB (w.alloc (.cells (kcOf size s mf).toArray 135)) a len cap key) := h.below bK rfl
  have H1 : Hid (IsB (w.alloc (.cells (kcOf size s mf).toArray 135)) a1 len1 cap1 l) := h1.below bK rfl
  have Bk : Blk (w.alloc (.cells (kcOf size s mf).toArray 135)) w.heap.size 135 (kcOf size s mf) := Blk.new w _ _
  clear h h1
  go_enter Tryz.func102, Tryz.ntmps102
  go_upto_if 12 with fail
  go_cut [1] from 12 (fun v wx => ∃ (x : Option Addr) (n c : Nat), v = .slice x n c ∧ n ≤ 64 ∧ Hid (IsB wx x n c (hkey (fun A => hashL mix s.list size A) key)) ∧ Hid (IsB wx a1 len1 cap1 l) ∧ Hid (Blk wx w.heap.size 135 (kcOf size s mf)) ∧ Below w.heap.size w wx)
  case first =>
    by_cases hk : 64 < len
    · have HK : Hid (hkey (fun A => hashL mix s.list size A) key = hashL mix s.list size key) := by unfold Hid hkey; rw [HE.out, if_pos hk]
      have hk' : (64 : Int) < (len : Int) := by omega
      go_wp2_with (refine wpList_load_row rfl 135 _ rfl _ rfl _ _ _ _ Bk Tryz.underlying135 rfl info10 ?_)
      have hb0 : Below w.heap.size w ((w.alloc (.cells (kcOf size s mf).toArray 135)).alloc (.cells #[.slice a len cap] 23)) := bK.alloc (by simp) _
      have hb1 : Below (w.alloc (.cells (kcOf size s mf).toArray 135)).heap.size (w.alloc (.cells (kcOf size s mf).toArray 135)) ((w.alloc (.cells (kcOf size s mf).toArray 135)).alloc (.cells #[.slice a len cap] 23)) := (Below.refl _ _).alloc (Nat.le_refl _) _
      refine (digDigest mf mix s hok size hsz _ _ _ [key] _ (by exact IsPs.one (w.heap.size + 1) a len cap key ((Blk.newAt _ _ _ _ [.slice a len cap] (by simp) rfl).cell 0) (H.out.below hb1 rfl)) (by simp [HE.out]; omega)).mono ?_
      rintro e y1 ⟨v1, rfl, o1, c1⟩
      have e1 : ([key] : List (List UInt8)).flatten = key := by simp
      rw [e1] at o1
      obtain ⟨x, c, rfl, i1⟩ := o1.isB
      have hl1 : (hashL mix s.list size key).length = size := by unfold hashL; rw [outB_length]
      have I1 : Hid (IsB y1 x size c (hkey (fun A => hashL mix s.list size A) key)) := by rw [HK.out]; have := i1; rw [hl1] at this; exact this
      have J1 : Hid (IsB y1 a1 len1 cap1 l) := (H1.out.below hb1 rfl).below c1 rfl
      have K1 : Hid (Blk y1 w.heap.size 135 (kcOf size s mf)) := (Bk.on hb1).on c1
      have T1 : Below w.heap.size w y1 := hb0.trans (c1.mono hb0.size)
      rw [hl1]
      clear i1 o1 hl1 hb0 hb1 c1
      go_wp2_with fail
      go_meet
      case rel => exact ⟨x, size, c, rfl, by omega, I1, J1, K1, T1⟩
    · have HK : Hid (hkey (fun A => hashL mix s.list size A) key = key) := by unfold Hid hkey; rw [HE.out, if_neg hk]
      have hk' : ¬ (64 : Int) < (len : Int) := by omega
      go_wp2_with fail
      go_meet
      case rel => exact ⟨a, len, cap, rfl, by omega, by rw [HK.out]; exact H.out, H1.out, Bk, bK⟩
  case rest =>
    obtain ⟨x, n, c, rfl, hn64, IK, IL, BK, T0⟩ := hcut
    obtain ⟨K, hKK⟩ : ∃ K, hkey (fun A => hashL mix s.list size A) key = K := ⟨_, rfl⟩
    have HKK : Hid (hmL (fun A => hashL mix s.list size A) key l = hashL mix s.list size (blkL K 92 ++ hashL mix s.list size (blkL K 54 ++ l))) := by unfold Hid hmL; rw [hKK]
    rw [hKK] at IK
    clear hKK
    clear H H1 Bk bK
    have HKn : Hid (K.length = n) := IK.out.len_eq
    go_upto_region 4 with fail
    have TB0 : Below wc.heap.size wc ((wc.alloc (.cells (bv (List.replicate 64 0)).toArray 175)).alloc (.cells (bv (List.replicate 64 0)).toArray 175)) := ((Below.refl _ _).alloc (Nat.le_refl _) _).alloc (by simp) _
    refine wp_named (fun y => Blk y wc.heap.size 175 (bv (List.replicate 64 0)) ∧ Blk y (wc.heap.size + 1) 175 (bv (List.replicate 64 0)) ∧ Below wc.heap.size wc y)
      ⟨(Blk.newAt wc _ _ _ (bv (List.replicate 64 0)) rfl rfl).alloc _, Blk.newAt _ _ _ _ (bv (List.replicate 64 0)) (by simp) rfl, TB0⟩ ?_
    clear TB0
    rintro y ⟨bI, bO, TB⟩
    obtain ⟨W1, hr1, bI1, g1⟩ := copy64 y wc.heap.size 175 (List.replicate 64 0) bI (List.length_replicate ..) x n c K (IK.out.below TB rfl) hn64
    have bO1 := bO.other' g1 (by omega)
    have TB1 : Below wc.heap.size wc W1 := TB.grown g1 TB.size (fun k hk => by injection hk with hk; omega)
    obtain ⟨W2, hr2, bO2, g2⟩ := copy64 W1 (wc.heap.size + 1) 175 (List.replicate 64 0) bO1 (List.length_replicate ..) x n c K (IK.out.below TB1 rfl) hn64
    have bI2 := bI1.other' g2 (by omega)
    have TB2 : Below wc.heap.size wc W2 := TB1.grown g2 TB1.size (fun k hk => by injection hk with hk; omega)
    rw [← HKn.out, ← xorTo_zero K 54 (by rw [HKn.out]; exact hn64)] at bI2
    rw [← HKn.out, ← xorTo_zero K 92 (by rw [HKn.out]; exact hn64)] at bO2
    have HI2 : Hid (Blk W2 wc.heap.size 175 (bv (xorTo K 54 0))) := bI2
    have HO2 : Hid (Blk W2 (wc.heap.size + 1) 175 (bv (xorTo K 92 0))) := bO2
    clear bI bO TB g1 bO1 TB1 g2 bI2 bO2 bI1
    go_wp2
    clear hr1 hr2
    go_loopw [23] (fun i wr => ∃ j : Nat, j ≤ 64 ∧ i = .int .i64 (j : Int) ∧ Hid (Blk wr wc.heap.size 175 (bv (xorTo K 54 j))) ∧ Hid (Blk wr (wc.heap.size + 1) 175 (bv (xorTo K 92 j))) ∧ Below wc.heap.size wc wr) (fun i _ => 64 - (intOf i).toNat)
    case atStart => exact ⟨0, by omega, rfl, HI2, HO2, TB2⟩
    case round =>
      clear HI2 HO2 TB2
      obtain ⟨j, hj, rfl, hI, hO, hT⟩ := hrel
      by_cases hlt : j < 64
      · have hj64 : (j : Int) < 64 := by omega
        have cI := (hI.out.cell j).trans (bv_at _ j (by rw [xorTo_length]; exact hlt))
        have cO := (hO.out.cell j).trans (bv_at _ j (by rw [xorTo_length]; exact hlt))
        rw [xorTo_at _ _ _ _ hlt, if_neg (by omega)] at cI cO
        have fI := hI.out.frozen j
        have fO := hO.out.frozen j
        have x1 : bits .xor .u8 ((nth K j).toNat : Int) 54 = ((xor8 (nth K j) 54).toNat : Int) := w_xor8 (nth K j) 54
        have x2 : bits .xor .u8 ((nth K j).toNat : Int) 92 = ((xor8 (nth K j) 92).toNat : Int) := w_xor8 (nth K j) 92
        have NI : Hid (Blk ((wr.setCell ⟨wc.heap.size, j, none⟩ (.int .u8 ((xor8 (nth K j) 54).toNat : Int))).setCell ⟨wc.heap.size + 1, j, none⟩ (.int .u8 ((xor8 (nth K j) 92).toNat : Int))) wc.heap.size 175 (bv (xorTo K 54 (j + 1)))) := by
          have := (hI.out.set j (.int .u8 ((xor8 (nth K j) 54).toNat : Int))).other ⟨wc.heap.size + 1, j, none⟩ (.int .u8 ((xor8 (nth K j) 92).toNat : Int)) (by simp)
          rw [← bv_set, xorTo_succ] at this; exact this
        have NO : Hid (Blk ((wr.setCell ⟨wc.heap.size, j, none⟩ (.int .u8 ((xor8 (nth K j) 54).toNat : Int))).setCell ⟨wc.heap.size + 1, j, none⟩ (.int .u8 ((xor8 (nth K j) 92).toNat : Int))) (wc.heap.size + 1) 175 (bv (xorTo K 92 (j + 1)))) := by
          have := (hO.out.other ⟨wc.heap.size, j, none⟩ (.int .u8 ((xor8 (nth K j) 54).toNat : Int)) (by simp)).set j (.int .u8 ((xor8 (nth K j) 92).toNat : Int))
          rw [← bv_set, xorTo_succ] at this; exact this
        have NT : Below wc.heap.size wc ((wr.setCell ⟨wc.heap.size, j, none⟩ (.int .u8 ((xor8 (nth K j) 54).toNat : Int))).setCell ⟨wc.heap.size + 1, j, none⟩ (.int .u8 ((xor8 (nth K j) 92).toNat : Int))) := (hT.trans (set_bel _ _ _ _ (Nat.le_refl _))).trans (set_bel _ _ _ _ (by omega))
        clear hI hO hT
        go_wp2
        exact ⟨⟨j + 1, by omega, by go_num, NI, NO, NT⟩, by simp [intOf]; omega⟩
      · have ej : j = 64 := by omega
        have hj64 : ¬ (j : Int) < 64 := by omega
        have bI : Blk wr wc.heap.size 175 (bv (blkL K 54)) := by rw [← xorTo_all, ← ej]; exact hI.out
        have bO : Blk wr (wc.heap.size + 1) 175 (bv (blkL K 92)) := by rw [← xorTo_all, ← ej]; exact hO.out
        have II : Hid (IsB wr (some ⟨wc.heap.size, 0, none⟩) 64 64 (blkL K 54)) := IsB.arr _ bI (blkL_length _ _)
        have Iou : Hid (IsB wr (some ⟨wc.heap.size + 1, 0, none⟩) 64 64 (blkL K 92)) := IsB.arr _ bO (blkL_length _ _)
        have IL9 : Hid (IsB wr a1 len1 cap1 l) := IL.out.below hT rfl
        have BK9 : Blk wr w.heap.size 135 (kcOf size s mf) := BK.out.on hT
        have T9 : Below w.heap.size w wr := T0.trans (hT.mono T0.size)
        have lK : w.heap.size < wr.heap.size := BK9.lt
        have k0 : wr.cell? ⟨w.heap.size, 0, none⟩ = some (.int .i64 (size : Int)) := BK9.cell 0
        have k1 : wr.cell? ⟨w.heap.size, 1, none⟩ = some (.int .u32 (s.a.toNat : Int)) := BK9.cell 1
        have k2 : wr.cell? ⟨w.heap.size, 2, none⟩ = some (.int .u32 (s.b.toNat : Int)) := BK9.cell 2
        have k3 : wr.cell? ⟨w.heap.size, 3, none⟩ = some (.int .u32 (s.c.toNat : Int)) := BK9.cell 3
        have k4 : wr.cell? ⟨w.heap.size, 4, none⟩ = some (.int .u32 (s.d.toNat : Int)) := BK9.cell 4
        have k5 : wr.cell? ⟨w.heap.size, 5, none⟩ = some (.int .u32 (s.e.toNat : Int)) := BK9.cell 5
        have k6 : wr.cell? ⟨w.heap.size, 6, none⟩ = some (.int .u32 (s.f.toNat : Int)) := BK9.cell 6
        have k7 : wr.cell? ⟨w.heap.size, 7, none⟩ = some (.int .u32 (s.g.toNat : Int)) := BK9.cell 7
        have k8 : wr.cell? ⟨w.heap.size, 8, none⟩ = some (.int .u32 (s.h.toNat : Int)) := BK9.cell 8
        have k9 : wr.cell? ⟨w.heap.size, 9, none⟩ = some (.func (.func mf) #[] #[]) := BK9.cell 9
        have lI := blkL_length K 54
        have lO := blkL_length K 92
        have hA : Hid (IsPs (wr.alloc (.cells #[.slice (some ⟨wc.heap.size, 0, none⟩) 64 64, .slice a1 len1 cap1] 23)).drew (some ⟨wr.heap.size, 0, none⟩) 2 2 [blkL K 54, l]) := by
          have b0 : Below wr.heap.size wr (wr.alloc (.cells #[.slice (some ⟨wc.heap.size, 0, none⟩) 64 64, .slice a1 len1 cap1] 23)).drew := ((Below.refl _ _).alloc (Nat.le_refl _) _).drew
          have bb : Blk (wr.alloc (.cells #[.slice (some ⟨wc.heap.size, 0, none⟩) 64 64, .slice a1 len1 cap1] 23)).drew wr.heap.size 23 [.slice (some ⟨wc.heap.size, 0, none⟩) 64 64, .slice a1 len1 cap1] := Blk.newAt wr _ _ _ _ rfl rfl
          exact IsPs.two wr.heap.size _ _ _ _ _ _ _ _ (bb.cell 0) (bb.cell 1) (II.out.below b0 rfl) (IL9.out.below b0 rfl)
        have hAl : ([blkL K 54, l] : List (List UInt8)).flatten.length < 4294967296 := by simp [lI, HE1.out]; omega
        have HAf : Hid (([blkL K 54, l] : List (List UInt8)).flatten = blkL K 54 ++ l) := by unfold Hid; simp
        have bA : Below wr.heap.size wr (wr.alloc (.cells #[.slice (some ⟨wc.heap.size, 0, none⟩) 64 64, .slice a1 len1 cap1] 23)).drew := ((Below.refl _ _).alloc (Nat.le_refl _) _).drew
        have HAl : Hid (([blkL K 54, l] : List (List UInt8)).flatten.length < 4294967296) := hAl
        clear hI hO hT bI bO BK9 ej IL BK T0 IK hAl lI
        go_wp2
        go_region_held3 (fun w' => w'.cell? ⟨w.heap.size, 0, none⟩ = some (.int .i64 (size : Int)) ∧ w'.cell? ⟨w.heap.size, 1, none⟩ = some (.int .u32 (s.a.toNat : Int)) ∧ w'.cell? ⟨w.heap.size, 2, none⟩ = some (.int .u32 (s.b.toNat : Int)) ∧ w'.cell? ⟨w.heap.size, 3, none⟩ = some (.int .u32 (s.c.toNat : Int)) ∧ w'.cell? ⟨w.heap.size, 4, none⟩ = some (.int .u32 (s.d.toNat : Int)) ∧ w'.cell? ⟨w.heap.size, 5, none⟩ = some (.int .u32 (s.e.toNat : Int)) ∧ w'.cell? ⟨w.heap.size, 6, none⟩ = some (.int .u32 (s.f.toNat : Int)) ∧ w'.cell? ⟨w.heap.size, 7, none⟩ = some (.int .u32 (s.g.toNat : Int)) ∧ w'.cell? ⟨w.heap.size, 8, none⟩ = some (.int .u32 (s.h.toNat : Int)) ∧ w'.cell? ⟨w.heap.size, 9, none⟩ = some (.func (.func mf) #[] #[]))
          (first | (exact ⟨(d2.cell (p := ⟨w.heap.size, 0, none⟩) lK).trans k0, (d2.cell (p := ⟨w.heap.size, 1, none⟩) lK).trans k1, (d2.cell (p := ⟨w.heap.size, 2, none⟩) lK).trans k2, (d2.cell (p := ⟨w.heap.size, 3, none⟩) lK).trans k3, (d2.cell (p := ⟨w.heap.size, 4, none⟩) lK).trans k4, (d2.cell (p := ⟨w.heap.size, 5, none⟩) lK).trans k5, (d2.cell (p := ⟨w.heap.size, 6, none⟩) lK).trans k6, (d2.cell (p := ⟨w.heap.size, 7, none⟩) lK).trans k7, (d2.cell (p := ⟨w.heap.size, 8, none⟩) lK).trans k8, (d2.cell (p := ⟨w.heap.size, 9, none⟩) lK).trans k9⟩) | (exact ⟨(d1.cell (p := ⟨w.heap.size, 0, none⟩) lK).trans k0, (d1.cell (p := ⟨w.heap.size, 1, none⟩) lK).trans k1, (d1.cell (p := ⟨w.heap.size, 2, none⟩) lK).trans k2, (d1.cell (p := ⟨w.heap.size, 3, none⟩) lK).trans k3, (d1.cell (p := ⟨w.heap.size, 4, none⟩) lK).trans k4, (d1.cell (p := ⟨w.heap.size, 5, none⟩) lK).trans k5, (d1.cell (p := ⟨w.heap.size, 6, none⟩) lK).trans k6, (d1.cell (p := ⟨w.heap.size, 7, none⟩) lK).trans k7, (d1.cell (p := ⟨w.heap.size, 8, none⟩) lK).trans k8, (d1.cell (p := ⟨w.heap.size, 9, none⟩) lK).trans k9⟩) | go_keep)
          ((first
            | (go_at_call 89; refine (digDigest mf mix s hok size hsz _ _ _ [blkL K 92, hashL mix s.list size (blkL K 54 ++ l)] _ (by exact HB2.out) (by simp [lO, hl1]; omega)).mono ?_; rintro e y2 ⟨v2, rfl, o2, c2⟩; have d2 : Below wr.heap.size wr y2 := (d1.alloc d1.size _).trans (c2.mono (by have := d1.size; simp; omega)))
            | (go_at_call 89; refine (digDigest mf mix s hok size hsz _ _ _ [blkL K 54, l] _ hA.out HAl.out).mono ?_; rintro e y1 ⟨v1, rfl, o1, c1⟩; have d1 : Below wr.heap.size wr y1 := bA.trans (c1.mono bA.size); rw [HAf.out] at o1; have hl1 : (hashL mix s.list size (blkL K 54 ++ l)).length = size := (by unfold hashL; rw [outB_length]); obtain ⟨z1, q1, rfl, i1⟩ := o1.isB; rw [hl1] at i1 ⊢; have HB2 : Hid (IsPs (y1.alloc (.cells #[.slice (some ⟨wc.heap.size + 1, 0, none⟩) 64 64, .slice z1 size q1] 23)) (some ⟨y1.heap.size, 0, none⟩) 2 2 [blkL K 92, hashL mix s.list size (blkL K 54 ++ l)]) := IsPs.at2 y1 _ _ _ _ _ _ _ _ (Iou.out.below d1 rfl) i1)))
        all_goals
          have HBf : ([blkL K 92, hashL mix s.list size (blkL K 54 ++ l)] : List (List UInt8)).flatten = blkL K 92 ++ hashL mix s.list size (blkL K 54 ++ l) := by simp
          rw [HBf, ← HKK.out] at o2
          have T10 : Below w.heap.size w y2 := T9.trans (d2.mono T9.size)
          have o3 : Hid (OwnB y2 w.heap.size v2 (hmL (fun A => hashL mix s.list size A) key l)) := o2.base (by have h3 := d1.size; have h4 := T9.size; simp; omega)
          clear o2 o1 HBf i1 c1 c2 d1 d2 k0 k1 k2 k3 k4 k5 k6 k7 k8 k9 HB2
          go_wp2
          go_ret
          exact ⟨_, rfl, o3.out, T10⟩
end Go.Proofs.YtgjmaeodgcigdaaGreatDoor
namespace Go.Proofs.YtgjmaeodgcigdaaGreatDoor
open Go.RowKit

set_option maxRecDepth 20000 in
set_option maxHeartbeats 400000 in
theorem digHmac256 (a : Option Addr) (len cap : Nat) (key : List UInt8) (a1 : Option Addr) (len1 cap1 : Nat) (l : List UInt8) (w : World) (h : IsB w a len cap key) (h1 : IsB w a1 len1 cap1 l) (hn : len < 1073741824) (hn1 : len1 < 1073741824) :
    Calls Tryz.prog 51 #[.slice a len cap, .slice a1 len1 cap1] w fun e w' => ∃ v, e = .returned v ∧ OwnB w' w.heap.size v (hmL sha256L key l) ∧ Below w.heap.size w w' := by
  have H : Hid (IsB w a len cap key) := h
  have H1 : Hid (IsB w a1 len1 cap1 l) := h1
  clear h h1
  go_enter Tryz.func51, Tryz.ntmps51
  go_wp2_with fail
  refine (digKind256 _).mono ?_
  rintro e w1 ⟨rfl, bel1⟩
  have H2 : Hid (IsB w1 a len cap key) := H.out.below bel1 rfl
  have H3 : Hid (IsB w1 a1 len1 cap1 l) := H1.out.below bel1 rfl
  go_wp2_with fail
  refine (digHmac 131 mix256L s256 mixOK256 32 (by omega) _ _ _ key _ _ _ l w1 H2.out H3.out hn hn1).mono ?_
  rintro e w2 ⟨v, rfl, hown, bel2⟩
  have ho : Hid (OwnB w2 w.heap.size v (hmL sha256L key l)) := hown.base bel1.size
  have hb : Below w.heap.size w w2 := bel1.trans (bel2.mono bel1.size)
  clear hown
  go_wp2
  go_ret
  exact ⟨_, rfl, ho.out, hb⟩
end Go.Proofs.YtgjmaeodgcigdaaGreatDoor
namespace Go.Proofs.YtgjmaeodgcigdaaGreatDoor
open Go.RowKit

theorem conv_ex (W : World) (l : List UInt8) (hl : l.length ≤ 100000000) : ∃ cap x, (convert 9 23 (.string (str l))).run Tryz.prog W = .ok (.slice (some ⟨W.heap.size, 0, none⟩) l.length cap) x ∧ IsB x (some ⟨W.heap.size, 0, none⟩) l.length cap l ∧ Below W.heap.size W x := by
  have h1 := conv_str W (str l)
  have h2 := conv_str_isB W (str l) (by rw [str_size]; unfold maxLen; omega)
  rw [sL_str, str_size] at h2
  rw [str_size] at h1
  exact ⟨_, _, h1, h2, conv_str_bel W (str l)⟩
/-- digest.Hmac256, with what it tells -/
theorem codHm (a : Option Addr) (n c : Nat) (key : List UInt8) (a1 : Option Addr) (n1 c1 : Nat) (l : List UInt8) (w : World) (h : IsB w a n c key) (h1 : IsB w a1 n1 c1 l) (hn : n < 1073741824) (hn1 : n1 < 1073741824) :
    Calls Tryz.prog 51 #[.slice a n c, .slice a1 n1 c1] w fun e w' => (∃ va vc, e = .returned (.slice va 32 vc) ∧ IsB w' va 32 vc (hmL sha256L key l)) ∧ Below w.heap.size w w' := (digHmac256 a n c key a1 n1 c1 l w h h1 hn hn1).mono (by
  rintro e w' ⟨v, rfl, ho, hb⟩
  obtain ⟨va, vc, rfl, hi⟩ := ho.isB
  rw [hm_length] at hi ⊢
  exact ⟨⟨va, vc, rfl, hi⟩, hb⟩)
def chainTo (first : List UInt8) (ts : List (List UInt8)) : Nat → List UInt8
  | 0 => first
  | k + 1 => hmL sha256L (chainTo first ts k) (nthT ts k)

set_option maxRecDepth 20000 in
set_option maxHeartbeats 2000000 in
theorem codChained (first : List UInt8) (ta : Option Addr) (tn tc : Nat) (ts : List (List UInt8)) (w : World) (hT : IsT w ta tn tc ts) (hf : first.length ≤ 1000000) (hz : ∀ i, i < ts.length → (nthT ts i).length ≤ 1000000) (h1 : 1 ≤ tn) (h2 : tn ≤ 1000) :
    Calls Tryz.prog 55 #[.string (str first), .slice ta tn tc] w fun e w' => (∃ va vc, e = .returned (.slice va 32 vc) ∧ IsB w' va 32 vc (chainTo first ts ts.length)) ∧ Below w.heap.size w w' := by
  have HL := hT.len_eq
  obtain ⟨b, off, rfl, hcl⟩ := hT.cells (by omega)
  obtain ⟨cp0, x0, hcv0, hi0, hb0⟩ := conv_ex w first (by omega)
  have HI0 : Hid (IsB x0 (some ⟨w.heap.size, 0, none⟩) first.length cp0 first) := hi0
  have HB0 : Hid (Below w.heap.size w x0) := hb0
  clear hT hi0 hb0
  generalize hfl : first.length = fl at *
  generalize hsf : str first = sf at *
  go_enter Tryz.func55, Tryz.ntmps55
  go_wp2
  go_loopw [5, 12] (fun v i wr => ∃ (k : Nat), k ≤ tn ∧ i = .int .i64 k ∧ ∃ ka kn kc, v = .slice ka kn kc ∧ Hid (IsB wr ka kn kc (chainTo first ts k) ∧ (kn ≤ 1000000 ∧ (0 < k → kn = 32)) ∧ Below w.heap.size w wr)) (fun _ i _ => tn - (intOf i).toNat)
  case atStart => exact ⟨0, Nat.zero_le _, rfl, _, _, _, rfl, HI0.out, ⟨hf, fun h => absurd h (Nat.lt_irrefl 0)⟩, HB0.out⟩
  case round =>
    obtain ⟨k, hk, rfl, ka, kn, kc, rfl, HW⟩ := hrel
    clear hcv0
    by_cases hlt : k < tn
    · have c0 := hcl k hlt
      have c1 := (HW.out.2.2.cell (p := ⟨b, off + k, none⟩) (cell_lt c0)).trans c0
      have hp0 : (0 : Int) ≤ (k : Int) := by omega
      have hp1 : (k : Int) < (tn : Int) := by omega
      have hzk := hz k (by omega)
      obtain ⟨cp1, x1, hcv1, hi1, hb1⟩ := conv_ex wr (nthT ts k) (by omega)
      have HH := codHm ka kn kc _ _ _ _ _ x1 (HW.out.1.below hb1 rfl) hi1 (by have := HW.out.2.1.1; omega) (by omega)
      have HB1 : Hid (Below w.heap.size w x1) := HW.out.2.2.trans (hb1.mono HW.out.2.2.size)
      clear c0 hi1 hb1
      generalize (nthT ts k).length = n1 at *
      generalize str (nthT ts k) = s1 at *
      go_wp2_with (go_at_call 51; refine HH.mono ?_; rintro e x2 ⟨⟨va, vc, rfl, hi2⟩, hb2⟩)
      go_roundw
      case rel => exact ⟨k + 1, hlt, by go_num, va, 32, vc, rfl, hi2, ⟨by omega, fun _ => rfl⟩, HB1.out.trans (hb2.mono HB1.out.size)⟩
      case measure => simp [intOf]; omega
    · have hge : ¬ (k : Int) < (tn : Int) := by omega
      have hkn : k = tn := by omega
      subst hkn
      obtain ⟨g1, ⟨g2, g3⟩, g4⟩ := HW.out
      have e32 := g3 (by omega)
      subst e32
      have G1 : Hid (IsB wr ka 32 kc (chainTo first ts k)) := g1
      clear g1 g2 g3 HW
      go_wp2
      go_ret
      exact ⟨⟨ka, kc, rfl, by first | exact G1.out | (rw [HL]; exact G1.out)⟩, g4⟩

set_option maxRecDepth 20000 in
set_option maxHeartbeats 1000000 in
theorem codKey (sec dat : List UInt8) (w : World) (z1 : sec.length ≤ 100000) (z2 : dat.length ≤ 100000) :
    Calls Tryz.prog 17 #[.string (str sec), .string (str dat)] w fun e w' => (∃ va vc, e = .returned (.slice va 32 vc) ∧ IsB w' va 32 vc (keyL sec dat)) ∧ Below w.heap.size w w' := by
  have y1 : ¬ 9223372036854775807 < 4 + (str sec).size := by rw [str_size]; omega
  have ek : (⟨#[65, 87, 83, 52]⟩ : ByteArray) ++ str sec = str (sAws ++ sec) := by rw [show (⟨#[65, 87, 83, 52]⟩ : ByteArray) = str sAws from rfl, str_append2]
  have hI : IsT (w.alloc (.cells #[.string (str dat), .string ⟨#[108, 111, 99, 97, 108]⟩, .string ⟨#[115, 51]⟩, .string ⟨#[97, 119, 115, 52, 95, 114, 101, 113, 117, 101, 115, 116]⟩] 9)) (some ⟨w.heap.size, 0, none⟩) 4 4 [dat, sLocal, sS3, sReq] := isT_new w 9 [dat, sLocal, sS3, sReq] (by simp)
  have HC := codChained (sAws ++ sec) _ _ _ _ _ hI (by rw [List.length_append]; simp [sAws]; omega) (fun i hi => by
    match i, hi with
    | 0, _ => show dat.length ≤ _; omega
    | 1, _ => show sLocal.length ≤ _; decide
    | 2, _ => show sS3.length ≤ _; decide
    | 3, _ => show sReq.length ≤ _; decide
    | j + 4, h => simp at h; omega) (by omega) (by omega)
  have hk : chainTo (sAws ++ sec) [dat, sLocal, sS3, sReq] 4 = keyL sec dat := rfl
  change Calls Tryz.prog 55 _ _ fun e w' => (∃ va vc, e = .returned (.slice va 32 vc) ∧ IsB w' va 32 vc (chainTo (sAws ++ sec) [dat, sLocal, sS3, sReq] 4)) ∧ _ at HC
  rw [hk, ← ek] at HC
  have hb0 : Below w.heap.size w (w.alloc (.cells #[.string (str dat), .string ⟨#[108, 111, 99, 97, 108]⟩, .string ⟨#[115, 51]⟩, .string ⟨#[97, 119, 115, 52, 95, 114, 101, 113, 117, 101, 115, 116]⟩] 9)) := (Below.refl _ w).alloc (Nat.le_refl _) _
  clear hI ek hk
  generalize keyL sec dat = kl at *
  generalize str sec = ssec at *
  generalize str dat = sdat at *
  go_enter Tryz.func17, Tryz.ntmps17
  go_wp2_with (go_at_call 55; refine HC.mono ?_; rintro e w' ⟨⟨va, vc, rfl, hi⟩, hb⟩)
  go_ret
  exact ⟨⟨va, vc, rfl, hi⟩, hb0.trans (hb.mono hb0.size)⟩
end Go.Proofs.YtgjmaeodgcigdaaGreatDoor
namespace Go.Proofs.YtgjmaeodgcigdaaGreatDoor
open Go.RowKit

theorem Builder_below {T e B b n : Nat} {bs : List Value} {w w' : World} (h : Lib.IsBuilder T e B b bs w) (hb : Below n w w') (hn : n = w.heap.size) : Lib.IsBuilder T e B b bs w' := by
  subst hn
  have go : ∀ p, Lib.BuilderAt T e B b p bs w → Lib.BuilderAt T e B b p bs w' := fun p h => by
    obtain ⟨h1, v, h2, h3, h4⟩ := h
    refine ⟨h1, v, ?_, ⟨h3.1, ?_⟩, h4⟩
    · rw [hb.block b (Array.getElem?_eq_some_iff.1 h2).1]; exact h2
    · rcases h3.2 with h5 | ⟨g, cap, cur, e3, e4, e5, e6⟩
      · exact .inl h5
      · exact .inr ⟨g, cap, cur, e3, e4, by rw [hb.block g (Array.getElem?_eq_some_iff.1 e5).1]; exact e5, e6⟩
  rcases h with h | h
  · exact .inl (go _ h)
  · exact .inr (go _ h)
theorem builder_new (w : World) (T e : Nat) : Lib.IsBuilder T e w.heap.size w.heap.size (Lib.byteCells []) (w.alloc (.cells #[.pointer none, .slice none 0 0] T)) :=
  .inl ⟨Nat.le_refl _, .slice none 0 0, heap_alloc_new w _, World.ownsRow_nil _ _ _ _, by simp [Value.ownBlock]⟩
theorem codWriteString (B b : Nat) (l : List UInt8) (s : List UInt8) (w : World) (h : Lib.IsBuilder 109 5 B b (Lib.byteCells l) w) (hlen : l.length + s.length ≤ 140737488355328) (hB : B ≤ w.heap.size) :
    Calls Tryz.prog 76 #[.pointer (some ⟨b, 0, none⟩), .string (str s)] w fun e w' => e = .returned (.tuple #[.int .i64 (str s).size, .nilIface]) ∧ Lib.IsBuilder 109 5 B b (Lib.byteCells (l ++ s)) w' ∧ Below B w w' := by
  have hc := Any.Builder_WriteString { Tryz.lays156 with } Tryz.Builder_Extra_156 B b (Lib.byteCells l) (str s) w h (by rw [Lib.byteCells_length, str_size]; exact hlen) hB
  change Calls Tryz.prog 76 _ _ _ at hc
  refine hc.mono ?_
  rintro e w' ⟨rfl, h1, h2⟩
  rw [Lib.strCells_eq, str_list, ← Lib.byteCells_append] at h1
  exact ⟨rfl, .inr h1, h2⟩
theorem codString (B b : Nat) (l : List UInt8) (w : World) (h : Lib.IsBuilder 109 5 B b (Lib.byteCells l) w) (hB : B ≤ w.heap.size) :
    Calls Tryz.prog 77 #[.pointer (some ⟨b, 0, none⟩)] w fun e w' => e = .returned (.string (str l)) ∧ Below B w w' := Tryz.Builder_String_any B b l w h hB

set_option maxRecDepth 20000 in
set_option maxHeartbeats 2000000 in
theorem codLines (m p q bd : Value) (ha : Option Addr) (hn hc : Nat) (hs : List Pr) (ta : Option Addr) (tn tc : Nat) (ts : List (List UInt8)) (w : World)
    (hP : IsP w ha hn hc hs) (hT : IsT w ta tn tc ts) (hnm : namesL ts = true) (zh : ∀ i, i < hs.length → (nthP hs i).2.length ≤ 30000) :
    Calls Tryz.prog 31 #[.agg #[m, p, q, .slice ha hn hc, bd], .slice ta tn tc] w fun e w' => e = .returned (.tuple #[.string (str (if hasAll hs ts then linesTo hs ts ts.length else [])), .int .i64 (if hasAll hs ts then 0 else 11)]) ∧ Below w.heap.size w w' := by
  have HL := hT.len_eq
  have HTw : Hid (∀ W, Below w.heap.size w W → IsT W ta tn tc ts) := fun W hW => hT.below hW rfl
  have HPw : Hid (∀ W, Below w.heap.size w W → IsP W ha hn hc hs) := fun W hW => hP.below hW rfl
  obtain ⟨nl, n24⟩ := names_facts hnm
  rw [HL] at n24
  have HLn : Hid (∀ k, k ≤ tn → (linesTo hs ts k).length ≤ 1000000) := fun k hk => by
    have h1 := lines_len 30000 zh nl k (by omega)
    have h2 : k * (30000 + 66) ≤ 24 * (30000 + 66) := Nat.mul_le_mul_right _ (by omega)
    omega
  obtain ⟨W0, hW0⟩ : ∃ W0, W0 = (w.alloc (.cells #[m, p, q, .slice ha hn hc, bd] 34)).alloc (.cells #[.pointer none, .slice none 0 0] 109) := ⟨_, rfl⟩
  have HBu : Hid (Lib.IsBuilder 109 5 (w.heap.size + 1) (w.heap.size + 1) (Lib.byteCells (linesTo hs ts 0)) W0) := by
    have := builder_new (w.alloc (.cells #[m, p, q, .slice ha hn hc, bd] 34)) 109 5
    rw [show (w.alloc (.cells #[m, p, q, .slice ha hn hc, bd] 34)).heap.size = w.heap.size + 1 from by simp] at this
    rw [hW0]; exact this
  have T0 : Hid (Below w.heap.size w W0) := by rw [hW0]; exact ((Below.refl _ w).alloc (Nat.le_refl _) _).alloc (by simp) _
  have K0 : Hid (Blk W0 w.heap.size 34 [m, p, q, .slice ha hn hc, bd]) := by rw [hW0]; exact (Blk.newAt w _ _ _ _ rfl rfl).alloc _
  have S0 : Hid (w.heap.size + 1 < W0.heap.size) := by rw [hW0]; simp [Hid]
  have HNO : Hid (hasAll hs ts = false → (if hasAll hs ts then linesTo hs ts ts.length else []) = [] ∧ (if hasAll hs ts then (0 : Int) else 11) = 11) := fun h => by rw [h]; exact ⟨rfl, rfl⟩
  have HYE : Hid (hasAll hs ts = true → (if hasAll hs ts then linesTo hs ts ts.length else []) = linesTo hs ts ts.length ∧ (if hasAll hs ts then (0 : Int) else 11) = 0) := fun h => by rw [h]; exact ⟨rfl, rfl⟩
  generalize (if hasAll hs ts then linesTo hs ts ts.length else []) = rl at *
  generalize (if hasAll hs ts then (0 : Int) else 11) = re at *
  clear hP hT
  go_enter Tryz.func31, Tryz.ntmps31
  go_wp2
  rw [← hW0]
  go_loopw [13] (fun i wr => ∃ (k : Nat), k ≤ tn ∧ i = .int .i64 k ∧ Hid ((ts.take k).all (fun t => (findL hs t).isSome) = true) ∧ Hid (Below (w.heap.size + 1) W0 wr ∧ Lib.IsBuilder 109 5 (w.heap.size + 1) (w.heap.size + 1) (Lib.byteCells (linesTo hs ts k)) wr)) (fun i _ => tn - (intOf i).toNat)
  case atStart => exact ⟨0, Nat.zero_le _, rfl, rfl, Below.refl _ _, HBu.out⟩
  case round =>
    obtain ⟨k, hk, rfl, HD, HW⟩ := hrel
    have hTw : Below w.heap.size w wr := T0.out.trans (HW.out.1.mono (by omega))
    have HTw1 : Hid (Below w.heap.size w wr) := hTw
    clear hW0 HBu
    by_cases hlt : k < tn
    · obtain ⟨b, off, rfl, hcl⟩ := (HTw.out wr hTw).cells (by omega)
      have c1 := hcl k hlt
      have hb0 : (0 : Int) ≤ (k : Int) := by omega
      have hb1 : (k : Int) < (tn : Int) := by omega
      have hkl : k < ts.length := by rw [HL]; exact hlt
      have hKr : Blk wr w.heap.size 34 [m, p, q, .slice ha hn hc, bd] := K0.out.below HW.out.1 (by omega)
      have q0 : wr.cell? ⟨w.heap.size, 0, none⟩ = some m := hKr.cell 0
      have q1 : wr.cell? ⟨w.heap.size, 1, none⟩ = some p := hKr.cell 1
      have q2 : wr.cell? ⟨w.heap.size, 2, none⟩ = some q := hKr.cell 2
      have q3 : wr.cell? ⟨w.heap.size, 3, none⟩ = some (.slice ha hn hc) := hKr.cell 3
      have q4 : wr.cell? ⟨w.heap.size, 4, none⟩ = some bd := hKr.cell 4
      have HG := codGet m p q bd ha hn hc hs (nthT ts k) wr (HPw.out wr hTw)
      cases hf : findL hs (nthT ts k) with
      | none =>
        obtain ⟨e1, e2⟩ := HNO.out (has_no6 hkl hf)
        rw [hf] at HG
        have HE1 : Hid (rl = []) := e1
        have HE2 : Hid (re = 11) := e2
        clear HNO HYE e1 e2 hcl HL hKr
        change Calls Tryz.prog 75 _ _ fun e w' => e = .returned (.tuple #[.string ⟨#[]⟩, .bool false]) ∧ _ at HG
        generalize str (nthT ts k) = s1 at *
        go_wp2_with (go_at_call 75; refine HG.mono ?_; rintro e x1 ⟨rfl, hbx⟩)
        go_ret2
        exact ⟨ret_se6 (by rw [HE1.out]; rfl) HE2.out.symm, HTw1.out.trans (hbx.mono HTw1.out.size)⟩
      | some vv =>
        rw [hf] at HG
        have HA : Hid ((ts.take (k + 1)).all (fun t => (findL hs t).isSome) = true) := by unfold Hid; rw [takeT ts k hkl, List.all_append, HD.out]; simp [hf]
        have HT : str (nthT ts k) ++ ⟨#[58]⟩ ++ str vv ++ ⟨#[10]⟩ = str (lineT hs (nthT ts k)) := by
          rw [show (⟨#[58]⟩ : ByteArray) = str [58] from rfl, show (⟨#[10]⟩ : ByteArray) = str [10] from rfl, str_append2, str_append2, str_append2]
          unfold lineT
          rw [hf]
          simp only [Option.getD_some, List.append_assoc]
        have l1 := HLn.out (k + 1) hlt
        have l2 := nl k hkl
        have l3 : vv.length ≤ 30000 := by
          obtain ⟨i, hi, e⟩ := find_mem6 hf
          have := zh i hi
          rw [e] at this; exact this
        have z2 : ¬ 9223372036854775807 < (str (nthT ts k)).size + 1 := by rw [str_size]; omega
        have z3 : ¬ 9223372036854775807 < (str (nthT ts k)).size + 1 + (str vv).size := by rw [str_size, str_size]; omega
        have z4 : ¬ 9223372036854775807 < (str (nthT ts k)).size + 1 + (str vv).size + 1 := by rw [str_size, str_size]; omega
        have hl1 : (linesTo hs ts k).length + (lineT hs (nthT ts k)).length ≤ 140737488355328 := by
          rw [linesTo, List.length_append] at l1; omega
        have HWr : Hid (∀ X, Below wr.heap.size wr X → Calls Tryz.prog 76 #[.pointer (some ⟨w.heap.size + 1, 0, none⟩), .string (str (nthT ts k) ++ ⟨#[58]⟩ ++ str vv ++ ⟨#[10]⟩)] X fun e w' => e = .returned (.tuple #[.int .i64 (str (lineT hs (nthT ts k))).size, .nilIface]) ∧ Lib.IsBuilder 109 5 (w.heap.size + 1) (w.heap.size + 1) (Lib.byteCells (linesTo hs ts (k + 1))) w' ∧ Below (w.heap.size + 1) X w') := fun X hX => by
          rw [HT]
          exact codWriteString _ _ (linesTo hs ts k) (lineT hs (nthT ts k)) X (Builder_below HW.out.2 hX rfl) hl1 (by have := hX.size; have := HW.out.1.size; have := S0.out; omega)
        have S1 : Hid (w.heap.size + 1 ≤ wr.heap.size) := by have := HW.out.1.size; have := S0.out; unfold Hid; omega
        clear HNO HYE hcl HL l1 l2 l3 hf hKr HT hl1
        generalize (str (lineT hs (nthT ts k))).size = sz at *
        generalize str (nthT ts k) = s1 at *
        change Calls Tryz.prog 75 _ _ fun e w' => e = .returned (.tuple #[.string (str vv), .bool true]) ∧ _ at HG
        generalize str vv = sv2 at *
        go_wp2_with (first | (go_at_call 75; refine HG.mono ?_; rintro e x1 ⟨rfl, hbx⟩) | (go_at_call 76; refine (HWr.out _ hbx).mono ?_; rintro e x2 ⟨rfl, hbu, hby⟩))
        go_roundw
        case rel => exact ⟨k + 1, hlt, by go_num, HA, (HW.out.1.trans (hbx.mono S1.out)).trans hby, hbu⟩
        case measure => simp [intOf]; omega
    · have hge : ¬ (k : Int) < (tn : Int) := by omega
      have hkn : k = tn := by omega
      subst hkn
      have hall : hasAll hs ts = true := by
        have := HD.out
        rw [List.take_of_length_le (by rw [HL]; exact Nat.le_refl _)] at this
        exact this
      obtain ⟨e1, e2⟩ := HYE.out hall
      rw [HL] at e1
      have HE1 : Hid (rl = linesTo hs ts k) := e1
      have HE2 : Hid (re = 0) := e2
      have HS := codString _ _ (linesTo hs ts k) wr HW.out.2 (by have := HW.out.1.size; have := S0.out; omega)
      clear HNO HYE e1 e2
      go_wp2_with (go_at_call 77; refine HS.mono ?_; rintro e x1 ⟨rfl, hbx⟩)
      go_ret2
      exact ⟨ret_se6 (by rw [HE1.out]) HE2.out.symm, HTw1.out.trans (hbx.mono (by omega))⟩
end Go.Proofs.YtgjmaeodgcigdaaGreatDoor
