/- The program's journal: the front sectors. · Plain facts: what is read of what was written. · What a seal says, plain: it is read as it was written. -/
import Derived.Test.YtdeoankmmolebaaGreatB28
import Derived.Test.YtdeoankmmolebaaGreatB8
import Derived.Test.YtdeoankmmolebaaGreatB7
import Derived.Test.YtdeoankmmolebaaGreatB23
namespace Go.Proofs.YtdeoankmmolebaaGreat
open Go.RowKit

set_option maxRecDepth 20000 in
set_option maxHeartbeats 2000000 in
/-- a Read of a disk that is up -/
theorem codReadOk (X : Nat → Prop) (P base : Nat) (p : Pl) (k : Nat) (w : World) (h : IsD X w P base p) (hf : FewP p) (hoff : p.off = false) (hk : k < p.n) :
    Calls Tryz.prog 65 #[.pointer (some ⟨P, 0, none⟩), .int .i64 (k : Int)] w fun e w' => ∃ g, e = .returned (.tuple #[.slice (some ⟨g, 0, none⟩) 512 512, .int .i64 0]) ∧ w.heap.size ≤ g ∧ (p.rdB (k : Int)).length = 512 ∧ Blk w' g 5 (bv (p.rdB (k : Int))) ∧ Below w.heap.size w w' := by
  obtain ⟨S, vC, arm, h⟩ := h
  have HR := codReach P S p.n p.off (k : Int) w (h.blk.cell 0) (h.blk.cell 3)
  have HH := mkHid h
  have HF := mkHid hf
  clear h hf
  have hin : inR p.n (k : Int) = true := inR_nat hk
  rw [hoff, if_neg (by simp), hin, if_pos rfl] at HR
  have HE : Hid (p.rdB (k : Int) = p.ca.foldl Pl.put p.st k) := by unfold Hid Pl.rdB; simp [hoff, hin]
  have HL : Hid ((p.ca.foldl Pl.put p.st k).length = 512) := fold_len512 _ _ p.n k hk (fun g hg => (HF.out.at_ g hg).2) HH.out.len
  have HLa := codLatest X P base S vC arm p k w HH.out HF.out hk
  rw [HE.out]
  generalize p.ca.foldl Pl.put p.st k = bb at *
  clear hoff hin hk
  go_enter Tryz.func65, Tryz.ntmps65
  go_wp2_with fail
  refine HR.mono ?_
  rintro e w1 ⟨rfl, hw1⟩
  obtain rfl := hw1.symm
  go_wp2_with fail
  refine HLa.mono ?_
  rintro e w2 ⟨rfl, hb2⟩
  have HB2 := mkHid hb2
  clear hb2
  go_wp2_with fail
  refine (codBytes bb w2 HL.out).mono ?_
  rintro e w3 ⟨g, rfl, hg3, hB3, hb3⟩
  have HB3 := mkHid (And.intro hg3 (And.intro hB3 hb3))
  clear hg3 hB3 hb3
  go_wp2_with fail
  go_ret2
  exact ⟨g, rfl, Nat.le_trans HB2.out.size HB3.out.1, HL.out, HB3.out.2.1, HB2.out.trans (HB3.out.2.2.mono HB2.out.size)⟩

/-- the front sectors of a disk, in a world -/
structure IsFr (w : World) (F : Nat) (p : Pl) (gs : Nat → Nat) : Prop where
  blk : Blk w F 22 (laidTo (dtv gs) (.slice none 0 0) 49 49)
  at_ : ∀ i, i < 49 → F ≠ gs i ∧ (p.rdB (i : Int)).length = 512 ∧ Blk w (gs i) 5 (bv (p.rdB (i : Int)))
theorem IsFr.on {w w' : World} {F : Nat} {p : Pl} {gs : Nat → Nat} (h : IsFr w F p gs) (hb : Below w.heap.size w w') : IsFr w' F p gs := ⟨h.blk.on hb, fun i hi => ⟨(h.at_ i hi).1, (h.at_ i hi).2.1, (h.at_ i hi).2.2.on hb⟩⟩
theorem IsFr.cell {w : World} {F : Nat} {p : Pl} {gs : Nat → Nat} (h : IsFr w F p gs) (i : Nat) (hi : i < 49) : w.cell? ⟨F, i, none⟩ = some (.slice (some ⟨gs i, 0, none⟩) 512 512) := by
  rw [h.blk.cell, laidTo_at _ _ _ _ _ hi, if_pos hi]; rfl

set_option maxRecDepth 20000 in
set_option maxHeartbeats 2000000 in
theorem codFront (P base m : Nat) (p : Pl) (w : World) (h : IsD0 w P base p) (hf : FewM p m) (hm : m ≤ 1000000) (hoff : p.off = false) :
    Calls Tryz.prog 36 #[.pointer (some ⟨P, 0, none⟩)] w fun e w' => ∃ F, e = .returned (.tuple #[.slice (some ⟨F, 0, none⟩) 49 49, .int .i64 0]) ∧ (∃ gs, IsFr w' F p gs) ∧ Below w.heap.size w w' := by
  have HI := mkHid h
  have HF := mkHid hf
  have HO := mkHid hoff
  clear h hf hoff
  go_enter Tryz.func36, Tryz.ntmps36
  go_wp2_with (at_make; refine make_slices w rfl _ _ rfl 49 rfl rfl (by omega) ?_; intro w1 hB1 hg1; have HB1 := mkHid hB1; have HG1 := mkHid (gr_below hg1); clear hB1 hg1)
  obtain ⟨S, hS⟩ : ∃ S, S = w.heap.size := ⟨_, rfl⟩
  have HS := mkHid hS
  rw [← hS] at HB1 ⊢
  clear hS
  go_loopw [11] (fun i wr => ∃ (k : Nat) (gs : Nat → Nat), k ≤ 49 ∧ i = .int .i64 (k : Int) ∧ Hid (Blk wr S 22 (laidTo (dtv gs) (.slice none 0 0) 49 k)) ∧ Hid (∀ i, i < k → S ≠ gs i ∧ (p.rdB (i : Int)).length = 512 ∧ Blk wr (gs i) 5 (bv (p.rdB (i : Int)))) ∧ Hid (Below w.heap.size w wr)) (fun i _ => 49 - (Go.RowKit.intOf i).toNat)
  case atStart => exact ⟨0, fun _ => 0, Nat.zero_le _, rfl, by rw [laidTo_zero]; exact HB1, fun i hi => absurd hi (Nat.not_lt_zero i), HG1⟩
  case round =>
    obtain ⟨k, gs, hk, rfl, HB, HBs, HW⟩ := hrel
    clear HB1 HG1
    by_cases hlt : k < 49
    · have hlt' : (k : Int) < 49 := by omega
      have hk0 : (0 : Int) ≤ (k : Int) := by omega
      have HRd := codReadOk (fun _ => False) P base p k wr (HI.out.on HW.out) (HF.out.few hm) HO.out (by have := HF.out.n0; omega)
      have HX : Hid (∀ W g, Below wr.heap.size wr W → wr.heap.size ≤ g → (p.rdB (k : Int)).length = 512 → Blk W g 5 (bv (p.rdB (k : Int))) → ∀ i, i < k + 1 → S ≠ (fun i => if i = k then g else gs i) i ∧ (p.rdB (i : Int)).length = 512 ∧ Blk W ((fun i => if i = k then g else gs i) i) 5 (bv (p.rdB (i : Int)))) := fun W g hW hg hl hB i hi => by
        have hSl := HB.out.lt
        by_cases e : i = k
        · subst e; simp only [if_true]; exact ⟨by omega, hl, hB⟩
        · simp only [if_neg e]
          have := HBs.out i (by omega)
          exact ⟨this.1, this.2.1, this.2.2.on hW⟩
      generalize p.rdB (k : Int) = bb at *
      go_wp2_with fail
      refine HRd.mono ?_
      rintro e W1 ⟨g, rfl, hg, hl5, hBg, hb1⟩
      have hX1 := mkHid (HX.out W1 g hb1 hg hl5 hBg)
      have HB1 := mkHid (HB.out.on hb1)
      have HW1 := mkHid (HW.out.trans (hb1.mono HW.out.size))
      have hc : W1.cell? ⟨S, k, none⟩ = some (.slice none 0 0) := by rw [HB1.out.cell, laidTo_at _ _ _ _ _ hlt, if_neg (by omega)]
      have hfz := HB1.out.frozen k
      have HB2 : Hid (Blk (W1.setCell ⟨S, k, none⟩ (.slice (some ⟨g, 0, none⟩) 512 512)) S 22 (laidTo (dtv (fun i => if i = k then g else gs i)) (.slice none 0 0) 49 (k + 1))) := by
        have h1 := HB1.out
        rw [laidTo_congr (f' := dtv (fun i => if i = k then g else gs i)) (fun i hi => by unfold dtv; simp only [if_neg (show ¬ i = k by omega)])] at h1
        have h2 := h1.set k (dtv (fun i => if i = k then g else gs i) k)
        rw [laidTo_set _ _ _ _ hlt] at h2
        have e : dtv (fun i => if i = k then g else gs i) k = .slice (some ⟨g, 0, none⟩) 512 512 := by unfold dtv; simp only [if_true]
        rw [e] at h2
        exact h2
      have HX2 : Hid (∀ i, i < k + 1 → S ≠ (fun i => if i = k then g else gs i) i ∧ (p.rdB (i : Int)).length = 512 ∧ Blk (W1.setCell ⟨S, k, none⟩ (.slice (some ⟨g, 0, none⟩) 512 512)) ((fun i => if i = k then g else gs i) i) 5 (bv (p.rdB (i : Int)))) := fun i hi => by
        have := hX1.out i hi
        exact ⟨this.1, this.2.1, this.2.2.other _ _ (fun e => this.1 e.symm)⟩
      have HW2 : Hid (Below w.heap.size w (W1.setCell ⟨S, k, none⟩ (.slice (some ⟨g, 0, none⟩) 512 512))) := HW1.out.trans (bel_one (gr_cell W1 S k _) (Nat.le_of_eq HS.out.symm) HB1.out.lt)
      clear HB1 HW1 HW hX1 HX HB HBs hg hl5 hBg hb1 HRd
      go_wp2_with fail
      go_roundw
      case rel => exact ⟨k + 1, (fun i => if i = k then g else gs i), by omega, by go_num, HB2, HX2, HW2⟩
      case measure => simp [Go.RowKit.intOf]; omega
    · have hge : ¬ (k : Int) < 49 := by omega
      have hkn : k = 49 := by omega
      subst hkn
      go_wp2_with fail
      go_ret2
      exact ⟨S, rfl, ⟨gs, HB.out, HBs.out⟩, HW.out⟩

set_option maxRecDepth 20000 in
set_option maxHeartbeats 2000000 in
theorem codFrontNo (P base m : Nat) (p : Pl) (w : World) (h : IsD0 w P base p) (hf : FewM p m) (hm : m ≤ 1000000) (hoff : p.off = true) :
    Calls Tryz.prog 36 #[.pointer (some ⟨P, 0, none⟩)] w fun e w' => e = .returned (.tuple #[.slice none 0 0, .int .i64 51]) ∧ Below w.heap.size w w' := by
  have HI := mkHid h
  have HF := mkHid hf
  have HO : Hid (p.rdE ((0 : Nat) : Int) = 51 ∧ p.rdB ((0 : Nat) : Int) = []) := by unfold Hid Pl.rdE Pl.rdB; simp [hoff]
  clear h hf hoff
  go_enter Tryz.func36, Tryz.ntmps36
  go_wp2_with (at_make; refine make_slices w rfl _ _ rfl 49 rfl rfl (by omega) ?_; intro w1 hB1 hg1; have HG1 := mkHid (gr_below hg1); clear hB1 hg1)
  go_loopw [11] (fun i wr => i = .int .i64 ((0 : Nat) : Int) ∧ Hid (Below w.heap.size w wr)) (fun i _ => 49 - (Go.RowKit.intOf i).toNat)
  case atStart => exact ⟨rfl, HG1⟩
  case round =>
    obtain ⟨rfl, HW⟩ := hrel
    have HRd := codRead (fun _ => False) P base p ((0 : Nat) : Int) wr (HI.out.on HW.out) (HF.out.few hm)
    rw [HO.out.1, HO.out.2] at HRd
    have hz : ((0 : Nat) : Int) = 0 := rfl
    rw [hz] at HRd
    go_wp2_with fail
    refine HRd.mono ?_
    rintro e W1 ⟨⟨a, c, rfl, _, _⟩, hb1⟩
    have HW1 := mkHid (HW.out.trans (hb1.mono HW.out.size))
    clear hb1 HRd
    go_wp2_with fail
    go_ret2
    exact ⟨rfl, HW1.out⟩
end Go.Proofs.YtdeoankmmolebaaGreat
namespace Go.Proofs.YtdeoankmmolebaaGreat

theorem nth_zero_cons (x : UInt8) (l : List UInt8) : nth (x :: l) 0 = x := by simp [nth]
theorem nth_succ_cons (x : UInt8) (l : List UInt8) (k : Nat) : nth (x :: l) (1 + k) = nth l k := by rw [Nat.add_comm]; simp [nth]
theorem nth_app (l m : List UInt8) (k : Nat) (h : k < l.length) : nth (l ++ m) k = nth l k := by
  unfold nth; rw [List.getD_eq_getElem?_getD, List.getD_eq_getElem?_getD, List.getElem?_append_left h]
theorem nth_beL (n size k j : Nat) (h : j < k) : nth (beL n size k) j = beAt n size j := by
  rw [nth_eq _ _ (by rw [beL_length]; exact h)]; simp [beL]

theorem numTo_be (m : UInt8) (n size : Nat) (r : List UInt8) : ∀ j, j ≤ size → numTo (m :: (beL n size size ++ r)) j = n / 2 ^ (8 * (size - j)) % 256 ^ j
  | 0, _ => by simp [numTo, Nat.mod_one]
  | j + 1, h => by
    rw [numTo, numTo_be m n size r j (by omega), nth_succ_cons, nth_app _ _ _ (by rw [beL_length]; omega), nth_beL _ _ _ _ (by omega)]
    unfold beAt
    rw [UInt8.toNat_ofNat']
    have e1 : 8 * (size - j) = 8 * (size - 1 - j) + 8 := by omega
    have e2 : 8 * (size - (j + 1)) = 8 * (size - 1 - j) := by omega
    rw [e1, e2, Nat.pow_add, ← Nat.div_div_eq_div_mul]
    generalize n / 2 ^ (8 * (size - 1 - j)) = x
    have e3 : (2 : Nat) ^ 8 = 256 := by decide
    have e4 : (256 : Nat) ^ (j + 1) = 256 * 256 ^ j := by rw [Nat.pow_succ, Nat.mul_comm]
    rw [e3, e4, Nat.mod_mul, Nat.mul_comm, Nat.add_comm]

theorem numTo_all (m : UInt8) (n size : Nat) (r : List UInt8) (h : n < 256 ^ size) : numTo (m :: (beL n size size ++ r)) size = n := by
  rw [numTo_be m n size r size (Nat.le_refl _), Nat.sub_self]
  simp [Nat.mod_eq_of_lt h]

theorem behL_eq (l : List UInt8) (m : UInt8) (n s k : Nat) : behL l m n s k = l ++ behL [] m n s k := by simp [behL]
theorem rdUint_back (n : Nat) (r : List UInt8) (h : n < 18446744073709551616) : rdUint (behL [] 117 n 8 8 ++ r) false = (n, r, false) := by
  have e : behL [] 117 n 8 8 ++ r = 117 :: (beL n 8 8 ++ r) := by simp [behL]
  have hn := numTo_all 117 n 8 r (by have : (256 : Nat) ^ 8 = 18446744073709551616 := by decide
                                     omega)
  have hl := beL_length n 8 8
  rw [e]
  unfold rdUint
  rw [if_pos (by unfold okH; rw [nth_zero_cons]; simp [hl]), hn]
  refine Prod.ext rfl (Prod.ext ?_ rfl)
  show List.drop 9 (117 :: (beL n 8 8 ++ r)) = r
  rw [List.drop_succ_cons, List.drop_left' hl]
theorem rdSome_back (m : UInt8) (b r : List UInt8) (h : b.length < 4294967296) : rdSome m (behL [] m b.length 4 4 ++ b ++ r) false = (b, r, false) := by
  have e : behL [] m b.length 4 4 ++ b ++ r = m :: (beL b.length 4 4 ++ (b ++ r)) := by simp [behL]
  have hn := numTo_all m b.length 4 (b ++ r) (by have : (256 : Nat) ^ 4 = 4294967296 := by decide
                                                 omega)
  have hl := beL_length b.length 4 4
  have hd : List.drop 5 (m :: (beL b.length 4 4 ++ (b ++ r))) = b ++ r := by rw [List.drop_succ_cons, List.drop_left' hl]
  rw [e]
  unfold rdSome
  rw [if_pos (by unfold okB okH; rw [nth_zero_cons, hn]; simp [hl]; omega), hn, ← List.drop_drop, hd]
  refine Prod.ext ?_ (Prod.ext ?_ rfl)
  · exact List.take_left
  · exact List.drop_left
theorem rdBool_back (t : Bool) (r : List UInt8) : rdBool ([if t then 116 else 102] ++ r) false = (t, r, false) := by
  cases t <;> simp [rdBool, okT, nth]
theorem rdList_back (n : Nat) (r : List UInt8) (most : Int) (h : (n : Int) ≤ most) (hn : n < 4294967296) : rdList (behL [] 108 n 4 4 ++ r) false most = (n, r, false) := by
  have e : behL [] 108 n 4 4 ++ r = 108 :: (beL n 4 4 ++ r) := by simp [behL]
  have hn := numTo_all 108 n 4 r (by have : (256 : Nat) ^ 4 = 4294967296 := by decide
                                     omega)
  have hl := beL_length n 4 4
  rw [e]
  unfold rdList
  rw [if_pos (by unfold okL okH; rw [nth_zero_cons, hn]; simp [hl, h]), hn]
  refine Prod.ext rfl (Prod.ext ?_ rfl)
  show List.drop 5 (108 :: (beL n 4 4 ++ r)) = r
  rw [List.drop_succ_cons, List.drop_left' hl]
end Go.Proofs.YtdeoankmmolebaaGreat
namespace Go.Proofs.YtdeoankmmolebaaGreat
open Go.RowKit

theorem fold_pre (xs : Qs) : ∀ b : List UInt8, ∃ R, xs.foldl (fun b g => uintL b g.1) b = b ++ R := by
  induction xs with
  | nil => intro b; exact ⟨[], by simp⟩
  | cons g xs ih =>
    intro b
    obtain ⟨R, hR⟩ := ih (uintL b g.1)
    refine ⟨behL [] 117 g.1 8 8 ++ R, ?_⟩
    rw [List.foldl_cons, hR]
    unfold uintL
    rw [behL_eq b, List.append_assoc]
theorem seal_form (s : Nat) (l : Qs) (hl : l.length ≤ 48) : ∃ R, sealJ s l = behL [] 115 steleB.length 4 4 ++ steleB ++ (behL [] 117 s 8 8 ++ (behL [] 108 l.length 4 4 ++ R)) := by
  obtain ⟨R, hR⟩ := fold_pre (l.take l.length) (listL (uintL (textL [] steleB) s) (l.length : Int))
  have hH : headJ s l = listL (uintL (textL [] steleB) s) (l.length : Int) ++ R := hR
  have hL : listL (uintL (textL [] steleB) s) (l.length : Int) = behL [] 115 steleB.length 4 4 ++ steleB ++ (behL [] 117 s 8 8 ++ behL [] 108 l.length 4 4) := by
    unfold listL uintL textL
    rw [if_neg (by omega), behL_eq (behL _ _ _ _ _), behL_eq (behL [] 115 _ _ _ ++ steleB)]
    simp
  refine ⟨R ++ (98 :: beL (sumJ s l).length 4 4 ++ (sumJ s l ++ List.replicate (512 - (preJ s l).length) 0)), ?_⟩
  have hP : preJ s l = headJ s l ++ (98 :: beL (sumJ s l).length 4 4 ++ sumJ s l) := by unfold preJ bytesL behL; simp
  unfold sealJ
  rw [hP, hH, hL]
  simp
theorem seal_hd {s : Nat} {l : Qs} {b : List UInt8} (hs : s < 18446744073709551616) (hl : l.length ≤ 48) (h : sealJ s l = b) : (hdName b).1 = steleB ∧ (hdSeq b).1 = s ∧ (hdN b).2.2 = false ∧ (hdN b).1 = l.length := by
  obtain ⟨R, hR⟩ := seal_form s l hl
  rw [h] at hR
  have h1 : hdName b = (steleB, behL [] 117 s 8 8 ++ (behL [] 108 l.length 4 4 ++ R), false) := by
    unfold hdName
    rw [hR]
    exact rdSome_back 115 steleB _ (by decide)
  have h2 : hdSeq b = (s, behL [] 108 l.length 4 4 ++ R, false) := by
    unfold hdSeq
    rw [h1]
    exact rdUint_back s _ hs
  have h3 : hdN b = (l.length, R, false) := by
    unfold hdN
    rw [h2]
    exact rdList_back l.length R 48 (by omega) (by omega)
  rw [h1, h2, h3]
  exact ⟨rfl, rfl, rfl, rfl⟩
theorem rdUint_bad {r : List UInt8} {bad : Bool} (h : (rdUint r bad).2.2 = true) : (rdUint r bad).1 = 0 := by
  unfold rdUint at h ⊢
  split
  · rename_i h1; rw [if_pos h1] at h; cases h
  · rfl
theorem go_no {p : Pl} {k i : Nat} {r : List UInt8} {bad : Bool} {l : Qs} (h : (rdUint r bad).1 < 49 ∨ p.n ≤ (rdUint r bad).1) : heldGo p (k + 1) i r bad l = none := by
  rw [heldGo, if_pos (.inr h)]
theorem go_yes {p : Pl} {k i : Nat} {r : List UInt8} {bad : Bool} {l : Qs} (h : ¬ ((rdUint r bad).1 < 49 ∨ p.n ≤ (rdUint r bad).1)) : heldGo p (k + 1) i r bad l = heldGo p k (i + 1) (rdUint r bad).2.1 (rdUint r bad).2.2 (l ++ [((rdUint r bad).1, p.rdB ((1 + i : Nat) : Int))]) := by
  rw [heldGo, if_neg]
  rintro (h1 | h1)
  · exact h (.inl (by rw [rdUint_bad h1]; omega))
  · exact h h1
theorem go_bad {p : Pl} : ∀ (k i : Nat) (r : List UInt8) (l : Qs) (q : Qs × Bool), heldGo p k i r false l = some q → q.2 = false := by
  intro k
  induction k with
  | zero => intro i r l q h; rw [heldGo] at h; rw [← Option.some.inj h]
  | succ k ih =>
    intro i r l q h
    rw [heldGo] at h
    split at h
    · cases h
    · rename_i hc
      have : (rdUint r false).2.2 = false := by
        cases hq : (rdUint r false).2.2 with
        | false => rfl
        | true => exact absurd (.inl hq) hc
      rw [this] at h
      exact ih _ _ _ q h
theorem hdSeq_lt (b : List UInt8) : (hdSeq b).1 < 18446744073709551616 := rdUint_lt _ _
theorem held_none {p : Pl} {b : List UInt8} (h : heldGo p (hdN b).1 0 (hdN b).2.1 (hdN b).2.2 [] = none) : heldB p b = none := by unfold heldB; rw [h]; rfl
theorem held_no {p : Pl} {b : List UInt8} {q : Qs × Bool} (h : heldGo p (hdN b).1 0 (hdN b).2.1 (hdN b).2.2 [] = some q) (hs : sealJ (hdSeq b).1 q.1 ≠ b) : heldB p b = none := by
  unfold heldB; rw [h]
  obtain ⟨l, bad⟩ := q
  show (if bad = true ∨ (hdName b).1 ≠ steleB ∨ sealJ (hdSeq b).1 l ≠ b then none else some ((hdSeq b).1, l)) = none
  rw [if_pos (.inr (.inr hs))]
theorem held_yes {p : Pl} {b : List UInt8} {q : Qs × Bool} (h : heldGo p (hdN b).1 0 (hdN b).2.1 (hdN b).2.2 [] = some q) (hl : q.1.length ≤ 48) (hs : sealJ (hdSeq b).1 q.1 = b) : heldB p b = some ((hdSeq b).1, q.1) := by
  obtain ⟨h1, _, h3, _⟩ := seal_hd (hdSeq_lt b) hl hs
  have hb : q.2 = false := by
    rw [h3] at h
    exact go_bad _ _ _ _ q h
  unfold heldB; rw [h]
  obtain ⟨l, bad⟩ := q
  show (if bad = true ∨ (hdName b).1 ≠ steleB ∨ sealJ (hdSeq b).1 l ≠ b then none else some ((hdSeq b).1, l)) = _
  rw [if_neg]
  rintro (h4 | h4 | h4)
  · have hb : bad = false := hb
    rw [hb] at h4; cases h4
  · exact h4 h1
  · exact h4 hs
theorem hdN_le (b : List UInt8) : (hdN b).1 ≤ 48 := by
  unfold hdN rdList
  split
  · rename_i h
    unfold okL at h
    have := (Bool.and_eq_true_iff.1 h).2
    have := of_decide_eq_true this
    show numTo _ 4 ≤ 48
    omega
  · show 0 ≤ 48; omega
end Go.Proofs.YtdeoankmmolebaaGreat
