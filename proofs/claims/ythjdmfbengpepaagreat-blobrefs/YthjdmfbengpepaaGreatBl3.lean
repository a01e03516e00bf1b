/- What the document's Show gives. -/
import Derived.Test.YthjdmfbengpepaaGreatB29
import Derived.Lib.MinMax
namespace Go.Proofs.YthjdmfbengpepaaGreat
open Go.RowKit

/-- the sectors behind what is written -/
def secsL (b : List UInt8) (l : List Int) : List UInt8 := l.foldl (fun b s => uintL b (max s 0).toNat) b
theorem secsL_snoc (b : List UInt8) (l : List Int) (s : Int) : secsL b (l ++ [s]) = uintL (secsL b l) (max s 0).toNat := by unfold secsL; rw [List.foldl_append]; rfl
/-- Show -/
def showH (r : Rf) : List UInt8 := listL (bytesL (uintL [] (max r.len 0).toNat) r.sum) (r.secs.length : Int)
def showR (r : Rf) : List UInt8 := secsL (showH r) r.secs
theorem uint_len (b : List UInt8) (n : Nat) : (uintL b n).length = b.length + 9 := by unfold uintL behL beL; simp
theorem bytes_len (b c : List UInt8) : (bytesL b c).length = b.length + 5 + c.length := by unfold bytesL behL beL; simp; omega
theorem list_len (b : List UInt8) (n : Int) : (listL b n).length = b.length + 5 := by unfold listL behL beL; simp
theorem secs_len (b : List UInt8) (l : List Int) : (secsL b l).length = b.length + 9 * l.length := by
  unfold secsL
  induction l generalizing b with
  | nil => rfl
  | cons x l ih => rw [List.foldl_cons, ih, uint_len, List.length_cons]; omega
theorem showH_len (r : Rf) : (showH r).length = 19 + r.sum.length := by unfold showH; rw [list_len, bytes_len, uint_len]; simp; omega
set_option maxRecDepth 20000 in
set_option maxHeartbeats 2000000 in
theorem refShow12 (r : Rf) (q : RfA) (w : World) (h : IsRf w r q) (hs : r.sum.length ≤ 100000) (hz : r.secs.length ≤ 100000) (hr : ∀ s ∈ r.secs, -9223372036854775808 ≤ s ∧ s ≤ 9223372036854775807) :
    Calls Tryz.prog 28 #[.agg (rfc r q).toArray] w fun e w' => ∃ v, e = .returned v ∧ OwnB w' w.heap.size v (showR r) ∧ Below w.heap.size w w' := by
  have HH := mkHid h
  have HH0 : Hid (showH r = listL (bytesL (uintL [] (max r.len 0).toNat) r.sum) (r.secs.length : Int)) := rfl
  have HS0 : Hid (showR r = secsL (showH r) r.secs) := rfl
  have HL0 := mkHid (showH_len r)
  have h0 := h.len0
  have h1 := h.len1
  have HR := mkHid hr
  obtain ⟨m, hm⟩ : ∃ m : Nat, m = (max r.len 0).toNat := ⟨_, rfl⟩
  rw [← hm] at HH0
  have hm1 : max r.len 0 = (m : Int) := by omega
  have hm2 : m ≤ 9223372036854775807 := by omega
  have hw : IntKind.u64.wrap (m : Int) = (m : Int) := wrap64_nat m (by omega)
  obtain ⟨rl, rs, rz⟩ := r
  obtain ⟨qa, qc, qb, qd⟩ := q
  change rs.length ≤ 100000 at hs
  change rz.length ≤ 100000 at hz
  change max rl 0 = (m : Int) at hm1
  clear h hr hm
  simp only [rfc]
  generalize showR ⟨rl, rs, rz⟩ = SR at *
  generalize showH ⟨rl, rs, rz⟩ = SH at *
  go_enter Tryz.func28, Tryz.ntmps28
  go_wp2_with fail
  have kA := Blk.new w 46 [.int .i64 rl, .slice qa rs.length qc, .slice qb rz.length qd]
  have HBY : Hid (Below w.heap.size w (w.alloc (.cells #[.int .i64 rl, .slice qa rs.length qc, .slice qb rz.length qd] 46))) := (Below.refl _ w).alloc (Nat.le_refl _) _
  generalize w.alloc (.cells #[.int .i64 rl, .slice qa rs.length qc, .slice qb rz.length qd] 46) = Y at *
  have HK := mkHid kA
  clear kA
  have HCell : Hid (∀ W, Below Y.heap.size Y W → W.cell? ⟨w.heap.size, 1, none⟩ = some (.slice qa rs.length qc) ∧ W.cell? ⟨w.heap.size, 2, none⟩ = some (.slice qb rz.length qd)) := fun W hW => ⟨Blk.cell (Blk.on HK.out hW) 1, Blk.cell (Blk.on HK.out hW) 2⟩
  refine (refUint none 0 0 [] m Y (isB_none _) (by omega)).mono ?_
  rintro e y1 ⟨v1, rfl, ho1, hb1⟩
  obtain ⟨a1, cp1, rfl, hI1⟩ := ho1.isB
  rw [uint_len] at *
  have HI1 := mkHid hI1
  have HB1 := mkHid hb1
  obtain ⟨c1, _⟩ := HCell.out y1 HB1.out
  have HSB : Hid (∀ W, Below Y.heap.size Y W → IsB W qa rs.length qc rs) := fun W hW => HH.out.sum.below (HBY.out.trans (hW.mono HBY.out.size)) rfl
  clear ho1 hI1 hb1
  simp only [List.length_nil, Nat.zero_add] at *
  go_wp2_with fail
  refine (refBytes2 a1 9 cp1 _ qa rs.length qc rs y1 HI1.out (HSB.out _ HB1.out) (by omega) (by omega)).mono ?_
  rintro e y2 ⟨v2, rfl, ho2, hb2⟩
  obtain ⟨a2, cp2, rfl, hI2⟩ := ho2.isB
  have HB2 := mkHid (HB1.out.trans (hb2.mono HB1.out.size))
  have HL2 : Hid ((bytesL (uintL [] m) rs).length ≤ 200000) := by unfold Hid; rw [bytes_len, uint_len]; simp; omega
  obtain ⟨_, d2⟩ := HCell.out y2 HB2.out
  have HI2 := mkHid hI2
  clear ho2 hI2 hb2 c1
  generalize bytesL (uintL [] m) rs = B2 at *
  generalize hl2 : B2.length = l2 at *
  go_wp2_with fail
  refine (refList a2 l2 cp2 B2 (rz.length : Int) y2 HI2.out (by have := HL2.out; omega)).mono ?_
  rintro e y3 ⟨v3, rfl, ho3, hb3⟩
  have HB3 := mkHid (HB2.out.trans (hb3.mono HB2.out.size))
  change Hid (SH = listL B2 (rz.length : Int)) at HH0
  rw [← HH0.out] at ho3
  have HLo : Hid (w.heap.size ≤ y2.heap.size) := Nat.le_trans HBY.out.size HB2.out.size
  have HO3 := mkHid (OwnB.base ho3 HLo.out)
  change Hid (SH.length = 19 + rs.length) at HL0
  change Hid (SR = secsL SH rz) at HS0
  change Hid (∀ s ∈ rz, -9223372036854775808 ≤ s ∧ s ≤ 9223372036854775807) at HR
  have HZ0 : Hid (∀ W, Below Y.heap.size Y W → IsZ W qb rz.length rz) := fun W hW => HH.out.secs.below (HBY.out.trans (hW.mono HBY.out.size))
  clear ho3 hb3 HI2 d2 HI1 HB1 HB2 HSB HH0 HLo hl2 HL2
  go_wp2_with fail
  go_loopw [3, 4] (fun o i wr => ∃ k : Nat, k ≤ rz.length ∧ i = .int .i64 (k : Int) ∧ Hid (OwnB wr w.heap.size o (secsL SH (rz.take k))) ∧ Hid (Below Y.heap.size Y wr)) (fun _ i _ => rz.length - (Go.RowKit.intOf i).toNat)
  case atStart => exact ⟨0, Nat.zero_le _, rfl, HO3, HB3⟩
  case round =>
    obtain ⟨k, hk, rfl, HO, HB⟩ := hrel
    obtain ⟨_, d2⟩ := HCell.out wr HB.out
    by_cases hlt : k < rz.length
    · have hlt' : (k : Int) < (rz.length : Int) := by omega
      obtain ⟨g, off, rfl, _, hcs⟩ := (HZ0.out wr HB.out).cells (by omega)
      have f0 := hcs k hlt
      have hT := take_snoc rz k hlt
      have hrg := HR.out _ (getD_mem hlt)
      have HLn : Hid ((secsL SH (rz.take k)).length ≤ 2000000) := by
        unfold Hid; rw [secs_len, HL0.out, List.length_take]; omega
      have HN : Hid (secsL SH (rz.take (k + 1)) = uintL (secsL SH (rz.take k)) (max (rz.getD k 0) 0).toNat) := by unfold Hid; rw [hT, secsL_snoc]
      clear hcs hT
      generalize rz.getD k 0 = s at *
      obtain ⟨ms, hms⟩ : ∃ ms : Nat, ms = (max s 0).toNat := ⟨_, rfl⟩
      rw [← hms] at HN
      have hm3 : max s 0 = (ms : Int) := by omega
      have hw3 : IntKind.u64.wrap (ms : Int) = (ms : Int) := wrap64_nat ms (by omega)
      obtain ⟨oa, oc, hoe, hoI⟩ := HO.out.isB
      subst hoe
      have HOI := mkHid hoI
      clear hoI hms
      generalize secsL SH (rz.take k) = CB at *
      generalize hcl : CB.length = cl at *
      go_wp2_with fail
      refine (refUint oa cl oc CB ms wr (by rw [← hcl] at *; exact HOI.out) (by have := HLn.out; omega)).mono ?_
      rintro e y4 ⟨v4, rfl, ho4, hb4⟩
      have HO4 : Hid (OwnB y4 w.heap.size v4 (uintL CB ms)) := OwnB.base ho4 (Nat.le_trans HBY.out.size HB.out.size)
      have HB4 := mkHid (HB.out.trans (hb4.mono HB.out.size))
      clear ho4 hb4
      go_wp2_with fail
      go_roundw
      case rel => exact ⟨k + 1, by omega, by go_num, by rw [HN.out]; exact HO4, HB4⟩
      case measure => simp [Go.RowKit.intOf]; omega
    · have hlt' : ¬ (k : Int) < (rz.length : Int) := by omega
      have HV : Hid (OwnB wr w.heap.size u3 SR) := by
        have := HO.out
        rw [List.take_of_length_le (by omega), ← HS0.out] at this
        exact this
      go_wp2_with fail
      go_ret
      exact ⟨_, rfl, HV.out, HBY.out.trans (HB.out.mono HBY.out.size)⟩
end Go.Proofs.YthjdmfbengpepaaGreat
