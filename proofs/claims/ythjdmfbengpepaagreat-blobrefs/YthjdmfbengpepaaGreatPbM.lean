/- The program's blob: Show; its Show and Read keep the document. -/
import Derived.Test.YthjdmfbengpepaaGreatPbE
import Derived.Test.YthjdmfbengpepaaGreatBlE
import Derived.Test.YthjdmfbengpepaaGreatB5
namespace Go.Proofs.YthjdmfbengpepaaGreat
open Go.RowKit

theorem uint_app (b : List UInt8) (n : Nat) : uintL b n = b ++ uintL [] n := by unfold uintL behL; simp
set_option maxRecDepth 20000 in
set_option maxHeartbeats 2000000 in
theorem codShow12 (r : Rf) (q : RfA) (w : World) (h : IsRf w r q) (hs : r.sum.length ≤ 100000) (hz : r.secs.length ≤ 100000) (hr : ∀ s ∈ r.secs, -9223372036854775808 ≤ s ∧ s ≤ 9223372036854775807) :
    Calls Tryz.prog 27 #[.agg (rfc r q).toArray] w fun e w' => ∃ v, e = .returned v ∧ OwnB w' w.heap.size v (showR r) ∧ Below w.heap.size w w' := by
  have HH := mkHid h
  have HH0 : Hid (showH r = listL (bytesL (uintL [] (max r.len 0).toNat) r.sum) (r.secs.length : Int)) := rfl
  have HS0 : Hid (showR r = secsL (showH r) r.secs) := rfl
  have HL0 := mkHid (showH_len r)
  have HR := mkHid hr
  have HSh := fun W => codShown r.len W h.len0 h.len1
  obtain ⟨m, hm⟩ : ∃ m : Nat, m = (max r.len 0).toNat := ⟨_, rfl⟩
  rw [← hm] at HH0 HSh
  obtain ⟨rl, rs, rz⟩ := r
  obtain ⟨qa, qc, qb, qd⟩ := q
  change rs.length ≤ 100000 at hs
  change rz.length ≤ 100000 at hz
  clear h hr hm
  simp only [rfc]
  generalize showR ⟨rl, rs, rz⟩ = SR at *
  generalize showH ⟨rl, rs, rz⟩ = SH at *
  go_enter Tryz.func27, Tryz.ntmps27
  go_wp2_with fail
  have kA := Blk.new w 44 [.int .i64 rl, .slice qa rs.length qc, .slice qb rz.length qd]
  have HBY : Hid (Below w.heap.size w (w.alloc (.cells #[.int .i64 rl, .slice qa rs.length qc, .slice qb rz.length qd] 44))) := (Below.refl _ w).alloc (Nat.le_refl _) _
  generalize w.alloc (.cells #[.int .i64 rl, .slice qa rs.length qc, .slice qb rz.length qd] 44) = Y at *
  have HK := mkHid kA
  clear kA
  have HCell : Hid (∀ W, Below Y.heap.size Y W → W.cell? ⟨w.heap.size, 1, none⟩ = some (.slice qa rs.length qc) ∧ W.cell? ⟨w.heap.size, 2, none⟩ = some (.slice qb rz.length qd)) := fun W hW => ⟨Blk.cell (Blk.on HK.out hW) 1, Blk.cell (Blk.on HK.out hW) 2⟩
  refine (HSh Y).mono ?_
  rintro e y0 ⟨rfl, rfl⟩
  clear HSh
  go_wp2_with fail
  refine (canUint none 0 0 [] m y0 (isB_none _) (by omega)).mono ?_
  rintro e y1 ⟨v1, rfl, ho1, hb1⟩
  obtain ⟨a1, cp1, rfl, hI1⟩ := ho1.isB
  rw [uint_len] at *
  have HI1 := mkHid hI1
  have HB1 := mkHid hb1
  obtain ⟨c1, _⟩ := HCell.out y1 HB1.out
  have HSB : Hid (∀ W, Below y0.heap.size y0 W → IsB W qa rs.length qc rs) := fun W hW => HH.out.sum.below (HBY.out.trans (hW.mono HBY.out.size)) rfl
  clear ho1 hI1 hb1
  simp only [List.length_nil, Nat.zero_add] at *
  go_wp2_with fail
  refine (canBytes a1 9 cp1 _ qa rs.length qc rs y1 HI1.out (HSB.out _ HB1.out) (by omega) (by omega)).mono ?_
  rintro e y2 ⟨v2, rfl, ho2, hb2⟩
  obtain ⟨a2, cp2, rfl, hI2⟩ := ho2.isB
  have HB2 := mkHid (HB1.out.trans (hb2.mono HB1.out.size))
  have HL2 : Hid ((bytesL (uintL [] m) rs).length ≤ 200000) := by unfold Hid; rw [bytes_len, uint_len]; simp; omega
  obtain ⟨_, d2⟩ := HCell.out y2 HB2.out
  have HI2 := mkHid hI2
  clear ho2 hI2 hb2 c1
  generalize bytesL (uintL [] m) rs = B2 at *
  generalize hl2 : B2.length = l2 at *
  go_wp2_with fail
  refine (canList a2 l2 cp2 B2 (rz.length : Int) y2 HI2.out (by have := HL2.out; omega)).mono ?_
  rintro e y3 ⟨v3, rfl, ho3, hb3⟩
  have HB3 := mkHid (HB2.out.trans (hb3.mono HB2.out.size))
  change Hid (SH = listL B2 (rz.length : Int)) at HH0
  rw [← HH0.out] at ho3
  have HLo : Hid (y0.heap.size ≤ y2.heap.size) := HB2.out.size
  have HO3 := mkHid (OwnB.base ho3 HLo.out)
  change Hid (SH.length = 19 + rs.length) at HL0
  change Hid (SR = secsL SH rz) at HS0
  change Hid (∀ s ∈ rz, -9223372036854775808 ≤ s ∧ s ≤ 9223372036854775807) at HR
  have HZ0 : Hid (∀ W, Below y0.heap.size y0 W → IsZ W qb rz.length rz) := fun W hW => HH.out.secs.below (HBY.out.trans (hW.mono HBY.out.size))
  obtain ⟨_, d3⟩ := HCell.out y3 HB3.out
  clear ho3 hb3 HI2 d2 HI1 HB1 HB2 HSB HH0 HLo hl2 HL2
  go_wp2_with fail
  clear d3
  go_loopw [3, 22] (fun o i wr => ∃ k : Nat, k ≤ rz.length ∧ i = .int .i64 (k : Int) ∧ Hid (OwnB wr y0.heap.size o (secsL SH (rz.take k))) ∧ Hid (Below y0.heap.size y0 wr)) (fun _ i _ => rz.length - (Go.RowKit.intOf i).toNat)
  case atStart => exact ⟨0, Nat.zero_le _, rfl, HO3, HB3⟩
  case round =>
    obtain ⟨k, hk, rfl, HO, HB⟩ := hrel
    by_cases hlt : k < rz.length
    · have hlt' : (k : Int) < (rz.length : Int) := by omega
      obtain ⟨g, off, rfl, _, hcs⟩ := (HZ0.out wr HB.out).cells (by omega)
      have f0 := hcs k hlt
      have hT := take_snoc rz k hlt
      have hrg := HR.out _ (getD_mem' hlt)
      have HLn : Hid ((secsL SH (rz.take k)).length ≤ 2000000) := by
        unfold Hid; rw [secs_len, HL0.out, List.length_take]; omega
      have HN : Hid (secsL SH (rz.take (k + 1)) = secsL SH (rz.take k) ++ uintL [] (max (rz.getD k 0) 0).toNat) := by unfold Hid; rw [hT, secsL_snoc, uint_app]
      clear hcs hT
      generalize rz.getD k 0 = s at *
      have HSs := codShown s wr hrg.1 hrg.2
      obtain ⟨ms, hms⟩ : ∃ ms : Nat, ms = (max s 0).toNat := ⟨_, rfl⟩
      rw [← hms] at HN HSs
      obtain ⟨oa, oc, hoe, _⟩ := HO.out.isB
      subst hoe
      clear hms
      generalize secsL SH (rz.take k) = CB at *
      go_wp2_with fail
      refine HSs.mono ?_
      rintro e y4 ⟨rfl, hy4⟩
      subst hy4
      clear HSs
      go_wp2_with fail
      refine (canUint none 0 0 [] ms y4 (isB_none _) (by omega)).mono ?_
      rintro e y5 ⟨v5, rfl, ho5, hb5⟩
      obtain ⟨a5, c5, rfl, hI5⟩ := ho5.isB
      rw [uint_len] at *
      simp only [List.length_nil, Nat.zero_add] at *
      have HI5 := mkHid hI5
      have HO5 := mkHid (own_on8 HO.out hb5)
      have HB5 := mkHid (HB.out.trans (hb5.mono HB.out.size))
      have HLo5 : Hid (y0.heap.size ≤ y5.heap.size) := HB5.out.size
      clear ho5 hb5 hI5 HO HB
      go_wp2_with (at_builtin; refine list_appS _ rfl (.tmp 26) (.tmp 29) rfl y0.heap.size (.slice oa CB.length oc) CB rfl HO5.out a5 9 c5 (uintL [] ms) rfl HI5.out (by have := HLn.out; omega) HLo5.out ?_; intro v6 y6 ho6 hg6; have HB6 : Hid (Below y0.heap.size y0 y6) := HB5.out.grown hg6 HB5.out.size (fun k e => (World.ownsRow.lt HO5.out k e).1); have HO6 := mkHid ho6; clear ho6 hg6)
      go_roundw
      case rel => exact ⟨k + 1, by omega, by go_num, by rw [HN.out]; exact HO6, HB6⟩
      case measure => simp [Go.RowKit.intOf]; omega
    · have hlt' : ¬ (k : Int) < (rz.length : Int) := by omega
      have HV : Hid (OwnB wr w.heap.size u3 SR) := by
        have := HO.out
        rw [List.take_of_length_le (by omega), ← HS0.out] at this
        exact this.base HBY.out.size
      go_wp2_with fail
      go_ret
      exact ⟨_, rfl, HV.out, HBY.out.trans (HB.out.mono HBY.out.size)⟩
theorem blrOK : BlrOK where
  show_ := codShow12
  read := codRead12
end Go.Proofs.YthjdmfbengpepaaGreat
