/- What the document's Hmac1 answers. -/
import Derived.Test.YtmgflcglmakceaaRefSha1
import Derived.Test.YtmgflcglmakceaaRefBlock
namespace Go.Proofs.Ytmgflcglmakceaa
open Go.RowKit

theorem sha1L_length (l : List UInt8) : (sha1L l).length = 20 := by unfold sha1L hashL; rw [outB_length]

set_option maxRecDepth 20000 in
set_option maxHeartbeats 1000000 in
theorem refHmac1 (a : Option Addr) (len cap : Nat) (key : List UInt8) (a1 : Option Addr) (len1 cap1 : Nat) (l : List UInt8) (w : World) (h : IsB w a len cap key) (h1 : IsB w a1 len1 cap1 l) (hn : len < 1073741824) (hn1 : len1 < 1073741824) :
    Calls Try.prog 22 #[.slice a len cap, .slice a1 len1 cap1] w fun e w' => ∃ v, e = .returned v ∧ OwnB w' w.heap.size v (hmL sha1L key l) ∧ Below w.heap.size w w' := by
  have H : Hid (IsB w a len cap key) := h
  have H1 : Hid (IsB w a1 len1 cap1 l) := h1
  have HE : Hid (key.length = len) := h.len_eq
  have HE1 : Hid (l.length = len1) := h1.len_eq
  clear h h1
  by_cases hk : 64 < len
  · have hk' : (64 : Int) < (len : Int) := by omega
    have HK : Hid (hkey sha1L key = sha1L key) := by unfold Hid hkey; rw [HE.out, if_pos hk]
    go_enter Try.func22, Try.ntmps22
    go_wp2_with fail
    refine (refSha1 a len cap key w H.out (by omega)).mono ?_
    rintro e y0 ⟨v0, rfl, o0, t0⟩
    obtain ⟨xk, ck, rfl, ik⟩ := o0.isB
    have IK : Hid (IsB y0 xk (sha1L key).length ck (hkey sha1L key)) := by rw [HK.out]; exact ik
    clear ik o0
    generalize (sha1L key).length = nk at *
    have B0 : Hid (IsB y0 a1 len1 cap1 l) := H1.out.below t0 rfl
    go_wp2_with fail
    refine (refBlock xk nk ck (hkey sha1L key) 92 y0 IK.out).mono ?_
    rintro e y1 ⟨v1, rfl, o1, c1⟩
    have IK1 : Hid (IsB y1 xk nk ck (hkey sha1L key)) := IK.out.below c1 rfl
    have B1 : Hid (IsB y1 a1 len1 cap1 l) := B0.out.below c1 rfl
    have t1 : Below w.heap.size w y1 := t0.trans (c1.mono t0.size)
    clear IK B0
    go_wp2_with fail
    refine (refBlock xk nk ck (hkey sha1L key) 54 y1 IK1.out).mono ?_
    rintro e y2 ⟨v2, rfl, o2, c2⟩
    have B2 : Hid (IsB y2 a1 len1 cap1 l) := B1.out.below c2 rfl
    have l2 : Hid ((blkL (hkey sha1L key) 54).length = 64) := blkL_length _ _
    have l1 : Hid ((blkL (hkey sha1L key) 92).length = 64) := blkL_length _ _
    go_wp2_with (at_builtin; refine list_appS _ rfl (.tmp 13) (.tmp 14) rfl y1.heap.size v2 (blkL (hkey sha1L key) 54) rfl o2 a1 len1 cap1 l rfl B2.out (by rw [l2.out]; omega) c2.size ?_; intro v3 y3 o3 g3)
    have c3 : Below y1.heap.size y1 y3 := c2.grown g3 c2.size (fun k hk => (o2.blk k hk).1)
    obtain ⟨x3, q3, rfl, i3⟩ := o3.isB
    have I3 : Hid (IsB y3 x3 (blkL (hkey sha1L key) 54 ++ l).length q3 (blkL (hkey sha1L key) 54 ++ l)) := i3
    have hl3 : (blkL (hkey sha1L key) 54 ++ l).length < 4294967296 := by rw [List.length_append, l2.out, HE1.out]; omega
    clear i3 o3 o2 g3 IK1 B1 B2
    generalize (blkL (hkey sha1L key) 54 ++ l).length = n3 at *
    refine (refSha1 x3 n3 q3 _ y3 I3.out hl3).mono ?_
    rintro e y4 ⟨v4, rfl, o4, c4⟩
    have c34 : Below y1.heap.size y1 y4 := c3.trans (c4.mono c3.size)
    have o1' : OwnB y4 y0.heap.size v1 (blkL (hkey sha1L key) 92) := o1.below c34
    have t4 : Below y0.heap.size y0 y4 := c1.trans (c34.mono c1.size)
    obtain ⟨x4, q4, rfl, i4⟩ := o4.isB
    have I4 : Hid (IsB y4 x4 (sha1L (blkL (hkey sha1L key) 54 ++ l)).length q4 (sha1L (blkL (hkey sha1L key) 54 ++ l))) := i4
    have hl4 : (sha1L (blkL (hkey sha1L key) 54 ++ l)).length = 20 := sha1L_length _
    rw [hl4] at I4 ⊢
    clear i4 o4 I3 hl4
    go_wp2_with (at_builtin; refine list_appS _ rfl (.tmp 11) (.tmp 16) rfl y0.heap.size v1 (blkL (hkey sha1L key) 92) rfl o1' x4 20 q4 (sha1L (blkL (hkey sha1L key) 54 ++ l)) rfl I4.out (by rw [l1.out]; omega) t4.size ?_; intro v5 y5 o5 g5)
    have t5 : Below y0.heap.size y0 y5 := t4.grown g5 t4.size (fun k hk => (o1'.blk k hk).1)
    have T5 : Below w.heap.size w y5 := t0.trans (t5.mono t0.size)
    obtain ⟨x5, q5, rfl, i5⟩ := o5.isB
    have I5 : Hid (IsB y5 x5 (blkL (hkey sha1L key) 92 ++ sha1L (blkL (hkey sha1L key) 54 ++ l)).length q5 (blkL (hkey sha1L key) 92 ++ sha1L (blkL (hkey sha1L key) 54 ++ l))) := i5
    have hl5 : (blkL (hkey sha1L key) 92 ++ sha1L (blkL (hkey sha1L key) 54 ++ l)).length < 4294967296 := by rw [List.length_append, l1.out, sha1L_length]; omega
    clear i5 o5 g5 I4 o1 o1'
    generalize (blkL (hkey sha1L key) 92 ++ sha1L (blkL (hkey sha1L key) 54 ++ l)).length = n5 at *
    refine (refSha1 x5 n5 q5 _ y5 I5.out hl5).mono ?_
    rintro e y6 ⟨v6, rfl, o6, c6⟩
    go_wp2_with fail
    go_ret
    exact ⟨_, rfl, o6.base T5.size, T5.trans (c6.mono T5.size)⟩
  · have hk' : ¬ (64 : Int) < (len : Int) := by omega
    have HK : Hid (hkey sha1L key = key) := by unfold Hid hkey; rw [HE.out, if_neg hk]
    have t0 : Below w.heap.size w w := Below.refl _ _
    have IK : Hid (IsB w a len cap (hkey sha1L key)) := by rw [HK.out]; exact H.out
    have B0 : Hid (IsB w a1 len1 cap1 l) := H1.out
    clear H H1
    go_enter Try.func22, Try.ntmps22
    go_wp2_with fail
    refine (refBlock a len cap (hkey sha1L key) 92 w IK.out).mono ?_
    rintro e y1 ⟨v1, rfl, o1, c1⟩
    have IK1 : Hid (IsB y1 a len cap (hkey sha1L key)) := IK.out.below c1 rfl
    have B1 : Hid (IsB y1 a1 len1 cap1 l) := B0.out.below c1 rfl
    have t1 : Below w.heap.size w y1 := t0.trans (c1.mono t0.size)
    clear IK B0
    go_wp2_with fail
    refine (refBlock a len cap (hkey sha1L key) 54 y1 IK1.out).mono ?_
    rintro e y2 ⟨v2, rfl, o2, c2⟩
    have B2 : Hid (IsB y2 a1 len1 cap1 l) := B1.out.below c2 rfl
    have l2 : Hid ((blkL (hkey sha1L key) 54).length = 64) := blkL_length _ _
    have l1 : Hid ((blkL (hkey sha1L key) 92).length = 64) := blkL_length _ _
    go_wp2_with (at_builtin; refine list_appS _ rfl (.tmp 13) (.tmp 14) rfl y1.heap.size v2 (blkL (hkey sha1L key) 54) rfl o2 a1 len1 cap1 l rfl B2.out (by rw [l2.out]; omega) c2.size ?_; intro v3 y3 o3 g3)
    have c3 : Below y1.heap.size y1 y3 := c2.grown g3 c2.size (fun k hk => (o2.blk k hk).1)
    obtain ⟨x3, q3, rfl, i3⟩ := o3.isB
    have I3 : Hid (IsB y3 x3 (blkL (hkey sha1L key) 54 ++ l).length q3 (blkL (hkey sha1L key) 54 ++ l)) := i3
    have hl3 : (blkL (hkey sha1L key) 54 ++ l).length < 4294967296 := by rw [List.length_append, l2.out, HE1.out]; omega
    clear i3 o3 o2 g3 IK1 B1 B2
    generalize (blkL (hkey sha1L key) 54 ++ l).length = n3 at *
    refine (refSha1 x3 n3 q3 _ y3 I3.out hl3).mono ?_
    rintro e y4 ⟨v4, rfl, o4, c4⟩
    have c34 : Below y1.heap.size y1 y4 := c3.trans (c4.mono c3.size)
    have o1' : OwnB y4 w.heap.size v1 (blkL (hkey sha1L key) 92) := o1.below c34
    have t4 : Below w.heap.size w y4 := c1.trans (c34.mono c1.size)
    obtain ⟨x4, q4, rfl, i4⟩ := o4.isB
    have I4 : Hid (IsB y4 x4 (sha1L (blkL (hkey sha1L key) 54 ++ l)).length q4 (sha1L (blkL (hkey sha1L key) 54 ++ l))) := i4
    have hl4 : (sha1L (blkL (hkey sha1L key) 54 ++ l)).length = 20 := sha1L_length _
    rw [hl4] at I4 ⊢
    clear i4 o4 I3 hl4
    go_wp2_with (at_builtin; refine list_appS _ rfl (.tmp 11) (.tmp 16) rfl w.heap.size v1 (blkL (hkey sha1L key) 92) rfl o1' x4 20 q4 (sha1L (blkL (hkey sha1L key) 54 ++ l)) rfl I4.out (by rw [l1.out]; omega) t4.size ?_; intro v5 y5 o5 g5)
    have t5 : Below w.heap.size w y5 := t4.grown g5 t4.size (fun k hk => (o1'.blk k hk).1)
    have T5 : Below w.heap.size w y5 := t0.trans (t5.mono t0.size)
    obtain ⟨x5, q5, rfl, i5⟩ := o5.isB
    have I5 : Hid (IsB y5 x5 (blkL (hkey sha1L key) 92 ++ sha1L (blkL (hkey sha1L key) 54 ++ l)).length q5 (blkL (hkey sha1L key) 92 ++ sha1L (blkL (hkey sha1L key) 54 ++ l))) := i5
    have hl5 : (blkL (hkey sha1L key) 92 ++ sha1L (blkL (hkey sha1L key) 54 ++ l)).length < 4294967296 := by rw [List.length_append, l1.out, sha1L_length]; omega
    clear i5 o5 g5 I4 o1 o1'
    generalize (blkL (hkey sha1L key) 92 ++ sha1L (blkL (hkey sha1L key) 54 ++ l)).length = n5 at *
    refine (refSha1 x5 n5 q5 _ y5 I5.out hl5).mono ?_
    rintro e y6 ⟨v6, rfl, o6, c6⟩
    go_wp2_with fail
    go_ret
    exact ⟨_, rfl, o6.base T5.size, T5.trans (c6.mono T5.size)⟩
end Go.Proofs.Ytmgflcglmakceaa
