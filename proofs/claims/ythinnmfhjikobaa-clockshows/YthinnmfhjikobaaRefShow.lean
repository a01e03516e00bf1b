/- What the document's Show answers. -/
import Derived.Test.YthinnmfhjikobaaRefDay
import Derived.Test.YthinnmfhjikobaaRefPad3
namespace Go.Proofs.Ythinnmfhjikobaa
open Go.RowKit

set_option maxHeartbeats 400000 in
theorem refShow_out (t : Nat) (w : World) (ht : t < 18446744073709551616) (h : 253402300799 < t) :
    Calls Try.prog 14 #[.int .u64 (t : Int)] w fun e w' => e = .returned (.tuple #[.string ⟨#[]⟩, .int .i64 6]) ∧ Below w.heap.size w w' := by
  have h' : (253402300799 : Int) < (t : Int) := by omega
  clear h
  go_enter Try.func14, Try.ntmps14
  go_wp2
  go_ret2
  exact ⟨rfl, Below.refl _ _⟩

theorem join8 (p q r u v x : List UInt8) : (ByteArray.mk p.toArray ++ ByteArray.mk q.toArray ++ ByteArray.mk r.toArray ++ ByteArray.mk #[84] ++ ByteArray.mk u.toArray ++ ByteArray.mk v.toArray ++ ByteArray.mk x.toArray ++ ByteArray.mk #[90]) = ByteArray.mk (p ++ (q ++ (r ++ (84 :: (u ++ (v ++ (x ++ [90]))))))).toArray := by
  have e1 : (#[84] : Array UInt8) = [84].toArray := rfl
  have e2 : (#[90] : Array UInt8) = [90].toArray := rfl
  rw [e1, e2]
  simp only [ByteArray.mk_append_mk]
  simp only [List.append_assoc, List.cons_append, List.nil_append]

set_option maxHeartbeats 1000000 in
theorem refShow_in (t y m d : Nat) (w : World) (ht : t ≤ 253402300799) (hd : IsDate (t / 86400 + 719162) y m d) :
    Calls Try.prog 14 #[.int .u64 (t : Int)] w fun e w' => e = .returned (.tuple #[.string ⟨(txt y m d (t % 86400 / 3600) (t % 86400 / 60 % 60) (t % 86400 % 60)).toArray⟩, .int .i64 0]) ∧ Below w.heap.size w w' := by
  have H : Hid (IsDate (t / 86400 + 719162) y m d) := hd
  have y2 := hd.y2
  have m2 := hd.m2
  have d2 : d ≤ 31 := by have := hd.d2; have := dim_le y m; omega
  clear hd
  have ht' : ¬ (253402300799 : Int) < (t : Int) := by omega
  obtain ⟨n, hn⟩ : ∃ n : Nat, n = t / 86400 := ⟨_, rfl⟩
  obtain ⟨s, hs⟩ : ∃ s : Nat, s = t % 86400 := ⟨_, rfl⟩
  have hn1 : (t : Int) / 86400 = (n : Int) := by omega
  have hs1 : (t : Int) % 86400 = (s : Int) := by omega
  have hn2 : n ≤ 2932896 := by omega
  have hs2 : s < 86400 := by omega
  rw [← hs]
  rw [← hn] at H
  clear hn hs ht
  obtain ⟨a, ha⟩ : ∃ a : Nat, a = s / 3600 := ⟨_, rfl⟩
  obtain ⟨b, hb⟩ : ∃ b : Nat, b = s / 60 % 60 := ⟨_, rfl⟩
  obtain ⟨c, hc⟩ : ∃ c : Nat, c = s % 60 := ⟨_, rfl⟩
  have ha1 : (s : Int) / 3600 = (a : Int) := by omega
  have hb1 : (s : Int) / 60 % 60 = (b : Int) := by omega
  have hc1 : (s : Int) % 60 = (c : Int) := by omega
  have ha2 : a < 24 := by omega
  have hb2 : b < 60 := by omega
  have hc2 : c < 60 := by omega
  rw [← ha, ← hb, ← hc]
  clear ha hb hc
  have L1 : (dgs 4 y).length = 4 := dgs_length _ _
  have L2 : (dgs 2 m).length = 2 := dgs_length _ _
  have L3 : (dgs 2 d).length = 2 := dgs_length _ _
  have L4 : (dgs 2 a).length = 2 := dgs_length _ _
  have L5 : (dgs 2 b).length = 2 := dgs_length _ _
  have L6 : (dgs 2 c).length = 2 := dgs_length _ _
  have HT : Hid (txt y m d a b c = dgs 4 y ++ (dgs 2 m ++ (dgs 2 d ++ (84 :: (dgs 2 a ++ (dgs 2 b ++ (dgs 2 c ++ [90]))))))) := rfl
  generalize txt y m d a b c = T at *
  go_enter Try.func14, Try.ntmps14
  go_wp2_with fail
  have hnn : ((n + 719162 : Nat) : Int) - 719162 = (n : Int) := by omega
  have hCiv := refCivil_in (n + 719162) y m d w H.out
  rw [hnn] at hCiv
  clear hnn
  refine hCiv.mono ?_
  rintro e x0 ⟨rfl, q, rfl⟩
  clear hCiv
  have B0 : Below w.heap.size w (w.drewN q) := bel_drewN (Below.refl _ _) q
  generalize w.drewN q = x0 at *
  go_wp2_with fail
  refine (refPadN y 4 x0 (by omega) (by omega)).mono ?_
  rintro e x1 ⟨rfl, c1⟩
  have B1 := B0.trans (c1.mono B0.size)
  clear B0 c1
  go_wp2_with fail
  refine (refPadN m 2 x1 (by omega) (by omega)).mono ?_
  rintro e x2 ⟨rfl, c2⟩
  have B2 := B1.trans (c2.mono B1.size)
  clear B1 c2
  go_wp2_with fail
  refine (refPadN d 2 x2 (by omega) (by omega)).mono ?_
  rintro e x3 ⟨rfl, c3⟩
  have B3 := B2.trans (c3.mono B2.size)
  clear B2 c3
  go_wp2_with fail
  refine (refPadN a 2 x3 (by omega) (by omega)).mono ?_
  rintro e x4 ⟨rfl, c4⟩
  have B4 := B3.trans (c4.mono B3.size)
  clear B3 c4
  go_wp2_with fail
  refine (refPadN b 2 x4 (by omega) (by omega)).mono ?_
  rintro e x5 ⟨rfl, c5⟩
  have B5 := B4.trans (c5.mono B4.size)
  clear B4 c5
  go_wp2_with fail
  refine (refPadN c 2 x5 (by omega) (by omega)).mono ?_
  rintro e x6 ⟨rfl, c6⟩
  have B6 := B5.trans (c6.mono B5.size)
  clear B5 c6
  go_wp2_with fail
  go_ret2
  rw [HT.out]
  exact ⟨congrArg (fun z => Ending.returned (.tuple #[.string z, .int .i64 0])) (join8 _ _ _ _ _ _), B6⟩
end Go.Proofs.Ythinnmfhjikobaa
