/- What the document's Path answers. -/
import Derived.Test.YtabhifhmhojpbaaRefFirst
import Derived.Test.YtabhifhmhojpbaaRefDecode
import Derived.Test.YtabhifhmhojpbaaRetP
namespace Go.Proofs.Ytabhifhmhojpbaa
open Go.RowKit

set_option maxHeartbeats 1000000 in
theorem refPath_none0 (s : ByteArray) (w : World) (h : s.data.toList = [] ∨ ¬ nth s.data.toList 0 = 47) :
    Calls Try.prog 24 #[.string s] w fun e w' => e = .returned (.tuple #[.string (str (pathB s.data.toList)), .string (str (pathK s.data.toList)), .int .i64 (pathC s.data.toList)]) ∧ Below w.heap.size w w' := by
  have HN : Hid (pathL s.data.toList = none) := by unfold Hid pathL; rw [if_pos h]
  have F := ret_no HN.out
  generalize Ending.returned (.tuple #[.string (str (pathB s.data.toList)), .string (str (pathK s.data.toList)), .int .i64 (pathC s.data.toList)]) = R at *
  by_cases h0 : s.data.toList = []
  · have e : s.toList.isEmpty = true := by rw [ByteArray.toList_eq, h0]; rfl
    clear h h0
    go_enter Try.func24, Try.ntmps24
    go_wp2
    go_ret3
    exact ⟨F, Below.refl _ _⟩
  · have e : s.toList.isEmpty = false := by rw [ByteArray.toList_eq]; cases hh : s.data.toList with
      | nil => exact absurd hh h0
      | cons a l => rfl
    have hsz : 0 < s.size := by
      have : s.data.toList.length = s.size := by rw [Array.length_toList]; rfl
      have := List.length_pos_iff.2 h0
      omega
    have hx := ixs s 0 (by omega) (by omega)
    have hc : ¬ sb s 0 = 47 := by rcases h with h | h; exact absurd h h0; exact h
    have hc' : ¬ ((sb s 0).toNat : Int) = 47 := by intro e; exact hc (UInt8.toNat_inj.1 (by have : (47 : UInt8).toNat = 47 := rfl; omega))
    clear h h0 hc
    go_enter Try.func24, Try.ntmps24
    go_wp2
    go_ret3
    exact ⟨F, Below.refl _ _⟩

set_option maxHeartbeats 2000000 in
theorem refPath (s : ByteArray) (w : World) (hs : s.size ≤ 40000000000000) :
    Calls Try.prog 24 #[.string s] w fun e w' => e = .returned (.tuple #[.string (str (pathB s.data.toList)), .string (str (pathK s.data.toList)), .int .i64 (pathC s.data.toList)]) ∧ Below w.heap.size w w' := by
  by_cases h : s.data.toList = [] ∨ ¬ nth s.data.toList 0 = 47
  · exact refPath_none0 s w h
  have hlen : s.data.toList.length = s.size := by rw [Array.length_toList]; rfl
  have h0 : ¬ s.data.toList = [] := fun e => h (.inl e)
  have h47 : sb s 0 = 47 := Classical.byContradiction fun e => h (.inr e)
  have HP : Hid (pathL s.data.toList = match decL (headL 47 (s.data.toList.drop 1)), decL (tailL 47 (s.data.toList.drop 1)) with
    | some b, some k => if b = [] ∧ ¬ k = [] then none else some (b, k)
    | _, _ => none) := by unfold Hid pathL; rw [if_neg h]; rfl
  have e : s.toList.isEmpty = false := by rw [ByteArray.toList_eq]; cases hh : s.data.toList with
    | nil => exact absurd hh h0
    | cons a l => rfl
  have hsz : 0 < s.size := by
    have := List.length_pos_iff.2 h0
    omega
  have hx := ixs s 0 (by omega) (by omega)
  have hc' : ((sb s 0).toNat : Int) = 47 := by rw [h47]; rfl
  have hd : s.extract 1 s.size = str (s.data.toList.drop 1) := ext_drop s 1
  have HF := refFirst (str (s.data.toList.drop 1)) 47
  have HA := refDecode (str (headL 47 (s.data.toList.drop 1)))
  have HK := refDecode (str (tailL 47 (s.data.toList.drop 1)))
  rw [str_list, str_size] at HF HA HK
  have la := headL_length 47 (s.data.toList.drop 1)
  have lk := tailL_length 47 (s.data.toList.drop 1)
  have l1 : (s.data.toList.drop 1).length ≤ s.size := by rw [List.length_drop]; omega
  have HF' := fun w => HF w (by omega)
  have HA' : ∀ w, Calls Try.prog 14 #[.string (str (headL 47 (s.data.toList.drop 1)))] w fun e w' => e = .returned (.tuple #[.string (str (decS (headL 47 (s.data.toList.drop 1)))), .int .i64 (decC (headL 47 (s.data.toList.drop 1)))]) ∧ Below w.heap.size w w' := fun w => HA w (by omega)
  have HK' : ∀ w, Calls Try.prog 14 #[.string (str (tailL 47 (s.data.toList.drop 1)))] w fun e w' => e = .returned (.tuple #[.string (str (decS (tailL 47 (s.data.toList.drop 1)))), .int .i64 (decC (tailL 47 (s.data.toList.drop 1)))]) ∧ Below w.heap.size w w' := fun w => HK w (by omega)
  clear HF HA HK la lk l1 h h0 h47 hlen
  have FN : Hid (pathL s.data.toList = none → Ending.returned (.tuple #[.string ⟨#[]⟩, .string ⟨#[]⟩, .int .i64 13]) = .returned (.tuple #[.string (str (pathB s.data.toList)), .string (str (pathK s.data.toList)), .int .i64 (pathC s.data.toList)])) := ret_no
  generalize str (s.data.toList.drop 1) = s1 at *
  generalize hL1 : headL 47 (s.data.toList.drop 1) = L1 at *
  generalize hL2 : tailL 47 (s.data.toList.drop 1) = L2 at *
  clear hL1 hL2
  cases d1 : decL L1 with
  | none =>
    have FF := FN.out (by rw [HP.out, d1])
    rw [decS_none d1, decC_none d1] at HA'
    clear d1 HP FN
    generalize str (decS L2) = k2 at *
    generalize decC L2 = e2 at *
    go_enter Try.func24, Try.ntmps24
    go_wp2_with fail
    refine (HF' w).mono ?_
    rintro e x1 ⟨rfl, b1⟩
    go_wp2_with fail
    refine (HA' x1).mono ?_
    rintro e x2 ⟨rfl, c2⟩
    have b2 := b1.trans (c2.mono b1.size)
    clear b1 c2
    go_wp2_with fail
    refine (HK' x2).mono ?_
    rintro e x3 ⟨rfl, c3⟩
    have b3 := b2.trans (c3.mono b2.size)
    clear b2 c3
    go_wp2_with fail
    go_ret3
    exact ⟨FF, b3⟩
  | some B =>
    rw [decS_some d1, decC_some d1] at HA'
    cases d2 : decL L2 with
    | none =>
      have FF := FN.out (by rw [HP.out, d1, d2])
      rw [decS_none d2, decC_none d2] at HK'
      clear d1 d2 HP FN
      generalize str B = k1 at *
      go_enter Try.func24, Try.ntmps24
      go_wp2_with fail
      refine (HF' w).mono ?_
      rintro e x1 ⟨rfl, b1⟩
      go_wp2_with fail
      refine (HA' x1).mono ?_
      rintro e x2 ⟨rfl, c2⟩
      have b2 := b1.trans (c2.mono b1.size)
      clear b1 c2
      go_wp2_with fail
      refine (HK' x2).mono ?_
      rintro e x3 ⟨rfl, c3⟩
      have b3 := b2.trans (c3.mono b2.size)
      clear b2 c3
      go_wp2_with fail
      go_ret3
      exact ⟨FF, b3⟩
    | some K =>
      rw [decS_some d2, decC_some d2] at HK'
      have eB : (str B).toList.isEmpty = B.isEmpty := str_empty B
      have eK : (str K).toList.isEmpty = K.isEmpty := str_empty K
      by_cases hB : B = []
      · have eB' : (str B).toList.isEmpty = true := by rw [eB, hB]; rfl
        by_cases hK : K = []
        · have eK' : (str K).toList.isEmpty = true := by rw [eK, hK]; rfl
          have HQ : pathL s.data.toList = some (B, K) := by rw [HP.out, d1, d2]; simp [hB, hK]
          obtain ⟨r1, r2, r3⟩ := path_some HQ
          have FF : Ending.returned (.tuple #[.string (str B), .string (str K), .int .i64 0]) = .returned (.tuple #[.string (str (pathB s.data.toList)), .string (str (pathK s.data.toList)), .int .i64 (pathC s.data.toList)]) := by rw [r1, r2, r3]
          clear d1 d2 HP FN HQ r1 r2 r3 hB hK eB eK
          generalize str B = k1 at *
          generalize str K = k2 at *
          go_enter Try.func24, Try.ntmps24
          go_wp2_with fail
          refine (HF' w).mono ?_
          rintro e x1 ⟨rfl, b1⟩
          go_wp2_with fail
          refine (HA' x1).mono ?_
          rintro e x2 ⟨rfl, c2⟩
          have b2 := b1.trans (c2.mono b1.size)
          clear b1 c2
          go_wp2_with fail
          refine (HK' x2).mono ?_
          rintro e x3 ⟨rfl, c3⟩
          have b3 := b2.trans (c3.mono b2.size)
          clear b2 c3
          go_wp2_with fail
          go_ret3
          exact ⟨FF, b3⟩
        · have eK' : (str K).toList.isEmpty = false := by rw [eK]; cases K with
            | nil => exact absurd rfl hK
            | cons a l => rfl
          have FF := FN.out (by rw [HP.out, d1, d2]; simp [hB, hK])
          clear d1 d2 HP FN hB hK eK eB
          generalize str B = k1 at *
          generalize str K = k2 at *
          go_enter Try.func24, Try.ntmps24
          go_wp2_with fail
          refine (HF' w).mono ?_
          rintro e x1 ⟨rfl, b1⟩
          go_wp2_with fail
          refine (HA' x1).mono ?_
          rintro e x2 ⟨rfl, c2⟩
          have b2 := b1.trans (c2.mono b1.size)
          clear b1 c2
          go_wp2_with fail
          refine (HK' x2).mono ?_
          rintro e x3 ⟨rfl, c3⟩
          have b3 := b2.trans (c3.mono b2.size)
          clear b2 c3
          go_wp2_with fail
          go_ret3
          exact ⟨FF, b3⟩
      · have eB' : (str B).toList.isEmpty = false := by rw [eB]; cases B with
          | nil => exact absurd rfl hB
          | cons a l => rfl
        have HQ : pathL s.data.toList = some (B, K) := by rw [HP.out, d1, d2]; simp [hB]
        obtain ⟨r1, r2, r3⟩ := path_some HQ
        have FF : Ending.returned (.tuple #[.string (str B), .string (str K), .int .i64 0]) = .returned (.tuple #[.string (str (pathB s.data.toList)), .string (str (pathK s.data.toList)), .int .i64 (pathC s.data.toList)]) := by rw [r1, r2, r3]
        clear d1 d2 HP FN HQ r1 r2 r3 hB eB eK
        generalize str B = k1 at *
        generalize str K = k2 at *
        go_enter Try.func24, Try.ntmps24
        go_wp2_with fail
        refine (HF' w).mono ?_
        rintro e x1 ⟨rfl, b1⟩
        go_wp2_with fail
        refine (HA' x1).mono ?_
        rintro e x2 ⟨rfl, c2⟩
        have b2 := b1.trans (c2.mono b1.size)
        clear b1 c2
        go_wp2_with fail
        refine (HK' x2).mono ?_
        rintro e x3 ⟨rfl, c3⟩
        have b3 := b2.trans (c3.mono b2.size)
        clear b2 c3
        go_wp2_with fail
        go_ret3
        exact ⟨FF, b3⟩
end Go.Proofs.Ytabhifhmhojpbaa
