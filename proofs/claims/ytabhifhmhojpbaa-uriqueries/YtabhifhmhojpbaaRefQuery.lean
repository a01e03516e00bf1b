/- What the document's Query answers. -/
import Derived.Test.YtabhifhmhojpbaaRefCut
import Derived.Test.YtabhifhmhojpbaaRefFirst
import Derived.Test.YtabhifhmhojpbaaRefDecode
import Derived.Test.YtabhifhmhojpbaaRefFind
import Derived.Test.YtabhifhmhojpbaaOwnP
import Derived.Test.YtabhifhmhojpbaaQOut
namespace Go.Proofs.Ytabhifhmhojpbaa
open Go.RowKit

theorem infoRP : (Try.prog.info? 42).map (fun i => (i.zero, i.size, i.bytes)) = some (some (.agg #[.string ⟨#[]⟩, .string ⟨#[]⟩]), 2, 32) := by kernel_rfl

theorem refFirst61 (l : List UInt8) (w : World) (hs : l.length ≤ 40000000000000) :
    Calls Try.prog 32 #[.string (str l), .int .u8 61] w fun e w' => e = .returned (.tuple #[.string (str (headL 61 l)), .string (str (tailL 61 l))]) ∧ Below w.heap.size w w' := by
  have := refFirst (str l) 61 w (by rw [str_size]; exact hs)
  rw [str_list] at this
  exact this
theorem refDecodeL (l : List UInt8) (w : World) (hs : l.length ≤ 40000000000000) :
    Calls Try.prog 14 #[.string (str l)] w fun e w' => e = .returned (.tuple #[.string (str (decS l)), .int .i64 (decC l)]) ∧ Below w.heap.size w w' := by
  have := refDecode (str l) w (by rw [str_size]; exact hs)
  rw [str_list] at this
  exact this
theorem refCut38 (s : ByteArray) (w : World) (hs : s.size ≤ 4000000000000) :
    Calls Try.prog 31 #[.string s, .int .u8 38] w fun e w' => ∃ v, e = .returned v ∧ OwnT w' w.heap.size v (cutL 38 s.data.toList) ∧ Below w.heap.size w w' := refCut s 38 w hs

set_option maxHeartbeats 4000000 in
theorem refQuery (s : ByteArray) (w : World) (hs : s.size ≤ 4000000000000) :
    Calls Try.prog 16 #[.string s] w fun e w' => QOut s.data.toList e w' ∧ Below w.heap.size w w' := by
  obtain ⟨l, hl⟩ : ∃ l, l = s.data.toList := ⟨_, rfl⟩
  have HL : Hid (l.length = s.size) := by unfold Hid; rw [hl]; rfl
  have hcut := fun w => refCut38 s w hs
  rw [← hl] at hcut ⊢
  by_cases h0 : l = []
  · have e : s.toList.isEmpty = true := by rw [ByteArray.toList_eq, ← hl, h0]; rfl
    have HQ : Hid (queryL l = some []) := by unfold Hid queryL; rw [if_pos h0]
    clear hl hcut h0
    go_enter Try.func16, Try.ntmps16
    go_wp2
    go_ret2
    obtain ⟨h1, h2⟩ := query_some HQ.out
    exact ⟨⟨none, 0, 0, by rw [h2]; rfl, by rw [h1]; exact isP_nil _⟩, Below.refl _ _⟩
  have e : s.toList.isEmpty = false := by rw [ByteArray.toList_eq, ← hl]; cases hh : l with
    | nil => exact absurd hh h0
    | cons a m => rfl
  have hpos := cutL_pos 38 l
  have hparts := cutL_part 38 l
  have hlen := cutL_len 38 l
  rw [HL.out] at hlen hparts
  have HQ : Hid (queryL l = if 24 < (cutL 38 l).length then none else (cutL 38 l).foldl qStep (some [])) := by unfold Hid queryL; rw [if_neg h0]
  have HP : Hid (∀ k, k < (cutL 38 l).length → (nthT (cutL 38 l) k).length ≤ s.size) := fun k hk => by rw [nthT_eq _ _ hk]; exact hparts _ (List.getElem_mem _)
  clear hl h0 hparts
  generalize hps : cutL 38 l = ps at *
  clear hps
  go_enter Try.func16, Try.ntmps16
  go_wp2_with fail
  refine (hcut w).mono ?_
  rintro e x ⟨v, rfl, hT, hbel⟩
  obtain ⟨g, cap, rfl, hg1, hg2⟩ := hT.form hpos
  have hcap := hT.cap rfl
  unfold maxLen at hcap
  have HC : Hid (∀ k, k < ps.length → x.cell? ⟨g, k, none⟩ = some (.string (str (nthT ps k)))) := fun k hk => hT.cellAt rfl k hk
  clear hT hcut
  obtain ⟨N, hN⟩ : ∃ N, ps.length = N := ⟨_, rfl⟩
  have HN : Hid (ps.length = N) := hN
  rw [hN] at hcap HQ HP HC hlen hpos ⊢
  clear hN
  by_cases hbig : 24 < N
  · have HF : Hid (queryL l = none) := by unfold Hid; rw [HQ.out, if_pos hbig]
    have hbig' : (24 : Int) < (N : Int) := by omega
    go_wp2
    go_ret2
    exact ⟨QOut.none HF.out, hbel⟩
  have hbig' : ¬ (24 : Int) < (N : Int) := by omega
  have HQ2 : Hid (queryL l = ps.foldl qStep (some [])) := by unfold Hid; rw [HQ.out, if_neg hbig]
  clear HQ
  go_wp2_with fail
  go_loopw [5, 6] (fun v i wr => ∃ (k : Nat) (out : List Pr), k ≤ N ∧ out.length ≤ k ∧ i = .int .i64 k ∧ OwnP 42 wr x.heap.size v out ∧ Hid (QTo ps out k) ∧ Below x.heap.size x wr) (fun _ i _ => N - (intOf i).toNat)
  case atStart => exact ⟨0, [], Nat.zero_le _, Nat.le_refl _, rfl, OwnP.nil _ _ _, QTo.zero ps, Below.refl _ _⟩
  case round =>
    obtain ⟨k, out, hk, hol, rfl, hown, HT, hb2⟩ := hrel
    by_cases hlt : k < N
    · have hb0 : (0 : Int) ≤ (k : Int) := by omega
      have hb1 : (k : Int) < (N : Int) := by omega
      have c1 := (hb2.cell (p := ⟨g, k, none⟩) hg2).trans (HC.out k hlt)
      have lp := HP.out k hlt
      have la := headL_length 61 (nthT ps k)
      have lb := tailL_length 61 (nthT ps k)
      have Hnext := fun out' => HT.out.next (out' := out') (by rw [HN.out]; exact hlt)
      have Hfail := HT.out.fail (by rw [HN.out]; exact hlt)
      unfold qStep at Hnext Hfail
      have RF := fun w => refFirst61 (nthT ps k) w (by omega)
      have RA := fun w => refDecodeL (headL 61 (nthT ps k)) w (by omega)
      have RB := fun w => refDecodeL (tailL 61 (nthT ps k)) w (by omega)
      have BX := hbel.trans (hb2.mono hbel.size)
      clear lp la lb
      generalize hpa : headL 61 (nthT ps k) = pa at *
      generalize hpb : tailL 61 (nthT ps k) = pb at *
      generalize nthT ps k = part at *
      clear hpa hpb
      go_wp2_with fail
      refine (RF wr).mono ?_
      rintro e x1 ⟨rfl, b1⟩
      go_wp2_with fail
      refine (RA x1).mono ?_
      rintro e x2 ⟨rfl, b2⟩
      have b2' := b1.trans (b2.mono b1.size)
      clear b1 b2
      go_wp2_with fail
      refine (RB x2).mono ?_
      rintro e x3 ⟨rfl, b3⟩
      have b3' := b2'.trans (b3.mono b2'.size)
      clear b2' b3 RF RA RB c1
      have hown3 := hown.on b3'
      have B3 := hb2.trans (b3'.mono hb2.size)
      have BX3 := BX.trans (b3'.mono BX.size)
      have sz3 : x.heap.size ≤ x3.heap.size := B3.size
      cases d1 : decL pa with
      | none =>
        have HF : Hid (queryL l = none) := by unfold Hid; rw [HQ2.out]; exact Hfail (by rw [d1])
        rw [decC_none d1, decS_none d1]
        clear Hnext Hfail d1
        generalize str (decS pb) = k2
        generalize decC pb = e2
        go_wp2_with fail
        go_ret2
        exact ⟨QOut.none HF.out, BX3⟩
      | some nm =>
        rw [decC_some d1, decS_some d1]
        cases d2 : decL pb with
        | none =>
          have HF : Hid (queryL l = none) := by unfold Hid; rw [HQ2.out]; exact Hfail (by rw [d1, d2])
          rw [decC_none d2, decS_none d2]
          clear Hnext Hfail d1 d2
          go_wp2_with fail
          go_ret2
          exact ⟨QOut.none HF.out, BX3⟩
        | some vl =>
          rw [decC_some d2, decS_some d2]
          have en : (str nm).toList.isEmpty = nm.isEmpty := str_empty nm
          by_cases hnm : nm = []
          · have HF : Hid (queryL l = none) := by unfold Hid; rw [HQ2.out]; exact Hfail (by rw [d1, d2]; exact if_pos (.inl hnm))
            have en' : (str nm).toList.isEmpty = true := by rw [en, hnm]; rfl
            clear Hnext Hfail d1 d2 en hnm
            go_wp2_with fail
            go_ret2
            exact ⟨QOut.none HF.out, BX3⟩
          · have en' : (str nm).toList.isEmpty = false := by rw [en]; cases nm with
              | nil => exact absurd rfl hnm
              | cons a m => rfl
            clear en
            obtain ⟨a, cap2, ev, hi⟩ := hown3.isP
            have RFi := refFind a out.length cap2 out nm x3 hi
            cases hf : (findL out nm).isSome with
            | true =>
              have HF : Hid (queryL l = none) := by unfold Hid; rw [HQ2.out]; exact Hfail (by rw [d1, d2]; exact if_pos (.inr hf))
              rw [hf] at RFi
              rw [ev]
              clear Hnext Hfail d1 d2 hnm hf
              go_wp2_with fail
              refine RFi.mono ?_
              rintro e w' ⟨rfl, hww⟩
              rw [hww]; clear hww w'
              go_wp2_with fail
              go_ret2
              exact ⟨QOut.none HF.out, BX3⟩
            | false =>
              have HT2 : Hid (QTo ps (out ++ [(nm, vl)]) (k + 1)) := Hnext _ (by rw [d1, d2]; exact if_neg (by rw [hf]; simpa using hnm))
              rw [hf] at RFi
              clear Hnext Hfail d1 d2 hnm hf
              rw [ev] at hown3 ⊢
              have HB := hown3.blk
              go_wp2_with fail
              refine RFi.mono ?_
              rintro e w' ⟨rfl, hww⟩
              rw [hww]; clear hww w'
              go_wp2_with (at_builtin; refine list_appQ 33 42 Try.underlying33 infoRP _ rfl _ _ rfl x.heap.size _ out rfl (hown3.alloc _) x3.heap.size nm vl rfl (heap_alloc_new x3 _) (by omega) (by simp; omega) ?_; intro v1 w1 hown1 hgrow)
              go_roundw
              case rel => exact ⟨k + 1, out ++ [(nm, vl)], by omega, by simp; omega, by go_num, hown1, HT2, (B3.alloc B3.size _).grown hgrow (by simp; omega) (fun j hj => (HB j hj).1)⟩
              case measure => simp [intOf]; omega
    · have HF : Hid (queryL l = some out) := by unfold Hid; rw [HQ2.out]; exact HT.out.done (by rw [HN.out]; omega)
      have BX := hbel.trans (hb2.mono hbel.size)
      obtain ⟨a, cap2, ev, hi⟩ := hown.isP
      rw [ev]
      go_wp2
      go_ret2
      obtain ⟨h1, h2⟩ := query_some HF.out
      exact ⟨⟨a, _, cap2, by rw [h2]; rfl, by rw [h1]; exact hi⟩, BX⟩
end Go.Proofs.Ytabhifhmhojpbaa
