/- request: the request that is left, or why there is none. -/
import Derived.Test.YtbknabmcelknmaaGreatDoorR5l
namespace Go.Proofs.YtbknabmcelknmaaGreatDoor
open Go.RowKit

theorem OwnP.base {e : TypeId} {w : World} {base base' : Nat} {v : Value} {l : List Pr} (h : OwnP e w base v l) (hb : base' ≤ base) : OwnP e w base' v l := by
  refine ⟨h.1, ?_⟩
  rcases h.2 with h2 | ⟨g, cap, cur, h3, h4, h5, h6⟩
  · exact .inl h2
  · exact .inr ⟨g, cap, cur, h3, Nat.le_trans hb h4, h5, h6⟩
theorem hds_len {acc : List Pr} {s : List UInt8} {hs : List Pr} {b : List UInt8} (h : hdsL acc s = some (hs, b)) : b.length ≤ s.length := by
  have key : ∀ (n : Nat) (s : List UInt8) (acc : List Pr), s.length ≤ n → hdsL acc s = some (hs, b) → b.length ≤ s.length := by
    intro n
    induction n with
    | zero =>
      intro s acc hn h
      have : s = [] := List.eq_nil_of_length_eq_zero (by omega)
      subst this
      rw [hds_none rfl] at h; cases h
    | succ n ih =>
      intro s acc hn h
      cases hl : lineL s with
      | none => rw [hds_none hl] at h; cases h
      | some y =>
        obtain ⟨hd, rest⟩ := y
        have hlen := line_length hl
        by_cases h0 : hd = []
        · subst h0; rw [hds_end hl] at h; cases h; omega
        · by_cases h3 : hdC hd = true ∧ moreC acc (hdP hd) = true
          · rw [hds_next hl h0 h3] at h
            have := ih rest _ (by omega) h
            omega
          · rw [hds_bad hl h0 h3] at h; cases h
  exact key s.length s acc (Nat.le_refl _) h
theorem hds_vals (m : Nat) {acc : List Pr} {s : List UInt8} {hs : List Pr} {b : List UInt8} (hacc : ∀ x ∈ acc, x.2.length ≤ m) (hm : s.length ≤ m) (h : hdsL acc s = some (hs, b)) : ∀ x ∈ hs, x.2.length ≤ m := by
  have key : ∀ (n : Nat) (s : List UInt8) (acc : List Pr), s.length ≤ n → s.length ≤ m → (∀ x ∈ acc, x.2.length ≤ m) → hdsL acc s = some (hs, b) → ∀ x ∈ hs, x.2.length ≤ m := by
    intro n
    induction n with
    | zero =>
      intro s acc hn _ _ h
      have : s = [] := List.eq_nil_of_length_eq_zero (by omega)
      subst this
      rw [hds_none rfl] at h; cases h
    | succ n ih =>
      intro s acc hn hm hacc h
      cases hl : lineL s with
      | none => rw [hds_none hl] at h; cases h
      | some y =>
        obtain ⟨hd, rest⟩ := y
        have hlen := line_length hl
        by_cases h0 : hd = []
        · subst h0; rw [hds_end hl] at h; cases h; exact hacc
        · by_cases h3 : hdC hd = true ∧ moreC acc (hdP hd) = true
          · rw [hds_next hl h0 h3] at h
            refine ih rest _ (by omega) (by omega) ?_ h
            intro x hx
            rcases List.mem_append.1 hx with hx | hx
            · exact hacc x hx
            · rw [List.mem_singleton] at hx
              subst hx
              have h1 := trimC_len (tailL 58 hd)
              have h2 := tailL_length 58 hd
              show (trimC (tailL 58 hd)).length ≤ m
              omega
          · rw [hds_bad hl h0 h3] at h; cases h
  exact key s.length s acc (Nat.le_refl _) hm hacc h
theorem IsB.moved {g : Nat} {w w' : World} {a : Option Addr} {len cap : Nat} {l : List UInt8} (h : IsB w a len cap l) (hb : Moved g w w') (hne : ∀ b off, a = some ⟨b, off, none⟩ → b ≠ g) : IsB w' a len cap l :=
  ⟨h.len_eq, h.le, h.max, h.nil, fun hp => by
    obtain ⟨b, off, e, hc⟩ := h.cells hp
    refine ⟨b, off, e, fun i hi => ?_⟩
    have := hc i hi
    rw [hb.cell ⟨b, off + i, none⟩ (cell_lt this) (hne b off e)]; exact this⟩
theorem Moved.setAny (g : Nat) (w : World) (j : Nat) (v : Value) : Moved g w (w.setCell ⟨g, j, none⟩ v) := by
  have hb : Below g w (w.setCell ⟨g, j, none⟩ v) := (Below.refl g w).setCell (p := ⟨g, j, none⟩) (Nat.le_refl _) _
  refine ⟨hb.1, hb.2, hb.3, hb.4, fun k hk hne => ?_⟩
  have : k ≠ g := fun e => hne (by rw [e])
  exact heap_setCell_other w _ k v this

set_option maxRecDepth 20000 in
set_option maxHeartbeats 4000000 in
theorem codRequest (B : Nat) (l : List UInt8) (w : World) (hB : Blk w B 57 [.string (str l)]) (hEnv : Env w) (hB3 : 9 ≤ B) (hs : l.length ≤ 1000000) :
    Calls Tryz.prog 24 #[.pointer (some ⟨B, 0, none⟩)] w fun x w' => RqOut (readC l) B x w' ∧ Below B w w' := by
  have hmf : ∀ (fn : Fn) (first cap : Array Value) (w : World), (Instr.makeFunc fn first cap).run Tryz.prog w = .ok (.func fn first cap) w := fun _ _ _ _ => rfl
  obtain ⟨N, hN⟩ : ∃ N, N = w.heap.size := ⟨_, rfl⟩
  have hBw := hB.lt
  have hBN : B < N := by omega
  have A0 : Below w.heap.size w ((w.alloc (.cells #[.string ⟨#[]⟩, .string ⟨#[]⟩, .string ⟨#[]⟩, .slice none 0 0, .slice none 0 0] 25)).alloc (.cells #[.int .i64 0] 26)) := ((Below.refl _ w).alloc (Nat.le_refl _) _).alloc (by simp) _
  have M0 : Moved B w ((w.alloc (.cells #[.string ⟨#[]⟩, .string ⟨#[]⟩, .string ⟨#[]⟩, .slice none 0 0, .slice none 0 0] 25)).alloc (.cells #[.int .i64 0] 26)) := .of A0
  have KQ0 : Blk ((w.alloc (.cells #[.string ⟨#[]⟩, .string ⟨#[]⟩, .string ⟨#[]⟩, .slice none 0 0, .slice none 0 0] 25)).alloc (.cells #[.int .i64 0] 26)) w.heap.size 25 [.string ⟨#[]⟩, .string ⟨#[]⟩, .string ⟨#[]⟩, .slice none 0 0, .slice none 0 0] := (Blk.newAt w w.heap.size 25 _ [.string ⟨#[]⟩, .string ⟨#[]⟩, .string ⟨#[]⟩, .slice none 0 0, .slice none 0 0] rfl rfl).alloc _
  have KE0 : Blk ((w.alloc (.cells #[.string ⟨#[]⟩, .string ⟨#[]⟩, .string ⟨#[]⟩, .slice none 0 0, .slice none 0 0] 25)).alloc (.cells #[.int .i64 0] 26)) (w.heap.size + 1) 26 [.int .i64 0] := Blk.newAt _ (w.heap.size + 1) 26 _ [.int .i64 0] (by simp) rfl
  have HF := codFirst B l ((w.alloc (.cells #[.string ⟨#[]⟩, .string ⟨#[]⟩, .string ⟨#[]⟩, .slice none 0 0, .slice none 0 0] 25)).alloc (.cells #[.int .i64 0] 26)) ((hB.alloc _).alloc _) (hEnv.mx.below A0) hs
  have hBel : ∀ w', Moved B w w' → Below B w w' := fun w' h => h.below (Nat.le_refl _) (by omega)
  cases hl : lineL l with
  | none =>
    rw [hl] at HF
    dsimp only at HF
    unfold refused at HF
    have HE := read_no1 hl
    rw [HE]
    go_enter_defers Tryz.func24, Tryz.ntmps24
    go_wp2_with (go_at_call 46; refine HF.mono ?_; rintro x w1 ⟨rfl, hM1⟩)
    refine doorPanic _ 10 w1 w.heap.size B _ _ _ _ _ _ _ rfl rfl (hM1.blk KQ0 (by omega)) (hM1.blk KE0 (by omega)) (by omega) ?_
    intro w2 hb2
    exact ⟨rqOut_no rfl _ _, (hBel _ (M0.trans hM1)).trans hb2⟩
  | some y =>
    obtain ⟨f, s⟩ := y
    rw [hl] at HF
    dsimp only at HF
    have hlen := line_length hl
    cases hf : firstC f with
    | false =>
      rw [hf] at HF
      simp only [Bool.false_eq_true, if_false] at HF
      unfold refused at HF
      have HE := read_no2 hl hf
      rw [HE]
      go_enter_defers Tryz.func24, Tryz.ntmps24
      go_wp2_with (go_at_call 46; refine HF.mono ?_; rintro x w1 ⟨rfl, hM1⟩)
      refine doorPanic _ 10 w1 w.heap.size B _ _ _ _ _ _ _ rfl rfl (hM1.blk KQ0 (by omega)) (hM1.blk KE0 (by omega)) (by omega) ?_
      intro w2 hb2
      exact ⟨rqOut_no rfl _ _, (hBel _ (M0.trans hM1)).trans hb2⟩
    | true =>
      rw [hf] at HF
      simp only [if_true] at HF
      go_enter_defers Tryz.func24, Tryz.ntmps24
      go_wp2_with (go_at_call 46; refine HF.mono ?_; rintro x w1 ⟨⟨rfl, hB1⟩, hM1⟩; have KQ1 := hM1.blk KQ0 (by omega); have KE1 := hM1.blk KE0 (by omega); have q0 : w1.cell? ⟨w.heap.size, 0, none⟩ = some (.string ⟨#[]⟩) := KQ1.cell 0; have f0 := KQ1.frozen 0)
      obtain ⟨w2, hw2⟩ : ∃ w2, w2 = w1.setCell ⟨w.heap.size, 0, none⟩ (.string (str (headL 32 f))) := ⟨_, rfl⟩
      have KQ2 : Blk w2 w.heap.size 25 [.string (str (headL 32 f)), .string ⟨#[]⟩, .string ⟨#[]⟩, .slice none 0 0, .slice none 0 0] := by rw [hw2]; exact KQ1.set 0 _
      have KE2 : Blk w2 (w.heap.size + 1) 26 [.int .i64 0] := by rw [hw2]; exact KE1.other _ _ (by show w.heap.size + 1 ≠ w.heap.size; omega)
      have hB2 : Blk w2 B 57 [.string (str s)] := by rw [hw2]; exact hB1.other _ _ (by show B ≠ w.heap.size; omega)
      have M2 : Moved B w w2 := by rw [hw2]; exact (M0.trans hM1).setNew _ (Nat.le_refl _) 0 _
      rw [← hw2]
      clear hw2 q0 f0 KQ1 KE1 hB1 hM1 HF
      have hz2 : w.heap.size + 1 < w2.heap.size := KE2.lt
      refine (codHeaders B s w2 hB2 (hEnv.moved M2 hB3).mx (by omega) (by omega)).mono ?_
      cases hh : hdsL [] s with
      | none =>
        rintro x w3 ⟨hp, hM3⟩
        have hx : x = .panicked [{ v := .iface 26 (.int .i64 11), recovered := false }] := hp
        subst hx
        have HE := read_no3 hl hf hh
        refine doorPanic _ 11 w3 w.heap.size B _ _ _ _ _ _ _ rfl rfl (hM3.blk KQ2 (by omega)) (hM3.blk KE2 (by omega)) (by omega) ?_
        intro w4 hb4
        rw [HE]
        exact ⟨rqOut_no rfl _ _, (hBel _ (M2.trans hM3)).trans hb4⟩
      | some z =>
        obtain ⟨hds, bd⟩ := z
        rintro x w3 ⟨⟨v, rfl, hown, h24, hB3'⟩, hM3⟩
        dsimp only at hown h24 hB3'
        have KQ3 := hM3.blk KQ2 (by omega)
        have KE3 := hM3.blk KE2 (by omega)
        have M3 := M2.trans hM3
        have q3 : w3.cell? ⟨w.heap.size, 3, none⟩ = some (.slice none 0 0) := KQ3.cell 3
        have f3 := KQ3.frozen 3
        obtain ⟨a, cap, rfl, hisP⟩ := hown.isP
        go_wp2_with (fail)
        obtain ⟨w4, hw4⟩ : ∃ w4, w4 = w3.setCell ⟨w.heap.size, 3, none⟩ (.slice a hds.length cap) := ⟨_, rfl⟩
        have KQ4 : Blk w4 w.heap.size 25 [.string (str (headL 32 f)), .string ⟨#[]⟩, .string ⟨#[]⟩, .slice a hds.length cap, .slice none 0 0] := by rw [hw4]; exact KQ3.set 3 _
        have KE4 : Blk w4 (w.heap.size + 1) 26 [.int .i64 0] := by rw [hw4]; exact KE3.other _ _ (by show w.heap.size + 1 ≠ w.heap.size; omega)
        have hB4 : Blk w4 B 57 [.string (str bd)] := by rw [hw4]; exact hB3'.other _ _ (by show B ≠ w.heap.size; omega)
        have M4 : Moved B w w4 := by rw [hw4]; exact M3.setNew _ (Nat.le_refl _) 3 _
        have own4 : OwnP 73 w4 w2.heap.size (.slice a hds.length cap) hds := by rw [hw4]; exact hown.moved (Moved.setAny _ _ 3 _) (by omega)
        rw [← hw4]
        clear hw4 q3 f3 KQ3 KE3 hB3' M3 hown hisP hM3
        have lt1 := trimSuffix_len (tailL 32 f) sfx
        have lt2 := tailL_length 32 f
        have lt3 : (tgtC f).length ≤ 1000000 := by have : tgtC f = Lib.trimSuffix (tailL 32 f) sfx := rfl; rw [this]; omega
        refine (codParted (tgtC f) w4 lt3).mono ?_
        cases hp : partC (tgtC f) with
        | false =>
          rintro x w5 ⟨hx, hb5⟩
          have hx' : x = .panicked [{ v := .iface 26 (.int .i64 13), recovered := false }] := hx
          subst hx'
          have HE := read_no4 hl hf hh hp
          refine doorPanic _ 13 w5 w.heap.size B _ _ _ _ _ _ _ rfl rfl (KQ4.on hb5) (KE4.on hb5) (by omega) ?_
          intro w6 hb6
          rw [HE]
          exact ⟨rqOut_no rfl _ _, (hBel _ (M4.trans (.of hb5))).trans hb6⟩
        | true =>
          rintro x w5 ⟨hx, hb5⟩
          have hx' : x = .returned (.tuple #[.string (str (headL 63 (tgtC f))), .string (str (tailL 63 (tgtC f)))]) := hx
          subst hx'
          clear hx
          have KQ5 := KQ4.on hb5
          have KE5 := KE4.on hb5
          have hB5 := hB4.on hb5
          have M5 := M4.trans (.of hb5)
          have own5 := own4.on hb5
          have p1 : w5.cell? ⟨w.heap.size, 1, none⟩ = some (.string ⟨#[]⟩) := KQ5.cell 1
          have p2 : w5.cell? ⟨w.heap.size, 2, none⟩ = some (.string ⟨#[]⟩) := KQ5.cell 2
          have g1 := KQ5.frozen 1
          have g2 := KQ5.frozen 2
          generalize hmm : str (headL 32 f) = sm at *
          generalize hpp : str (headL 63 (tgtC f)) = sp at *
          generalize hqq : str (tailL 63 (tgtC f)) = sq at *
          have rd : w5.cell? ⟨B, 0, none⟩ = some (.string (str bd)) := hB5.cell 0
          have hneB : B ≠ w.heap.size := by omega
          have hneN : w.heap.size ≠ B := by omega
          have hbd : bd.length ≤ 1000000 := by have := hds_len hh; omega
          have KQ6 : Blk ((w5.setCell ⟨w.heap.size, 1, none⟩ (.string sp)).setCell ⟨w.heap.size, 2, none⟩ (.string sq)) w.heap.size 25 [.string sm, .string sp, .string sq, .slice a hds.length cap, .slice none 0 0] := (KQ5.set 1 _).set 2 _
          have KE6 : Blk ((w5.setCell ⟨w.heap.size, 1, none⟩ (.string sp)).setCell ⟨w.heap.size, 2, none⟩ (.string sq)) (w.heap.size + 1) 26 [.int .i64 0] := (KE5.other ⟨w.heap.size, 1, none⟩ _ (by show w.heap.size + 1 ≠ w.heap.size; omega)).other ⟨w.heap.size, 2, none⟩ _ (by show w.heap.size + 1 ≠ w.heap.size; omega)
          have M6 : Moved B w ((w5.setCell ⟨w.heap.size, 1, none⟩ (.string sp)).setCell ⟨w.heap.size, 2, none⟩ (.string sq)) := (M5.setNew _ (Nat.le_refl _) 1 _).setNew _ (Nat.le_refl _) 2 _
          have own6 : OwnP 73 ((w5.setCell ⟨w.heap.size, 1, none⟩ (.string sp)).setCell ⟨w.heap.size, 2, none⟩ (.string sq)) w2.heap.size (.slice a hds.length cap) hds := (own5.moved (Moved.setAny _ _ 1 _) (by omega)).moved (Moved.setAny _ _ 2 _) (by omega)
          obtain ⟨ba, bc, w7, hcv, hV, hb7, hbne⟩ : ∃ ba bc w7, (convert 9 22 (.string (str bd))).run Tryz.prog ((w5.setCell ⟨w.heap.size, 1, none⟩ (.string sp)).setCell ⟨w.heap.size, 2, none⟩ (.string sq)) = .ok (.slice ba bd.length bc) w7 ∧ IsB w7 ba bd.length bc bd ∧ Below ((w5.setCell ⟨w.heap.size, 1, none⟩ (.string sp)).setCell ⟨w.heap.size, 2, none⟩ (.string sq)).heap.size ((w5.setCell ⟨w.heap.size, 1, none⟩ (.string sp)).setCell ⟨w.heap.size, 2, none⟩ (.string sq)) w7 ∧ (∀ b off, ba = some ⟨b, off, none⟩ → w.heap.size + 1 < b) := by
            have h1 := conv_str ((w5.setCell ⟨w.heap.size, 1, none⟩ (.string sp)).setCell ⟨w.heap.size, 2, none⟩ (.string sq)) (str bd)
            have h2 := (conv_str_isB ((w5.setCell ⟨w.heap.size, 1, none⟩ (.string sp)).setCell ⟨w.heap.size, 2, none⟩ (.string sq)) (str bd) (by rw [str_size]; unfold maxLen; omega))
            have h3 := conv_str_bel ((w5.setCell ⟨w.heap.size, 1, none⟩ (.string sp)).setCell ⟨w.heap.size, 2, none⟩ (.string sq)) (str bd)
            rw [str_size] at h1 h2
            rw [show sL (str bd) = bd from str_list bd] at h2
            exact ⟨_, _, _, h1, h2, h3, fun b off e => by cases e; have := KE6.lt; omega⟩
          have KQ7 := KQ6.on hb7
          have KE7 := KE6.on hb7
          have M7 := M6.trans (.of hb7)
          have own7 := own6.on hb7
          have c0 : w7.cell? ⟨w.heap.size, 0, none⟩ = some (.string sm) := KQ7.cell 0
          have c1 : w7.cell? ⟨w.heap.size, 1, none⟩ = some (.string sp) := KQ7.cell 1
          have c2 : w7.cell? ⟨w.heap.size, 2, none⟩ = some (.string sq) := KQ7.cell 2
          have c3 : w7.cell? ⟨w.heap.size, 3, none⟩ = some (.slice a hds.length cap) := KQ7.cell 3
          have c4 : w7.cell? ⟨w.heap.size, 4, none⟩ = some (.slice none 0 0) := KQ7.cell 4
          have d4 := KQ7.frozen 4
          clear KQ6 KE6 M6 own6 KQ5 KE5 M5 own5 KQ4 KE4 M4 own4 KQ2 KE2 hB2 M2 KQ0 KE0 M0 A0
          go_wp2_with (fail)
          obtain ⟨w8, hw8⟩ : ∃ w8, w8 = w7.setCell ⟨w.heap.size, 4, none⟩ (.slice ba bd.length bc) := ⟨_, rfl⟩
          have KQ8 : Blk w8 w.heap.size 25 [.string sm, .string sp, .string sq, .slice a hds.length cap, .slice ba bd.length bc] := by rw [hw8]; exact KQ7.set 4 _
          have KE8 : Blk w8 (w.heap.size + 1) 26 [.int .i64 0] := by rw [hw8]; exact KE7.other _ _ (by show w.heap.size + 1 ≠ w.heap.size; omega)
          have M8 : Moved B w w8 := by rw [hw8]; exact M7.setNew _ (Nat.le_refl _) 4 _
          have own8 : OwnP 73 w8 w2.heap.size (.slice a hds.length cap) hds := by rw [hw8]; exact own7.moved (Moved.setAny _ _ 4 _) (by omega)
          have hV8 : IsB w8 ba bd.length bc bd := by rw [hw8]; exact hV.moved (Moved.setAny _ _ 4 _) (fun b off e => by have := hbne b off e; omega)
          rw [← hw8]
          clear hw8 KQ7 KE7 M7 own7 hV c0 c1 c2 c3 c4 d4 hcv hb7
          have hP8 : IsP w8 a hds.length cap hds := by
            obtain ⟨a', cap', e, hP⟩ := own8.isP
            cases e
            exact hP
          refine (codLength (.string sm) (.string sp) (.string sq) a hds.length cap hds ba bd.length bc bd w8 hP8 rfl hbd (hds_vals 1000000 (fun x hx => by cases hx) (by omega) hh) (hEnv.moved M8 hB3)).mono ?_
          cases hlc : lenC hds bd with
          | false =>
            rintro x w9 ⟨hx, hb9⟩
            have hx' : x = .panicked [{ v := .iface 26 (.int .i64 12), recovered := false }] := hx
            subst hx'
            have HE := read_no5 hl hf hh hp hlc
            refine doorPanic _ 12 w9 w.heap.size B _ _ _ _ _ _ _ rfl rfl (KQ8.on hb9) (KE8.on hb9) (by omega) ?_
            intro w10 hb10
            rw [HE]
            exact ⟨rqOut_no rfl _ _, (hBel _ (M8.trans (.of hb9))).trans hb10⟩
          | true =>
            rintro x w9 ⟨hx, hb9⟩
            have hx' : x = .returned (.tuple #[]) := hx
            subst hx'
            clear hx
            have KQ9 := KQ8.on hb9
            have KE9 := KE8.on hb9
            have M9 := M8.trans (.of hb9)
            have own9 := own8.on hb9
            have hV9 := hV8.below hb9 rfl
            have c0 : w9.cell? ⟨w.heap.size, 0, none⟩ = some (.string sm) := KQ9.cell 0
            have c1 : w9.cell? ⟨w.heap.size, 1, none⟩ = some (.string sp) := KQ9.cell 1
            have c2 : w9.cell? ⟨w.heap.size, 2, none⟩ = some (.string sq) := KQ9.cell 2
            have c3 : w9.cell? ⟨w.heap.size, 3, none⟩ = some (.slice a hds.length cap) := KQ9.cell 3
            have c4 : w9.cell? ⟨w.heap.size, 4, none⟩ = some (.slice ba bd.length bc) := KQ9.cell 4
            have d0 := KQ9.frozen 0
            have d1 := KQ9.frozen 1
            have d2 := KQ9.frozen 2
            have d3 := KQ9.frozen 3
            have d4 := KQ9.frozen 4
            have ce : w9.cell? ⟨w.heap.size + 1, 0, none⟩ = some (.int .i64 0) := KE9.cell 0
            have de := KE9.frozen 0
            have hn1 : w.heap.size + 1 ≠ w.heap.size := by omega
            have hn2 : w.heap.size ≠ w.heap.size + 1 := by omega
            have HE := read_yes hl hf hh hp hlc
            go_wp2
            refine doorRet _ (.int .i64 0) _ w.heap.size (.string sm) (.string sp) (.string sq) (.slice a hds.length cap) (.slice ba bd.length bc) _ rfl rfl ((((((KQ9.set 0 (.string sm)).set 1 (.string sp)).set 2 (.string sq)).set 3 (.slice a hds.length cap)).set 4 (.slice ba bd.length bc)).other ⟨w.heap.size + 1, 0, none⟩ (.int .i64 0) hn2) ((((((KE9.other ⟨w.heap.size, 0, none⟩ (.string sm) hn1).other ⟨w.heap.size, 1, none⟩ (.string sp) hn1).other ⟨w.heap.size, 2, none⟩ (.string sq) hn1).other ⟨w.heap.size, 3, none⟩ (.slice a hds.length cap) hn1).other ⟨w.heap.size, 4, none⟩ (.slice ba bd.length bc) hn1).set 0 (.int .i64 0)) ⟨?_, hBel _ ((((((M9.setNew w.heap.size (Nat.le_refl _) 0 (.string sm)).setNew w.heap.size (Nat.le_refl _) 1 (.string sp)).setNew w.heap.size (Nat.le_refl _) 2 (.string sq)).setNew w.heap.size (Nat.le_refl _) 3 (.slice a hds.length cap)).setNew w.heap.size (Nat.le_refl _) 4 (.slice ba bd.length bc)).setNew (w.heap.size + 1) (Nat.le_succ _) 0 (.int .i64 0))⟩
            rw [HE]
            refine ⟨.slice a hds.length cap, .slice ba bd.length bc, ?_, ((((((own9.moved (Moved.setAny _ _ 0 (.string sm)) (by omega)).moved (Moved.setAny _ _ 1 (.string sp)) (by omega)).moved (Moved.setAny _ _ 2 (.string sq)) (by omega)).moved (Moved.setAny _ _ 3 (.slice a hds.length cap)) (by omega)).moved (Moved.setAny _ _ 4 (.slice ba bd.length bc)) (by omega)).moved (Moved.setAny _ _ 0 (.int .i64 0)) (by omega)).base (by omega), IsB.isV ((((((hV9.moved (Moved.setAny _ _ 0 (.string sm)) (fun b off e => by have := hbne b off e; omega)).moved (Moved.setAny _ _ 1 (.string sp)) (fun b off e => by have := hbne b off e; omega)).moved (Moved.setAny _ _ 2 (.string sq)) (fun b off e => by have := hbne b off e; omega)).moved (Moved.setAny _ _ 3 (.slice a hds.length cap)) (fun b off e => by have := hbne b off e; omega)).moved (Moved.setAny _ _ 4 (.slice ba bd.length bc)) (fun b off e => by have := hbne b off e; omega)).moved (Moved.setAny _ _ 0 (.int .i64 0)) (fun b off e => by have := hbne b off e; omega)), fun b off n2 cap2 e => by cases e; have := hbne _ _ rfl; omega⟩
            show _ = Ending.returned (.tuple #[.agg #[.string (str (headL 32 f)), .string (str (headL 63 (tgtC f))), .string (str (tailL 63 (tgtC f))), .slice a hds.length cap, .slice ba bd.length bc], .int .i64 0])
            rw [hmm, hpp, hqq]
end Go.Proofs.YtbknabmcelknmaaGreatDoor
