/- request: Show. -/
import Derived.Test.YtbknabmcelknmaaGreatDoorR5w
import Derived.Test.YtbknabmcelknmaaGreatDoorR5x
namespace Go.Proofs.YtbknabmcelknmaaGreatDoor
open Go.RowKit

theorem hlines_le (hs : List Pr) (h : ∀ p ∈ hs, hsC p = true) : (hlines hs).length ≤ hs.length * 1092 := by
  induction hs with
  | nil => simp [hlines]
  | cons p hs ih =>
    have h1 := ih (fun q hq => h q (List.mem_cons_of_mem _ hq))
    obtain ⟨a1, _, a3⟩ := hsC_iff (h p (List.mem_cons_self ..))
    have a4 := (token_no a1).2.2
    have a5 := (val_facts a3).1
    have e : (hline p).length = p.1.length + p.2.length + 4 := by unfold hline; simp only [List.length_append, List.length_cons, List.length_nil]; omega
    rw [hlines_cons, List.length_append, List.length_cons, e]
    omega
theorem meth_le {m : List UInt8} (h : methodL m = true) : m.length ≤ 6 := by
  unfold methodL at h
  rcases of_decide_eq_true h with rfl | rfl | rfl | rfl | rfl <;> decide
theorem headR_le {r : Rq} (h : fitsC r = 0) : (headR r).length ≤ 4000 + r.hs.length * 1092 := by
  obtain ⟨h1, h2, h3⟩ := fits_iff h
  obtain ⟨_, p2, p3⟩ := pathOk_iff h2
  have a1 := meth_le h1
  have a2 := (betw_all p2).2
  have a3 := (betw_all p3).2
  rw [List.length_cons] at a3
  have a4 := hlines_le r.hs h3
  have a5 : (targL r).length ≤ r.p.length + r.q.length + 1 := by
    unfold targL
    by_cases hq : r.q = []
    · rw [if_pos hq]; omega
    · rw [if_neg hq]; simp only [List.length_append, List.length_cons, List.length_nil]; omega
  unfold headR head1 http11
  simp only [List.length_append, List.length_cons, List.length_nil]
  omega
/-- what Show hands out -/
def ShowOut (r : Rq) (x : Ending) (w' : World) (base : Nat) : Prop := ∃ v, x = .returned (.tuple #[v, .int .i64 (showCE r)]) ∧ IsV w' v (showCB r) ∧ (∀ k, v.ownBlock = some k → base ≤ k)
theorem showOut_no {r : Rq} {e : Int} (h : showCE r = e) (he : e ≠ 0) (w' : World) (base : Nat) : ShowOut r (.returned (.tuple #[.slice none 0 0, .int .i64 e])) w' base := by
  refine ⟨.slice none 0 0, by rw [h], ?_, fun k hk => by cases hk⟩
  have : showCB r = [] := by unfold showCB; rw [if_neg (by rw [h]; exact he)]
  rw [this]; exact IsV.nil w'

set_option maxRecDepth 20000 in
set_option maxHeartbeats 2000000 in
theorem codShow (m p q : List UInt8) (a : Option Addr) (n cap : Nat) (hs : List Pr) (ba : Option Addr) (bn bc : Nat) (b : List UInt8) (w : World) (h : IsP w a n cap hs) (hb : IsB w ba bn bc b) (hp : p.length ≤ 1000000) (hq : q.length ≤ 1000000) (hn : n ≤ 1000000) (hbn : bn ≤ 1000000)
    (hsz : ∀ i, i < hs.length → (nthP hs i).1.length ≤ 140737488351232 ∧ (nthP hs i).2.length ≤ 140737488351232) (hE : Env w) (hg : 9 ≤ w.heap.size) :
    Calls Tryz.prog 14 #[.agg #[.string (str m), .string (str p), .string (str q), .slice a n cap, .slice ba bn bc]] w fun e w' => ShowOut ⟨m, p, q, hs, b⟩ e w' w.heap.size ∧ Below w.heap.size w w' := by
  have T0 : Below w.heap.size w (w.alloc (.cells #[.string (str m), .string (str p), .string (str q), .slice a n cap, .slice ba bn bc] 25)) := (Below.refl _ w).alloc (Nat.le_refl _) _
  have K0 := Blk.newAt w w.heap.size 25 _ [.string (str m), .string (str p), .string (str q), .slice a n cap, .slice ba bn bc] rfl rfl
  have HF := codFits m p q a n cap hs (.slice ba bn bc) b _ (h.below T0 rfl) hp hq hsz
  by_cases hf : fitsC ⟨m, p, q, hs, b⟩ = 0
  · obtain ⟨f1, f2, f3⟩ := fits_iff hf
    have hlx := headR_le hf
    dsimp only at hlx f1
    rw [h.len_eq] at hlx
    have hhl : (hlines hs).length ≤ 100000000000000 := by have := hlines_le hs f3; rw [h.len_eq] at this; omega
    have HH : ∀ W, Below w.heap.size w W → Calls Tryz.prog 35 #[.agg #[.string (str m), .string (str p), .string (str q), .slice a n cap, .slice ba bn bc]] W fun e w' => ∃ v, e = .returned v ∧ OwnX w' W.heap.size v (headR ⟨m, p, q, hs, b⟩) ∧ Below W.heap.size W w' := fun W hW => codHead m p q a n cap hs (.slice ba bn bc) b W (h.below hW rfl) (by have := meth_le f1; omega) hp hq hhl
    have HPa : ∀ W v, Below w.heap.size w W → IsV W v (rtext ⟨m, p, q, hs, b⟩) → Calls Tryz.prog 9 #[v] W fun x w' => RqOut (parseC (rtext ⟨m, p, q, hs, b⟩)) W.heap.size x w' ∧ Below W.heap.size W w' := fun W v hW hv => by
      obtain ⟨va, vc, rfl, hi⟩ := hv
      exact codParse va _ vc _ W hi (hE.below hW) (Nat.le_trans hg hW.size)
    have er := rtext_head ⟨m, p, q, hs, b⟩
    dsimp only at er
    have HSh : Hid (showCE ⟨m, p, q, hs, b⟩ = (parseC (rtext ⟨m, p, q, hs, b⟩)).1) := by unfold Hid showCE; rw [if_pos hf]
    have HSb : Hid ((parseC (rtext ⟨m, p, q, hs, b⟩)).1 = 0 → showCB ⟨m, p, q, hs, b⟩ = rtext ⟨m, p, q, hs, b⟩) := fun e => by unfold showCB; rw [HSh.out, if_pos e]
    rw [hf] at HF
    have HBl : Hid (b.length = bn) := hb.len_eq
    have HB : Hid (∀ W, Below w.heap.size w W → IsB W ba bn bc b) := fun W hW => hb.below hW rfl
    have T2 : ∀ W, Below (w.alloc (.cells #[.string (str m), .string (str p), .string (str q), .slice a n cap, .slice ba bn bc] 25)).heap.size (w.alloc (.cells #[.string (str m), .string (str p), .string (str q), .slice a n cap, .slice ba bn bc] 25)) W → Below w.heap.size w W := fun W hW => T0.trans (hW.mono T0.size)
    have HLn : Hid ((headR ⟨m, p, q, hs, b⟩).length + b.length ≤ 140737488355328) := by unfold Hid; rw [HBl.out]; omega
    generalize rtext ⟨m, p, q, hs, b⟩ = rt at *
    generalize headR ⟨m, p, q, hs, b⟩ = hd at *
    have HSe : Hid (showCE ⟨m, p, q, hs, b⟩ = showCE ⟨m, p, q, hs, b⟩) := rfl
    clear h hb hE hsz hlx hhl f1 f2 f3 hf
    have HO0 : (parseC rt).1 = 0 → ∀ v w', IsV w' v rt → (∀ k, v.ownBlock = some k → w.heap.size ≤ k) → ShowOut ⟨m, p, q, hs, b⟩ (.returned (.tuple #[v, .int .i64 0])) w' w.heap.size := fun he v w' h1 h2 => ⟨v, by rw [HSe.out, HSh.out, he], by rw [HSb.out he]; exact h1, h2⟩
    have HO1 : ¬ (parseC rt).1 = 0 → ∀ w', ShowOut ⟨m, p, q, hs, b⟩ (.returned (.tuple #[.slice none 0 0, .int .i64 (parseC rt).1])) w' w.heap.size := fun he w' => showOut_no (HSe.out.trans HSh.out) he w' _
    clear HSh HSb HSe
    generalize parseC rt = pc at *
    obtain ⟨pe, pr⟩ := pc
    dsimp only at HO0 HO1 HPa
    generalize str m = sm at *
    generalize str p = sp at *
    generalize str q = sq at *
    by_cases he : pe = 0
    · subst he
      have HO := HO0 rfl
      clear HO0 HO1
      go_enter Tryz.func14, Tryz.ntmps14
      go_wp2_with (go_at_call 34; refine HF.mono ?_; rintro e w2 ⟨rfl, hb2⟩; have K2 := K0.on hb2; have B2 := T2 _ hb2; have c0 : w2.cell? ⟨w.heap.size, 0, none⟩ = some (.string sm) := K2.cell 0; have c1 : w2.cell? ⟨w.heap.size, 1, none⟩ = some (.string sp) := K2.cell 1; have c2 : w2.cell? ⟨w.heap.size, 2, none⟩ = some (.string sq) := K2.cell 2; have c3 : w2.cell? ⟨w.heap.size, 3, none⟩ = some (.slice a n cap) := K2.cell 3; have c4 : w2.cell? ⟨w.heap.size, 4, none⟩ = some (.slice ba bn bc) := K2.cell 4; have zl := K2.lt)
      have HS0 : Hid (w2.drew.cell? ⟨w.heap.size, 0, none⟩ = some (.string sm) ∧ w2.drew.cell? ⟨w.heap.size, 1, none⟩ = some (.string sp) ∧ w2.drew.cell? ⟨w.heap.size, 2, none⟩ = some (.string sq) ∧ w2.drew.cell? ⟨w.heap.size, 3, none⟩ = some (.slice a n cap) ∧ w2.drew.cell? ⟨w.heap.size, 4, none⟩ = some (.slice ba bn bc) ∧ Below w.heap.size w w2.drew ∧ w.heap.size < w2.drew.heap.size) := ⟨c0, c1, c2, c3, c4, B2.drew, zl⟩
      go_region_held3 (fun w' => w'.cell? ⟨w.heap.size, 0, none⟩ = some (.string sm) ∧ w'.cell? ⟨w.heap.size, 1, none⟩ = some (.string sp) ∧ w'.cell? ⟨w.heap.size, 2, none⟩ = some (.string sq) ∧ w'.cell? ⟨w.heap.size, 3, none⟩ = some (.slice a n cap) ∧ w'.cell? ⟨w.heap.size, 4, none⟩ = some (.slice ba bn bc) ∧ Below w.heap.size w w' ∧ w.heap.size < w'.heap.size)
        (first | exact HS0.out | assumption | (have hq0 := ‹_ ∧ _ ∧ _ ∧ _ ∧ _ ∧ Below _ _ _ ∧ _›; exact ⟨(hbx.cell (p := ⟨w.heap.size, 0, none⟩) (Nat.lt_succ_self _)).trans hq0.1, (hbx.cell (p := ⟨w.heap.size, 1, none⟩) (Nat.lt_succ_self _)).trans hq0.2.1, (hbx.cell (p := ⟨w.heap.size, 2, none⟩) (Nat.lt_succ_self _)).trans hq0.2.2.1, (hbx.cell (p := ⟨w.heap.size, 3, none⟩) (Nat.lt_succ_self _)).trans hq0.2.2.2.1, (hbx.cell (p := ⟨w.heap.size, 4, none⟩) (Nat.lt_succ_self _)).trans hq0.2.2.2.2.1, hq0.2.2.2.2.2.1.trans (hbx.mono (Nat.le_succ _)), Nat.lt_of_lt_of_le hq0.2.2.2.2.2.2 hbx.size⟩))
        (first | (go_at_call 35; have hq0 := ‹_ ∧ _ ∧ _ ∧ _ ∧ _ ∧ Below _ _ _ ∧ _›; refine (HH _ hq0.2.2.2.2.2.1).mono ?_; rintro e w3 ⟨v3, rfl, ho3, hb3⟩; have hbx : Below (w.heap.size + 1) w2.drew w3 := hb3.mono zl; clear hq0) | (have hq1 := ‹_ ∧ _ ∧ _ ∧ _ ∧ _ ∧ Below _ _ _ ∧ _›; refine step_appX w3 (by rfl) _ _ 22 (by rfl) w2.heap.size v3 hd (by rfl) ho3 _ b (by rfl) (src_isB _ _ _ _ b (HB.out _ hq1.2.2.2.2.2.1)) HLn.out hb3.size ?_; intro v4 w4 ho4 hg4 hat4; clear hq1; have hbx : Below (w.heap.size + 1) w3 w4 := (ho3.grown_bel (Below.refl w2.heap.size w3) hb3.size hg4).mono zl))
      all_goals
        have hq2 := ‹_ ∧ _ ∧ _ ∧ _ ∧ _ ∧ Below _ _ _ ∧ _›
        have B4 := hq2.2.2.2.2.2.1
        have hv4 : IsV w4 v4 rt := by rw [er]; exact ho4.isV
        have hk4 : ∀ k, v4.ownBlock = some k → w.heap.size ≤ k := fun k hk => Nat.le_trans B2.size (ho4.blk k hk).1
        go_wp2_with (go_at_call 9; refine (HPa _ _ B4 hv4).mono ?_; rintro x w5 ⟨⟨v5, bv5, rfl, hown5, hIV5, -⟩, hb5⟩; obtain ⟨va5, vc5, rfl, hisP5⟩ := hown5.isP; obtain ⟨ba5, bc5, rfl, hIB5⟩ := hIV5)
        go_ret2
        exact ⟨HO v4 _ ((hv4.below hb5 rfl).below ((Below.refl _ w5).alloc (Nat.le_refl _) _) rfl) hk4, (B4.trans (hb5.mono B4.size)).alloc (B4.trans (hb5.mono B4.size)).size _⟩
    · have HO := HO1 he
      have hpz : (pe == 0) = false := by simpa using he
      clear HO0 HO1
      go_enter Tryz.func14, Tryz.ntmps14
      go_wp2_with (go_at_call 34; refine HF.mono ?_; rintro e w2 ⟨rfl, hb2⟩; have K2 := K0.on hb2; have B2 := T2 _ hb2; have c0 : w2.cell? ⟨w.heap.size, 0, none⟩ = some (.string sm) := K2.cell 0; have c1 : w2.cell? ⟨w.heap.size, 1, none⟩ = some (.string sp) := K2.cell 1; have c2 : w2.cell? ⟨w.heap.size, 2, none⟩ = some (.string sq) := K2.cell 2; have c3 : w2.cell? ⟨w.heap.size, 3, none⟩ = some (.slice a n cap) := K2.cell 3; have c4 : w2.cell? ⟨w.heap.size, 4, none⟩ = some (.slice ba bn bc) := K2.cell 4; have zl := K2.lt)
      have HS0 : Hid (w2.drew.cell? ⟨w.heap.size, 0, none⟩ = some (.string sm) ∧ w2.drew.cell? ⟨w.heap.size, 1, none⟩ = some (.string sp) ∧ w2.drew.cell? ⟨w.heap.size, 2, none⟩ = some (.string sq) ∧ w2.drew.cell? ⟨w.heap.size, 3, none⟩ = some (.slice a n cap) ∧ w2.drew.cell? ⟨w.heap.size, 4, none⟩ = some (.slice ba bn bc) ∧ Below w.heap.size w w2.drew ∧ w.heap.size < w2.drew.heap.size) := ⟨c0, c1, c2, c3, c4, B2.drew, zl⟩
      go_region_held3 (fun w' => w'.cell? ⟨w.heap.size, 0, none⟩ = some (.string sm) ∧ w'.cell? ⟨w.heap.size, 1, none⟩ = some (.string sp) ∧ w'.cell? ⟨w.heap.size, 2, none⟩ = some (.string sq) ∧ w'.cell? ⟨w.heap.size, 3, none⟩ = some (.slice a n cap) ∧ w'.cell? ⟨w.heap.size, 4, none⟩ = some (.slice ba bn bc) ∧ Below w.heap.size w w' ∧ w.heap.size < w'.heap.size)
        (first | exact HS0.out | assumption | (have hq0 := ‹_ ∧ _ ∧ _ ∧ _ ∧ _ ∧ Below _ _ _ ∧ _›; exact ⟨(hbx.cell (p := ⟨w.heap.size, 0, none⟩) (Nat.lt_succ_self _)).trans hq0.1, (hbx.cell (p := ⟨w.heap.size, 1, none⟩) (Nat.lt_succ_self _)).trans hq0.2.1, (hbx.cell (p := ⟨w.heap.size, 2, none⟩) (Nat.lt_succ_self _)).trans hq0.2.2.1, (hbx.cell (p := ⟨w.heap.size, 3, none⟩) (Nat.lt_succ_self _)).trans hq0.2.2.2.1, (hbx.cell (p := ⟨w.heap.size, 4, none⟩) (Nat.lt_succ_self _)).trans hq0.2.2.2.2.1, hq0.2.2.2.2.2.1.trans (hbx.mono (Nat.le_succ _)), Nat.lt_of_lt_of_le hq0.2.2.2.2.2.2 hbx.size⟩))
        (first | (go_at_call 35; have hq0 := ‹_ ∧ _ ∧ _ ∧ _ ∧ _ ∧ Below _ _ _ ∧ _›; refine (HH _ hq0.2.2.2.2.2.1).mono ?_; rintro e w3 ⟨v3, rfl, ho3, hb3⟩; have hbx : Below (w.heap.size + 1) w2.drew w3 := hb3.mono zl; clear hq0) | (have hq1 := ‹_ ∧ _ ∧ _ ∧ _ ∧ _ ∧ Below _ _ _ ∧ _›; refine step_appX w3 (by rfl) _ _ 22 (by rfl) w2.heap.size v3 hd (by rfl) ho3 _ b (by rfl) (src_isB _ _ _ _ b (HB.out _ hq1.2.2.2.2.2.1)) HLn.out hb3.size ?_; intro v4 w4 ho4 hg4 hat4; clear hq1; have hbx : Below (w.heap.size + 1) w3 w4 := (ho3.grown_bel (Below.refl w2.heap.size w3) hb3.size hg4).mono zl))
      all_goals
        have hq2 := ‹_ ∧ _ ∧ _ ∧ _ ∧ _ ∧ Below _ _ _ ∧ _›
        have B4 := hq2.2.2.2.2.2.1
        have hv4 : IsV w4 v4 rt := by rw [er]; exact ho4.isV
        go_wp2_with (go_at_call 9; refine (HPa _ _ B4 hv4).mono ?_; rintro x w5 ⟨⟨v5, bv5, rfl, hown5, hIV5, -⟩, hb5⟩; obtain ⟨va5, vc5, rfl, hisP5⟩ := hown5.isP; obtain ⟨ba5, bc5, rfl, hIB5⟩ := hIV5)
        go_ret2
        exact ⟨HO _, (B4.trans (hb5.mono B4.size)).alloc (B4.trans (hb5.mono B4.size)).size _⟩
  · have hs0 : showCE ⟨m, p, q, hs, b⟩ = fitsC ⟨m, p, q, hs, b⟩ := by unfold showCE; rw [if_neg hf]
    have HN : ∀ w', ShowOut ⟨m, p, q, hs, b⟩ (.returned (.tuple #[.slice none 0 0, .int .i64 (fitsC ⟨m, p, q, hs, b⟩)])) w' w.heap.size := fun w' => showOut_no hs0 hf w' _
    have hfz : (fitsC ⟨m, p, q, hs, b⟩ == 0) = false := by simpa using hf
    generalize fitsC ⟨m, p, q, hs, b⟩ = ft at *
    clear h hb hE hs0 hsz
    generalize str m = sm at *
    generalize str p = sp at *
    generalize str q = sq at *
    go_enter Tryz.func14, Tryz.ntmps14
    go_wp2_with (go_at_call 34; refine HF.mono ?_; rintro e w2 ⟨rfl, hb2⟩)
    go_ret2
    exact ⟨HN _, T0.trans (hb2.mono T0.size)⟩
end Go.Proofs.YtbknabmcelknmaaGreatDoor
