/- What policy.Parse answers. -/
import Derived.Test.YtihfpoclflppnaaDoorP8f
import Derived.Test.YtihfpoclflppnaaDoorP8g
import Derived.Maps.AppendAt
namespace Go.Proofs.YtihfpoclflppnaaDoor
open Go.RowKit Go.Shelf
attribute [local go_sem] Oper.semAt_some

/-- the rules of the parts that have come -/
def outs8 (pre : List Txt8) : List Ru := pre.map fun x => ruleOf (cutL 32 x.1)
def oks8 (pre : List Txt8) : Prop := ∀ x ∈ pre, ruleOk (cutL 32 x.1) = true
def bad8 (pre : List Txt8) : Prop := ∃ x ∈ pre, ruleOk (cutL 32 x.1) = false
theorem outs8_snoc (pre : List Txt8) (x : Txt8) : outs8 (pre ++ [x]) = outs8 pre ++ [ruleOf (cutL 32 x.1)] := by unfold outs8; rw [List.map_append]; rfl
theorem oks8_snoc {pre : List Txt8} {x : Txt8} (h : oks8 pre) (hx : ruleOk (cutL 32 x.1) = true) : oks8 (pre ++ [x]) := fun y hy => by
  rcases List.mem_append.1 hy with e | e
  · exact h y e
  · rw [List.mem_singleton.1 e]; exact hx
theorem par_seq {l : List UInt8} (h160 : l.length ≤ 160) (hne : l.isEmpty = false) {ys : List Txt8} (h : ys.map (·.1) = cutL 59 l) (ho : oks8 ys) : parE l = 0 ∧ parR l = outs8 ys := by
  have hlen : ys.length = (cutL 59 l).length := by rw [← h, List.length_map]
  obtain ⟨e1, e2⟩ := par_yes l h160 hne (fun j hj => by
    rw [nthT_eq _ _ hj]
    have : (cutL 59 l)[j] = (ys[j]'(by omega)).1 := by simp only [← h, List.getElem_map]
    rw [this]
    exact ho _ (List.getElem_mem _))
  refine ⟨e1, ?_⟩
  rw [e2]
  unfold parTo outs8
  rw [List.take_length, ← h, List.map_map]; rfl
theorem par_bad {l : List UInt8} (hne : l.isEmpty = false) {pre : List Txt8} (h : pre.map (·.1) <+: cutL 59 l) (hx : bad8 pre) : parE l = 45 ∧ parR l = [] := by
  obtain ⟨x, hm, hf⟩ := hx
  have hmem : x.1 ∈ cutL 59 l := h.subset (List.mem_map_of_mem hm)
  obtain ⟨k, hk, e⟩ := List.getElem_of_mem hmem
  exact par_no l hne k hk (by rw [nthT_eq _ _ hk, e]; exact hf)
theorem box_own {β : Type} (B : Nat) (t : TypeId) : Own (fun (_ : β) W => ∃ u, Boxed W B t u) := fun s X Y row hs hg hrow => by
  obtain ⟨u, hu⟩ := hs
  exact ⟨u, hu.kept hg (fun e' => by obtain ⟨o, ho, hc⟩ := hrow B e'.symm; rw [show X.heap[B]? = _ from hu] at ho; cases ho; cases hc)⟩

theorem boxed_bel {W W' : World} {B : Nat} {t : TypeId} {v : Value} (h : Boxed W B t v) (hb : Below W.heap.size W W') : Boxed W' B t v := h.kept (grown_below hb) (by simp)
theorem Vars8.below {Bs : Nat} {q : List UInt8} {A B : World} (h : Vars8 Bs q A) (hb : Below A.heap.size A B) : Vars8 Bs q B := ⟨boxed_bel h.1 hb, boxed_bel h.2.1 hb, boxed_bel h.2.2 hb⟩
theorem Vars8.other {Bs k : Nat} {q : List UInt8} {A : World} (h : Vars8 Bs q A) (hk : k < Bs) (v : Value) : Vars8 Bs q (A.setCell ⟨k, 0, none⟩ v) := ⟨h.1.other (by omega) v, h.2.1.other (by omega) v, h.2.2.other (by omega) v⟩
theorem Vars8.grown {Bs N k : Nat} {q : List UInt8} {A B : World} {v : Value} {xs : List Value} (h : Vars8 Bs q A) (hr : A.ownsRow N 37 4 v k xs) (hg : A.grownBy B v.ownBlock) : Vars8 Bs q B :=
  ⟨h.1.kept hg (h.1.not_row (by decide) hr), h.2.1.kept hg (h.2.1.not_row (by decide) hr), h.2.2.kept hg (h.2.2.not_row (by decide) hr)⟩
theorem keeps_bel {W W' : World} (h : Below W.heap.size W W') : KeepsOthers W W' := ⟨h.4, fun k _ hk _ => (h.5 k (Array.getElem?_eq_some_iff.1 hk).1).trans hk⟩

set_option maxRecDepth 100000 in
set_option maxHeartbeats 4000000 in
theorem codParse8_mid (l : List UInt8) (w : World) (hm : MxS w) (h160 : l.length ≤ 160) (hne : l.isEmpty = false) :
    Calls Tryd.prog 11 #[.string (str l)] w fun e w' => ∃ v, e = .returned (.tuple #[v, .int .i64 (parE l)]) ∧ OwnR 37 w' w.heap.size v (parR l) ∧ Below w.heap.size w w' := by
  obtain ⟨i0, hi, hz0, hz1, hz2⟩ := info_parts infoPol8
  have hz : ((str l).size : Int) ≤ 160 := by rw [str_size]; omega
  have he : (str l).toList.isEmpty = false := by rw [str_empty]; exact hne
  refine (callsIn_wide (n := 6)).1 ?_
  refine callsIn_of_wp_marks Tryd.func11 rfl trivial ?_ rfl
  simp only [Tryd.ntmps11, List.size_toArray, List.length_cons, List.length_nil, Nat.reduceAdd, Nat.reduceSub, Array.replicate_succ, Array.replicate_zero, List.push_toArray, List.append_toArray, List.nil_append, List.cons_append]
  generalize hs : str l = s at *
  gi_wp2_with (refine ⟨trivial, ?_⟩; gi_at_call 24; refine (codSplitSeq _ (by omega) _ _ _).mono ?_; rintro e w' ⟨rfl, rfl⟩)
  obtain ⟨N, hN⟩ : ∃ N, N = w.heap.size := ⟨_, rfl⟩
  have b0 := Boxed.new w 25 (.slice none 0 0)
  have b1 := Boxed.new (w.alloc (.cells #[.slice none 0 0] 25)) 26 (.int .i64 0)
  have b2 := Boxed.new ((w.alloc (.cells #[.slice none 0 0] 25)).alloc (.cells #[.int .i64 0] 26)) 25 (.slice none 0 0)
  have b3 := Boxed.new (((w.alloc (.cells #[.slice none 0 0] 25)).alloc (.cells #[.int .i64 0] 26)).alloc (.cells #[.slice none 0 0] 25)) 9 (.string s)
  have b4 := Boxed.new ((((w.alloc (.cells #[.slice none 0 0] 25)).alloc (.cells #[.int .i64 0] 26)).alloc (.cells #[.slice none 0 0] 25)).alloc (.cells #[.string s] 9)) 9 (.string ⟨#[59]⟩)
  have b5 := Boxed.new (((((w.alloc (.cells #[.slice none 0 0] 25)).alloc (.cells #[.int .i64 0] 26)).alloc (.cells #[.slice none 0 0] 25)).alloc (.cells #[.string s] 9)).alloc (.cells #[.string ⟨#[59]⟩] 9)) 3 (.int .i64 0)
  simp only [World.size_alloc] at b1 b2 b3 b4 b5
  have b0 := (((((b0).alloc (.cells #[.int .i64 0] 26)).alloc (.cells #[.slice none 0 0] 25)).alloc (.cells #[.string s] 9)).alloc (.cells #[.string ⟨#[59]⟩] 9)).alloc (.cells #[.int .i64 0] 3)
  have b1 := ((((b1).alloc (.cells #[.slice none 0 0] 25)).alloc (.cells #[.string s] 9)).alloc (.cells #[.string ⟨#[59]⟩] 9)).alloc (.cells #[.int .i64 0] 3)
  have b2 := (((b2).alloc (.cells #[.string s] 9)).alloc (.cells #[.string ⟨#[59]⟩] 9)).alloc (.cells #[.int .i64 0] 3)
  have b3 := ((b3).alloc (.cells #[.string ⟨#[59]⟩] 9)).alloc (.cells #[.int .i64 0] 3)
  have b4 := (b4).alloc (.cells #[.int .i64 0] 3)
  have hB0 : Below w.heap.size w ((((((w.alloc (.cells #[.slice none 0 0] 25)).alloc (.cells #[.int .i64 0] 26)).alloc (.cells #[.slice none 0 0] 25)).alloc (.cells #[.string s] 9)).alloc (.cells #[.string ⟨#[59]⟩] 9)).alloc (.cells #[.int .i64 0] 3)) := ((((((Below.refl _ w).alloc (Nat.le_refl _) _).alloc (by simp <;> omega) _).alloc (by simp <;> omega) _).alloc (by simp <;> omega) _).alloc (by simp <;> omega) _).alloc (by simp <;> omega) _
  have hsz : ((((((w.alloc (.cells #[.slice none 0 0] 25)).alloc (.cells #[.int .i64 0] 26)).alloc (.cells #[.slice none 0 0] 25)).alloc (.cells #[.string s] 9)).alloc (.cells #[.string ⟨#[59]⟩] 9)).alloc (.cells #[.int .i64 0] 3)).heap.size = w.heap.size + 1 + 1 + 1 + 1 + 1 + 1 := by simp
  generalize ((((((w.alloc (.cells #[.slice none 0 0] 25)).alloc (.cells #[.int .i64 0] 26)).alloc (.cells #[.slice none 0 0] 25)).alloc (.cells #[.string s] 9)).alloc (.cells #[.string ⟨#[59]⟩] 9)).alloc (.cells #[.int .i64 0] 3)) = W0 at *
  rw [← hN] at b0 b1 b2 b3 b4 b5 hB0 hsz ⊢
  have HN : Hid (N = w.heap.size) := hN
  have hN1 : N ≤ w.heap.size := by omega
  have hN2 : w.heap.size ≤ N := by omega
  have hmN : 3 < N := by have := hm.lt; omega
  have HMx : Hid (∀ W, Below N w W → MxS W) := fun W hW => hm.below hW hmN
  have HSeq := seq8 5 (by omega) (N + 1 + 1 + 1) l (by omega)
  clear hN hm
  refine range_box (by omega) (gf := 47) (lb := #[.pointer (some ⟨N + 1 + 1 + 1 + 1, 0, none⟩), .pointer (some ⟨N + 1 + 1 + 1, 0, none⟩), .pointer (some ⟨N + 1 + 1 + 1 + 1 + 1, 0, none⟩)]) rfl (enters_of Tryd.func47 (by kernel_rfl) rfl)
    HSeq (by omega) (fun W hW => ⟨by rw [hs]; exact (hW.5 _ b3.lt).trans b3, (hW.5 _ b4.lt).trans b4, (hW.5 _ b5.lt).trans b5⟩)
    (fun A B C h1 h2 q hq => h2 q (h1 q hq))
    (fun W k o hk q hq => ⟨(World.putObj_heap_other (by omega)).trans hq.1, (World.putObj_heap_other (by omega)).trans hq.2.1, (World.putObj_heap_other (by omega)).trans hq.2.2⟩) (fun _ => rfl)
    (fun pre W => ((((∃ v, Boxed W (N + 1 + 1) 25 v ∧ W.ownsRow N 37 4 v (outs8 pre).length (rcs (outs8 pre)) ∧ True) ∧ (Boxed W N 25 (.slice none 0 0) ∧ Boxed W (N + 1) 26 (.int .i64 0))) ∧ ∃ u, Boxed W (N + 1 + 1 + 1) 9 u) ∧ oks8 pre) ∧ Below N w W)
    (fun pre W => ((Boxed W N 25 (.slice none 0 0) ∧ Boxed W (N + 1) 26 (.int .i64 45)) ∧ bad8 pre) ∧ Below N w W)
    (OwnFrom.and (OwnFrom.and (OwnFrom.and (OwnFrom.and (Own.from (holdsRow_own N (N + 1 + 1) 25 37 4 (fun pre => (outs8 pre).length) (fun pre => rcs (outs8 pre)) (fun _ _ => True)) _) (OwnFrom.and (Own.from (boxed_own N _ (fun _ => _)) _) (Own.from (boxed_own (N + 1) _ (fun _ => _)) _))) (Own.from (box_own _ _) _)) (ownFrom_pure _ _)) (ownFrom_below (by omega) (by omega)))
    (OwnFrom.and (OwnFrom.and (OwnFrom.and (Own.from (boxed_own N _ (fun _ => _)) _) (Own.from (boxed_own (N + 1) _ (fun _ => _)) _)) (ownFrom_pure _ _)) (ownFrom_below (by omega) (by omega)))
    ?stable ⟨⟨⟨⟨⟨_, b2, World.ownsRow_nil _ _ _ _, trivial⟩, b0, b1⟩, _, b3⟩, fun x hx => by cases hx⟩, hB0⟩
    (fun x => { tmps := #[.string s, undef, .pointer (some ⟨N, 0, none⟩), .pointer (some ⟨N + 1, 0, none⟩), .pointer (some ⟨N + 1 + 1, 0, none⟩), .string (str x.1), undef, undef, .string s, .int .i64 (s.size : Int), .bool (decide (160 < (s.size : Int))), .string s, .bool false, .string s, .func (.func 47) #[] #[.pointer (some ⟨N + 1 + 1 + 1 + 1, 0, none⟩), .pointer (some ⟨N + 1 + 1 + 1, 0, none⟩), .pointer (some ⟨N + 1 + 1 + 1 + 1 + 1, 0, none⟩)], .string (str x.1), undef, undef, undef, undef, undef, undef, undef, undef, undef, undef, undef, undef], defers := [] }) ?assign ?body ?done ?stop
  case stable =>
    rintro pre A v ⟨⟨⟨⟨⟨v2, hv2, hrow, -⟩, h0, h1⟩, u, hu⟩, hok⟩, hB⟩
    exact ⟨⟨⟨⟨⟨v2, hv2.other (by omega) _, hrow.kept (grownBy_setCell' A (N + 1 + 1 + 1) v) (.inr (hu.not_row (by decide) hrow).symm), trivial⟩, h0.other (by omega) _, h1.other (by omega) _⟩, v, hu.set v⟩, hok⟩, hB.setCell (p := ⟨N + 1 + 1 + 1, 0, none⟩) (by show N ≤ N + 1 + 1 + 1; omega) _⟩
  case assign =>
    intro l x W K hK
    gi_wp2
    exact hK
  case body =>
    rintro l0 pre x W ⟨⟨⟨⟨⟨v, hv, hrow, -⟩, h2, h3⟩, u, hu⟩, hok⟩, hB⟩ hlt
    have hown : OwnR 37 W N v (outs8 pre) := hrow
    obtain ⟨a, cap, rfl, -⟩ := hown.isRs
    have hk : (outs8 pre).length ≤ 160 := by unfold outs8; rw [List.length_map]; omega
    have HP := codParseRule x.1 W (HMx.out W hB) x.2
    have HOK : Hid (oks8 pre) := hok
    have HOS : Hid (outs8 (pre ++ [x]) = outs8 pre ++ [ruleOf (cutL 32 x.1)]) := outs8_snoc pre x
    have HOJ : Hid (ruleOk (cutL 32 x.1) = true → oks8 (pre ++ [x])) := fun h => oks8_snoc hok h
    have HON : Hid (ruleOk (cutL 32 x.1) = false → bad8 (pre ++ [x])) := fun h => ⟨x, by simp, h⟩
    have HB : Hid (Below N w W) := hB
    have H2 : Hid (Boxed W N 25 (.slice none 0 0)) := h2
    have H3 : Hid (Boxed W (N + 1) 26 (.int .i64 0)) := h3
    have HU : Hid (Boxed W (N + 1 + 1 + 1) 9 u) := hu
    have HV : Hid (Boxed W (N + 1 + 1) 25 (.slice a (outs8 pre).length cap)) := hv
    have HO : Hid (OwnR 37 W N (.slice a (outs8 pre).length cap) (outs8 pre)) := hown
    clear hok hlt hown hrow b0 b1 b2 b3 b4 b5 hB0 hB h2 h3 hu hs
    have hcv := hv.cell
    clear hv
    generalize hout : outs8 pre = out at *
    generalize ruleOf (cutL 32 x.1) = rr at *
    generalize hkn : out.length = k at *
    generalize ruleOk (cutL 32 x.1) = ok at *
    generalize str x.1 = sx at *
    have HKN : Hid (out.length = k) := hkn
    have HOW : Hid (∀ X, Below W.heap.size W X → X.ownsRow N 37 4 (.slice a k cap) k (rcs out)) := fun X hX => by
      have h5 : X.ownsRow N 37 4 (.slice a k cap) out.length (rcs out) := HO.out.on hX
      rw [hkn] at h5; exact h5
    clear hout hkn HSeq
    cases ok with
    | false =>
      have HN2 : Hid (bad8 (pre ++ [x])) := HON.out rfl
      clear HON HOJ HOS
      gi_wp2_with (refine ⟨trivial, ?_⟩; gi_at_call 25; refine (CallsIn.inRound l0 (callsIn_wide.2 HP)).mono ?_; rintro e W1 ⟨r, rfl, -, hbw⟩; have C2 := fun o => ((boxed_bel H2.out hbw).alloc o).cell; have F2 := fun o => ((boxed_bel H2.out hbw).alloc o).frozen; have C3 := fun o => ((boxed_bel H3.out hbw).alloc o).cell; have F3 := fun o => ((boxed_bel H3.out hbw).alloc o).frozen)
      refine ⟨((keeps_bel (hbw.alloc hbw.size _)).trans ((KeepsOthers.setCell _ _ _).trans (KeepsOthers.setCell _ _ _))).from _, ⟨⟨(((boxed_bel H2.out hbw).alloc _).set _).other (by omega) _, (((boxed_bel H3.out hbw).alloc _).other (by omega) _).set _⟩, HN2.out⟩, ((HB.out.trans ((hbw.alloc hbw.size _).mono (Nat.le_trans hN1 HB.out.size))).setCell (p := ⟨N, 0, none⟩) (Nat.le_refl _) _).setCell (p := ⟨N + 1, 0, none⟩) (by simp) _⟩
    | true =>
      have HO2 := HOJ.out rfl
      have HO3 : Hid (oks8 (pre ++ [x])) := HO2
      clear HON HOJ HO2
      gi_wp2_with (first | (refine ⟨trivial, ?_⟩; gi_at_call 25; refine (CallsIn.inRound l0 (callsIn_wide.2 HP)).mono ?_; rintro e W1 ⟨r, rfl, hr, hbw⟩; obtain rfl := (hr (by first | rfl | trivial)).symm; have hbX := fun o => hbw.alloc hbw.size o; have CV := fun o => ((boxed_bel HV.out hbw).alloc o).cell; clear hcv hr) | (gi_at_builtin; refine wpListIn_append_own _ rfl _ _ 25 rfl N 37 i0 ruZ 4 56 Tryd.underlying25 hi hz0 hz1 hz2 rfl (by decide) _ k (rcs out) rfl (World.ownsRow.alloc (HOW.out _ (hbX _)) _) ⟨W1.heap.size + 1, 0, none⟩ 1 1 (ruc rr) rfl rfl (fun j u hu => World.news_of_block (by have := heap_alloc_new (W1.alloc (.cells (ruc rr).toArray 37)) (.cells (ruc rr).toArray 37); rw [World.size_alloc] at this; exact this) j u (by simpa using hu)) (ruc_one rr) (by unfold maxLen; omega) (by omega) (by have := HB.out.size; have := hbw.size; simp; omega) ?_; intro v' w1 hown' hgrow _; obtain ⟨g', cap', rfl⟩ := ownsRow_succ hown'; have hc1 : w1.cell? ⟨N + 1 + 1, 0, none⟩ = some (.slice a k cap) := (by have h5 := (boxed_bel HV.out (hbX (.cells (ruc rr).toArray 37))).alloc (.cells (ruc rr).toArray 37); exact (h5.kept hgrow (h5.not_row (by decide) (World.ownsRow.alloc (HOW.out _ (hbX _)) _))).cell); have hf1 : w1.frozen? ⟨N + 1 + 1, 0, none⟩ = false := (by have h5 := (boxed_bel HV.out (hbX (.cells (ruc rr).toArray 37))).alloc (.cells (ruc rr).toArray 37); exact (h5.kept hgrow (h5.not_row (by decide) (World.ownsRow.alloc (HOW.out _ (hbX _)) _))).frozen)))
      have hX := hbX (.cells (ruc rr).toArray 37)
      have hV := boxed_bel HV.out hX
      have h2' := boxed_bel H2.out hX
      have h3' := boxed_bel H3.out hX
      have hu' := boxed_bel HU.out hX
      have hR := HOW.out _ hX
      have hgrow : ((W1.alloc (.cells (ruc rr).toArray 37)).alloc (.cells (ruc rr).toArray 37)).grownBy w1 (Value.slice a k cap).ownBlock := hgrow
      have hVk : Hid (∀ q, Vars8 (N + 1 + 1 + 1) q W → Vars8 (N + 1 + 1 + 1) q w1) := fun q hq => Vars8.grown ((hq.below hX).below ((Below.refl _ _).alloc (Nat.le_refl _) _)) (World.ownsRow.alloc hR _) hgrow
      obtain ⟨hv1, hv2, hr2, hk2, hbl⟩ := hV.appended (by decide) hR (by have := HB.out.size; have := hX.size; omega) (by omega) hown' hgrow
      have hKO := (keeps_bel hX).trans hk2
      have ho := HOS.out
      have hlen : (outs8 (pre ++ [x])).length = k + 1 := by rw [ho, List.length_append, HKN.out]; rfl
      have g2 : Boxed w1 N 25 (.slice none 0 0) := (h2'.alloc _).kept hgrow (h2'.not_row (by decide) hR)
      have g3 : Boxed w1 (N + 1) 26 (.int .i64 0) := (h3'.alloc _).kept hgrow (h3'.not_row (by decide) hR)
      have gu : Boxed w1 (N + 1 + 1 + 1) 9 u := (hu'.alloc _).kept hgrow (hu'.not_row (by decide) hR)
      exact ⟨hKO.from _, fun q hq => (hVk.out q hq).other (by omega) _, ⟨⟨⟨⟨_, hv2, by rw [hlen, ho, rcs_append]; exact hr2⟩, g2.other (by omega) _, g3.other (by omega) _⟩, u, gu.other (by omega) _⟩, HO3.out⟩, (HB.out.trans (hX.mono (Nat.le_trans hN1 HB.out.size))).trans hbl⟩
  case done =>
    rintro D ys W hD hS ⟨⟨⟨⟨⟨v, hv, hrow, -⟩, h2, h3⟩, u, hu⟩, hok⟩, hB⟩ hK
    have hown : OwnR 37 W N v (outs8 ys) := hrow
    obtain ⟨a, cap, rfl, -⟩ := hown.isRs
    obtain ⟨q1, q2⟩ := par_seq h160 hne hS hok
    have hcv := hv.cell
    have hc2 := h2.cell
    have hf2 := h2.frozen
    have hc3 := h3.cell
    have hf3 := h3.frozen
    have Q1 : Hid (parE l = 0) := q1
    have Q2 : Hid (parR l = outs8 ys) := q2
    have HO : Hid (W.ownsRow N 37 4 (.slice a (outs8 ys).length cap) (outs8 ys).length (rcs (outs8 ys))) := hrow
    have hD' : N ≤ D := by omega
    clear q1 q2 hok hS hown hrow b0 b1 b2 b3 b4 b5 hB0 hs HSeq
    generalize outs8 ys = out at *
    generalize hn : out.length = k at *
    gi_wp2
    have hK' := ((KeepsOthers.setCell W ⟨N, 0, none⟩ (.slice a k cap)).trans (KeepsOthers.setCell _ ⟨N + 1, 0, none⟩ (.int .i64 0))).same D _ hK rfl
    refine ⟨by simp, .inl ⟨_, _, rfl, run_takeDeferred hK', ?_⟩⟩
    have x2 : Boxed ((W.setCell ⟨N, 0, none⟩ (.slice a k cap)).setCell ⟨N + 1, 0, none⟩ (.int .i64 0)) N 25 (.slice a k cap) := (h2.set _).other (by omega) _
    have x3 : Boxed ((W.setCell ⟨N, 0, none⟩ (.slice a k cap)).setCell ⟨N + 1, 0, none⟩ (.int .i64 0)) (N + 1) 26 (.int .i64 0) := (h3.other (by omega) _).set _
    have y2 := cell_kept x2.cell (grownBy_putObj' _ D (.deferred none)) (fun r e => by cases e; exact ⟨_, hK', rfl⟩)
    have y3 := cell_kept x3.cell (grownBy_putObj' _ D (.deferred none)) (fun r e => by cases e; exact ⟨_, hK', rfl⟩)
    have o1 := HO.out.kept (grownBy_setCell' W N (.slice a k cap)) (.inr (h2.not_row (by decide) HO.out).symm)
    have o2 := o1.kept (grownBy_setCell' _ (N + 1) (.int .i64 0)) (.inr ((h3.other (by omega) _).not_row (by decide) o1).symm)
    have o3 := ownsRow_putObj o2 (.deferred none) hK' rfl
    refine ⟨.tuple #[.slice a k cap, .int .i64 0], ?_, .slice a k cap, by rw [Q1.out], ?_, ?_⟩
    · simp [results, Tryd.f11, go_sem, y2, y3]
    · rw [Q2.out, ← HN.out]; unfold OwnR; rw [hn]; exact o3
    · rw [← HN.out]
      exact ((hB.setCell (p := ⟨N, 0, none⟩) (Nat.le_refl _) _).setCell (p := ⟨N + 1, 0, none⟩) (by simp) _).trans (belowK_b (w := w) hN1 _ D _ _ (by omega) hK' rfl rfl)
  case stop =>
    rintro D pre W hD hSp ⟨⟨⟨h2, h3⟩, hq⟩, hB⟩ hK
    obtain ⟨q1, q2⟩ := par_bad hne hSp hq
    have Q1 : Hid (parE l = 45) := q1
    have Q2 : Hid (parR l = []) := q2
    clear q1 q2 hq hSp
    gi_wp2
    refine ⟨by simp, .inl ⟨_, _, rfl, run_takeDeferred hK, ?_⟩⟩
    have y2 := cell_kept h2.cell (grownBy_putObj' _ D (.deferred none)) (fun r e => by cases e; exact ⟨_, hK, rfl⟩)
    have y3 := cell_kept h3.cell (grownBy_putObj' _ D (.deferred none)) (fun r e => by cases e; exact ⟨_, hK, rfl⟩)
    refine ⟨.tuple #[.slice none 0 0, .int .i64 45], ?_, .slice none 0 0, by rw [Q1.out], by rw [Q2.out]; exact OwnR.nil _ _ _, ?_⟩
    · simp [results, Tryd.f11, go_sem, y2, y3]
    · rw [← HN.out]
      exact hB.trans (belowK_b (w := w) hN1 W D _ _ (by omega) hK rfl rfl)

set_option maxRecDepth 100000 in
set_option maxHeartbeats 1000000 in
theorem codParse8 (l : List UInt8) (w : World) (hm : MxS w) (hl : l.length ≤ 10000000) :
    Calls Tryd.prog 11 #[.string (str l)] w fun e w' => ∃ v, e = .returned (.tuple #[v, .int .i64 (parE l)]) ∧ OwnR 37 w' w.heap.size v (parR l) ∧ Below w.heap.size w w' := by
  by_cases h160 : l.length ≤ 160
  · cases hne : l.isEmpty with
    | false => exact codParse8_mid l w hm h160 hne
    | true =>
      have hz : ((str l).size : Int) ≤ 160 := by rw [str_size]; omega
      have he : (str l).toList.isEmpty = true := by rw [str_empty]; exact hne
      have hln : l = [] := List.isEmpty_iff.1 hne
      have Q1 : Hid (parE l = 0) := by rw [hln]; exact par_none.1
      have Q2 : Hid (parR l = []) := by rw [hln]; exact par_none.2
      clear hln hne
      generalize str l = s at *
      go_enter Tryd.func11, Tryd.ntmps11
      go_wp2
      (try simp only [Exit.inBlock, Exit.then])
      refine bodyPost_ret (v := .tuple #[.slice none 0 0, .int .i64 0]) ?_ rfl ⟨.slice none 0 0, by rw [Q1.out], by rw [Q2.out]; exact OwnR.nil _ _ _, ((Below.refl _ w).alloc (Nat.le_refl _) _).alloc (by simp) _⟩
      simp [results, Tryd.f11, go_sem]
  · have hz : ¬ ((str l).size : Int) ≤ 160 := by rw [str_size]; omega
    have hz2 : (160 : Int) < ((str l).size : Int) := by rw [str_size]; omega
    obtain ⟨q1, q2⟩ := par_long l h160
    have Q1 : Hid (parE l = 45) := q1
    have Q2 : Hid (parR l = []) := q2
    clear h160 q1 q2
    generalize str l = s at *
    go_enter Tryd.func11, Tryd.ntmps11
    go_wp2
    (try simp only [Exit.inBlock, Exit.then])
    refine bodyPost_ret (v := .tuple #[.slice none 0 0, .int .i64 45]) ?_ rfl ⟨.slice none 0 0, by rw [Q1.out], by rw [Q2.out]; exact OwnR.nil _ _ _, ((Below.refl _ w).alloc (Nat.le_refl _) _).alloc (by simp) _⟩
    simp [results, Tryd.f11, go_sem]
end Go.Proofs.YtihfpoclflppnaaDoor
