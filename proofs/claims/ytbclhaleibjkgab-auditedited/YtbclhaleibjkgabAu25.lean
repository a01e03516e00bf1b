/- AuditEdited: the walk. -/
import Derived.Test.YtbclhaleibjkgabC2
import Derived.Test.YtbclhaleibjkgabAu22
import Derived.Deep.CutRange
namespace Go.Proofs.Ytbclhaleibjkgab
open Go.RowKit

/-- how AuditEdited stands behind its loop -/
structure EdAt (w W : World) (tc : List Value) (v : Value) (A : List Rq14) (n : Nat) : Prop where
  tk : NxAt w W tc
  log : LogE14 w W (w.heap.size + 1) v A n
theorem EdAt.on {w W W' : World} {tc : List Value} {v : Value} {A : List Rq14} {n n' : Nat} (h : EdAt w W tc v A n) (hb : Below W.heap.size W W') (hn : n ≤ n') : EdAt w W' tc v A n' := ⟨h.tk.on hb, h.log.on hb hn⟩
theorem right_lenE14 {r : Rc} (h : rightRc r = true) : rcLen r ≤ 5000 := by
  have := of_decide_eq_true h
  unfold rcLen
  omega
attribute [local go_sem] undef
set_option maxRecDepth 20000 in
set_option maxHeartbeats 40000000 in
theorem editedW14 (a : Option Addr) (n cap : Nat) (l : List Rq14) (at' how : Int) (t : Rc) (u : RcA) (w : World) (h : IsRl w a n l) (hz : ∀ x ∈ l, RcZ x.1) (hn : n * 136 ≤ 140737488351232) (ha : a = none → n = 0 ∧ cap = 0) (hr : IsRec w t u) (zr : RcZ t) :
    Calls Try.prog 5 #[.slice a n cap, .int .i64 at', .int .i64 how, .agg (rcc t u).toArray] w fun e w' => e = .returned (.bool true) ∧ Below w.heap.size w w' := by
  have HSrc : Hid (∀ W, Below w.heap.size w W → SrcRc W a n cap l) := fun W hW => (h.below hW).src ha
  have HLn := mkHid h.len
  have HLt : ∀ W va vn vc, Below w.heap.size w W → vn = (l ++ [(t, u)]).length → OwnRc W (w.heap.size + 1) (.slice va vn vc) (l ++ [(t, u)]) → Calls Try.prog 6 #[.slice va vn vc] W fun e w' => e = .returned (.bool (lightR ((l ++ [(t, u)]).map Prod.fst))) ∧ Below W.heap.size W w' := fun W va vn vc hW hvn ho =>
    lawLight14 va vn vc _ W (ho.isRl (fun x hx => by
      rcases List.mem_append.1 hx with hx | hx
      · exact (h.recs x hx).below hW
      · obtain rfl := List.mem_singleton.1 hx; exact hr.below hW)) (fun x hx => by
      rcases List.mem_append.1 hx with hx | hx
      · exact hz x hx
      · obtain rfl := List.mem_singleton.1 hx; exact zr) (by rw [hvn, List.length_append, h.len]; simp; omega)
  have HLo : lightR ((l ++ [(t, u)]).map Prod.fst) = true → rcLen t ≤ 5000 ∧ n ≤ 100 := fun hl => by
    obtain ⟨h1, h2⟩ := light_len5 hl
    rw [List.length_map, List.length_append, h.len] at h2
    exact ⟨h1 t (by simp), by simp at h2; omega⟩
  have HNn := mkHid hn
  have HX := mkHid h
  have HTo := mkHid hr
  clear h hz ha hr zr hn
  obtain ⟨tseq, tclk, twho, tkind, tbkt, tkey, tver, terr, tsum, tprev⟩ := t
  obtain ⟨ua, uc, ub, ud⟩ := u
  generalize lightR ((l ++ [((⟨tseq, tclk, twho, tkind, tbkt, tkey, tver, terr, tsum, tprev⟩ : Rc), (⟨ua, uc, ub, ud⟩ : RcA))]).map Prod.fst) = LT at *
  rw [show rcc ⟨tseq, tclk, twho, tkind, tbkt, tkey, tver, terr, tsum, tprev⟩ ⟨ua, uc, ub, ud⟩ = [.int .u64 (tseq : Int), .int .u64 (tclk : Int), .string twho, .int .i64 tkind, .string tbkt, .string tkey, .int .u64 (tver : Int), .int .i64 terr, .slice ua tsum.length uc, .slice ub tprev.length ud] from rfl]
  have Ny : Hid (NxAt w (w.alloc (.cells #[.int .u64 (tseq : Int), .int .u64 (tclk : Int), .string twho, .int .i64 tkind, .string tbkt, .string tkey, .int .u64 (tver : Int), .int .i64 terr, .slice ua tsum.length uc, .slice ub tprev.length ud] 29)) [.int .u64 (tseq : Int), .int .u64 (tclk : Int), .string twho, .int .i64 tkind, .string tbkt, .string tkey, .int .u64 (tver : Int), .int .i64 terr, .slice ua tsum.length uc, .slice ub tprev.length ud]) := ⟨Blk.new w 29 [.int .u64 (tseq : Int), .int .u64 (tclk : Int), .string twho, .int .i64 tkind, .string tbkt, .string tkey, .int .u64 (tver : Int), .int .i64 terr, .slice ua tsum.length uc, .slice ub tprev.length ud], (Below.refl _ w).alloc (Nat.le_refl _) _⟩
  go_enter Try.func5, Try.ntmps5
  go_upto_region 1 with fail
  generalize w.alloc (.cells #[.int .u64 (tseq : Int), .int .u64 (tclk : Int), .string twho, .int .i64 tkind, .string tbkt, .string tkey, .int .u64 (tver : Int), .int .i64 terr, .slice ua tsum.length uc, .slice ub tprev.length ud] 29) = y at *
  go_cut [25] from 18 to 25 (fun v wx => v = .bool (!LT) ∧ Hid (NxAt w wx [.int .u64 (tseq : Int), .int .u64 (tclk : Int), .string twho, .int .i64 tkind, .string tbkt, .string tkey, .int .u64 (tver : Int), .int .i64 terr, .slice ua tsum.length uc, .slice ub tprev.length ud]))
  case first =>
    clear HLo HX HTo
    have Ny0 := mkHid (Ny.out.on (bel_drewN (Below.refl _ y) 1))
    refine wp_region_held_drew (S := fun w' => Blk w' w.heap.size 29 [.int .u64 (tseq : Int), .int .u64 (tclk : Int), .string twho, .int .i64 tkind, .string tbkt, .string tkey, .int .u64 (tver : Int), .int .i64 terr, .slice ua tsum.length uc, .slice ub tprev.length ud]) (by kernel_rfl) Ny0.out.s (fun hHeld => ?_)
    refine takeH (some 19) (i := 1) (v := .slice a n cap) rfl (by kernel_rfl) (by kernel_rfl) (by kernel_rfl) (fun _ _ _ h => h) (Or.inl ⟨by rfl, ?_⟩) hHeld rfl ?_
    · intro w1 hSw; go_simp
    (try simp only [Act.put, List.setIfInBounds_toArray, List.set_cons_zero, List.set_cons_succ])
    refine takeH (some 21) (i := 3) (v := .agg #[.int .u64 (tseq : Int), .int .u64 (tclk : Int), .string twho, .int .i64 tkind, .string tbkt, .string tkey, .int .u64 (tver : Int), .int .i64 terr, .slice ua tsum.length uc, .slice ub tprev.length ud]) rfl (by kernel_rfl) (by kernel_rfl) (by kernel_rfl) (fun _ _ _ h => h) (yieldsIf_load_mid (by rfl) 29 (.tmp 7) (by rfl) (w.heap.size) 0 (by rfl) [.int .u64 (tseq : Int), .int .u64 (tclk : Int), .string twho, .int .i64 tkind, .string tbkt, .string tkey, .int .u64 (tver : Int), .int .i64 terr, .slice ua tsum.length uc, .slice ub tprev.length ud] _ (fun w1 hw1 => Blk.whole14 hw1) Try.underlying29 rfl (by kernel_rfl)) hHeld rfl ?_
    (try simp only [Act.put, List.setIfInBounds_toArray, List.set_cons_zero, List.set_cons_succ])
    refine wpAnyH_ready (rs := [0, 4]) (by kernel_rfl) (by simp) ?_
    refine AllReadyH.cons rfl (fun K hK => ?_) (AllReadyH.cons rfl (fun K hK => ?_) AllReadyH.nil)
    · skip
      go_simp
      have hbA : Below y.heap.size y (y.alloc (.cells #[] 29)).drew := ((Below.refl _ y).alloc (Nat.le_refl _) _).drew
      have Ny1 := mkHid (Ny.out.on hbA)
      have HO5 : Hid (OwnRc (y.alloc (.cells #[] 29)).drew (w.heap.size + 1) (.slice (some ⟨y.heap.size, 0, none⟩) 0 0) []) := own_drewRc14 (OwnRc.empty y _ Ny.out.lt)
      refine hK.out _ _ Ny1.out.s (fun hHeld => ?_)
      (try simp only [Act.put, List.setIfInBounds_toArray, List.set_cons_zero, List.set_cons_succ])
      clear hK K hbA
      generalize (y.alloc (.cells #[] 29)).drew = y1 at *
      have HE5 : Hid (y.heap.size < y1.heap.size) := HO5lt14 HO5.out
      generalize y.heap.size = E5 at *
      refine wpAnyH_ready (rs := [2, 4]) (by kernel_rfl) (by simp) ?_
      refine AllReadyH.cons rfl (fun K hK => ?_) (AllReadyH.cons rfl (fun K hK => ?_) AllReadyH.nil)
      · skip
        refine step_appRcs y1 (by rfl) _ _ (by rfl) (w.heap.size + 1) _ [] (by rfl) HO5.out _ _ _ l (by rfl) (HSrc.out _ Ny1.out.b) (by have := HNn.out; simp only [List.length_nil]; omega) Ny1.out.lt 20 rfl ?_
        intro v7 y2 ho7 hg7
        rw [List.nil_append] at ho7
        have Ny2 := mkHid (Ny1.out.grown HO5.out hg7)
        have HO7 := mkHid ho7
        refine hK.out _ _ Ny2.out.s (fun hHeld => ?_)
        (try simp only [Act.put, List.setIfInBounds_toArray, List.set_cons_zero, List.set_cons_succ])
        clear hK K ho7 hg7 HO5
        refine wpAnyH_ready (rs := [4]) (by kernel_rfl) (by simp) (AllReadyH.cons rfl (fun K hK => ?_) AllReadyH.nil)
        go_simp
        have hbA : Below y2.heap.size y2 (y2.alloc (.cells #[.int .u64 (tseq : Int), .int .u64 (tclk : Int), .string twho, .int .i64 tkind, .string tbkt, .string tkey, .int .u64 (tver : Int), .int .i64 terr, .slice ua tsum.length uc, .slice ub tprev.length ud] 29)) := ((Below.refl _ y2).alloc (Nat.le_refl _) _)
        have Ny3 := mkHid (Ny2.out.on hbA)
        have HX1 : Hid (Blk (y2.alloc (.cells #[.int .u64 (tseq : Int), .int .u64 (tclk : Int), .string twho, .int .i64 tkind, .string tbkt, .string tkey, .int .u64 (tver : Int), .int .i64 terr, .slice ua tsum.length uc, .slice ub tprev.length ud] 29)) y2.heap.size 29 [.int .u64 (tseq : Int), .int .u64 (tclk : Int), .string twho, .int .i64 tkind, .string tbkt, .string tkey, .int .u64 (tver : Int), .int .i64 terr, .slice ua tsum.length uc, .slice ub tprev.length ud]) := (Blk.new y2 29 [.int .u64 (tseq : Int), .int .u64 (tclk : Int), .string twho, .int .i64 tkind, .string tbkt, .string tkey, .int .u64 (tver : Int), .int .i64 terr, .slice ua tsum.length uc, .slice ub tprev.length ud])
        have HO7b := mkHid (HO7.out.on hbA)
        refine hK.out _ _ Ny3.out.s (fun hHeld => ?_)
        (try simp only [Act.put, List.setIfInBounds_toArray, List.set_cons_zero, List.set_cons_succ])
        clear hK K hbA
        generalize (y2.alloc (.cells #[.int .u64 (tseq : Int), .int .u64 (tclk : Int), .string twho, .int .i64 tkind, .string tbkt, .string tkey, .int .u64 (tver : Int), .int .i64 terr, .slice ua tsum.length uc, .slice ub tprev.length ud] 29)) = y3 at *
        generalize y2.heap.size = X at *
        refine wpAnyH_ready (rs := [5]) (by kernel_rfl) (by simp) (AllReadyH.cons rfl (fun K hK => ?_) AllReadyH.nil)
        refine step_appRcs y3 (by rfl) _ _ (by rfl) (w.heap.size + 1) _ l (by rfl) HO7b.out (some ⟨X, 0, none⟩) 1 1 [(⟨tseq, tclk, twho, tkind, tbkt, tkey, tver, terr, tsum, tprev⟩, ⟨ua, uc, ub, ud⟩)] (by rfl) (Blk.srcRc (x := (⟨tseq, tclk, twho, tkind, tbkt, tkey, tver, terr, tsum, tprev⟩, ⟨ua, uc, ub, ud⟩)) HX1.out) (by have h1 := HNn.out; have h2 := HLn.out; omega) Ny3.out.lt 23 rfl ?_
        intro v10 z0 ho10 hg10
        have Nz0 := mkHid (Ny3.out.grown HO7b.out hg10)
        obtain ⟨va, vc, hve, -⟩ := ho10.form
        generalize hvn : (l ++ [((⟨tseq, tclk, twho, tkind, tbkt, tkey, tver, terr, tsum, tprev⟩ : Rc), (⟨ua, uc, ub, ud⟩ : RcA))]).length = vn at hve
        subst hve
        have hLt := HLt z0 va vn vc Nz0.out.b hvn.symm ho10
        clear hvn
        refine hK.out _ _ Nz0.out.s (fun hHeld => ?_)
        (try simp only [Act.put, List.setIfInBounds_toArray, List.set_cons_zero, List.set_cons_succ])
        clear hK K ho10 hg10 HO7b HX1 Ny3
        refine wpAnyH_ready (rs := [6]) (by kernel_rfl) (by simp) (AllReadyH.cons rfl (fun K hK => ?_) AllReadyH.nil)
        go_simp
        go_wp2_with (go_at_call 6; refine hLt.mono ?_; rintro e z1 ⟨rfl, hb⟩)
        have Nz1 := mkHid (Nz0.out.on hb)
        refine hK.out _ _ Nz1.out.s (fun hHeld => ?_)
        (try simp only [Act.put, List.setIfInBounds_toArray, List.set_cons_zero, List.set_cons_succ])
        clear hK K hb hLt Nz0
        refine takeH (some 25) (i := 7) (v := .bool (!LT)) rfl (by kernel_rfl) (by kernel_rfl) (by kernel_rfl) (fun _ _ _ h => h) (Or.inl ⟨by rfl, ?_⟩) hHeld rfl ?_
        · intro w1 hSw; go_simp
        (try simp only [Act.put, List.setIfInBounds_toArray, List.set_cons_zero, List.set_cons_succ])
        refine wpAnyH_done (by kernel_rfl) ?_ _
        clear hHeld
        go_wp2_with fail
        go_meet
        case rel => exact ⟨rfl, Nz1⟩
      · skip
        go_simp
        have hbA : Below y1.heap.size y1 (y1.alloc (.cells #[.int .u64 (tseq : Int), .int .u64 (tclk : Int), .string twho, .int .i64 tkind, .string tbkt, .string tkey, .int .u64 (tver : Int), .int .i64 terr, .slice ua tsum.length uc, .slice ub tprev.length ud] 29)) := ((Below.refl _ y1).alloc (Nat.le_refl _) _)
        have Ny2 := mkHid (Ny1.out.on hbA)
        have HX1 : Hid (Blk (y1.alloc (.cells #[.int .u64 (tseq : Int), .int .u64 (tclk : Int), .string twho, .int .i64 tkind, .string tbkt, .string tkey, .int .u64 (tver : Int), .int .i64 terr, .slice ua tsum.length uc, .slice ub tprev.length ud] 29)) y1.heap.size 29 [.int .u64 (tseq : Int), .int .u64 (tclk : Int), .string twho, .int .i64 tkind, .string tbkt, .string tkey, .int .u64 (tver : Int), .int .i64 terr, .slice ua tsum.length uc, .slice ub tprev.length ud]) := (Blk.new y1 29 [.int .u64 (tseq : Int), .int .u64 (tclk : Int), .string twho, .int .i64 tkind, .string tbkt, .string tkey, .int .u64 (tver : Int), .int .i64 terr, .slice ua tsum.length uc, .slice ub tprev.length ud])
        have HO5b := mkHid (HO5.out.on hbA)
        have HXn : Hid (y1.heap.size ≠ E5) := fun e => by have := HE5.out; omega
        refine hK.out _ _ Ny2.out.s (fun hHeld => ?_)
        (try simp only [Act.put, List.setIfInBounds_toArray, List.set_cons_zero, List.set_cons_succ])
        clear hK K hbA
        generalize (y1.alloc (.cells #[.int .u64 (tseq : Int), .int .u64 (tclk : Int), .string twho, .int .i64 tkind, .string tbkt, .string tkey, .int .u64 (tver : Int), .int .i64 terr, .slice ua tsum.length uc, .slice ub tprev.length ud] 29)) = y2 at *
        generalize y1.heap.size = X at *
        have HX2 := HX1
        clear HO5
        have HO5 := HO5b
        refine wpAnyH_ready (rs := [2]) (by kernel_rfl) (by simp) (AllReadyH.cons rfl (fun K hK => ?_) AllReadyH.nil)
        refine step_appRcs y2 (by rfl) _ _ (by rfl) (w.heap.size + 1) _ [] (by rfl) HO5.out _ _ _ l (by rfl) (HSrc.out _ Ny2.out.b) (by have := HNn.out; simp only [List.length_nil]; omega) Ny2.out.lt 20 rfl ?_
        intro v7 y3 ho7 hg7
        rw [List.nil_append] at ho7
        have Ny3 := mkHid (Ny2.out.grown HO5.out hg7)
        have HO7 := mkHid ho7
        have HX3 : Hid (Blk y3 X 29 [.int .u64 (tseq : Int), .int .u64 (tclk : Int), .string twho, .int .i64 tkind, .string tbkt, .string tkey, .int .u64 (tver : Int), .int .i64 terr, .slice ua tsum.length uc, .slice ub tprev.length ud]) := blk_grown14 HX2.out hg7 (fun e => HXn.out (Option.some.inj e).symm)
        refine hK.out _ _ Ny3.out.s (fun hHeld => ?_)
        (try simp only [Act.put, List.setIfInBounds_toArray, List.set_cons_zero, List.set_cons_succ])
        clear hK K ho7 hg7 HO5
        refine wpAnyH_ready (rs := [5]) (by kernel_rfl) (by simp) (AllReadyH.cons rfl (fun K hK => ?_) AllReadyH.nil)
        refine step_appRcs y3 (by rfl) _ _ (by rfl) (w.heap.size + 1) _ l (by rfl) HO7.out (some ⟨X, 0, none⟩) 1 1 [(⟨tseq, tclk, twho, tkind, tbkt, tkey, tver, terr, tsum, tprev⟩, ⟨ua, uc, ub, ud⟩)] (by rfl) (Blk.srcRc (x := (⟨tseq, tclk, twho, tkind, tbkt, tkey, tver, terr, tsum, tprev⟩, ⟨ua, uc, ub, ud⟩)) HX3.out) (by have h1 := HNn.out; have h2 := HLn.out; omega) Ny3.out.lt 23 rfl ?_
        intro v10 z0 ho10 hg10
        have Nz0 := mkHid (Ny3.out.grown HO7.out hg10)
        obtain ⟨va, vc, hve, -⟩ := ho10.form
        generalize hvn : (l ++ [((⟨tseq, tclk, twho, tkind, tbkt, tkey, tver, terr, tsum, tprev⟩ : Rc), (⟨ua, uc, ub, ud⟩ : RcA))]).length = vn at hve
        subst hve
        have hLt := HLt z0 va vn vc Nz0.out.b hvn.symm ho10
        clear hvn
        refine hK.out _ _ Nz0.out.s (fun hHeld => ?_)
        (try simp only [Act.put, List.setIfInBounds_toArray, List.set_cons_zero, List.set_cons_succ])
        clear hK K ho10 hg10 HO7 HX3 Ny3
        refine wpAnyH_ready (rs := [6]) (by kernel_rfl) (by simp) (AllReadyH.cons rfl (fun K hK => ?_) AllReadyH.nil)
        go_simp
        go_wp2_with (go_at_call 6; refine hLt.mono ?_; rintro e z1 ⟨rfl, hb⟩)
        have Nz1 := mkHid (Nz0.out.on hb)
        refine hK.out _ _ Nz1.out.s (fun hHeld => ?_)
        (try simp only [Act.put, List.setIfInBounds_toArray, List.set_cons_zero, List.set_cons_succ])
        clear hK K hb hLt Nz0
        refine takeH (some 25) (i := 7) (v := .bool (!LT)) rfl (by kernel_rfl) (by kernel_rfl) (by kernel_rfl) (fun _ _ _ h => h) (Or.inl ⟨by rfl, ?_⟩) hHeld rfl ?_
        · intro w1 hSw; go_simp
        (try simp only [Act.put, List.setIfInBounds_toArray, List.set_cons_zero, List.set_cons_succ])
        refine wpAnyH_done (by kernel_rfl) ?_ _
        clear hHeld
        go_wp2_with fail
        go_meet
        case rel => exact ⟨rfl, Nz1⟩
    · skip
      go_simp
      have hbA : Below y.heap.size y (y.alloc (.cells #[.int .u64 (tseq : Int), .int .u64 (tclk : Int), .string twho, .int .i64 tkind, .string tbkt, .string tkey, .int .u64 (tver : Int), .int .i64 terr, .slice ua tsum.length uc, .slice ub tprev.length ud] 29)).drew := ((Below.refl _ y).alloc (Nat.le_refl _) _).drew
      have Ny1 := mkHid (Ny.out.on hbA)
      have HX1 : Hid (Blk (y.alloc (.cells #[.int .u64 (tseq : Int), .int .u64 (tclk : Int), .string twho, .int .i64 tkind, .string tbkt, .string tkey, .int .u64 (tver : Int), .int .i64 terr, .slice ua tsum.length uc, .slice ub tprev.length ud] 29)).drew y.heap.size 29 [.int .u64 (tseq : Int), .int .u64 (tclk : Int), .string twho, .int .i64 tkind, .string tbkt, .string tkey, .int .u64 (tver : Int), .int .i64 terr, .slice ua tsum.length uc, .slice ub tprev.length ud]) := (Blk.new y 29 [.int .u64 (tseq : Int), .int .u64 (tclk : Int), .string twho, .int .i64 tkind, .string tbkt, .string tkey, .int .u64 (tver : Int), .int .i64 terr, .slice ua tsum.length uc, .slice ub tprev.length ud]).drewN 1
      refine hK.out _ _ Ny1.out.s (fun hHeld => ?_)
      (try simp only [Act.put, List.setIfInBounds_toArray, List.set_cons_zero, List.set_cons_succ])
      clear hK K hbA
      generalize (y.alloc (.cells #[.int .u64 (tseq : Int), .int .u64 (tclk : Int), .string twho, .int .i64 tkind, .string tbkt, .string tkey, .int .u64 (tver : Int), .int .i64 terr, .slice ua tsum.length uc, .slice ub tprev.length ud] 29)).drew = y1 at *
      generalize y.heap.size = X at *
      refine wpAnyH_ready (rs := [0]) (by kernel_rfl) (by simp) (AllReadyH.cons rfl (fun K hK => ?_) AllReadyH.nil)
      go_simp
      have hbA : Below y1.heap.size y1 (y1.alloc (.cells #[] 29)) := ((Below.refl _ y1).alloc (Nat.le_refl _) _)
      have Ny2 := mkHid (Ny1.out.on hbA)
      have HO5 : Hid (OwnRc (y1.alloc (.cells #[] 29)) (w.heap.size + 1) (.slice (some ⟨y1.heap.size, 0, none⟩) 0 0) []) := OwnRc.empty y1 _ Ny1.out.lt
      have HX12 := mkHid (HX1.out.on hbA)
      have HXn : Hid (X ≠ y1.heap.size) := Nat.ne_of_lt HX1.out.lt
      refine hK.out _ _ Ny2.out.s (fun hHeld => ?_)
      (try simp only [Act.put, List.setIfInBounds_toArray, List.set_cons_zero, List.set_cons_succ])
      clear hK K hbA
      generalize (y1.alloc (.cells #[] 29)) = y2 at *
      generalize y1.heap.size = E5 at *
      have HX2 := HX12
      refine wpAnyH_ready (rs := [2]) (by kernel_rfl) (by simp) (AllReadyH.cons rfl (fun K hK => ?_) AllReadyH.nil)
      refine step_appRcs y2 (by rfl) _ _ (by rfl) (w.heap.size + 1) _ [] (by rfl) HO5.out _ _ _ l (by rfl) (HSrc.out _ Ny2.out.b) (by have := HNn.out; simp only [List.length_nil]; omega) Ny2.out.lt 20 rfl ?_
      intro v7 y3 ho7 hg7
      rw [List.nil_append] at ho7
      have Ny3 := mkHid (Ny2.out.grown HO5.out hg7)
      have HO7 := mkHid ho7
      have HX3 : Hid (Blk y3 X 29 [.int .u64 (tseq : Int), .int .u64 (tclk : Int), .string twho, .int .i64 tkind, .string tbkt, .string tkey, .int .u64 (tver : Int), .int .i64 terr, .slice ua tsum.length uc, .slice ub tprev.length ud]) := blk_grown14 HX2.out hg7 (fun e => HXn.out (Option.some.inj e).symm)
      refine hK.out _ _ Ny3.out.s (fun hHeld => ?_)
      (try simp only [Act.put, List.setIfInBounds_toArray, List.set_cons_zero, List.set_cons_succ])
      clear hK K ho7 hg7 HO5
      refine wpAnyH_ready (rs := [5]) (by kernel_rfl) (by simp) (AllReadyH.cons rfl (fun K hK => ?_) AllReadyH.nil)
      refine step_appRcs y3 (by rfl) _ _ (by rfl) (w.heap.size + 1) _ l (by rfl) HO7.out (some ⟨X, 0, none⟩) 1 1 [(⟨tseq, tclk, twho, tkind, tbkt, tkey, tver, terr, tsum, tprev⟩, ⟨ua, uc, ub, ud⟩)] (by rfl) (Blk.srcRc (x := (⟨tseq, tclk, twho, tkind, tbkt, tkey, tver, terr, tsum, tprev⟩, ⟨ua, uc, ub, ud⟩)) HX3.out) (by have h1 := HNn.out; have h2 := HLn.out; omega) Ny3.out.lt 23 rfl ?_
      intro v10 z0 ho10 hg10
      have Nz0 := mkHid (Ny3.out.grown HO7.out hg10)
      obtain ⟨va, vc, hve, -⟩ := ho10.form
      generalize hvn : (l ++ [((⟨tseq, tclk, twho, tkind, tbkt, tkey, tver, terr, tsum, tprev⟩ : Rc), (⟨ua, uc, ub, ud⟩ : RcA))]).length = vn at hve
      subst hve
      have hLt := HLt z0 va vn vc Nz0.out.b hvn.symm ho10
      clear hvn
      refine hK.out _ _ Nz0.out.s (fun hHeld => ?_)
      (try simp only [Act.put, List.setIfInBounds_toArray, List.set_cons_zero, List.set_cons_succ])
      clear hK K ho10 hg10 HO7 HX3 Ny3
      refine wpAnyH_ready (rs := [6]) (by kernel_rfl) (by simp) (AllReadyH.cons rfl (fun K hK => ?_) AllReadyH.nil)
      go_simp
      go_wp2_with (go_at_call 6; refine hLt.mono ?_; rintro e z1 ⟨rfl, hb⟩)
      have Nz1 := mkHid (Nz0.out.on hb)
      refine hK.out _ _ Nz1.out.s (fun hHeld => ?_)
      (try simp only [Act.put, List.setIfInBounds_toArray, List.set_cons_zero, List.set_cons_succ])
      clear hK K hb hLt Nz0
      refine takeH (some 25) (i := 7) (v := .bool (!LT)) rfl (by kernel_rfl) (by kernel_rfl) (by kernel_rfl) (fun _ _ _ h => h) (Or.inl ⟨by rfl, ?_⟩) hHeld rfl ?_
      · intro w1 hSw; go_simp
      (try simp only [Act.put, List.setIfInBounds_toArray, List.set_cons_zero, List.set_cons_succ])
      refine wpAnyH_done (by kernel_rfl) ?_ _
      clear hHeld
      go_wp2_with fail
      go_meet
      case rel => exact ⟨rfl, Nz1⟩
  case rest =>
    obtain ⟨rfl, HN⟩ := hcut
    clear Ny HLt HSrc
    cases LT
    · go_wp2_with fail
      refine (lawAlive14 wc).mono ?_
      rintro e la ⟨rfl, hla⟩
      have HLa := mkHid (HN.out.b.trans (hla.mono HN.out.b.size))
      clear hla
      go_wp2_with fail
      go_ret
      exact ⟨rfl, HLa.out⟩
    obtain ⟨hto, hm⟩ := HLo rfl
    have HTl := mkHid hto
    clear HLo hto HNn
    rw [show (!true) = false from rfl]
    go_wp2_with fail
    go_loopw [9, 10] (fun v i wr => ∃ (k : Nat) (A : List Rq14), k ≤ n ∧ i = .int .i64 (k : Int) ∧ Hid (EdAt w wr [.int .u64 (tseq : Int), .int .u64 (tclk : Int), .string twho, .int .i64 tkind, .string tbkt, .string tkey, .int .u64 (tver : Int), .int .i64 terr, .slice ua tsum.length uc, .slice ub tprev.length ud] v A k)) (fun _ i _ => n - (Go.RowKit.intOf i).toNat)
    case atStart => exact ⟨0, [], Nat.zero_le _, rfl, HN, ⟨OwnRc.nil _ _, (fun x hx => by cases hx), Nat.le_refl _, by decide, (fun x hx => by cases hx)⟩⟩
    case round =>
      clear HN
      obtain ⟨k, A, hk, rfl, HA⟩ := hrel
      by_cases hlt : k < n
      · obtain ⟨x, hx⟩ : ∃ x, l[k]? = some x := ⟨l[k]'(by have := HLn.out; omega), List.getElem?_eq_getElem _⟩
        obtain ⟨B, off, hae, hrow⟩ := HX.out.cells (by omega)
        have hC := range_below14 (hrow k x hx) HA.out.tk.b
        have HI := info14 x.1 x.2
        obtain ⟨va, vc, hve, -⟩ := HA.out.log.own.form
        subst hve
        have hxm := List.mem_of_getElem? hx
        have HNx := refNextE14 va A.length vc A x.1 x.2 wr (HA.out.log.own.isRl (fun x hx => (HA.out.log.all x hx).1.is HA.out.tk.b)) ((HX.out.recs x hxm).below HA.out.tk.b) HA.out.log.small (by have := HA.out.log.len; omega)
        unfold NxPostE at HNx
        have HSm : Hid (∀ V, Below w.heap.size w V → IsB V x.2.a x.1.sum.length x.2.c x.1.sum) := fun V hV => (HX.out.recs x hxm).sum.below hV rfl
        have hlt0 : (0 : Int) ≤ (k : Int) := by omega
        have hlt' : (k : Int) < (n : Int) := by omega
        have HAl := mkHid HA.out.log.len
        have HOg : Hid (∀ g, (Value.slice va A.length vc).ownBlock = some g → g < wr.heap.size) := fun g e => (World.ownsRow.lt HA.out.log.own g e).2
        clear hx hxm hrow
        subst hae
        generalize rcc x.1 x.2 = rcx at *
        generalize A.length = an at *
        generalize hNN : nextRc (A.map Prod.fst) x.1 = NN at *
        have HNN := mkHid hNN
        clear hNN
        obtain ⟨nseq, nclk, nwho, nkind, nbkt, nkey, nver, nerr, nsum, nprev⟩ := NN
        go_wp2_with (first | (refine wpList_load_mid rfl 29 _ rfl B (off + k * 10) rfl _ _ hC Try.underlying29 rfl HI ?_))
        refine HNx.mono ?_
        rintro e y2 ⟨⟨pa, pc, pb, pd⟩, rfl, hrk, hb2⟩
        have HRk : Hid (RecE14 w y2 ⟨nseq, nclk, nwho, nkind, nbkt, nkey, nver, nerr, nsum, nprev⟩ ⟨pa, pc, pb, pd⟩) := fun V hV hk => hrk V (HSm.out V hV) hk
        have hbA : Below y2.heap.size y2 (y2.alloc (.cells #[.int .u64 (nseq : Int), .int .u64 (nclk : Int), .string nwho, .int .i64 nkind, .string nbkt, .string nkey, .int .u64 (nver : Int), .int .i64 nerr, .slice pa nsum.length pc, .slice pb nprev.length pd] 29)) := (Below.refl _ y2).alloc (Nat.le_refl _) _
        have HP3 := mkHid (Blk.new y2 29 [.int .u64 (nseq : Int), .int .u64 (nclk : Int), .string nwho, .int .i64 nkind, .string nbkt, .string nkey, .int .u64 (nver : Int), .int .i64 nerr, .slice pa nsum.length pc, .slice pb nprev.length pd])
        have hb3 := hb2.trans (hbA.mono hb2.size)
        have HA3 := mkHid (HA.out.on hb3 (Nat.le_succ k))
        have HK3 : Hid (RecE14 w (y2.alloc (.cells #[.int .u64 (nseq : Int), .int .u64 (nclk : Int), .string nwho, .int .i64 nkind, .string nbkt, .string nkey, .int .u64 (nver : Int), .int .i64 nerr, .slice pa nsum.length pc, .slice pb nprev.length pd] 29)) ⟨nseq, nclk, nwho, nkind, nbkt, nkey, nver, nerr, nsum, nprev⟩ ⟨pa, pc, pb, pd⟩) := HRk.out.keep (KeepO.of_below hbA)
        have HA4 : Hid (EdAt w (y2.alloc (.cells #[.int .u64 (nseq : Int), .int .u64 (nclk : Int), .string nwho, .int .i64 nkind, .string nbkt, .string nkey, .int .u64 (nver : Int), .int .i64 nerr, .slice pa nsum.length pc, .slice pb nprev.length pd] 29)) [.int .u64 (tseq : Int), .int .u64 (tclk : Int), .string twho, .int .i64 tkind, .string tbkt, .string tkey, .int .u64 (tver : Int), .int .i64 terr, .slice ua tsum.length uc, .slice ub tprev.length ud] (.slice va an vc) A k) := HA.out.on hb3 (Nat.le_refl k)
        have HOg2 : Hid (∀ g, (Value.slice va an vc).ownBlock = some g → g ≠ y2.heap.size) := fun g e => by have := HOg.out g e; have := hb2.size; omega
        clear HA hb2 hbA hb3 hrk HRk HNx hC HI HOg HSm
        simp only [rcc]
        go_upto_region 8 with fail
        generalize y2.alloc (.cells #[.int .u64 (nseq : Int), .int .u64 (nclk : Int), .string nwho, .int .i64 nkind, .string nbkt, .string nkey, .int .u64 (nver : Int), .int .i64 nerr, .slice pa nsum.length pc, .slice pb nprev.length pd] 29) = Y3 at *
        generalize y2.heap.size = P at *
        have HRt := refRight14 ⟨nseq, nclk, nwho, nkind, nbkt, nkey, nver, nerr, nsum, nprev⟩ ⟨pa, pc, pb, pd⟩ Y3
        rw [show rcc ⟨nseq, nclk, nwho, nkind, nbkt, nkey, nver, nerr, nsum, nprev⟩ ⟨pa, pc, pb, pd⟩ = [.int .u64 (nseq : Int), .int .u64 (nclk : Int), .string nwho, .int .i64 nkind, .string nbkt, .string nkey, .int .u64 (nver : Int), .int .i64 nerr, .slice pa nsum.length pc, .slice pb nprev.length pd] from rfl] at HRt
        generalize hRG : rightRc ⟨nseq, nclk, nwho, nkind, nbkt, nkey, nver, nerr, nsum, nprev⟩ = RG at *
        have HRG := mkHid hRG
        clear hRG
        go_wp2_with (first | (refine wpList_load_row rfl 29 _ rfl _ rfl _ _ _ _ HP3.out Try.underlying29 rfl (by kernel_rfl) ?_))
        refine HRt.mono ?_
        rintro e y4 ⟨rfl, hb4⟩
        cases RG with
        | false =>
          have HA5 := mkHid (HA3.out.on hb4 (Nat.le_refl _))
          clear hb4 HA3 HA4 HP3 HRt HK3 HRG
          go_wp2_with fail
          rw [show (Value.tuple #[] : Value) = undef from rfl]
          go_roundw
          case rel => exact ⟨k + 1, A, by omega, by go_num, HA5⟩
          case measure => simp [Go.RowKit.intOf]; omega
        | true =>
          have HP5 := mkHid (HP3.out.on hb4)
          have HA5 := mkHid (HA4.out.on hb4 (Nat.le_refl _))
          have HK5 := mkHid (HK3.out.keep (KeepO.of_below hb4))
          clear hb4 HA3 HA4 HP3 HRt HK3
          go_upto_region 9 with fail
          have hbX : Below y4.heap.size y4 (y4.alloc (.cells #[.int .u64 (nseq : Int), .int .u64 (nclk : Int), .string nwho, .int .i64 nkind, .string nbkt, .string nkey, .int .u64 (nver : Int), .int .i64 nerr, .slice pa nsum.length pc, .slice pb nprev.length pd] 29)) := (Below.refl _ y4).alloc (Nat.le_refl _) _
          have HAx := mkHid (HA5.out.on hbX (Nat.le_refl _))
          have HXx := mkHid (Blk.new y4 29 [.int .u64 (nseq : Int), .int .u64 (nclk : Int), .string nwho, .int .i64 nkind, .string nbkt, .string nkey, .int .u64 (nver : Int), .int .i64 nerr, .slice pa nsum.length pc, .slice pb nprev.length pd])
          have HAdd := fun W' v' ho hg => LogE14.add (W' := W') (v' := v') (r := x.1) (p := ⟨pa, pc, pb, pd⟩) HAx.out.log (by omega) ho hg
          rw [HNN.out] at HAdd
          have HAd2 := mkHid (fun W' v' ho hg => (HAdd W' v' ho hg HRG.out (HK5.out.keep (KeepO.of_below hbX))).1)
          have hsz := HAx.out.tk.lt
          clear HAdd hbX HK5 HA5
          go_wp2_with (first | (refine wpList_load_row rfl 29 _ rfl _ rfl _ _ _ _ HP5.out Try.underlying29 rfl (by kernel_rfl) ?_) | (at_builtin; refine list_appRc _ rfl (.tmp 41) (.tmp 43) rfl (w.heap.size + 1) _ A rfl HAx.out.log.own y4.heap.size (⟨nseq, nclk, nwho, nkind, nbkt, nkey, nver, nerr, nsum, nprev⟩, ⟨pa, pc, pb, pd⟩) rfl HXx.out (by have := HAx.out.log.len; omega) hsz ?_; intro v6 y6 ho6 hg6))
          have HL6 := HAd2.out y6 v6 ho6 hg6
          have HA6 : Hid (EdAt w y6 [.int .u64 (tseq : Int), .int .u64 (tclk : Int), .string twho, .int .i64 tkind, .string tbkt, .string tkey, .int .u64 (tver : Int), .int .i64 terr, .slice ua tsum.length uc, .slice ub tprev.length ud] v6 _ (k + 1)) := ⟨HAx.out.tk.grown HAx.out.log.own hg6, HL6⟩
          clear HAd2 ho6 hg6 HL6 HAx HXx HP5 HNN HOg2 HAl
          rw [show (Value.tuple #[] : Value) = undef from rfl]
          go_roundw
          case rel => exact ⟨k + 1, _, by omega, by go_num, HA6⟩
          case measure => simp [Go.RowKit.intOf]; omega
      · have hkn : k = n := by omega
        subst hkn
        have hge : ¬ (k : Int) < (k : Int) := by omega
        obtain ⟨va, vc, hve, -⟩ := HA.out.log.own.form
        subst hve
        have HAl := mkHid HA.out.log.len
        generalize hAn : A.length = an at *
        have HAn := mkHid hAn
        clear hAn
        by_cases hneg : at' < 0
        · clear HX HTo HLn
          go_wp2_with fail
          refine (lawAlive14 wr).mono ?_
          rintro e la ⟨rfl, hla⟩
          have HLa := mkHid (HA.out.tk.b.trans (hla.mono HA.out.tk.b.size))
          clear hla
          go_wp2_with fail
          go_ret
          exact ⟨rfl, HLa.out⟩
        obtain ⟨q, rfl⟩ : ∃ q : Nat, at' = (q : Int) := ⟨at'.toNat, by omega⟩
        by_cases hbig : an ≤ q
        · have hbig' : (an : Int) ≤ (q : Int) := by omega
          clear HX HTo HLn
          go_wp2_with fail
          refine (lawAlive14 wr).mono ?_
          rintro e la ⟨rfl, hla⟩
          have HLa := mkHid (HA.out.tk.b.trans (hla.mono HA.out.tk.b.size))
          clear hla
          go_wp2_with fail
          go_ret
          exact ⟨rfl, HLa.out⟩
        have hq : q < an := by omega
        have hq' : ¬ (an : Int) ≤ (q : Int) := by omega
        obtain ⟨m, rfl⟩ : ∃ m, an = m + 1 := ⟨an - 1, by omega⟩
        clear HX HLn hneg hbig hge hlt
        have hgeA : OwnRc wr (w.heap.size + 1) (.slice va (m + 1) vc) A := HA.out.log.own
        obtain ⟨g, rfl, hg1, hg2, -⟩ := hgeA.at_ 0 (by have := HAn.out; omega)
        obtain ⟨z, hz⟩ : ∃ z, A[m]? = some z := ⟨A[m]'(by have := HAn.out; omega), List.getElem?_eq_getElem _⟩
        obtain ⟨x, hx⟩ : ∃ x, A[q]? = some x := ⟨A[q]'(by have := HAn.out; omega), List.getElem?_eq_getElem _⟩
        have HZl := mkHid (last14 HAn.out hz)
        have HXq := mkHid hx
        have HIs := HA.out.log.own.isRl (fun x hx => (HA.out.log.all x hx).1.is HA.out.tk.b)
        obtain ⟨g', off', hge', hrow⟩ := HIs.cells (by omega)
        obtain ⟨rfl, rfl⟩ : g = g' ∧ 0 = off' := by cases hge'; exact ⟨rfl, rfl⟩
        have hCz := hrow m z hz
        have hCx := hrow q x hx
        have HI := info14 z.1 z.2
        have HI2 := info14 x.1 x.2
        have hzm := List.mem_of_getElem? hz
        have hxm := List.mem_of_getElem? hx
        have HDg := refDigest14 z.1 z.2 wr ((HA.out.log.all z hzm).1.is HA.out.tk.b) (HA.out.log.small z hzm)
        have HXr := mkHid (HA.out.log.all x hxm)
        have hsub : ((m + 1 : Nat) : Int) - 1 = (m : Int) := by omega
        have hmm : m ≤ 100 := by have := HAl.out; omega
        have hm0 : (0 : Int) ≤ (m : Int) := by omega
        have hm1 : (m : Int) < ((m + 1 : Nat) : Int) := by omega
        have hq0 : (0 : Int) ≤ (q : Int) := by omega
        have hq1 : (q : Int) < ((m + 1 : Nat) : Int) := by omega
        clear HIs hrow hge' hzm hxm hg1 hg2 hgeA hz hx
        rw [Nat.zero_add] at hCz hCx
        generalize rcc z.1 z.2 = zc at *
        generalize hDv : digRc z.1 = DZ at *
        have HDv := mkHid hDv
        clear hDv
        go_upto_region 12 with fail
        go_wp2_with (first | (refine wpList_load_mid rfl 29 _ rfl g (m * 10) rfl _ _ hCz Try.underlying29 rfl HI ?_))
        refine HDg.mono ?_
        rintro e y2 ⟨hdv, rfl, ho, hb⟩
        have HHd := mkHid ho
        have HA2 := mkHid (HA.out.on hb (Nat.le_refl _))
        have hCx2 := range_below14 hCx hb
        have HXr2 := mkHid (HXr.out.1.keep (KeepO.of_below hb))
        have HXl := mkHid (right_lenE14 HXr.out.2)
        clear ho hb HA hCz hCx HDg HXr HI
        obtain ⟨⟨rseq, rclk, rwho, rkind, rbkt, rkey, rver, rerr, rsum, rprev⟩, ⟨sa, sc, sb, sd⟩⟩ := x
        simp only [rcc] at hCx2 HI2
        go_upto_region 14 with (first | (refine wpList_load_mid rfl 29 _ rfl g (q * 10) rfl _ _ hCx2 Try.underlying29 rfl HI2 ?_))
        have Ny2 : Hid (NxAt y2 (y2.alloc (.cells #[.int .u64 (rseq : Int), .int .u64 (rclk : Int), .string rwho, .int .i64 rkind, .string rbkt, .string rkey, .int .u64 (rver : Int), .int .i64 rerr, .slice sa rsum.length sc, .slice sb rprev.length sd] 29)) [.int .u64 (rseq : Int), .int .u64 (rclk : Int), .string rwho, .int .i64 rkind, .string rbkt, .string rkey, .int .u64 (rver : Int), .int .i64 rerr, .slice sa rsum.length sc, .slice sb rprev.length sd]) := ⟨Blk.new y2 29 [.int .u64 (rseq : Int), .int .u64 (rclk : Int), .string rwho, .int .i64 rkind, .string rbkt, .string rkey, .int .u64 (rver : Int), .int .i64 rerr, .slice sa rsum.length sc, .slice sb rprev.length sd], (Below.refl _ y2).alloc (Nat.le_refl _) _⟩
        generalize y2.alloc (.cells #[.int .u64 (rseq : Int), .int .u64 (rclk : Int), .string rwho, .int .i64 rkind, .string rbkt, .string rkey, .int .u64 (rver : Int), .int .i64 rerr, .slice sa rsum.length sc, .slice sb rprev.length sd] 29) = Y at *
        have HTk := mkHid ((Blk.below HA2.out.tk.s (Below.refl _ y2) HA2.out.tk.lt).below Ny2.out.b HA2.out.tk.lt)
        have HPc := mkHid Ny2.out.s
        have HYb := mkHid Ny2.out.b
        have HTN := mkHid HTo.out.num
        have HTb : Hid (∀ V, Below w.heap.size w V → IsB V ua tsum.length uc tsum ∧ IsB V ub tprev.length ud tprev) := fun V hV => ⟨HTo.out.sum.below hV rfl, HTo.out.prev.below hV rfl⟩
        go_cut [65] from 66 (fun v wx => v = .int .i64 how ∧ wx = Y)
        case first =>
          clear Ny2 HTk HPc HYb
          go_wp2_with fail
          go_meet
          case rel => exact ⟨rfl, rfl⟩
        case rest =>
          obtain ⟨rfl, rfl⟩ := hcut
          apply_assumption
          go_cut [] from 66 (fun wx => ∃ (r : Rc) (p : RcA), Hid (EdR14 w y2 r p) ∧ Hid (NxAt y2 wx (rcc r p)))
          case first =>
            clear hCx2 HI2 hsub hm0 hm1 hq0 hq1 HZl HDv HHd HXq HAn HAl
            by_cases h0 : how = 0
            · subst h0
              have tj := HTk.out.cell 2
              have pj := HPc.out.cell 2
              have fj := HPc.out.frozen 2
              have HN2 := mkHid (NxAt.mk (HPc.out.set 2 (.string twho)) (HYb.out.setCell (p := ⟨y2.heap.size, 2, none⟩) (Nat.le_refl _) (.string twho)))
              simp only [List.getElem?_cons_zero, List.getElem?_cons_succ, List.set_cons_zero, List.set_cons_succ] at tj pj HN2
              have HE2 : Hid (EdR14 w y2 ⟨rseq, rclk, twho, rkind, rbkt, rkey, rver, rerr, rsum, rprev⟩ ⟨sa, sc, sb, sd⟩) := ⟨fun V hV hk => ⟨(HXr2.out V hV hk).sum, (HXr2.out V hV hk).prev, ⟨(HXr2.out V hV hk).num.seq, (HXr2.out V hV hk).num.clk, (HXr2.out V hV hk).num.ver, (HXr2.out V hV hk).num.kind0, (HXr2.out V hV hk).num.kind1, (HXr2.out V hV hk).num.err0, (HXr2.out V hV hk).num.err1⟩⟩, by have h1 := HTl.out; have h2 := HXl.out; unfold rcLen at h1 h2 ⊢; simp only [] at h1 h2 ⊢; omega⟩
              clear HTk HPc HYb HTN HTb HXr2 HXl HTl
              go_wp2_with fail
              go_meet
              case rel => exact ⟨⟨rseq, rclk, twho, rkind, rbkt, rkey, rver, rerr, rsum, rprev⟩, ⟨sa, sc, sb, sd⟩, HE2, HN2⟩
            by_cases h1 : how = 1
            · subst h1
              have tj := HTk.out.cell 1
              have pj := HPc.out.cell 1
              have fj := HPc.out.frozen 1
              have HN2 := mkHid (NxAt.mk (HPc.out.set 1 (.int .u64 (tclk : Int))) (HYb.out.setCell (p := ⟨y2.heap.size, 1, none⟩) (Nat.le_refl _) (.int .u64 (tclk : Int))))
              simp only [List.getElem?_cons_zero, List.getElem?_cons_succ, List.set_cons_zero, List.set_cons_succ] at tj pj HN2
              have HE2 : Hid (EdR14 w y2 ⟨rseq, tclk, rwho, rkind, rbkt, rkey, rver, rerr, rsum, rprev⟩ ⟨sa, sc, sb, sd⟩) := ⟨fun V hV hk => ⟨(HXr2.out V hV hk).sum, (HXr2.out V hV hk).prev, ⟨(HXr2.out V hV hk).num.seq, HTN.out.clk, (HXr2.out V hV hk).num.ver, (HXr2.out V hV hk).num.kind0, (HXr2.out V hV hk).num.kind1, (HXr2.out V hV hk).num.err0, (HXr2.out V hV hk).num.err1⟩⟩, by have h1 := HTl.out; have h2 := HXl.out; unfold rcLen at h1 h2 ⊢; simp only [] at h1 h2 ⊢; omega⟩
              clear HTk HPc HYb HTN HTb HXr2 HXl HTl
              go_wp2_with fail
              go_meet
              case rel => exact ⟨⟨rseq, tclk, rwho, rkind, rbkt, rkey, rver, rerr, rsum, rprev⟩, ⟨sa, sc, sb, sd⟩, HE2, HN2⟩
            by_cases h2 : how = 2
            · subst h2
              have tj := HTk.out.cell 3
              have pj := HPc.out.cell 3
              have fj := HPc.out.frozen 3
              have HN2 := mkHid (NxAt.mk (HPc.out.set 3 (.int .i64 tkind)) (HYb.out.setCell (p := ⟨y2.heap.size, 3, none⟩) (Nat.le_refl _) (.int .i64 tkind)))
              simp only [List.getElem?_cons_zero, List.getElem?_cons_succ, List.set_cons_zero, List.set_cons_succ] at tj pj HN2
              have HE2 : Hid (EdR14 w y2 ⟨rseq, rclk, rwho, tkind, rbkt, rkey, rver, rerr, rsum, rprev⟩ ⟨sa, sc, sb, sd⟩) := ⟨fun V hV hk => ⟨(HXr2.out V hV hk).sum, (HXr2.out V hV hk).prev, ⟨(HXr2.out V hV hk).num.seq, (HXr2.out V hV hk).num.clk, (HXr2.out V hV hk).num.ver, HTN.out.kind0, HTN.out.kind1, (HXr2.out V hV hk).num.err0, (HXr2.out V hV hk).num.err1⟩⟩, by have h1 := HTl.out; have h2 := HXl.out; unfold rcLen at h1 h2 ⊢; simp only [] at h1 h2 ⊢; omega⟩
              clear HTk HPc HYb HTN HTb HXr2 HXl HTl
              go_wp2_with fail
              go_meet
              case rel => exact ⟨⟨rseq, rclk, rwho, tkind, rbkt, rkey, rver, rerr, rsum, rprev⟩, ⟨sa, sc, sb, sd⟩, HE2, HN2⟩
            by_cases h3 : how = 3
            · subst h3
              have tj := HTk.out.cell 5
              have pj := HPc.out.cell 5
              have fj := HPc.out.frozen 5
              have HN2 := mkHid (NxAt.mk (HPc.out.set 5 (.string tkey)) (HYb.out.setCell (p := ⟨y2.heap.size, 5, none⟩) (Nat.le_refl _) (.string tkey)))
              simp only [List.getElem?_cons_zero, List.getElem?_cons_succ, List.set_cons_zero, List.set_cons_succ] at tj pj HN2
              have HE2 : Hid (EdR14 w y2 ⟨rseq, rclk, rwho, rkind, rbkt, tkey, rver, rerr, rsum, rprev⟩ ⟨sa, sc, sb, sd⟩) := ⟨fun V hV hk => ⟨(HXr2.out V hV hk).sum, (HXr2.out V hV hk).prev, ⟨(HXr2.out V hV hk).num.seq, (HXr2.out V hV hk).num.clk, (HXr2.out V hV hk).num.ver, (HXr2.out V hV hk).num.kind0, (HXr2.out V hV hk).num.kind1, (HXr2.out V hV hk).num.err0, (HXr2.out V hV hk).num.err1⟩⟩, by have h1 := HTl.out; have h2 := HXl.out; unfold rcLen at h1 h2 ⊢; simp only [] at h1 h2 ⊢; omega⟩
              clear HTk HPc HYb HTN HTb HXr2 HXl HTl
              go_wp2_with fail
              go_meet
              case rel => exact ⟨⟨rseq, rclk, rwho, rkind, rbkt, tkey, rver, rerr, rsum, rprev⟩, ⟨sa, sc, sb, sd⟩, HE2, HN2⟩
            by_cases h4 : how = 4
            · subst h4
              have tj := HTk.out.cell 8
              have pj := HPc.out.cell 8
              have fj := HPc.out.frozen 8
              have HN2 := mkHid (NxAt.mk (HPc.out.set 8 (.slice ua tsum.length uc)) (HYb.out.setCell (p := ⟨y2.heap.size, 8, none⟩) (Nat.le_refl _) (.slice ua tsum.length uc)))
              simp only [List.getElem?_cons_zero, List.getElem?_cons_succ, List.set_cons_zero, List.set_cons_succ] at tj pj HN2
              have HE2 : Hid (EdR14 w y2 ⟨rseq, rclk, rwho, rkind, rbkt, rkey, rver, rerr, tsum, rprev⟩ ⟨ua, uc, sb, sd⟩) := ⟨fun V hV hk => ⟨(HTb.out V hV).1, (HXr2.out V hV hk).prev, ⟨(HXr2.out V hV hk).num.seq, (HXr2.out V hV hk).num.clk, (HXr2.out V hV hk).num.ver, (HXr2.out V hV hk).num.kind0, (HXr2.out V hV hk).num.kind1, (HXr2.out V hV hk).num.err0, (HXr2.out V hV hk).num.err1⟩⟩, by have h1 := HTl.out; have h2 := HXl.out; unfold rcLen at h1 h2 ⊢; simp only [] at h1 h2 ⊢; omega⟩
              clear HTk HPc HYb HTN HTb HXr2 HXl HTl
              go_wp2_with fail
              go_meet
              case rel => exact ⟨⟨rseq, rclk, rwho, rkind, rbkt, rkey, rver, rerr, tsum, rprev⟩, ⟨ua, uc, sb, sd⟩, HE2, HN2⟩
            by_cases h5 : how = 5
            · subst h5
              have tj := HTk.out.cell 0
              have pj := HPc.out.cell 0
              have fj := HPc.out.frozen 0
              have HN2 := mkHid (NxAt.mk (HPc.out.set 0 (.int .u64 (tseq : Int))) (HYb.out.setCell (p := ⟨y2.heap.size, 0, none⟩) (Nat.le_refl _) (.int .u64 (tseq : Int))))
              simp only [List.getElem?_cons_zero, List.set_cons_zero] at tj pj HN2
              have HE2 : Hid (EdR14 w y2 ⟨tseq, rclk, rwho, rkind, rbkt, rkey, rver, rerr, rsum, rprev⟩ ⟨sa, sc, sb, sd⟩) := ⟨fun V hV hk => ⟨(HXr2.out V hV hk).sum, (HXr2.out V hV hk).prev, ⟨HTN.out.seq, (HXr2.out V hV hk).num.clk, (HXr2.out V hV hk).num.ver, (HXr2.out V hV hk).num.kind0, (HXr2.out V hV hk).num.kind1, (HXr2.out V hV hk).num.err0, (HXr2.out V hV hk).num.err1⟩⟩, by have h1 := HTl.out; have h2 := HXl.out; unfold rcLen at h1 h2 ⊢; simp only [] at h1 h2 ⊢; omega⟩
              clear HTk HPc HYb HTN HTb HXr2 HXl HTl
              go_wp2_with fail
              go_meet
              case rel => exact ⟨⟨tseq, rclk, rwho, rkind, rbkt, rkey, rver, rerr, rsum, rprev⟩, ⟨sa, sc, sb, sd⟩, HE2, HN2⟩
            have tj := HTk.out.cell 9
            have pj := HPc.out.cell 9
            have fj := HPc.out.frozen 9
            have HN2 := mkHid (NxAt.mk (HPc.out.set 9 (.slice ub tprev.length ud)) (HYb.out.setCell (p := ⟨y2.heap.size, 9, none⟩) (Nat.le_refl _) (.slice ub tprev.length ud)))
            simp only [List.getElem?_cons_zero, List.getElem?_cons_succ, List.set_cons_zero, List.set_cons_succ] at tj pj HN2
            have HE2 : Hid (EdR14 w y2 ⟨rseq, rclk, rwho, rkind, rbkt, rkey, rver, rerr, rsum, tprev⟩ ⟨sa, sc, ub, ud⟩) := ⟨fun V hV hk => ⟨(HXr2.out V hV hk).sum, (HTb.out V hV).2, ⟨(HXr2.out V hV hk).num.seq, (HXr2.out V hV hk).num.clk, (HXr2.out V hV hk).num.ver, (HXr2.out V hV hk).num.kind0, (HXr2.out V hV hk).num.kind1, (HXr2.out V hV hk).num.err0, (HXr2.out V hV hk).num.err1⟩⟩, by have h1 := HTl.out; have h2 := HXl.out; unfold rcLen at h1 h2 ⊢; simp only [] at h1 h2 ⊢; omega⟩
            clear HTk HPc HYb HTN HTb HXr2 HXl HTl
            go_wp2_with fail
            go_meet
            case rel => exact ⟨⟨rseq, rclk, rwho, rkind, rbkt, rkey, rver, rerr, rsum, tprev⟩, ⟨sa, sc, ub, ud⟩, HE2, HN2⟩
          case rest =>
            obtain ⟨⟨eseq, eclk, ewho, ekind, ebkt, ekey, ever, eerr, esum, eprev⟩, ⟨fa, fc, fb, fd⟩, HE, HN⟩ := hcut
            clear Ny2 HTk HPc HYb HTN HTb HXr2 HXl HTl
            rw [show rcc ⟨eseq, eclk, ewho, ekind, ebkt, ekey, ever, eerr, esum, eprev⟩ ⟨fa, fc, fb, fd⟩ = [.int .u64 (eseq : Int), .int .u64 (eclk : Int), .string ewho, .int .i64 ekind, .string ebkt, .string ekey, .int .u64 (ever : Int), .int .i64 eerr, .slice fa esum.length fc, .slice fb eprev.length fd] from rfl] at HN
            go_upto_region 28 with fail
            rename World => Z
            have hcap : m + 1 ≤ vc := by
              obtain ⟨_, _, e, h1, _⟩ := HA2.out.log.own.form
              injection e with e1 e2 e3
              rw [e2, e3]; exact h1
            have HSc : Hid (∀ W, Below y2.heap.size y2 W → SrcRc W (some ⟨g, 0, none⟩) q vc (A.take q) ∧ SrcRc W (cutRc (some ⟨g, 0, none⟩) vc (q + 1)) (m + 1 - (q + 1)) (vc - (q + 1)) (A.drop (q + 1))) := fun W hW => ⟨((HA2.out.log.own.on hW).src HAn.out.symm q (by omega)).1, ((HA2.out.log.own.on hW).src HAn.out.symm (q + 1) (by omega)).2⟩
            have hs1 := fun W => slRh (some ⟨g, 0, none⟩) (m + 1) vc q (by omega) (.inr ⟨g, rfl⟩) W
            have hs2 := fun W => slRl (some ⟨g, 0, none⟩) (m + 1) vc (q + 1) (by omega) W
            rw [show ((q + 1 : Nat) : Int) = (q : Int) + 1 by omega] at hs2
            have hwp : IntKind.i64.wrap ((q : Int) + 1) = (q : Int) + 1 := by rw [IntKind.wrap_i64]; omega
            generalize cutRc (some ⟨g, 0, none⟩) vc (q + 1) = cu at *
            generalize hcn : m + 1 - (q + 1) = cn at *
            generalize vc - (q + 1) = cc at *
            have HCn := mkHid hcn
            have hcu : q ≤ 1000 := by have := HAl.out; omega
            clear hcn hcap
            go_cut [14] from 99 (fun v wx => Hid (NxAt y2 wx [.int .u64 (eseq : Int), .int .u64 (eclk : Int), .string ewho, .int .i64 ekind, .string ebkt, .string ekey, .int .u64 (ever : Int), .int .i64 eerr, .slice fa esum.length fc, .slice fb eprev.length fd]) ∧ Hid (OwnRc wx (y2.heap.size + 1) v (A.take q ++ [((⟨eseq, eclk, ewho, ekind, ebkt, ekey, ever, eerr, esum, eprev⟩ : Rc), (⟨fa, fc, fb, fd⟩ : RcA))] ++ A.drop (q + 1))))
            case first =>
              clear hCx2 HI2 hsub hm0 hm1 hq0 hq1 HZl HDv HHd HXq HAl HE
              have HN0 := mkHid (HN.out.on (bel_drewN (Below.refl _ Z) 1))
              refine wp_region_noPanic ?_
              refine wp_region_held_drew (S := fun w' => Blk w' y2.heap.size 29 [.int .u64 (eseq : Int), .int .u64 (eclk : Int), .string ewho, .int .i64 ekind, .string ebkt, .string ekey, .int .u64 (ever : Int), .int .i64 eerr, .slice fa esum.length fc, .slice fb eprev.length fd]) (by kernel_rfl) HN0.out.s (fun hHeld => ?_)
              refine takeH (some 100) (i := 1) (v := .slice (some ⟨g, 0, none⟩) (m + 1) vc) rfl (by kernel_rfl) (by kernel_rfl) (by kernel_rfl) (fun _ _ _ h => h) (Or.inl ⟨by rfl, ?_⟩) hHeld rfl ?_
              · intro w1 hSw; go_simp
              (try simp only [Act.put, List.setIfInBounds_toArray, List.set_cons_zero, List.set_cons_succ])
              refine takeH (some 101) (i := 2) (v := .int .i64 (q : Int)) rfl (by kernel_rfl) (by kernel_rfl) (by kernel_rfl) (fun _ _ _ h => h) (Or.inl ⟨by rfl, ?_⟩) hHeld rfl ?_
              · intro w1 hSw; go_simp
              (try simp only [Act.put, List.setIfInBounds_toArray, List.set_cons_zero, List.set_cons_succ])
              refine takeH (some 102) (i := 3) (v := .slice (some ⟨g, 0, none⟩) q vc) rfl (by kernel_rfl) (by kernel_rfl) (by kernel_rfl) (fun _ _ _ h => h) (Or.inl ⟨by rfl, ?_⟩) hHeld rfl ?_
              · intro w1 hSw; go_simp
              (try simp only [Act.put, List.setIfInBounds_toArray, List.set_cons_zero, List.set_cons_succ])
              refine takeH (some 107) (i := 8) (v := .slice (some ⟨g, 0, none⟩) (m + 1) vc) rfl (by kernel_rfl) (by kernel_rfl) (by kernel_rfl) (fun _ _ _ h => h) (Or.inl ⟨by rfl, ?_⟩) hHeld rfl ?_
              · intro w1 hSw; go_simp
              (try simp only [Act.put, List.setIfInBounds_toArray, List.set_cons_zero, List.set_cons_succ])
              refine takeH (some 108) (i := 9) (v := .int .i64 (q : Int)) rfl (by kernel_rfl) (by kernel_rfl) (by kernel_rfl) (fun _ _ _ h => h) (Or.inl ⟨by rfl, ?_⟩) hHeld rfl ?_
              · intro w1 hSw; go_simp
              (try simp only [Act.put, List.setIfInBounds_toArray, List.set_cons_zero, List.set_cons_succ])
              refine takeH (some 109) (i := 10) (v := .int .i64 ((q : Int) + 1)) rfl (by kernel_rfl) (by kernel_rfl) (by kernel_rfl) (fun _ _ _ h => h) (Or.inl ⟨by rfl, ?_⟩) hHeld rfl ?_
              · intro w1 hSw; go_simp
              (try simp only [Act.put, List.setIfInBounds_toArray, List.set_cons_zero, List.set_cons_succ])
              refine takeH (some 110) (i := 11) (v := .slice cu cn cc) rfl (by kernel_rfl) (by kernel_rfl) (by kernel_rfl) (fun _ _ _ h => h) (Or.inl ⟨by rfl, ?_⟩) hHeld rfl ?_
              · intro w1 hSw; go_simp
              (try simp only [Act.put, List.setIfInBounds_toArray, List.set_cons_zero, List.set_cons_succ])
              refine takeH (some 104) (i := 5) (v := .agg #[.int .u64 (eseq : Int), .int .u64 (eclk : Int), .string ewho, .int .i64 ekind, .string ebkt, .string ekey, .int .u64 (ever : Int), .int .i64 eerr, .slice fa esum.length fc, .slice fb eprev.length fd]) rfl (by kernel_rfl) (by kernel_rfl) (by kernel_rfl) (fun _ _ _ h => h) (yieldsIf_load_mid (by rfl) 29 (.tmp 13) (by rfl) (y2.heap.size) 0 (by rfl) [.int .u64 (eseq : Int), .int .u64 (eclk : Int), .string ewho, .int .i64 ekind, .string ebkt, .string ekey, .int .u64 (ever : Int), .int .i64 eerr, .slice fa esum.length fc, .slice fb eprev.length fd] _ (fun w1 hw1 => Blk.whole14 hw1) Try.underlying29 rfl (by kernel_rfl)) hHeld rfl ?_
              (try simp only [Act.put, List.setIfInBounds_toArray, List.set_cons_zero, List.set_cons_succ])
              refine wpAnyH_ready (rs := [0, 6]) (by kernel_rfl) (by simp) ?_
              refine AllReadyH.cons rfl (fun K hK => ?_) (AllReadyH.cons rfl (fun K hK => ?_) AllReadyH.nil)
              · skip
                go_simp
                have hbA : Below Z.heap.size Z (Z.alloc (.cells #[] 29)).drew := ((Below.refl _ Z).alloc (Nat.le_refl _) _).drew
                have Ny1 := mkHid (HN.out.on hbA)
                have HO5 : Hid (OwnRc (Z.alloc (.cells #[] 29)).drew (y2.heap.size + 1) (.slice (some ⟨Z.heap.size, 0, none⟩) 0 0) []) := own_drewRc14 (OwnRc.empty Z _ HN.out.lt)
                refine hK.out _ _ Ny1.out.s (fun hHeld => ?_)
                (try simp only [Act.put, List.setIfInBounds_toArray, List.set_cons_zero, List.set_cons_succ])
                clear hK K hbA
                generalize (Z.alloc (.cells #[] 29)).drew = y3 at *
                have HE5 : Hid (Z.heap.size < y3.heap.size) := HO5lt14 HO5.out
                generalize Z.heap.size = E5 at *
                refine wpAnyH_ready (rs := [4, 6]) (by kernel_rfl) (by simp) ?_
                refine AllReadyH.cons rfl (fun K hK => ?_) (AllReadyH.cons rfl (fun K hK => ?_) AllReadyH.nil)
                · skip
                  refine step_appRcs y3 (by rfl) _ _ (by rfl) (y2.heap.size + 1) _ [] (by rfl) HO5.out (some ⟨g, 0, none⟩) q vc (A.take q) (by rfl) (HSc.out _ Ny1.out.b).1 (by simp only [List.length_nil]; omega) Ny1.out.lt 103 rfl ?_
                  intro v7 y4 ho7 hg7
                  rw [List.nil_append] at ho7
                  have Ny2 := mkHid (Ny1.out.grown HO5.out hg7)
                  have HO7 := mkHid ho7
                  refine hK.out _ _ Ny2.out.s (fun hHeld => ?_)
                  (try simp only [Act.put, List.setIfInBounds_toArray, List.set_cons_zero, List.set_cons_succ])
                  clear hK K ho7 hg7 HO5
                  refine wpAnyH_ready (rs := [6]) (by kernel_rfl) (by simp) (AllReadyH.cons rfl (fun K hK => ?_) AllReadyH.nil)
                  go_simp
                  have hbA : Below y4.heap.size y4 (y4.alloc (.cells #[.int .u64 (eseq : Int), .int .u64 (eclk : Int), .string ewho, .int .i64 ekind, .string ebkt, .string ekey, .int .u64 (ever : Int), .int .i64 eerr, .slice fa esum.length fc, .slice fb eprev.length fd] 29)) := ((Below.refl _ y4).alloc (Nat.le_refl _) _)
                  have Ny3 := mkHid (Ny2.out.on hbA)
                  have HX1 : Hid (Blk (y4.alloc (.cells #[.int .u64 (eseq : Int), .int .u64 (eclk : Int), .string ewho, .int .i64 ekind, .string ebkt, .string ekey, .int .u64 (ever : Int), .int .i64 eerr, .slice fa esum.length fc, .slice fb eprev.length fd] 29)) y4.heap.size 29 [.int .u64 (eseq : Int), .int .u64 (eclk : Int), .string ewho, .int .i64 ekind, .string ebkt, .string ekey, .int .u64 (ever : Int), .int .i64 eerr, .slice fa esum.length fc, .slice fb eprev.length fd]) := (Blk.new y4 29 [.int .u64 (eseq : Int), .int .u64 (eclk : Int), .string ewho, .int .i64 ekind, .string ebkt, .string ekey, .int .u64 (ever : Int), .int .i64 eerr, .slice fa esum.length fc, .slice fb eprev.length fd])
                  have HO7b := mkHid (HO7.out.on hbA)
                  refine hK.out _ _ Ny3.out.s (fun hHeld => ?_)
                  (try simp only [Act.put, List.setIfInBounds_toArray, List.set_cons_zero, List.set_cons_succ])
                  clear hK K hbA
                  generalize (y4.alloc (.cells #[.int .u64 (eseq : Int), .int .u64 (eclk : Int), .string ewho, .int .i64 ekind, .string ebkt, .string ekey, .int .u64 (ever : Int), .int .i64 eerr, .slice fa esum.length fc, .slice fb eprev.length fd] 29)) = y5 at *
                  generalize y4.heap.size = X at *
                  refine wpAnyH_ready (rs := [7]) (by kernel_rfl) (by simp) (AllReadyH.cons rfl (fun K hK => ?_) AllReadyH.nil)
                  refine step_appRcs y5 (by rfl) _ _ (by rfl) (y2.heap.size + 1) _ (A.take q) (by rfl) HO7b.out (some ⟨X, 0, none⟩) 1 1 [(⟨eseq, eclk, ewho, ekind, ebkt, ekey, ever, eerr, esum, eprev⟩, ⟨fa, fc, fb, fd⟩)] (by rfl) (Blk.srcRc (x := (⟨eseq, eclk, ewho, ekind, ebkt, ekey, ever, eerr, esum, eprev⟩, ⟨fa, fc, fb, fd⟩)) HX1.out) (by rw [List.length_take]; omega) Ny3.out.lt 106 rfl ?_
                  intro v10 z0 ho10 hg10
                  have Nz0 := mkHid (Ny3.out.grown HO7b.out hg10)
                  have HO10 := mkHid ho10
                  refine hK.out _ _ Nz0.out.s (fun hHeld => ?_)
                  (try simp only [Act.put, List.setIfInBounds_toArray, List.set_cons_zero, List.set_cons_succ])
                  clear hK K ho10 hg10 HO7b HX1 Ny3
                  refine wpAnyH_ready (rs := [12]) (by kernel_rfl) (by simp) (AllReadyH.cons rfl (fun K hK => ?_) AllReadyH.nil)
                  refine step_appRcs z0 (by rfl) _ _ (by rfl) (y2.heap.size + 1) _ _ (by rfl) HO10.out cu cn cc (A.drop (q + 1)) (by rfl) (HSc.out _ Nz0.out.b).2 (by rw [List.length_append, List.length_take]; have := HCn.out; simp only [List.length_cons, List.length_nil]; omega) Nz0.out.lt 111 rfl ?_
                  intro v11 z1 ho11 hg11
                  have Nz1 := mkHid (Nz0.out.grown HO10.out hg11)
                  have HO11 := mkHid ho11
                  refine hK.out _ _ Nz1.out.s (fun hHeld => ?_)
                  (try simp only [Act.put, List.setIfInBounds_toArray, List.set_cons_zero, List.set_cons_succ])
                  clear hK K ho11 hg11 HO10 Nz0
                  refine takeH (some 14) (i := 13) (v := v11) rfl (by kernel_rfl) (by kernel_rfl) (by kernel_rfl) (fun _ _ _ h => h) (Or.inl ⟨by rfl, ?_⟩) hHeld rfl ?_
                  · intro w1 hSw; go_simp
                  (try simp only [Act.put, List.setIfInBounds_toArray, List.set_cons_zero, List.set_cons_succ])
                  refine wpAnyH_done (by kernel_rfl) ?_ _
                  refine NoPanic.normal ?_
                  clear hHeld
                  go_wp2_with fail
                  go_meet
                  case rel => exact ⟨Nz1, HO11⟩
                · skip
                  go_simp
                  have hbA : Below y3.heap.size y3 (y3.alloc (.cells #[.int .u64 (eseq : Int), .int .u64 (eclk : Int), .string ewho, .int .i64 ekind, .string ebkt, .string ekey, .int .u64 (ever : Int), .int .i64 eerr, .slice fa esum.length fc, .slice fb eprev.length fd] 29)) := ((Below.refl _ y3).alloc (Nat.le_refl _) _)
                  have Ny2 := mkHid (Ny1.out.on hbA)
                  have HX1 : Hid (Blk (y3.alloc (.cells #[.int .u64 (eseq : Int), .int .u64 (eclk : Int), .string ewho, .int .i64 ekind, .string ebkt, .string ekey, .int .u64 (ever : Int), .int .i64 eerr, .slice fa esum.length fc, .slice fb eprev.length fd] 29)) y3.heap.size 29 [.int .u64 (eseq : Int), .int .u64 (eclk : Int), .string ewho, .int .i64 ekind, .string ebkt, .string ekey, .int .u64 (ever : Int), .int .i64 eerr, .slice fa esum.length fc, .slice fb eprev.length fd]) := (Blk.new y3 29 [.int .u64 (eseq : Int), .int .u64 (eclk : Int), .string ewho, .int .i64 ekind, .string ebkt, .string ekey, .int .u64 (ever : Int), .int .i64 eerr, .slice fa esum.length fc, .slice fb eprev.length fd])
                  have HO5b := mkHid (HO5.out.on hbA)
                  have HXn : Hid (y3.heap.size ≠ E5) := fun e => by have := HE5.out; omega
                  refine hK.out _ _ Ny2.out.s (fun hHeld => ?_)
                  (try simp only [Act.put, List.setIfInBounds_toArray, List.set_cons_zero, List.set_cons_succ])
                  clear hK K hbA
                  generalize (y3.alloc (.cells #[.int .u64 (eseq : Int), .int .u64 (eclk : Int), .string ewho, .int .i64 ekind, .string ebkt, .string ekey, .int .u64 (ever : Int), .int .i64 eerr, .slice fa esum.length fc, .slice fb eprev.length fd] 29)) = y4 at *
                  generalize y3.heap.size = X at *
                  have HX2 := HX1
                  clear HO5
                  have HO5 := HO5b
                  refine wpAnyH_ready (rs := [4]) (by kernel_rfl) (by simp) (AllReadyH.cons rfl (fun K hK => ?_) AllReadyH.nil)
                  refine step_appRcs y4 (by rfl) _ _ (by rfl) (y2.heap.size + 1) _ [] (by rfl) HO5.out (some ⟨g, 0, none⟩) q vc (A.take q) (by rfl) (HSc.out _ Ny2.out.b).1 (by simp only [List.length_nil]; omega) Ny2.out.lt 103 rfl ?_
                  intro v7 y5 ho7 hg7
                  rw [List.nil_append] at ho7
                  have Ny3 := mkHid (Ny2.out.grown HO5.out hg7)
                  have HO7 := mkHid ho7
                  have HX3 : Hid (Blk y5 X 29 [.int .u64 (eseq : Int), .int .u64 (eclk : Int), .string ewho, .int .i64 ekind, .string ebkt, .string ekey, .int .u64 (ever : Int), .int .i64 eerr, .slice fa esum.length fc, .slice fb eprev.length fd]) := blk_grown14 HX2.out hg7 (fun e => HXn.out (Option.some.inj e).symm)
                  refine hK.out _ _ Ny3.out.s (fun hHeld => ?_)
                  (try simp only [Act.put, List.setIfInBounds_toArray, List.set_cons_zero, List.set_cons_succ])
                  clear hK K ho7 hg7 HO5
                  refine wpAnyH_ready (rs := [7]) (by kernel_rfl) (by simp) (AllReadyH.cons rfl (fun K hK => ?_) AllReadyH.nil)
                  refine step_appRcs y5 (by rfl) _ _ (by rfl) (y2.heap.size + 1) _ (A.take q) (by rfl) HO7.out (some ⟨X, 0, none⟩) 1 1 [(⟨eseq, eclk, ewho, ekind, ebkt, ekey, ever, eerr, esum, eprev⟩, ⟨fa, fc, fb, fd⟩)] (by rfl) (Blk.srcRc (x := (⟨eseq, eclk, ewho, ekind, ebkt, ekey, ever, eerr, esum, eprev⟩, ⟨fa, fc, fb, fd⟩)) HX3.out) (by rw [List.length_take]; omega) Ny3.out.lt 106 rfl ?_
                  intro v10 z0 ho10 hg10
                  have Nz0 := mkHid (Ny3.out.grown HO7.out hg10)
                  have HO10 := mkHid ho10
                  refine hK.out _ _ Nz0.out.s (fun hHeld => ?_)
                  (try simp only [Act.put, List.setIfInBounds_toArray, List.set_cons_zero, List.set_cons_succ])
                  clear hK K ho10 hg10 HO7 HX3 Ny3
                  refine wpAnyH_ready (rs := [12]) (by kernel_rfl) (by simp) (AllReadyH.cons rfl (fun K hK => ?_) AllReadyH.nil)
                  refine step_appRcs z0 (by rfl) _ _ (by rfl) (y2.heap.size + 1) _ _ (by rfl) HO10.out cu cn cc (A.drop (q + 1)) (by rfl) (HSc.out _ Nz0.out.b).2 (by rw [List.length_append, List.length_take]; have := HCn.out; simp only [List.length_cons, List.length_nil]; omega) Nz0.out.lt 111 rfl ?_
                  intro v11 z1 ho11 hg11
                  have Nz1 := mkHid (Nz0.out.grown HO10.out hg11)
                  have HO11 := mkHid ho11
                  refine hK.out _ _ Nz1.out.s (fun hHeld => ?_)
                  (try simp only [Act.put, List.setIfInBounds_toArray, List.set_cons_zero, List.set_cons_succ])
                  clear hK K ho11 hg11 HO10 Nz0
                  refine takeH (some 14) (i := 13) (v := v11) rfl (by kernel_rfl) (by kernel_rfl) (by kernel_rfl) (fun _ _ _ h => h) (Or.inl ⟨by rfl, ?_⟩) hHeld rfl ?_
                  · intro w1 hSw; go_simp
                  (try simp only [Act.put, List.setIfInBounds_toArray, List.set_cons_zero, List.set_cons_succ])
                  refine wpAnyH_done (by kernel_rfl) ?_ _
                  refine NoPanic.normal ?_
                  clear hHeld
                  go_wp2_with fail
                  go_meet
                  case rel => exact ⟨Nz1, HO11⟩
              · skip
                go_simp
                have hbA : Below Z.heap.size Z (Z.alloc (.cells #[.int .u64 (eseq : Int), .int .u64 (eclk : Int), .string ewho, .int .i64 ekind, .string ebkt, .string ekey, .int .u64 (ever : Int), .int .i64 eerr, .slice fa esum.length fc, .slice fb eprev.length fd] 29)).drew := ((Below.refl _ Z).alloc (Nat.le_refl _) _).drew
                have Ny1 := mkHid (HN.out.on hbA)
                have HX1 : Hid (Blk (Z.alloc (.cells #[.int .u64 (eseq : Int), .int .u64 (eclk : Int), .string ewho, .int .i64 ekind, .string ebkt, .string ekey, .int .u64 (ever : Int), .int .i64 eerr, .slice fa esum.length fc, .slice fb eprev.length fd] 29)).drew Z.heap.size 29 [.int .u64 (eseq : Int), .int .u64 (eclk : Int), .string ewho, .int .i64 ekind, .string ebkt, .string ekey, .int .u64 (ever : Int), .int .i64 eerr, .slice fa esum.length fc, .slice fb eprev.length fd]) := (Blk.new Z 29 [.int .u64 (eseq : Int), .int .u64 (eclk : Int), .string ewho, .int .i64 ekind, .string ebkt, .string ekey, .int .u64 (ever : Int), .int .i64 eerr, .slice fa esum.length fc, .slice fb eprev.length fd]).drewN 1
                refine hK.out _ _ Ny1.out.s (fun hHeld => ?_)
                (try simp only [Act.put, List.setIfInBounds_toArray, List.set_cons_zero, List.set_cons_succ])
                clear hK K hbA
                generalize (Z.alloc (.cells #[.int .u64 (eseq : Int), .int .u64 (eclk : Int), .string ewho, .int .i64 ekind, .string ebkt, .string ekey, .int .u64 (ever : Int), .int .i64 eerr, .slice fa esum.length fc, .slice fb eprev.length fd] 29)).drew = y3 at *
                generalize Z.heap.size = X at *
                refine wpAnyH_ready (rs := [0]) (by kernel_rfl) (by simp) (AllReadyH.cons rfl (fun K hK => ?_) AllReadyH.nil)
                go_simp
                have hbA : Below y3.heap.size y3 (y3.alloc (.cells #[] 29)) := ((Below.refl _ y3).alloc (Nat.le_refl _) _)
                have Ny2 := mkHid (Ny1.out.on hbA)
                have HO5 : Hid (OwnRc (y3.alloc (.cells #[] 29)) (y2.heap.size + 1) (.slice (some ⟨y3.heap.size, 0, none⟩) 0 0) []) := OwnRc.empty y3 _ Ny1.out.lt
                have HX12 := mkHid (HX1.out.on hbA)
                have HXn : Hid (X ≠ y3.heap.size) := Nat.ne_of_lt HX1.out.lt
                refine hK.out _ _ Ny2.out.s (fun hHeld => ?_)
                (try simp only [Act.put, List.setIfInBounds_toArray, List.set_cons_zero, List.set_cons_succ])
                clear hK K hbA
                generalize (y3.alloc (.cells #[] 29)) = y4 at *
                generalize y3.heap.size = E5 at *
                have HX2 := HX12
                refine wpAnyH_ready (rs := [4]) (by kernel_rfl) (by simp) (AllReadyH.cons rfl (fun K hK => ?_) AllReadyH.nil)
                refine step_appRcs y4 (by rfl) _ _ (by rfl) (y2.heap.size + 1) _ [] (by rfl) HO5.out (some ⟨g, 0, none⟩) q vc (A.take q) (by rfl) (HSc.out _ Ny2.out.b).1 (by simp only [List.length_nil]; omega) Ny2.out.lt 103 rfl ?_
                intro v7 y5 ho7 hg7
                rw [List.nil_append] at ho7
                have Ny3 := mkHid (Ny2.out.grown HO5.out hg7)
                have HO7 := mkHid ho7
                have HX3 : Hid (Blk y5 X 29 [.int .u64 (eseq : Int), .int .u64 (eclk : Int), .string ewho, .int .i64 ekind, .string ebkt, .string ekey, .int .u64 (ever : Int), .int .i64 eerr, .slice fa esum.length fc, .slice fb eprev.length fd]) := blk_grown14 HX2.out hg7 (fun e => HXn.out (Option.some.inj e).symm)
                refine hK.out _ _ Ny3.out.s (fun hHeld => ?_)
                (try simp only [Act.put, List.setIfInBounds_toArray, List.set_cons_zero, List.set_cons_succ])
                clear hK K ho7 hg7 HO5
                refine wpAnyH_ready (rs := [7]) (by kernel_rfl) (by simp) (AllReadyH.cons rfl (fun K hK => ?_) AllReadyH.nil)
                refine step_appRcs y5 (by rfl) _ _ (by rfl) (y2.heap.size + 1) _ (A.take q) (by rfl) HO7.out (some ⟨X, 0, none⟩) 1 1 [(⟨eseq, eclk, ewho, ekind, ebkt, ekey, ever, eerr, esum, eprev⟩, ⟨fa, fc, fb, fd⟩)] (by rfl) (Blk.srcRc (x := (⟨eseq, eclk, ewho, ekind, ebkt, ekey, ever, eerr, esum, eprev⟩, ⟨fa, fc, fb, fd⟩)) HX3.out) (by rw [List.length_take]; omega) Ny3.out.lt 106 rfl ?_
                intro v10 z0 ho10 hg10
                have Nz0 := mkHid (Ny3.out.grown HO7.out hg10)
                have HO10 := mkHid ho10
                refine hK.out _ _ Nz0.out.s (fun hHeld => ?_)
                (try simp only [Act.put, List.setIfInBounds_toArray, List.set_cons_zero, List.set_cons_succ])
                clear hK K ho10 hg10 HO7 HX3 Ny3
                refine wpAnyH_ready (rs := [12]) (by kernel_rfl) (by simp) (AllReadyH.cons rfl (fun K hK => ?_) AllReadyH.nil)
                refine step_appRcs z0 (by rfl) _ _ (by rfl) (y2.heap.size + 1) _ _ (by rfl) HO10.out cu cn cc (A.drop (q + 1)) (by rfl) (HSc.out _ Nz0.out.b).2 (by rw [List.length_append, List.length_take]; have := HCn.out; simp only [List.length_cons, List.length_nil]; omega) Nz0.out.lt 111 rfl ?_
                intro v11 z1 ho11 hg11
                have Nz1 := mkHid (Nz0.out.grown HO10.out hg11)
                have HO11 := mkHid ho11
                refine hK.out _ _ Nz1.out.s (fun hHeld => ?_)
                (try simp only [Act.put, List.setIfInBounds_toArray, List.set_cons_zero, List.set_cons_succ])
                clear hK K ho11 hg11 HO10 Nz0
                refine takeH (some 14) (i := 13) (v := v11) rfl (by kernel_rfl) (by kernel_rfl) (by kernel_rfl) (fun _ _ _ h => h) (Or.inl ⟨by rfl, ?_⟩) hHeld rfl ?_
                · intro w1 hSw; go_simp
                (try simp only [Act.put, List.setIfInBounds_toArray, List.set_cons_zero, List.set_cons_succ])
                refine wpAnyH_done (by kernel_rfl) ?_ _
                refine NoPanic.normal ?_
                clear hHeld
                go_wp2_with fail
                go_meet
                case rel => exact ⟨Nz1, HO11⟩
            case rest =>
              obtain ⟨HNz, HOe⟩ := hcut
              clear HN HSc hs1 hs2 hwp
              rename World => z
              obtain ⟨ea, ec, hve, -⟩ := HOe.out.form
              rw [ed_len14 (by have := HAn.out; omega), HAn.out] at hve
              subst hve
              have hAE : ∀ x ∈ (A.take q ++ [((⟨eseq, eclk, ewho, ekind, ebkt, ekey, ever, eerr, esum, eprev⟩ : Rc), (⟨fa, fc, fb, fd⟩ : RcA))] ++ A.drop (q + 1)), IsRec z x.1 x.2 ∧ rcLen x.1 ≤ 20000 := fun x hx => by
                have hbw := HA2.out.tk.b.trans (HNz.out.b.mono HA2.out.tk.b.size)
                rcases ed_mem14 hx with hx | rfl
                · exact ⟨(HA2.out.log.all x hx).1 z hbw (KeepO.of_below HNz.out.b), HA2.out.log.small x hx⟩
                · exact ⟨HE.out.1 z hbw (KeepO.of_below HNz.out.b), HE.out.2⟩
              have HIe := HOe.out.isRl (fun x hx => (hAE x hx).1)
              have HIa := ((HA2.out.log.own.on HNz.out.b).isRl (fun x hx => (HA2.out.log.all x hx).1 z (HA2.out.tk.b.trans (HNz.out.b.mono HA2.out.tk.b.size)) (KeepO.of_below HNz.out.b)))
              have HHz : IsV z hdv DZ := OwnB.isV (own_keepO (us := [5]) (KeepO.of_below HNz.out.b) HHd.out (by decide))
              have HVl : Hid (verL (A.map Prod.fst) DZ = true) := by have := HA2.out.log.ver; rw [HZl.out] at this; rw [← HDv.out]; exact this
              have HV1 : Hid (sameRc ⟨eseq, eclk, ewho, ekind, ebkt, ekey, ever, eerr, esum, eprev⟩ ⟨rseq, rclk, rwho, rkind, rbkt, rkey, rver, rerr, rsum, rprev⟩ = true → verN ((A.take q ++ [((⟨eseq, eclk, ewho, ekind, ebkt, ekey, ever, eerr, esum, eprev⟩ : Rc), (⟨fa, fc, fb, fd⟩ : RcA))] ++ A.drop (q + 1)).map Prod.fst) DZ = 0) := fun hs => by
                rw [ed_map14, (sameRc_iff _ _).1 hs, ed_same14 (ed_at14 HXq.out)]
                exact verN_yes14 HVl.out
              have HV2 : Hid (sameRc ⟨eseq, eclk, ewho, ekind, ebkt, ekey, ever, eerr, esum, eprev⟩ ⟨rseq, rclk, rwho, rkind, rbkt, rkey, rver, rerr, rsum, rprev⟩ = false → (colL (A.map Prod.fst) ((A.take q ++ [((⟨eseq, eclk, ewho, ekind, ebkt, ekey, ever, eerr, esum, eprev⟩ : Rc), (⟨fa, fc, fb, fd⟩ : RcA))] ++ A.drop (q + 1)).map Prod.fst)).isSome = false → verN ((A.take q ++ [((⟨eseq, eclk, ewho, ekind, ebkt, ekey, ever, eerr, esum, eprev⟩ : Rc), (⟨fa, fc, fb, fd⟩ : RcA))] ++ A.drop (q + 1)).map Prod.fst) DZ = 53) := fun hs hc => by
                rw [ed_map14] at hc ⊢
                refine if_neg ?_
                have hc2 : colL (A.map Prod.fst) ((A.map Prod.fst).take q ++ [⟨eseq, eclk, ewho, ekind, ebkt, ekey, ever, eerr, esum, eprev⟩] ++ (A.map Prod.fst).drop (q + 1)) = none := by
                  cases h : colL (A.map Prod.fst) ((A.map Prod.fst).take q ++ [⟨eseq, eclk, ewho, ekind, ebkt, ekey, ever, eerr, esum, eprev⟩] ++ (A.map Prod.fst).drop (q + 1)) with
                  | none => rfl
                  | some x => rw [h] at hc; cases hc
                rw [ed_other14 (ed_at14 HXq.out) HVl.out (fun e => by rw [(sameRc_iff _ _).2 e.symm] at hs; cases hs) hc2]
                decide
              have HVc := fun W (hW : Below z.heap.size z W) => codVerify14 ea (m + 1) ec _ hdv DZ W (HIe.below hW) (HHz.below hW rfl) (fun x hx => (hAE x hx).2) (by have := HAl.out; omega)
              have HCo := fun W (hW : Below z.heap.size z W) => refCollision14 (some ⟨g, 0, none⟩) (m + 1) vc A ea (m + 1) ec _ W (HIa.below hW) (HIe.below hW) HA2.out.log.small (fun x hx => (hAE x hx).2) (by have := HAl.out; omega) (by have := HAl.out; omega)
              have HSm := fun W (hW : Below z.heap.size z W) => refSame14 ⟨eseq, eclk, ewho, ekind, ebkt, ekey, ever, eerr, esum, eprev⟩ ⟨rseq, rclk, rwho, rkind, rbkt, rkey, rver, rerr, rsum, rprev⟩ ⟨fa, fc, fb, fd⟩ ⟨sa, sc, sb, sd⟩ W (((hAE (⟨eseq, eclk, ewho, ekind, ebkt, ekey, ever, eerr, esum, eprev⟩, ⟨fa, fc, fb, fd⟩) (by simp)).1).below hW) ((HIa.recs _ (List.mem_of_getElem? HXq.out)).below hW)
              have hCz2 := range_below14 hCx2 HNz.out.b
              have HBw := mkHid (HA2.out.tk.b.trans (HNz.out.b.mono HA2.out.tk.b.size))
              clear hCx2 HA2 HE hAE HIe HIa HHz HHd HVl HZl HDv HOe hsub hm0 hm1 HXq HAn HAl
              unfold CoPost14 at HCo
              generalize coX14 _ _ = CX at *
              generalize coY14 _ _ = CY at *
              generalize (colL _ _).isSome = FO at *
              generalize verN _ _ = VN at *
              generalize sameRc _ _ = SB at *
              rw [show rcc ⟨eseq, eclk, ewho, ekind, ebkt, ekey, ever, eerr, esum, eprev⟩ ⟨fa, fc, fb, fd⟩ = [.int .u64 (eseq : Int), .int .u64 (eclk : Int), .string ewho, .int .i64 ekind, .string ebkt, .string ekey, .int .u64 (ever : Int), .int .i64 eerr, .slice fa esum.length fc, .slice fb eprev.length fd] from rfl, show rcc ⟨rseq, rclk, rwho, rkind, rbkt, rkey, rver, rerr, rsum, rprev⟩ ⟨sa, sc, sb, sd⟩ = [.int .u64 (rseq : Int), .int .u64 (rclk : Int), .string rwho, .int .i64 rkind, .string rbkt, .string rkey, .int .u64 (rver : Int), .int .i64 rerr, .slice sa rsum.length sc, .slice sb rprev.length sd] from rfl] at HSm
              have HSk : Hid (∀ W, Below z.heap.size z W → Blk W y2.heap.size 29 [.int .u64 (eseq : Int), .int .u64 (eclk : Int), .string ewho, .int .i64 ekind, .string ebkt, .string ekey, .int .u64 (ever : Int), .int .i64 eerr, .slice fa esum.length fc, .slice fb eprev.length fd] ∧ W.rangeAt g (q * 10) [.int .u64 (rseq : Int), .int .u64 (rclk : Int), .string rwho, .int .i64 rkind, .string rbkt, .string rkey, .int .u64 (rver : Int), .int .i64 rerr, .slice sa rsum.length sc, .slice sb rprev.length sd]) := fun W hW => ⟨HNz.out.s.on hW, range_below14 hCz2 hW⟩
              go_upto_region 29 with fail
              go_cut [117] from 112 (fun v wx => v = .bool SB ∧ Hid (Below z.heap.size z wx))
              case first =>
                clear HVc HCo HV1 HV2 HNz hCz2 HBw
                have HS0 := HSk.out _ (Below.refl _ z).drew
                refine wp_region_noPanic ?_
                refine wp_region_held_drew (S := fun w' => Blk w' y2.heap.size 29 [.int .u64 (eseq : Int), .int .u64 (eclk : Int), .string ewho, .int .i64 ekind, .string ebkt, .string ekey, .int .u64 (ever : Int), .int .i64 eerr, .slice fa esum.length fc, .slice fb eprev.length fd] ∧ w'.rangeAt g (q * 10) [.int .u64 (rseq : Int), .int .u64 (rclk : Int), .string rwho, .int .i64 rkind, .string rbkt, .string rkey, .int .u64 (rver : Int), .int .i64 rerr, .slice sa rsum.length sc, .slice sb rprev.length sd]) (by kernel_rfl) HS0 (fun hHeld => ?_)
                refine takeH (some 112) (i := 0) (v := .agg #[.int .u64 (eseq : Int), .int .u64 (eclk : Int), .string ewho, .int .i64 ekind, .string ebkt, .string ekey, .int .u64 (ever : Int), .int .i64 eerr, .slice fa esum.length fc, .slice fb eprev.length fd]) rfl (by kernel_rfl) (by kernel_rfl) (by kernel_rfl) (fun _ _ _ h => h) (yieldsIf_load_mid (by rfl) 29 (.tmp 13) (by rfl) (y2.heap.size) 0 (by rfl) [.int .u64 (eseq : Int), .int .u64 (eclk : Int), .string ewho, .int .i64 ekind, .string ebkt, .string ekey, .int .u64 (ever : Int), .int .i64 eerr, .slice fa esum.length fc, .slice fb eprev.length fd] _ (fun w1 hw1 => Blk.whole14 hw1.1) Try.underlying29 rfl (by kernel_rfl)) hHeld rfl ?_
                (try simp only [Act.put, List.setIfInBounds_toArray, List.set_cons_zero, List.set_cons_succ])
                refine takeH (some 113) (i := 1) (v := .slice (some ⟨g, 0, none⟩) (m + 1) vc) rfl (by kernel_rfl) (by kernel_rfl) (by kernel_rfl) (fun _ _ _ h => h) (Or.inl ⟨by rfl, ?_⟩) hHeld rfl ?_
                · intro w1 hSw; go_simp
                (try simp only [Act.put, List.setIfInBounds_toArray, List.set_cons_zero, List.set_cons_succ])
                refine takeH (some 114) (i := 2) (v := .int .i64 (q : Int)) rfl (by kernel_rfl) (by kernel_rfl) (by kernel_rfl) (fun _ _ _ h => h) (Or.inl ⟨by rfl, ?_⟩) hHeld rfl ?_
                · intro w1 hSw; go_simp
                (try simp only [Act.put, List.setIfInBounds_toArray, List.set_cons_zero, List.set_cons_succ])
                refine takeH (some 115) (i := 3) (v := .pointer (some ⟨g, q * 10, none⟩)) rfl (by kernel_rfl) (by kernel_rfl) (by kernel_rfl) (fun _ _ _ h => h) (Or.inl ⟨by rfl, ?_⟩) hHeld rfl ?_
                · intro w1 hSw; go_simp
                (try simp only [Act.put, List.setIfInBounds_toArray, List.set_cons_zero, List.set_cons_succ])
                refine takeH (some 116) (i := 4) (v := .agg #[.int .u64 (rseq : Int), .int .u64 (rclk : Int), .string rwho, .int .i64 rkind, .string rbkt, .string rkey, .int .u64 (rver : Int), .int .i64 rerr, .slice sa rsum.length sc, .slice sb rprev.length sd]) rfl (by kernel_rfl) (by kernel_rfl) (by kernel_rfl) (fun _ _ _ h => h) (yieldsIf_load_mid (by rfl) 29 (.tmp 115) (by rfl) g (q * 10) (by rfl) [.int .u64 (rseq : Int), .int .u64 (rclk : Int), .string rwho, .int .i64 rkind, .string rbkt, .string rkey, .int .u64 (rver : Int), .int .i64 rerr, .slice sa rsum.length sc, .slice sb rprev.length sd] _ (fun w1 hw1 => hw1.2) Try.underlying29 rfl (by kernel_rfl)) hHeld rfl ?_
                (try simp only [Act.put, List.setIfInBounds_toArray, List.set_cons_zero, List.set_cons_succ])
                refine wpAnyH_ready (rs := [5]) (by kernel_rfl) (by simp) (AllReadyH.cons rfl (fun K hK => ?_) AllReadyH.nil)
                go_simp
                go_wp2_with (go_at_call 12; refine (HSm _ (Below.refl _ z).drew).mono ?_; rintro e z2 ⟨rfl, hb⟩)
                have hbz := (Below.refl z.heap.size z).drew.trans (hb.mono (Nat.le_refl _))
                refine hK.out _ _ (HSk.out _ hbz) (fun hHeld => ?_)
                (try simp only [Act.put, List.setIfInBounds_toArray, List.set_cons_zero, List.set_cons_succ])
                clear hK K hb
                refine wpAnyH_done (by kernel_rfl) ?_ _
                refine NoPanic.normal ?_
                clear hHeld
                go_wp2_with fail
                go_meet
                case rel => exact ⟨rfl, hbz⟩
              case rest =>
                obtain ⟨rfl, HB⟩ := hcut
                clear HSm HSk hCz2 HNz
                rename World => z3
                have HBx := mkHid (HBw.out.trans (HB.out.mono HBw.out.size))
                have hVc := HVc z3 HB.out
                cases SB with
                | true =>
                  rw [HV1.out rfl] at hVc
                  clear HCo HV1 HV2 HVc HBw
                  go_wp2_with fail
                  refine hVc.mono ?_
                  rintro e z4 ⟨rfl, hb⟩
                  have HB4 := mkHid (HBx.out.trans (hb.mono HBx.out.size))
                  clear hb hVc HBx
                  go_wp2_with fail
                  refine (lawAlive14 z4).mono ?_
                  rintro e la ⟨rfl, hla⟩
                  have HLa := mkHid (HB4.out.trans (hla.mono HB4.out.size))
                  clear hla
                  go_wp2_with fail
                  go_ret
                  exact ⟨rfl, HLa.out⟩
                | false =>
                  have hCo := HCo z3 HB.out
                  have HV3 := mkHid (HV2.out rfl)
                  clear HV1 HV2 hVc
                  go_wp2_with fail
                  refine hCo.mono ?_
                  rintro e z4 ⟨v1, v2, rfl, -, -, hb⟩
                  have HB4 := mkHid (HBx.out.trans (hb.mono HBx.out.size))
                  have hVc := HVc z4 (HB.out.trans (hb.mono HB.out.size))
                  clear hb HCo HVc HB hCo
                  cases FO with
                  | true =>
                    clear hVc
                    go_wp2_with fail
                    refine (lawAlive14 z4).mono ?_
                    rintro e la ⟨rfl, hla⟩
                    have HLa := mkHid (HB4.out.trans (hla.mono HB4.out.size))
                    clear hla
                    go_wp2_with fail
                    go_ret
                    exact ⟨rfl, HLa.out⟩
                  | false =>
                    rw [HV3.out rfl] at hVc
                    go_wp2_with fail
                    refine hVc.mono ?_
                    rintro e z5 ⟨rfl, hb⟩
                    have HB5 := mkHid (HB4.out.trans (hb.mono HB4.out.size))
                    clear hb hVc
                    go_wp2_with fail
                    refine (lawAlive14 z5).mono ?_
                    rintro e la ⟨rfl, hla⟩
                    have HLa := mkHid (HB5.out.trans (hla.mono HB5.out.size))
                    clear hla
                    go_wp2_with fail
                    go_ret
                    exact ⟨rfl, HLa.out⟩
end Go.Proofs.Ytbclhaleibjkgab
