/- AuditNexts: one way of the walk. -/
import Derived.Test.YtooffagdbppmaaaC2
namespace Go.Proofs.Ytooffagdbppmaaa
open Go.RowKit

set_option maxRecDepth 20000 in
set_option maxHeartbeats 20000000 in
theorem nexts14_Z (a : Option Addr) (n cap : Nat) (l : List Rq14) (r : Rc) (q : RcA) (w : World) (h : IsRl w a n l) (hz : ∀ x ∈ l, RcZ x.1) (hn : n * 136 ≤ 140737488351232) (ha : a = none → n = 0 ∧ cap = 0) (hr : IsRec w r q) (zr : RcZ r) (hLT : lightR ((l ++ [(r, q)]).map Prod.fst) = true) (hn0 : n = 0) :
    Calls Try.prog 5 #[.slice a n cap, .agg (rcc r q).toArray] w fun e w' => e = .returned (.bool true) ∧ Below w.heap.size w w' := by
  have HSrc : Hid (∀ W, Below w.heap.size w W → SrcRc W a n cap l) := fun W hW => (h.below hW).src ha
  have HLn := mkHid h.len
  have HLt : ∀ W va vn vc, Below w.heap.size w W → vn = (l ++ [(r, q)]).length → OwnRc W (w.heap.size + 1) (.slice va vn vc) (l ++ [(r, q)]) → Calls Try.prog 9 #[.slice va vn vc] W fun e w' => e = .returned (.bool (lightR ((l ++ [(r, q)]).map Prod.fst))) ∧ Below W.heap.size W w' := fun W va vn vc hW hvn ho =>
    lawLight14 va vn vc _ W (ho.isRl (fun x hx => by
      rcases List.mem_append.1 hx with hx | hx
      · exact (h.recs x hx).below hW
      · obtain rfl := List.mem_singleton.1 hx; exact hr.below hW)) (fun x hx => by
      rcases List.mem_append.1 hx with hx | hx
      · exact hz x hx
      · obtain rfl := List.mem_singleton.1 hx; exact zr) (by rw [hvn, List.length_append, h.len]; simp; omega)
  have HLo : lightR ((l ++ [(r, q)]).map Prod.fst) = true → (∀ x ∈ l, rcLen x.1 ≤ 5000) ∧ rcLen r ≤ 5000 ∧ n ≤ 1000000 := fun hl => by
    obtain ⟨h1, h2⟩ := light_of14 hl
    rw [List.length_append, h.len] at h2
    exact ⟨fun x hx => h1 x (List.mem_append_left _ hx), h1 (r, q) (by simp), by omega⟩
  have HNc := fun W (hW : Below w.heap.size w W) hs hrs (hm : n ≤ 1000000) => codNext14 a n cap l r q W (h.below hW) (hr.below hW) hs hrs hm
  have HNd := fun W (hW : Below w.heap.size w W) hs (hm : n ≤ 1000000) => refNext14 a n cap l r q W (h.below hW) (hr.below hW) hs hm
  have HSm := fun p p' W (h1 : IsRec W (nextRc (l.map Prod.fst) r) p) (h2 : IsRec W (nextRc (l.map Prod.fst) r) p') => refSame14 _ _ p p' W h1 h2
  rw [same_self14] at HSm
  have HCel : Hid (∀ m x, l[m]? = some x → ∃ B off, a = some ⟨B, off, none⟩ ∧ ∀ W, Below w.heap.size w W → W.cell? ⟨B, off + m * 10, none⟩ = some (.int .u64 (x.1.seq : Int))) := fun m x hx => by
    have hm := (List.getElem?_eq_some_iff.1 hx).1
    obtain ⟨B, off, e, hc⟩ := h.cells (by have := h.len; omega)
    exact ⟨B, off, e, fun W hW => range_below14 (hc m x hx) hW 0 _ rfl⟩
  have HNn := mkHid hn
  clear h hz ha hr zr hn
  unfold NxPost at HNc HNd
  generalize nextRc (l.map Prod.fst) r = NR at *
  obtain ⟨rseq, rclk, rwho, rkind, rbkt, rkey, rver, rerr, rsum, rprev⟩ := r
  obtain ⟨qa, qc, qb, qd⟩ := q
  generalize lightR ((l ++ [((⟨rseq, rclk, rwho, rkind, rbkt, rkey, rver, rerr, rsum, rprev⟩ : Rc), (⟨qa, qc, qb, qd⟩ : RcA))]).map Prod.fst) = LT at *
  have HNc2 := fun W hW hs hrs hm => HNc W hW hs hrs hm
  rw [show rcc ⟨rseq, rclk, rwho, rkind, rbkt, rkey, rver, rerr, rsum, rprev⟩ ⟨qa, qc, qb, qd⟩ = [.int .u64 (rseq : Int), .int .u64 (rclk : Int), .string rwho, .int .i64 rkind, .string rbkt, .string rkey, .int .u64 (rver : Int), .int .i64 rerr, .slice qa rsum.length qc, .slice qb rprev.length qd] from rfl] at HNc2 HNd ⊢
  clear HNc
  have Ny : Hid (NxAt w (w.alloc (.cells #[.int .u64 (rseq : Int), .int .u64 (rclk : Int), .string rwho, .int .i64 rkind, .string rbkt, .string rkey, .int .u64 (rver : Int), .int .i64 rerr, .slice qa rsum.length qc, .slice qb rprev.length qd] 26)) [.int .u64 (rseq : Int), .int .u64 (rclk : Int), .string rwho, .int .i64 rkind, .string rbkt, .string rkey, .int .u64 (rver : Int), .int .i64 rerr, .slice qa rsum.length qc, .slice qb rprev.length qd]) := ⟨Blk.new w 26 [.int .u64 (rseq : Int), .int .u64 (rclk : Int), .string rwho, .int .i64 rkind, .string rbkt, .string rkey, .int .u64 (rver : Int), .int .i64 rerr, .slice qa rsum.length qc, .slice qb rprev.length qd], (Below.refl _ w).alloc (Nat.le_refl _) _⟩
  go_enter Try.func5, Try.ntmps5
  go_upto_region 1 with fail
  generalize w.alloc (.cells #[.int .u64 (rseq : Int), .int .u64 (rclk : Int), .string rwho, .int .i64 rkind, .string rbkt, .string rkey, .int .u64 (rver : Int), .int .i64 rerr, .slice qa rsum.length qc, .slice qb rprev.length qd] 26) = y at *
  subst hLT hn0
  go_cut [27] from 5 to 27 (fun v wx => v = .bool false ∧ Hid (NxAt w wx [.int .u64 (rseq : Int), .int .u64 (rclk : Int), .string rwho, .int .i64 rkind, .string rbkt, .string rkey, .int .u64 (rver : Int), .int .i64 rerr, .slice qa rsum.length qc, .slice qb rprev.length qd]))
  case first =>
    clear HLo HNc2 HNd HSm HCel
    have Ny0 := mkHid (Ny.out.on (bel_drewN (Below.refl _ y) 1))
    refine wp_region_held_drew (S := fun w' => Blk w' w.heap.size 26 [.int .u64 (rseq : Int), .int .u64 (rclk : Int), .string rwho, .int .i64 rkind, .string rbkt, .string rkey, .int .u64 (rver : Int), .int .i64 rerr, .slice qa rsum.length qc, .slice qb rprev.length qd]) (by kernel_rfl) Ny0.out.s (fun hHeld => ?_)
    refine takeH (some 6) (i := 1) (v := .slice a 0 cap) rfl (by kernel_rfl) (by kernel_rfl) (by kernel_rfl) (fun _ _ _ h => h) (Or.inl ⟨by rfl, ?_⟩) hHeld rfl ?_
    · intro w1 hSw; go_simp
    (try simp only [Act.put, List.setIfInBounds_toArray, List.set_cons_zero, List.set_cons_succ])
    refine takeH (some 8) (i := 3) (v := .agg #[.int .u64 (rseq : Int), .int .u64 (rclk : Int), .string rwho, .int .i64 rkind, .string rbkt, .string rkey, .int .u64 (rver : Int), .int .i64 rerr, .slice qa rsum.length qc, .slice qb rprev.length qd]) rfl (by kernel_rfl) (by kernel_rfl) (by kernel_rfl) (fun _ _ _ h => h) (yieldsIf_load_mid (by rfl) 26 (.tmp 3) (by rfl) w.heap.size 0 (by rfl) [.int .u64 (rseq : Int), .int .u64 (rclk : Int), .string rwho, .int .i64 rkind, .string rbkt, .string rkey, .int .u64 (rver : Int), .int .i64 rerr, .slice qa rsum.length qc, .slice qb rprev.length qd] _ (fun w1 hw1 => Blk.whole14 hw1) Try.underlying26 rfl (by kernel_rfl)) hHeld rfl ?_
    (try simp only [Act.put, List.setIfInBounds_toArray, List.set_cons_zero, List.set_cons_succ])
    refine wpAnyH_ready (rs := [0, 4]) (by kernel_rfl) (by simp) ?_
    refine AllReadyH.cons rfl (fun K hK => ?_) (AllReadyH.cons rfl (fun K hK => ?_) AllReadyH.nil)
    · skip
      go_simp
      have hbA : Below y.heap.size y (y.alloc (.cells #[] 26)).drew := ((Below.refl _ y).alloc (Nat.le_refl _) _).drew
      have Ny1 := mkHid (Ny.out.on hbA)
      have HO5 : Hid (OwnRc (y.alloc (.cells #[] 26)).drew (w.heap.size + 1) (.slice (some ⟨y.heap.size, 0, none⟩) 0 0) []) := own_drewRc14 (OwnRc.empty y _ Ny.out.lt)
      refine hK.out _ _ Ny1.out.s (fun hHeld => ?_)
      (try simp only [Act.put, List.setIfInBounds_toArray, List.set_cons_zero, List.set_cons_succ])
      clear hK K hbA
      generalize (y.alloc (.cells #[] 26)).drew = y1 at *
      have HE5 : Hid (y.heap.size < y1.heap.size) := HO5lt14 HO5.out
      generalize y.heap.size = E5 at *
      refine wpAnyH_ready (rs := [2, 4]) (by kernel_rfl) (by simp) ?_
      refine AllReadyH.cons rfl (fun K hK => ?_) (AllReadyH.cons rfl (fun K hK => ?_) AllReadyH.nil)
      · skip
        refine step_appRcs y1 (by rfl) _ _ (by rfl) (w.heap.size + 1) _ [] (by rfl) HO5.out _ _ _ l (by rfl) (HSrc.out _ Ny1.out.b) (by have := HNn.out; simp only [List.length_nil]; omega) Ny1.out.lt 7 rfl ?_
        intro v7 y2 ho7 hg7
        rw [List.nil_append] at ho7
        have Ny2 := mkHid (Ny1.out.grown HO5.out hg7)
        have HO7 := mkHid ho7
        refine hK.out _ _ Ny2.out.s (fun hHeld => ?_)
        (try simp only [Act.put, List.setIfInBounds_toArray, List.set_cons_zero, List.set_cons_succ])
        clear hK K ho7 hg7 HO5
        refine wpAnyH_ready (rs := [4]) (by kernel_rfl) (by simp) (AllReadyH.cons rfl (fun K hK => ?_) AllReadyH.nil)
        go_simp
        have hbA : Below y2.heap.size y2 (y2.alloc (.cells #[.int .u64 (rseq : Int), .int .u64 (rclk : Int), .string rwho, .int .i64 rkind, .string rbkt, .string rkey, .int .u64 (rver : Int), .int .i64 rerr, .slice qa rsum.length qc, .slice qb rprev.length qd] 26)) := ((Below.refl _ y2).alloc (Nat.le_refl _) _)
        have Ny3 := mkHid (Ny2.out.on hbA)
        have HX1 : Hid (Blk (y2.alloc (.cells #[.int .u64 (rseq : Int), .int .u64 (rclk : Int), .string rwho, .int .i64 rkind, .string rbkt, .string rkey, .int .u64 (rver : Int), .int .i64 rerr, .slice qa rsum.length qc, .slice qb rprev.length qd] 26)) y2.heap.size 26 [.int .u64 (rseq : Int), .int .u64 (rclk : Int), .string rwho, .int .i64 rkind, .string rbkt, .string rkey, .int .u64 (rver : Int), .int .i64 rerr, .slice qa rsum.length qc, .slice qb rprev.length qd]) := (Blk.new y2 26 [.int .u64 (rseq : Int), .int .u64 (rclk : Int), .string rwho, .int .i64 rkind, .string rbkt, .string rkey, .int .u64 (rver : Int), .int .i64 rerr, .slice qa rsum.length qc, .slice qb rprev.length qd])
        have HO7b := mkHid (HO7.out.on hbA)
        refine hK.out _ _ Ny3.out.s (fun hHeld => ?_)
        (try simp only [Act.put, List.setIfInBounds_toArray, List.set_cons_zero, List.set_cons_succ])
        clear hK K hbA
        generalize (y2.alloc (.cells #[.int .u64 (rseq : Int), .int .u64 (rclk : Int), .string rwho, .int .i64 rkind, .string rbkt, .string rkey, .int .u64 (rver : Int), .int .i64 rerr, .slice qa rsum.length qc, .slice qb rprev.length qd] 26)) = y3 at *
        generalize y2.heap.size = X at *
        refine wpAnyH_ready (rs := [5]) (by kernel_rfl) (by simp) (AllReadyH.cons rfl (fun K hK => ?_) AllReadyH.nil)
        refine step_appRcs y3 (by rfl) _ _ (by rfl) (w.heap.size + 1) _ l (by rfl) HO7b.out (some ⟨X, 0, none⟩) 1 1 [(⟨rseq, rclk, rwho, rkind, rbkt, rkey, rver, rerr, rsum, rprev⟩, ⟨qa, qc, qb, qd⟩)] (by rfl) (Blk.srcRc (x := (⟨rseq, rclk, rwho, rkind, rbkt, rkey, rver, rerr, rsum, rprev⟩, ⟨qa, qc, qb, qd⟩)) HX1.out) (by have h1 := HNn.out; have h2 := HLn.out; omega) Ny3.out.lt 10 rfl ?_
        intro v10 z0 ho10 hg10
        have Nz0 := mkHid (Ny3.out.grown HO7b.out hg10)
        obtain ⟨va, vc, hve, -⟩ := ho10.form
        generalize hvn : (l ++ [((⟨rseq, rclk, rwho, rkind, rbkt, rkey, rver, rerr, rsum, rprev⟩ : Rc), (⟨qa, qc, qb, qd⟩ : RcA))]).length = vn at hve
        subst hve
        have hLt := HLt z0 va vn vc Nz0.out.b hvn.symm ho10
        clear hvn
        refine hK.out _ _ Nz0.out.s (fun hHeld => ?_)
        (try simp only [Act.put, List.setIfInBounds_toArray, List.set_cons_zero, List.set_cons_succ])
        clear hK K ho10 hg10 HO7b HX1 Ny3
        refine wpAnyH_ready (rs := [6]) (by kernel_rfl) (by simp) (AllReadyH.cons rfl (fun K hK => ?_) AllReadyH.nil)
        go_simp
        go_wp2_with (go_at_call 9; refine hLt.mono ?_; rintro e z1 ⟨rfl, hb⟩)
        have Nz1 := mkHid (Nz0.out.on hb)
        refine hK.out _ _ Nz1.out.s (fun hHeld => ?_)
        (try simp only [Act.put, List.setIfInBounds_toArray, List.set_cons_zero, List.set_cons_succ])
        clear hK K hb hLt Nz0
        refine takeH (some 12) (i := 7) (v := .bool false) rfl (by kernel_rfl) (by kernel_rfl) (by kernel_rfl) (fun _ _ _ h => h) (Or.inl ⟨by rfl, ?_⟩) hHeld rfl ?_
        · intro w1 hSw; go_simp
        (try simp only [Act.put, List.setIfInBounds_toArray, List.set_cons_zero, List.set_cons_succ])
        refine takeH (some 13) (i := 8) (v := .bool false) rfl (by kernel_rfl) (by kernel_rfl) (by kernel_rfl) (fun _ _ _ h => h) (Or.inl ⟨by rfl, ?_⟩) hHeld rfl ?_
        · intro w1 hSw; go_simp
        (try simp only [Act.put, List.setIfInBounds_toArray, List.set_cons_zero, List.set_cons_succ])
        refine takeH (some 14) (i := 9) (v := .slice a 0 cap) rfl (by kernel_rfl) (by kernel_rfl) (by kernel_rfl) (fun _ _ _ h => h) (Or.inl ⟨by rfl, ?_⟩) hHeld rfl ?_
        · intro w1 hSw; go_simp
        (try simp only [Act.put, List.setIfInBounds_toArray, List.set_cons_zero, List.set_cons_succ])
        refine takeH (some 15) (i := 10) (v := .int .i64 0) rfl (by kernel_rfl) (by kernel_rfl) (by kernel_rfl) (fun _ _ _ h => h) (Or.inl ⟨by rfl, ?_⟩) hHeld rfl ?_
        · intro w1 hSw; go_simp
        (try simp only [Act.put, List.setIfInBounds_toArray, List.set_cons_zero, List.set_cons_succ])
        refine takeH (some 16) (i := 11) (v := .bool false) rfl (by kernel_rfl) (by kernel_rfl) (by kernel_rfl) (fun _ _ _ h => h) (Or.inl ⟨by rfl, ?_⟩) hHeld rfl ?_
        · intro w1 hSw; go_simp
        (try simp only [Act.put, List.setIfInBounds_toArray, List.set_cons_zero, List.set_cons_succ])
        refine takeH (some 17) (i := 12) (v := .bool false) rfl (by kernel_rfl) (by kernel_rfl) (by kernel_rfl) (fun _ _ _ h => h) (Or.inl ⟨by rfl, ?_⟩) hHeld rfl ?_
        · intro w1 hSw; go_simp
        (try simp only [Act.put, List.setIfInBounds_toArray, List.set_cons_zero, List.set_cons_succ])
        refine takeH (some 18) (i := 13) (v := undef) rfl (by kernel_rfl) (by kernel_rfl) (by kernel_rfl) (fun _ _ _ h => h) (Or.inr ⟨by rfl, rfl⟩) hHeld rfl ?_
        (try simp only [Act.put, List.setIfInBounds_toArray, List.set_cons_zero, List.set_cons_succ])
        refine takeH (some 19) (i := 14) (v := undef) rfl (by kernel_rfl) (by kernel_rfl) (by kernel_rfl) (fun _ _ _ h => h) (Or.inr ⟨by rfl, rfl⟩) hHeld rfl ?_
        (try simp only [Act.put, List.setIfInBounds_toArray, List.set_cons_zero, List.set_cons_succ])
        refine takeH (some 20) (i := 15) (v := undef) rfl (by kernel_rfl) (by kernel_rfl) (by kernel_rfl) (fun _ _ _ h => h) (Or.inr ⟨by rfl, rfl⟩) hHeld rfl ?_
        (try simp only [Act.put, List.setIfInBounds_toArray, List.set_cons_zero, List.set_cons_succ])
        refine takeH (some 21) (i := 16) (v := undef) rfl (by kernel_rfl) (by kernel_rfl) (by kernel_rfl) (fun _ _ _ h => h) (Or.inr ⟨by rfl, rfl⟩) hHeld rfl ?_
        (try simp only [Act.put, List.setIfInBounds_toArray, List.set_cons_zero, List.set_cons_succ])
        refine takeH (some 22) (i := 17) (v := undef) rfl (by kernel_rfl) (by kernel_rfl) (by kernel_rfl) (fun _ _ _ h => h) (Or.inr ⟨by rfl, rfl⟩) hHeld rfl ?_
        (try simp only [Act.put, List.setIfInBounds_toArray, List.set_cons_zero, List.set_cons_succ])
        refine takeH (some 23) (i := 18) (v := undef) rfl (by kernel_rfl) (by kernel_rfl) (by kernel_rfl) (fun _ _ _ h => h) (Or.inr ⟨by rfl, rfl⟩) hHeld rfl ?_
        (try simp only [Act.put, List.setIfInBounds_toArray, List.set_cons_zero, List.set_cons_succ])
        refine takeH (some 24) (i := 19) (v := undef) rfl (by kernel_rfl) (by kernel_rfl) (by kernel_rfl) (fun _ _ _ h => h) (Or.inr ⟨by rfl, rfl⟩) hHeld rfl ?_
        (try simp only [Act.put, List.setIfInBounds_toArray, List.set_cons_zero, List.set_cons_succ])
        refine takeH (some 25) (i := 20) (v := undef) rfl (by kernel_rfl) (by kernel_rfl) (by kernel_rfl) (fun _ _ _ h => h) (Or.inr ⟨by rfl, rfl⟩) hHeld rfl ?_
        (try simp only [Act.put, List.setIfInBounds_toArray, List.set_cons_zero, List.set_cons_succ])
        refine takeH (some 26) (i := 21) (v := .bool false) rfl (by kernel_rfl) (by kernel_rfl) (by kernel_rfl) (fun _ _ _ h => h) (Or.inl ⟨by rfl, ?_⟩) hHeld rfl ?_
        · intro w1 hSw; go_simp
        (try simp only [Act.put, List.setIfInBounds_toArray, List.set_cons_zero, List.set_cons_succ])
        refine takeH (some 27) (i := 22) (v := .bool false) rfl (by kernel_rfl) (by kernel_rfl) (by kernel_rfl) (fun _ _ _ h => h) (Or.inl ⟨by rfl, ?_⟩) hHeld rfl ?_
        · intro w1 hSw; go_simp
        (try simp only [Act.put, List.setIfInBounds_toArray, List.set_cons_zero, List.set_cons_succ])
        refine wpAnyH_done (by kernel_rfl) ?_ _
        clear hHeld
        go_wp2_with fail
        go_meet
        case rel => exact ⟨rfl, Nz1⟩
      · skip
        go_simp
        have hbA : Below y1.heap.size y1 (y1.alloc (.cells #[.int .u64 (rseq : Int), .int .u64 (rclk : Int), .string rwho, .int .i64 rkind, .string rbkt, .string rkey, .int .u64 (rver : Int), .int .i64 rerr, .slice qa rsum.length qc, .slice qb rprev.length qd] 26)) := ((Below.refl _ y1).alloc (Nat.le_refl _) _)
        have Ny2 := mkHid (Ny1.out.on hbA)
        have HX1 : Hid (Blk (y1.alloc (.cells #[.int .u64 (rseq : Int), .int .u64 (rclk : Int), .string rwho, .int .i64 rkind, .string rbkt, .string rkey, .int .u64 (rver : Int), .int .i64 rerr, .slice qa rsum.length qc, .slice qb rprev.length qd] 26)) y1.heap.size 26 [.int .u64 (rseq : Int), .int .u64 (rclk : Int), .string rwho, .int .i64 rkind, .string rbkt, .string rkey, .int .u64 (rver : Int), .int .i64 rerr, .slice qa rsum.length qc, .slice qb rprev.length qd]) := (Blk.new y1 26 [.int .u64 (rseq : Int), .int .u64 (rclk : Int), .string rwho, .int .i64 rkind, .string rbkt, .string rkey, .int .u64 (rver : Int), .int .i64 rerr, .slice qa rsum.length qc, .slice qb rprev.length qd])
        have HO5b := mkHid (HO5.out.on hbA)
        have HXn : Hid (y1.heap.size ≠ E5) := fun e => by have := HE5.out; omega
        refine hK.out _ _ Ny2.out.s (fun hHeld => ?_)
        (try simp only [Act.put, List.setIfInBounds_toArray, List.set_cons_zero, List.set_cons_succ])
        clear hK K hbA
        generalize (y1.alloc (.cells #[.int .u64 (rseq : Int), .int .u64 (rclk : Int), .string rwho, .int .i64 rkind, .string rbkt, .string rkey, .int .u64 (rver : Int), .int .i64 rerr, .slice qa rsum.length qc, .slice qb rprev.length qd] 26)) = y2 at *
        generalize y1.heap.size = X at *
        have HX2 := HX1
        clear HO5
        have HO5 := HO5b
        refine wpAnyH_ready (rs := [2]) (by kernel_rfl) (by simp) (AllReadyH.cons rfl (fun K hK => ?_) AllReadyH.nil)
        refine step_appRcs y2 (by rfl) _ _ (by rfl) (w.heap.size + 1) _ [] (by rfl) HO5.out _ _ _ l (by rfl) (HSrc.out _ Ny2.out.b) (by have := HNn.out; simp only [List.length_nil]; omega) Ny2.out.lt 7 rfl ?_
        intro v7 y3 ho7 hg7
        rw [List.nil_append] at ho7
        have Ny3 := mkHid (Ny2.out.grown HO5.out hg7)
        have HO7 := mkHid ho7
        have HX3 : Hid (Blk y3 X 26 [.int .u64 (rseq : Int), .int .u64 (rclk : Int), .string rwho, .int .i64 rkind, .string rbkt, .string rkey, .int .u64 (rver : Int), .int .i64 rerr, .slice qa rsum.length qc, .slice qb rprev.length qd]) := blk_grown14 HX2.out hg7 (fun e => HXn.out (Option.some.inj e).symm)
        refine hK.out _ _ Ny3.out.s (fun hHeld => ?_)
        (try simp only [Act.put, List.setIfInBounds_toArray, List.set_cons_zero, List.set_cons_succ])
        clear hK K ho7 hg7 HO5
        refine wpAnyH_ready (rs := [5]) (by kernel_rfl) (by simp) (AllReadyH.cons rfl (fun K hK => ?_) AllReadyH.nil)
        refine step_appRcs y3 (by rfl) _ _ (by rfl) (w.heap.size + 1) _ l (by rfl) HO7.out (some ⟨X, 0, none⟩) 1 1 [(⟨rseq, rclk, rwho, rkind, rbkt, rkey, rver, rerr, rsum, rprev⟩, ⟨qa, qc, qb, qd⟩)] (by rfl) (Blk.srcRc (x := (⟨rseq, rclk, rwho, rkind, rbkt, rkey, rver, rerr, rsum, rprev⟩, ⟨qa, qc, qb, qd⟩)) HX3.out) (by have h1 := HNn.out; have h2 := HLn.out; omega) Ny3.out.lt 10 rfl ?_
        intro v10 z0 ho10 hg10
        have Nz0 := mkHid (Ny3.out.grown HO7.out hg10)
        obtain ⟨va, vc, hve, -⟩ := ho10.form
        generalize hvn : (l ++ [((⟨rseq, rclk, rwho, rkind, rbkt, rkey, rver, rerr, rsum, rprev⟩ : Rc), (⟨qa, qc, qb, qd⟩ : RcA))]).length = vn at hve
        subst hve
        have hLt := HLt z0 va vn vc Nz0.out.b hvn.symm ho10
        clear hvn
        refine hK.out _ _ Nz0.out.s (fun hHeld => ?_)
        (try simp only [Act.put, List.setIfInBounds_toArray, List.set_cons_zero, List.set_cons_succ])
        clear hK K ho10 hg10 HO7 HX3 Ny3
        refine wpAnyH_ready (rs := [6]) (by kernel_rfl) (by simp) (AllReadyH.cons rfl (fun K hK => ?_) AllReadyH.nil)
        go_simp
        go_wp2_with (go_at_call 9; refine hLt.mono ?_; rintro e z1 ⟨rfl, hb⟩)
        have Nz1 := mkHid (Nz0.out.on hb)
        refine hK.out _ _ Nz1.out.s (fun hHeld => ?_)
        (try simp only [Act.put, List.setIfInBounds_toArray, List.set_cons_zero, List.set_cons_succ])
        clear hK K hb hLt Nz0
        refine takeH (some 12) (i := 7) (v := .bool false) rfl (by kernel_rfl) (by kernel_rfl) (by kernel_rfl) (fun _ _ _ h => h) (Or.inl ⟨by rfl, ?_⟩) hHeld rfl ?_
        · intro w1 hSw; go_simp
        (try simp only [Act.put, List.setIfInBounds_toArray, List.set_cons_zero, List.set_cons_succ])
        refine takeH (some 13) (i := 8) (v := .bool false) rfl (by kernel_rfl) (by kernel_rfl) (by kernel_rfl) (fun _ _ _ h => h) (Or.inl ⟨by rfl, ?_⟩) hHeld rfl ?_
        · intro w1 hSw; go_simp
        (try simp only [Act.put, List.setIfInBounds_toArray, List.set_cons_zero, List.set_cons_succ])
        refine takeH (some 14) (i := 9) (v := .slice a 0 cap) rfl (by kernel_rfl) (by kernel_rfl) (by kernel_rfl) (fun _ _ _ h => h) (Or.inl ⟨by rfl, ?_⟩) hHeld rfl ?_
        · intro w1 hSw; go_simp
        (try simp only [Act.put, List.setIfInBounds_toArray, List.set_cons_zero, List.set_cons_succ])
        refine takeH (some 15) (i := 10) (v := .int .i64 0) rfl (by kernel_rfl) (by kernel_rfl) (by kernel_rfl) (fun _ _ _ h => h) (Or.inl ⟨by rfl, ?_⟩) hHeld rfl ?_
        · intro w1 hSw; go_simp
        (try simp only [Act.put, List.setIfInBounds_toArray, List.set_cons_zero, List.set_cons_succ])
        refine takeH (some 16) (i := 11) (v := .bool false) rfl (by kernel_rfl) (by kernel_rfl) (by kernel_rfl) (fun _ _ _ h => h) (Or.inl ⟨by rfl, ?_⟩) hHeld rfl ?_
        · intro w1 hSw; go_simp
        (try simp only [Act.put, List.setIfInBounds_toArray, List.set_cons_zero, List.set_cons_succ])
        refine takeH (some 17) (i := 12) (v := .bool false) rfl (by kernel_rfl) (by kernel_rfl) (by kernel_rfl) (fun _ _ _ h => h) (Or.inl ⟨by rfl, ?_⟩) hHeld rfl ?_
        · intro w1 hSw; go_simp
        (try simp only [Act.put, List.setIfInBounds_toArray, List.set_cons_zero, List.set_cons_succ])
        refine takeH (some 18) (i := 13) (v := undef) rfl (by kernel_rfl) (by kernel_rfl) (by kernel_rfl) (fun _ _ _ h => h) (Or.inr ⟨by rfl, rfl⟩) hHeld rfl ?_
        (try simp only [Act.put, List.setIfInBounds_toArray, List.set_cons_zero, List.set_cons_succ])
        refine takeH (some 19) (i := 14) (v := undef) rfl (by kernel_rfl) (by kernel_rfl) (by kernel_rfl) (fun _ _ _ h => h) (Or.inr ⟨by rfl, rfl⟩) hHeld rfl ?_
        (try simp only [Act.put, List.setIfInBounds_toArray, List.set_cons_zero, List.set_cons_succ])
        refine takeH (some 20) (i := 15) (v := undef) rfl (by kernel_rfl) (by kernel_rfl) (by kernel_rfl) (fun _ _ _ h => h) (Or.inr ⟨by rfl, rfl⟩) hHeld rfl ?_
        (try simp only [Act.put, List.setIfInBounds_toArray, List.set_cons_zero, List.set_cons_succ])
        refine takeH (some 21) (i := 16) (v := undef) rfl (by kernel_rfl) (by kernel_rfl) (by kernel_rfl) (fun _ _ _ h => h) (Or.inr ⟨by rfl, rfl⟩) hHeld rfl ?_
        (try simp only [Act.put, List.setIfInBounds_toArray, List.set_cons_zero, List.set_cons_succ])
        refine takeH (some 22) (i := 17) (v := undef) rfl (by kernel_rfl) (by kernel_rfl) (by kernel_rfl) (fun _ _ _ h => h) (Or.inr ⟨by rfl, rfl⟩) hHeld rfl ?_
        (try simp only [Act.put, List.setIfInBounds_toArray, List.set_cons_zero, List.set_cons_succ])
        refine takeH (some 23) (i := 18) (v := undef) rfl (by kernel_rfl) (by kernel_rfl) (by kernel_rfl) (fun _ _ _ h => h) (Or.inr ⟨by rfl, rfl⟩) hHeld rfl ?_
        (try simp only [Act.put, List.setIfInBounds_toArray, List.set_cons_zero, List.set_cons_succ])
        refine takeH (some 24) (i := 19) (v := undef) rfl (by kernel_rfl) (by kernel_rfl) (by kernel_rfl) (fun _ _ _ h => h) (Or.inr ⟨by rfl, rfl⟩) hHeld rfl ?_
        (try simp only [Act.put, List.setIfInBounds_toArray, List.set_cons_zero, List.set_cons_succ])
        refine takeH (some 25) (i := 20) (v := undef) rfl (by kernel_rfl) (by kernel_rfl) (by kernel_rfl) (fun _ _ _ h => h) (Or.inr ⟨by rfl, rfl⟩) hHeld rfl ?_
        (try simp only [Act.put, List.setIfInBounds_toArray, List.set_cons_zero, List.set_cons_succ])
        refine takeH (some 26) (i := 21) (v := .bool false) rfl (by kernel_rfl) (by kernel_rfl) (by kernel_rfl) (fun _ _ _ h => h) (Or.inl ⟨by rfl, ?_⟩) hHeld rfl ?_
        · intro w1 hSw; go_simp
        (try simp only [Act.put, List.setIfInBounds_toArray, List.set_cons_zero, List.set_cons_succ])
        refine takeH (some 27) (i := 22) (v := .bool false) rfl (by kernel_rfl) (by kernel_rfl) (by kernel_rfl) (fun _ _ _ h => h) (Or.inl ⟨by rfl, ?_⟩) hHeld rfl ?_
        · intro w1 hSw; go_simp
        (try simp only [Act.put, List.setIfInBounds_toArray, List.set_cons_zero, List.set_cons_succ])
        refine wpAnyH_done (by kernel_rfl) ?_ _
        clear hHeld
        go_wp2_with fail
        go_meet
        case rel => exact ⟨rfl, Nz1⟩
    · skip
      go_simp
      have hbA : Below y.heap.size y (y.alloc (.cells #[.int .u64 (rseq : Int), .int .u64 (rclk : Int), .string rwho, .int .i64 rkind, .string rbkt, .string rkey, .int .u64 (rver : Int), .int .i64 rerr, .slice qa rsum.length qc, .slice qb rprev.length qd] 26)).drew := ((Below.refl _ y).alloc (Nat.le_refl _) _).drew
      have Ny1 := mkHid (Ny.out.on hbA)
      have HX1 : Hid (Blk (y.alloc (.cells #[.int .u64 (rseq : Int), .int .u64 (rclk : Int), .string rwho, .int .i64 rkind, .string rbkt, .string rkey, .int .u64 (rver : Int), .int .i64 rerr, .slice qa rsum.length qc, .slice qb rprev.length qd] 26)).drew y.heap.size 26 [.int .u64 (rseq : Int), .int .u64 (rclk : Int), .string rwho, .int .i64 rkind, .string rbkt, .string rkey, .int .u64 (rver : Int), .int .i64 rerr, .slice qa rsum.length qc, .slice qb rprev.length qd]) := (Blk.new y 26 [.int .u64 (rseq : Int), .int .u64 (rclk : Int), .string rwho, .int .i64 rkind, .string rbkt, .string rkey, .int .u64 (rver : Int), .int .i64 rerr, .slice qa rsum.length qc, .slice qb rprev.length qd]).drewN 1
      refine hK.out _ _ Ny1.out.s (fun hHeld => ?_)
      (try simp only [Act.put, List.setIfInBounds_toArray, List.set_cons_zero, List.set_cons_succ])
      clear hK K hbA
      generalize (y.alloc (.cells #[.int .u64 (rseq : Int), .int .u64 (rclk : Int), .string rwho, .int .i64 rkind, .string rbkt, .string rkey, .int .u64 (rver : Int), .int .i64 rerr, .slice qa rsum.length qc, .slice qb rprev.length qd] 26)).drew = y1 at *
      generalize y.heap.size = X at *
      refine wpAnyH_ready (rs := [0]) (by kernel_rfl) (by simp) (AllReadyH.cons rfl (fun K hK => ?_) AllReadyH.nil)
      go_simp
      have hbA : Below y1.heap.size y1 (y1.alloc (.cells #[] 26)) := ((Below.refl _ y1).alloc (Nat.le_refl _) _)
      have Ny2 := mkHid (Ny1.out.on hbA)
      have HO5 : Hid (OwnRc (y1.alloc (.cells #[] 26)) (w.heap.size + 1) (.slice (some ⟨y1.heap.size, 0, none⟩) 0 0) []) := OwnRc.empty y1 _ Ny1.out.lt
      have HX12 := mkHid (HX1.out.on hbA)
      have HXn : Hid (X ≠ y1.heap.size) := Nat.ne_of_lt HX1.out.lt
      refine hK.out _ _ Ny2.out.s (fun hHeld => ?_)
      (try simp only [Act.put, List.setIfInBounds_toArray, List.set_cons_zero, List.set_cons_succ])
      clear hK K hbA
      generalize (y1.alloc (.cells #[] 26)) = y2 at *
      generalize y1.heap.size = E5 at *
      have HX2 := HX12
      refine wpAnyH_ready (rs := [2]) (by kernel_rfl) (by simp) (AllReadyH.cons rfl (fun K hK => ?_) AllReadyH.nil)
      refine step_appRcs y2 (by rfl) _ _ (by rfl) (w.heap.size + 1) _ [] (by rfl) HO5.out _ _ _ l (by rfl) (HSrc.out _ Ny2.out.b) (by have := HNn.out; simp only [List.length_nil]; omega) Ny2.out.lt 7 rfl ?_
      intro v7 y3 ho7 hg7
      rw [List.nil_append] at ho7
      have Ny3 := mkHid (Ny2.out.grown HO5.out hg7)
      have HO7 := mkHid ho7
      have HX3 : Hid (Blk y3 X 26 [.int .u64 (rseq : Int), .int .u64 (rclk : Int), .string rwho, .int .i64 rkind, .string rbkt, .string rkey, .int .u64 (rver : Int), .int .i64 rerr, .slice qa rsum.length qc, .slice qb rprev.length qd]) := blk_grown14 HX2.out hg7 (fun e => HXn.out (Option.some.inj e).symm)
      refine hK.out _ _ Ny3.out.s (fun hHeld => ?_)
      (try simp only [Act.put, List.setIfInBounds_toArray, List.set_cons_zero, List.set_cons_succ])
      clear hK K ho7 hg7 HO5
      refine wpAnyH_ready (rs := [5]) (by kernel_rfl) (by simp) (AllReadyH.cons rfl (fun K hK => ?_) AllReadyH.nil)
      refine step_appRcs y3 (by rfl) _ _ (by rfl) (w.heap.size + 1) _ l (by rfl) HO7.out (some ⟨X, 0, none⟩) 1 1 [(⟨rseq, rclk, rwho, rkind, rbkt, rkey, rver, rerr, rsum, rprev⟩, ⟨qa, qc, qb, qd⟩)] (by rfl) (Blk.srcRc (x := (⟨rseq, rclk, rwho, rkind, rbkt, rkey, rver, rerr, rsum, rprev⟩, ⟨qa, qc, qb, qd⟩)) HX3.out) (by have h1 := HNn.out; have h2 := HLn.out; omega) Ny3.out.lt 10 rfl ?_
      intro v10 z0 ho10 hg10
      have Nz0 := mkHid (Ny3.out.grown HO7.out hg10)
      obtain ⟨va, vc, hve, -⟩ := ho10.form
      generalize hvn : (l ++ [((⟨rseq, rclk, rwho, rkind, rbkt, rkey, rver, rerr, rsum, rprev⟩ : Rc), (⟨qa, qc, qb, qd⟩ : RcA))]).length = vn at hve
      subst hve
      have hLt := HLt z0 va vn vc Nz0.out.b hvn.symm ho10
      clear hvn
      refine hK.out _ _ Nz0.out.s (fun hHeld => ?_)
      (try simp only [Act.put, List.setIfInBounds_toArray, List.set_cons_zero, List.set_cons_succ])
      clear hK K ho10 hg10 HO7 HX3 Ny3
      refine wpAnyH_ready (rs := [6]) (by kernel_rfl) (by simp) (AllReadyH.cons rfl (fun K hK => ?_) AllReadyH.nil)
      go_simp
      go_wp2_with (go_at_call 9; refine hLt.mono ?_; rintro e z1 ⟨rfl, hb⟩)
      have Nz1 := mkHid (Nz0.out.on hb)
      refine hK.out _ _ Nz1.out.s (fun hHeld => ?_)
      (try simp only [Act.put, List.setIfInBounds_toArray, List.set_cons_zero, List.set_cons_succ])
      clear hK K hb hLt Nz0
      refine takeH (some 12) (i := 7) (v := .bool false) rfl (by kernel_rfl) (by kernel_rfl) (by kernel_rfl) (fun _ _ _ h => h) (Or.inl ⟨by rfl, ?_⟩) hHeld rfl ?_
      · intro w1 hSw; go_simp
      (try simp only [Act.put, List.setIfInBounds_toArray, List.set_cons_zero, List.set_cons_succ])
      refine takeH (some 13) (i := 8) (v := .bool false) rfl (by kernel_rfl) (by kernel_rfl) (by kernel_rfl) (fun _ _ _ h => h) (Or.inl ⟨by rfl, ?_⟩) hHeld rfl ?_
      · intro w1 hSw; go_simp
      (try simp only [Act.put, List.setIfInBounds_toArray, List.set_cons_zero, List.set_cons_succ])
      refine takeH (some 14) (i := 9) (v := .slice a 0 cap) rfl (by kernel_rfl) (by kernel_rfl) (by kernel_rfl) (fun _ _ _ h => h) (Or.inl ⟨by rfl, ?_⟩) hHeld rfl ?_
      · intro w1 hSw; go_simp
      (try simp only [Act.put, List.setIfInBounds_toArray, List.set_cons_zero, List.set_cons_succ])
      refine takeH (some 15) (i := 10) (v := .int .i64 0) rfl (by kernel_rfl) (by kernel_rfl) (by kernel_rfl) (fun _ _ _ h => h) (Or.inl ⟨by rfl, ?_⟩) hHeld rfl ?_
      · intro w1 hSw; go_simp
      (try simp only [Act.put, List.setIfInBounds_toArray, List.set_cons_zero, List.set_cons_succ])
      refine takeH (some 16) (i := 11) (v := .bool false) rfl (by kernel_rfl) (by kernel_rfl) (by kernel_rfl) (fun _ _ _ h => h) (Or.inl ⟨by rfl, ?_⟩) hHeld rfl ?_
      · intro w1 hSw; go_simp
      (try simp only [Act.put, List.setIfInBounds_toArray, List.set_cons_zero, List.set_cons_succ])
      refine takeH (some 17) (i := 12) (v := .bool false) rfl (by kernel_rfl) (by kernel_rfl) (by kernel_rfl) (fun _ _ _ h => h) (Or.inl ⟨by rfl, ?_⟩) hHeld rfl ?_
      · intro w1 hSw; go_simp
      (try simp only [Act.put, List.setIfInBounds_toArray, List.set_cons_zero, List.set_cons_succ])
      refine takeH (some 18) (i := 13) (v := undef) rfl (by kernel_rfl) (by kernel_rfl) (by kernel_rfl) (fun _ _ _ h => h) (Or.inr ⟨by rfl, rfl⟩) hHeld rfl ?_
      (try simp only [Act.put, List.setIfInBounds_toArray, List.set_cons_zero, List.set_cons_succ])
      refine takeH (some 19) (i := 14) (v := undef) rfl (by kernel_rfl) (by kernel_rfl) (by kernel_rfl) (fun _ _ _ h => h) (Or.inr ⟨by rfl, rfl⟩) hHeld rfl ?_
      (try simp only [Act.put, List.setIfInBounds_toArray, List.set_cons_zero, List.set_cons_succ])
      refine takeH (some 20) (i := 15) (v := undef) rfl (by kernel_rfl) (by kernel_rfl) (by kernel_rfl) (fun _ _ _ h => h) (Or.inr ⟨by rfl, rfl⟩) hHeld rfl ?_
      (try simp only [Act.put, List.setIfInBounds_toArray, List.set_cons_zero, List.set_cons_succ])
      refine takeH (some 21) (i := 16) (v := undef) rfl (by kernel_rfl) (by kernel_rfl) (by kernel_rfl) (fun _ _ _ h => h) (Or.inr ⟨by rfl, rfl⟩) hHeld rfl ?_
      (try simp only [Act.put, List.setIfInBounds_toArray, List.set_cons_zero, List.set_cons_succ])
      refine takeH (some 22) (i := 17) (v := undef) rfl (by kernel_rfl) (by kernel_rfl) (by kernel_rfl) (fun _ _ _ h => h) (Or.inr ⟨by rfl, rfl⟩) hHeld rfl ?_
      (try simp only [Act.put, List.setIfInBounds_toArray, List.set_cons_zero, List.set_cons_succ])
      refine takeH (some 23) (i := 18) (v := undef) rfl (by kernel_rfl) (by kernel_rfl) (by kernel_rfl) (fun _ _ _ h => h) (Or.inr ⟨by rfl, rfl⟩) hHeld rfl ?_
      (try simp only [Act.put, List.setIfInBounds_toArray, List.set_cons_zero, List.set_cons_succ])
      refine takeH (some 24) (i := 19) (v := undef) rfl (by kernel_rfl) (by kernel_rfl) (by kernel_rfl) (fun _ _ _ h => h) (Or.inr ⟨by rfl, rfl⟩) hHeld rfl ?_
      (try simp only [Act.put, List.setIfInBounds_toArray, List.set_cons_zero, List.set_cons_succ])
      refine takeH (some 25) (i := 20) (v := undef) rfl (by kernel_rfl) (by kernel_rfl) (by kernel_rfl) (fun _ _ _ h => h) (Or.inr ⟨by rfl, rfl⟩) hHeld rfl ?_
      (try simp only [Act.put, List.setIfInBounds_toArray, List.set_cons_zero, List.set_cons_succ])
      refine takeH (some 26) (i := 21) (v := .bool false) rfl (by kernel_rfl) (by kernel_rfl) (by kernel_rfl) (fun _ _ _ h => h) (Or.inl ⟨by rfl, ?_⟩) hHeld rfl ?_
      · intro w1 hSw; go_simp
      (try simp only [Act.put, List.setIfInBounds_toArray, List.set_cons_zero, List.set_cons_succ])
      refine takeH (some 27) (i := 22) (v := .bool false) rfl (by kernel_rfl) (by kernel_rfl) (by kernel_rfl) (fun _ _ _ h => h) (Or.inl ⟨by rfl, ?_⟩) hHeld rfl ?_
      · intro w1 hSw; go_simp
      (try simp only [Act.put, List.setIfInBounds_toArray, List.set_cons_zero, List.set_cons_succ])
      refine wpAnyH_done (by kernel_rfl) ?_ _
      clear hHeld
      go_wp2_with fail
      go_meet
      case rel => exact ⟨rfl, Nz1⟩
  case rest =>
    obtain ⟨rfl, HN⟩ := hcut
    clear Ny HCel HLt HSrc
    obtain ⟨hs, hrs, hm⟩ := HLo rfl
    have HA := fun W hW => HNc2 W hW hs hrs hm
    have HD := fun W hW => HNd W hW hs hm
    clear HLo HNc2 HNd hs hrs hm
    go_upto_region 3 with fail
    have HN0 := mkHid (HN.out.on (bel_drewN (Below.refl _ wc) 1))
    clear HN
    refine wp_region_held_drew (S := fun w' => Blk w' w.heap.size 26 [.int .u64 (rseq : Int), .int .u64 (rclk : Int), .string rwho, .int .i64 rkind, .string rbkt, .string rkey, .int .u64 (rver : Int), .int .i64 rerr, .slice qa rsum.length qc, .slice qb rprev.length qd]) (by kernel_rfl) HN0.out.s (fun hHeld => ?_)
    refine takeH (some 29) (i := 0) (v := .slice a 0 cap) rfl (by kernel_rfl) (by kernel_rfl) (by kernel_rfl) (fun _ _ _ h => h) (Or.inl ⟨by rfl, ?_⟩) hHeld rfl ?_
    · intro w1 hSw; go_simp
    (try simp only [Act.put, List.setIfInBounds_toArray, List.set_cons_zero, List.set_cons_succ])
    refine takeH (some 30) (i := 1) (v := .agg #[.int .u64 (rseq : Int), .int .u64 (rclk : Int), .string rwho, .int .i64 rkind, .string rbkt, .string rkey, .int .u64 (rver : Int), .int .i64 rerr, .slice qa rsum.length qc, .slice qb rprev.length qd]) rfl (by kernel_rfl) (by kernel_rfl) (by kernel_rfl) (fun _ _ _ h => h) (yieldsIf_load_mid (by rfl) 26 (.tmp 3) (by rfl) w.heap.size 0 (by rfl) [.int .u64 (rseq : Int), .int .u64 (rclk : Int), .string rwho, .int .i64 rkind, .string rbkt, .string rkey, .int .u64 (rver : Int), .int .i64 rerr, .slice qa rsum.length qc, .slice qb rprev.length qd] _ (fun w1 hw1 => Blk.whole14 hw1) Try.underlying26 rfl (by kernel_rfl)) hHeld rfl ?_
    (try simp only [Act.put, List.setIfInBounds_toArray, List.set_cons_zero, List.set_cons_succ])
    refine takeH (some 32) (i := 3) (v := .slice a 0 cap) rfl (by kernel_rfl) (by kernel_rfl) (by kernel_rfl) (fun _ _ _ h => h) (Or.inl ⟨by rfl, ?_⟩) hHeld rfl ?_
    · intro w1 hSw; go_simp
    (try simp only [Act.put, List.setIfInBounds_toArray, List.set_cons_zero, List.set_cons_succ])
    refine takeH (some 33) (i := 4) (v := .agg #[.int .u64 (rseq : Int), .int .u64 (rclk : Int), .string rwho, .int .i64 rkind, .string rbkt, .string rkey, .int .u64 (rver : Int), .int .i64 rerr, .slice qa rsum.length qc, .slice qb rprev.length qd]) rfl (by kernel_rfl) (by kernel_rfl) (by kernel_rfl) (fun _ _ _ h => h) (yieldsIf_load_mid (by rfl) 26 (.tmp 3) (by rfl) w.heap.size 0 (by rfl) [.int .u64 (rseq : Int), .int .u64 (rclk : Int), .string rwho, .int .i64 rkind, .string rbkt, .string rkey, .int .u64 (rver : Int), .int .i64 rerr, .slice qa rsum.length qc, .slice qb rprev.length qd] _ (fun w1 hw1 => Blk.whole14 hw1) Try.underlying26 rfl (by kernel_rfl)) hHeld rfl ?_
    (try simp only [Act.put, List.setIfInBounds_toArray, List.set_cons_zero, List.set_cons_succ])
    refine wpAnyH_ready (rs := [2]) (by kernel_rfl) (by simp) (AllReadyH.cons rfl (fun K hK => ?_) AllReadyH.nil)
    go_simp
    go_wp2_with (go_at_call 20; refine (HA _ HN0.out.b).mono ?_; rintro e x1 ⟨p1, rfl, hi, hb⟩)
    have HN1 := mkHid (HN0.out.on hb)
    have HI1 := mkHid hi
    clear hi
    refine hK.out _ _ HN1.out.s (fun hHeld => ?_)
    (try simp only [Act.put, List.setIfInBounds_toArray, List.set_cons_zero, List.set_cons_succ])
    clear hK K hb HN0
    refine wpAnyH_ready (rs := [5]) (by kernel_rfl) (by simp) (AllReadyH.cons rfl (fun K hK => ?_) AllReadyH.nil)
    go_simp
    go_wp2_with (go_at_call 21; refine (HD _ HN1.out.b).mono ?_; rintro e x2 ⟨p2, rfl, hi, hb⟩)
    have HN2 := mkHid (HN1.out.on hb)
    have HI2 := mkHid hi
    have HI1b := mkHid (HI1.out.below hb)
    clear hi HI1
    refine hK.out _ _ HN2.out.s (fun hHeld => ?_)
    (try simp only [Act.put, List.setIfInBounds_toArray, List.set_cons_zero, List.set_cons_succ])
    clear hK K hb HN1
    refine wpAnyH_ready (rs := [6]) (by kernel_rfl) (by simp) (AllReadyH.cons rfl (fun K hK => ?_) AllReadyH.nil)
    go_simp
    go_wp2_with (go_at_call 16; refine (HSm p1 p2 _ HI1b.out HI2.out).mono ?_; rintro e x3 ⟨rfl, hb⟩)
    have HN3 := mkHid (HN2.out.on hb)
    refine hK.out _ _ HN3.out.s (fun hHeld => ?_)
    (try simp only [Act.put, List.setIfInBounds_toArray, List.set_cons_zero, List.set_cons_succ])
    clear hK K hb HN2
    refine takeH (some 36) (i := 7) (v := .bool true) rfl (by kernel_rfl) (by kernel_rfl) (by kernel_rfl) (fun _ _ _ h => h) (Or.inl ⟨by rfl, ?_⟩) hHeld rfl ?_
    · intro w1 hSw; go_simp
    (try simp only [Act.put, List.setIfInBounds_toArray, List.set_cons_zero, List.set_cons_succ])
    refine wpAnyH_ready (rs := [8]) (by kernel_rfl) (by simp) (AllReadyH.cons rfl (fun K hK => ?_) AllReadyH.nil)
    go_simp
    go_wp2_with (go_at_call 17; refine (lawAlive14 _).mono ?_; rintro e x4 ⟨rfl, hb⟩)
    have HN4 := mkHid (HN3.out.on hb)
    refine hK.out _ _ HN4.out.s (fun hHeld => ?_)
    (try simp only [Act.put, List.setIfInBounds_toArray, List.set_cons_zero, List.set_cons_succ])
    clear hK K hb HN3
    refine takeH (some 38) (i := 9) (v := .bool true) rfl (by kernel_rfl) (by kernel_rfl) (by kernel_rfl) (fun _ _ _ h => h) (Or.inl ⟨by rfl, ?_⟩) hHeld rfl ?_
    · intro w1 hSw; go_simp
    (try simp only [Act.put, List.setIfInBounds_toArray, List.set_cons_zero, List.set_cons_succ])
    refine takeH (some 4) (i := 10) (v := .bool true) rfl (by kernel_rfl) (by kernel_rfl) (by kernel_rfl) (fun _ _ _ h => h) (Or.inl ⟨by rfl, ?_⟩) hHeld rfl ?_
    · intro w1 hSw; go_simp
    (try simp only [Act.put, List.setIfInBounds_toArray, List.set_cons_zero, List.set_cons_succ])
    refine wpAnyH_done (by kernel_rfl) ?_ _
    clear hHeld
    go_wp2_with fail
    go_ret
    exact ⟨rfl, HN4.out.b⟩
end Go.Proofs.Ytooffagdbppmaaa
