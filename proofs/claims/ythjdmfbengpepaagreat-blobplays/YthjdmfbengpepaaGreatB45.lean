/- The statements' Fresh, Back and Own of stage 12. · What the statements ask of the program's blob. · The program's blob keeps the document. · What the frame tells of a slice of truths. · What the frame tells of a ref that came in. · Stage 12's alive. -/
import Derived.Test.YthjdmfbengpepaaGreatB29
import Derived.Test.YthjdmfbengpepaaGreatB30
import Derived.Test.YthjdmfbengpepaaGreatB41
import Derived.Test.YthjdmfbengpepaaGreatB42
import Derived.Test.YthjdmfbengpepaaGreatPbK
import Derived.Test.YthjdmfbengpepaaGreatB21
import Derived.Deep.SlicePairs
import Derived.OpenShut
import Derived.Lib.SmallJoins
namespace Go.Proofs.YthjdmfbengpepaaGreat
open Go.RowKit

theorem rfc_bel (w : World) (r : Rf) (q : RfA) (t : TypeId) : Below w.heap.size w (w.alloc (.cells (rfc r q).toArray t)) := (Below.refl _ w).alloc (Nat.le_refl _) _
set_option maxHeartbeats 1000000 in
theorem lawOwn12 (r : Rf) (q : RfA) (w : World) :
    Calls Tryz.prog 13 #[.agg (rfc r q).toArray] w fun e w' => e = .returned (.agg (rfc r q).toArray) ∧ Below w.heap.size w w' := by
  have hb := rfc_bel w r q 46
  have hz : (w.alloc (.cells (rfc r q).toArray 46)).heap.size = w.heap.size + 1 := Array.size_push _
  have kb := Blk.new (w.alloc (.cells (rfc r q).toArray 46)) 44 (rfc r q)
  have h2 := rfc_bel (w.alloc (.cells (rfc r q).toArray 46)) r q 44
  rw [hz] at kb
  have HK := mkHid kb
  have HB := mkHid (hb.trans (h2.mono hb.size))
  clear hb kb h2 hz
  obtain ⟨rl, rs, rz⟩ := r
  obtain ⟨qa, qc, qb, qd⟩ := q
  simp only [rfc] at *
  go_enter Tryz.func13, Tryz.ntmps13
  go_wp2_with fail
  exact bodyPost_ret (results_cellrow (P := Tryz.prog) rfl _ _ (w.heap.size + 1) 44 #[.int .i64 rl, .slice qa rs.length qc, .slice qb rz.length qd] (0, 0) _ rfl HK.out Tryz.underlying44 rfl (by kernel_rfl)) rfl ⟨rfl, HB.out⟩
set_option maxHeartbeats 1000000 in
theorem lawBack12 (r : Rf) (q : RfA) (w : World) :
    Calls Tryz.prog 21 #[.agg (rfc r q).toArray] w fun e w' => e = .returned (.agg (rfc r q).toArray) ∧ Below w.heap.size w w' := by
  have hb := rfc_bel w r q 44
  have hz : (w.alloc (.cells (rfc r q).toArray 44)).heap.size = w.heap.size + 1 := Array.size_push _
  have kb := Blk.new (w.alloc (.cells (rfc r q).toArray 44)) 46 (rfc r q)
  have h2 := rfc_bel (w.alloc (.cells (rfc r q).toArray 44)) r q 46
  rw [hz] at kb
  have HK := mkHid kb
  have HB := mkHid (hb.trans (h2.mono hb.size))
  clear hb kb h2 hz
  obtain ⟨rl, rs, rz⟩ := r
  obtain ⟨qa, qc, qb, qd⟩ := q
  simp only [rfc] at *
  go_enter Tryz.func21, Tryz.ntmps21
  go_wp2_with fail
  exact bodyPost_ret (results_cellrow (P := Tryz.prog) rfl _ _ (w.heap.size + 1) 46 #[.int .i64 rl, .slice qa rs.length qc, .slice qb rz.length qd] (0, 0) _ rfl HK.out Tryz.underlying46 rfl (by kernel_rfl)) rfl ⟨rfl, HB.out⟩
set_option maxRecDepth 20000 in
set_option maxHeartbeats 1000000 in
theorem lawFresh12 {JA : World → Nat → Nat → Nat → Jl → Prop} {TA SA : World → Nat → Nat → Nat → Nat → Tl → Jl → Prop} (ok : JrnOK JA TA) (so : SpcOK JA SA) (w : World) (base : Nat) (hbase : base ≤ w.heap.size) :
    Calls Tryz.prog 8 #[.int .i64 64] w fun e w' => (∃ J S P, e = .returned (.tuple #[.pointer (some ⟨J, 0, none⟩), .pointer (some ⟨S, 0, none⟩)]) ∧ Hid (SA w' S J P base as0 aj0)) ∧ Hid (KS base w w') := by
  have HN : Calls Tryz.prog 33 #[.int .i64 64] w fun e w' => (∃ P, e = .returned (.tuple #[.pointer (some ⟨P, 0, none⟩), .int .i64 0]) ∧ IsD0 w' P base (Pl.new 64)) ∧ Below w.heap.size w w' := by
    refine (codNew (fun _ => False) 64 w base hbase (fun _ h => h.elim)).mono ?_
    rintro e w' ⟨h1, h2⟩
    simp only [if_pos (show (64 : Int) ≤ 64 ∧ (64 : Int) ≤ 4096 by omega)] at h1
    exact ⟨h1, h2⟩
  have HBs := mkHid hbase
  go_enter Tryz.func8, Tryz.ntmps8
  go_wp2_with fail
  refine HN.mono ?_
  rintro e x1 ⟨⟨P, rfl, hI1⟩, hb1⟩
  have HK1 := mkHid (KS.of_below hb1 HBs.out)
  have HM := jMount ok hI1 (few_mnew 64 (by omega) (by omega)) (by omega) aj_mount.1
  rw [aj_mount.2.1, aj_mount.2.2] at HM
  clear HN hI1 hb1
  go_wp2_with fail
  refine HM.mono ?_
  rintro e x2 ⟨⟨J, rfl, hJ2⟩, hk2⟩
  have HK2 := mkHid (HK1.out.trans (KS.ofP hk2))
  have HO := so.open_ x2 J P base 0 aj0 hJ2 fit_0
  clear HM hJ2 hk2
  go_wp2_with fail
  refine HO.mono ?_
  rintro e x3 ⟨⟨S, rfl, hS3⟩, hk3⟩
  have HK3 := mkHid (HK2.out.trans hk3)
  clear HO hk3
  go_wp2_with fail
  go_ret2
  exact ⟨⟨J, S, P, rfl, hS3⟩, HK3⟩
end Go.Proofs.YthjdmfbengpepaaGreat
namespace Go.Proofs.YthjdmfbengpepaaGreat
open Go.RowKit

/-- what is asked of the program's blob, one field a call -/
structure BlbOK (SA : World → Nat → Nat → Nat → Nat → Tl → Jl → Prop) : Prop where
  need : ∀ (n : Int) (w : World), n ≤ 9223372036854775807 → Calls Tryz.prog 29 #[.int .i64 n] w fun e w' => e = .returned (.int .i64 (needL n)) ∧ Below w.heap.size w w'
  put : ∀ (w : World) (S J P base m : Nat) (t : Tl) (j : Jl) (ba : Option Addr) (len bc : Nat) (b : List UInt8), SA w S J P base t j → Fit t j m → len ≤ 100000 → (∀ W, KS base w W → IsB W ba len bc b) →
    Calls Tryz.prog 17 #[.pointer (some ⟨S, 0, none⟩), .slice ba len bc] w fun e w' => (∃ q, e = .returned (.tuple #[.agg (rfc (putR t j b) q).toArray, .int .i64 (putE t j b)]) ∧ RfK w' (putR t j b) q) ∧ SA w' S J P base (putT t j b) j ∧ KS base w w'
  get : ∀ (w : World) (S J P base m : Nat) (t : Tl) (j : Jl) (r : Rf) (q : RfA), SA w S J P base t j → Fit t j m → r.sum.length ≤ 100000 → r.secs.length ≤ 100000 → (∀ W, KS base w W → IsRf W r q) →
    Calls Tryz.prog 22 #[.func (.func 23) #[.pointer (some ⟨S, 0, none⟩)] #[], .agg (rfc r q).toArray] w fun e w' => (∃ v, e = .returned (.tuple #[v, .int .i64 (getE t j r)]) ∧ IsV w' v (getB t j r)) ∧ SA w' S J P base t j ∧ KS base w w'
  drop : ∀ (w : World) (S J P base m : Nat) (t : Tl) (j : Jl) (r : Rf) (q : RfA), SA w S J P base t j → Fit t j m → r.sum.length ≤ 100000 → r.secs.length ≤ 100000 → (∀ W, KS base w W → IsRf W r q) →
    Calls Tryz.prog 12 #[.pointer (some ⟨S, 0, none⟩), .agg (rfc r q).toArray] w fun e w' => e = .returned (.int .i64 (dropE t j r)) ∧ SA w' S J P base (dropT t j r) j ∧ KS base w w'
  putNil : ∀ (w : World) (a : Option Addr) (len cap : Nat), Calls Tryz.prog 17 #[.pointer none, .slice a len cap] w fun e w' => e = .returned (.tuple #[.agg #[.int .i64 0, .slice none 0 0, .slice none 0 0], .int .i64 2]) ∧ Below w.heap.size w w'
  dropNil : ∀ (w : World) (r : Rf) (q : RfA), Calls Tryz.prog 12 #[.pointer none, .agg (rfc r q).toArray] w fun e w' => e = .returned (.int .i64 2) ∧ Below w.heap.size w w'
end Go.Proofs.YthjdmfbengpepaaGreat
namespace Go.Proofs.YthjdmfbengpepaaGreat
open Go.RowKit

set_option maxHeartbeats 1000000 in
theorem nilPut (w : World) (a : Option Addr) (len cap : Nat) : Calls Tryz.prog 17 #[.pointer none, .slice a len cap] w fun e w' => e = .returned (.tuple #[.agg #[.int .i64 0, .slice none 0 0, .slice none 0 0], .int .i64 2]) ∧ Below w.heap.size w w' := by
  go_enter Tryz.func17, Tryz.ntmps17
  go_wp2_with fail
  (try simp only [Exit.inBlock, Exit.then])
  refine bodyPost_ret (results_cells12 (P := Tryz.prog) rfl _ _ (w.heap.size + 1) (w.heap.size + 1 + 1) (.agg #[.int .i64 0, .slice none 0 0, .slice none 0 0]) (.int .i64 2) rfl (load_rf12 _ _ _ _ _ ((Blk.newAt _ (w.heap.size + 1) 44 _ zero3 (by simp) rfl).alloc _)) rfl (load_er12 _ _ _ (Blk.newAt _ (w.heap.size + 1 + 1) 31 _ [.int .i64 2] (by simp) rfl))) rfl ⟨rfl, (((Below.refl _ w).alloc (Nat.le_refl _) _).alloc (by simp) _).alloc (by simp; omega) _⟩
theorem nilDrop (w : World) (r : Rf) (q : RfA) : Calls Tryz.prog 12 #[.pointer none, .agg (rfc r q).toArray] w fun e w' => e = .returned (.int .i64 2) ∧ Below w.heap.size w w' := by
  obtain ⟨rl, rs, rz⟩ := r
  obtain ⟨qa, qc, qb, qd⟩ := q
  simp only [rfc]
  go_enter Tryz.func12, Tryz.ntmps12
  go_wp2_with fail
  go_ret
  exact ⟨rfl, (Below.refl _ w).alloc (Nat.le_refl _) _⟩
theorem blbOK : BlbOK SpAx where
  need := fun n w h => (codNeed12 n w h).mono fun _ _ ⟨h1, h2⟩ => ⟨h1, by rw [h2]; exact Below.refl _ _⟩
  put := fun w S J P base m t j ba len bc b h hf _ hb => codPut12 w S J P base m t j ba len bc b h hf hb
  get := fun w S J P base m t j r q h hf _ _ hr => codGet12 w S J P base m t j r q h hf hr
  drop := fun w S J P base m t j r q h hf _ _ hr => codDrop12 spcOK w S J P base m t j r q h hf hr
  putNil := nilPut
  dropNil := nilDrop
end Go.Proofs.YthjdmfbengpepaaGreat
namespace Go.Proofs.YthjdmfbengpepaaGreat
open Go.ChangeShapes Go.WideShapes

theorem weights_all_mem {H : Type} {P : Program} {e : TypeId} {d : DataW H} {n : Nat} (hn : n ∈ d.weights P e) : ∀ {l : List (DataW H)}, d ∈ l → n ∈ DataW.weightsAll P e l
  | [], h => by cases h
  | x :: l, h => by
    simp only [DataW.weightsAll]
    rcases List.mem_cons.1 h with rfl | h
    · exact List.mem_append_left _ hn
    · exact List.mem_append_right _ (weights_all_mem hn h)
theorem IsKs.below {w w' : World} {a : Option Addr} {n cap : Nat} {l : List Bool} (h : IsKs w a n cap l) (hb : Go.RowKit.Below w.heap.size w w') : IsKs w' a n cap l :=
  ⟨h.len_eq, fun hp => by
    obtain ⟨b, off, e, hc⟩ := h.cells hp
    refine ⟨b, off, e, fun i hi => ?_⟩
    rw [← hc i hi]
    exact hb.cell (cell_lt (hc i hi))⟩

theorem cellsBo : Tryz.prog.cellsOf 4 = 1 := by kernel_rfl
theorem open_bytes {H : Type} {enc : TypeId × Value → H} {W : World} {fuel : Nat} {a : Option Addr} {len cap : Nat} {x : DataW H × List MemPlace} (h : DataW.trod enc Tryz.prog W 0 (fun _ => true) true fuel 41 [.slice a len cap] = some x) :
    ∃ b, IsB W a len cap b ∧ ∀ N, (∀ n ∈ x.1.weights Tryz.prog 41, n ≤ N) → len ≤ N := by
  rcases open_ints Tryz.underlying41 Tryz.underlying5 (by kernel_rfl) h with ⟨hcs, _⟩ | ⟨y, l, c, zs, hcs, _, hl, hm, hz, hx, hcell, hwz⟩
  · simp only [List.cons.injEq, and_true, Value.slice.injEq] at hcs
    obtain ⟨rfl, rfl, rfl⟩ := hcs
    exact ⟨[], isB_none W, fun _ _ => Nat.zero_le _⟩
  · simp only [List.cons.injEq, and_true, Value.slice.injEq] at hcs
    obtain ⟨rfl, rfl, rfl⟩ := hcs
    have hz0 : zs.length = cap := by simpa using hz
    have hrow : IsRow .u8 W (some y) len cap zs := .inr ⟨_, rfl, hl, hm, hz0, hcell, hwz⟩
    obtain ⟨b, hb⟩ := hrow.bytes
    refine ⟨b, hb, fun N hN => ?_⟩
    have hb1 : Tryz.prog.bytesOf 5 = 1 := by kernel_rfl
    rw [hx] at hN
    simp only [DataW.weights, Tryz.underlying41, hb1] at hN
    have := hN _ (List.mem_cons_self ..)
    simp only [lits, List.length_map, List.length_take] at this
    omega
end Go.Proofs.YthjdmfbengpepaaGreat
namespace Go.Proofs.YthjdmfbengpepaaGreat
open Go.ChangeShapes Go.WideShapes

theorem open_nums {H : Type} {enc : TypeId × Value → H} {W : World} {fuel : Nat} {a : Option Addr} {len cap : Nat} {x : DataW H × List MemPlace} (h : DataW.trod enc Tryz.prog W 0 (fun _ => true) true fuel 42 [.slice a len cap] = some x) :
    ∃ l, IsZ W a len l ∧ len ≤ cap ∧ ∀ s ∈ l, -9223372036854775808 ≤ s ∧ s ≤ 9223372036854775807 := by
  rcases open_ints Tryz.underlying42 Tryz.underlying3 (by kernel_rfl) h with ⟨hcs, _⟩ | ⟨y, l, c, zs, hcs, _, hl, hm, hz, hx, hcell, hwz⟩
  · simp only [List.cons.injEq, and_true, Value.slice.injEq] at hcs
    obtain ⟨rfl, rfl, rfl⟩ := hcs
    exact ⟨[], ⟨rfl, fun h => absurd h (Nat.lt_irrefl 0)⟩, Nat.zero_le _, fun s hs => by cases hs⟩
  · simp only [List.cons.injEq, and_true, Value.slice.injEq] at hcs
    obtain ⟨rfl, rfl, rfl⟩ := hcs
    have hz0 : zs.length = cap := by simpa using hz
    refine ⟨zs.take len, ⟨by rw [List.length_take]; omega, fun hp => ?_⟩, hl, fun s hs => ?_⟩
    · obtain ⟨b, off, spot⟩ := y
      have h00 := hcell 0 (by omega)
      have hspot : spot = none := by simpa [Addr.add] using World.cell?_spot h00
      subst hspot
      refine ⟨b, off, rfl, cell_lt h00, fun i hi => ?_⟩
      have e := hcell i (by omega)
      rw [Addr.add_lit] at e
      rw [e]
      have hi2 : i < zs.length := by omega
      simp [hi, hi2]
    · have := hwz s (List.mem_of_mem_take hs)
      simpa [Lit.wf, IntKind.min, IntKind.max, IntKind.signed, IntKind.bits] using this
set_option maxRecDepth 100000 in
theorem open_rf {H : Type} {enc : TypeId × Value → H} {W : World} {r : Reach} {b0 : Nat} {v : Value} {d : DataW H} {pl : List MemPlace} (hv : Value.okWide Tryz.prog W r b0 46 v) (h : DataW.Trod enc Tryz.prog W 0 (fun _ => true) true 46 v d pl) :
    ∃ rf q, v = .agg (rfc rf q).toArray ∧ IsRf W rf q ∧ ∀ s ∈ rf.secs, -9223372036854775808 ≤ s ∧ s ≤ 9223372036854775807 := by
  obtain ⟨cs, rfl, hsz⟩ := okWide_struct Tryz.underlying46 hv
  have hC : Tryz.prog.cellsOf 46 = 3 := by kernel_rfl
  rw [hC] at hsz
  obtain ⟨fuel, hf⟩ := h
  obtain ⟨xs, k, hk, hxy, hcl, hxl, hfl⟩ := DataW.trod_struct Tryz.underlying46 hf
  have e0 : ∃ c0 c1 c2, cs = #[c0, c1, c2] := by
    obtain ⟨l⟩ := cs
    match l, hsz with
    | [c0, c1, c2], _ => exact ⟨c0, c1, c2, rfl⟩
  obtain ⟨c0, c1, c2, rfl⟩ := e0
  have e1 : ∃ y0 y1 y2, xs = [y0, y1, y2] := by
    match xs, hxl with
    | [y0, y1, y2], _ => exact ⟨y0, y1, y2, rfl⟩
  obtain ⟨y0, y1, y2, rfl⟩ := e1
  have cI : Tryz.prog.cellsOf 3 = 1 := by kernel_rfl
  have cB : Tryz.prog.cellsOf 41 = 1 := by kernel_rfl
  have cZ : Tryz.prog.cellsOf 42 = 1 := by kernel_rfl
  have g0 := hfl 0 _ rfl
  have g1 := hfl 1 _ rfl
  have g2 := hfl 2 _ rfl
  simp [cI, cB, cZ, Value.cells] at g0 g1 g2
  obtain ⟨k0, q0, _, hw0⟩ := DataW.trod_int Tryz.underlying3 g0
  obtain ⟨a1, n1, k1, q1⟩ := Joins.slice_form Tryz.underlying41 g1
  obtain ⟨a2, n2, k2, q2⟩ := Joins.slice_form Tryz.underlying42 g2
  simp only [List.cons.injEq, and_true] at q0 q1 q2
  subst q0 q1 q2
  have r0 : -9223372036854775808 ≤ k0 ∧ k0 ≤ 9223372036854775807 := by simpa [Lit.wf, IntKind.min, IntKind.max, IntKind.signed, IntKind.bits] using hw0
  obtain ⟨b, hB, _⟩ := open_bytes g1
  obtain ⟨l, hZ, hcap, hrg⟩ := open_nums g2
  obtain rfl := hB.len_eq
  obtain rfl := hZ.len_eq
  exact ⟨⟨k0, b, l⟩, ⟨a1, k1, a2, k2⟩, rfl, ⟨hB, hZ, r0.1, r0.2, hcap⟩, hrg⟩
end Go.Proofs.YthjdmfbengpepaaGreat
namespace Go.Proofs.YthjdmfbengpepaaGreat
open Go.RowKit

theorem put513 {b : List UInt8} (h : b.length = 513) : putN b = 2 := by unfold putN needL; rw [h]; decide
theorem right_sum {r : Rf} (h : rightL r = true) : r.sum.length = 32 := (of_decide_eq_true h).1.2.2.1
set_option maxRecDepth 20000 in
set_option maxHeartbeats 1000000 in
theorem lawAlive12 {JA : World → Nat → Nat → Nat → Jl → Prop} {TA SA : World → Nat → Nat → Nat → Nat → Tl → Jl → Prop} (ok : JrnOK JA TA) (so : SpcOK JA SA) (bo : BlbOK SA) (w : World) :
    Calls Tryz.prog 7 #[] w fun e w' => e = .returned (.bool true) ∧ Below w.heap.size w w' := by
  have HF := lawFresh12 ok so w w.heap.size (Nat.le_refl _)
  obtain ⟨b, hbe, hbl⟩ : ∃ b : List UInt8, List.replicate 513 0 = b ∧ b.length = 513 := ⟨_, rfl, List.length_replicate ..⟩
  obtain ⟨p1, p2, p3, p4, p5, p6⟩ := put_get outs0 (b := b) (by omega) (by rw [put513 hbl]; show 0 + 2 ≤ 13; omega)
  rw [put513 hbl] at p2
  have HBe := mkHid hbe
  have HBl := mkHid hbl
  clear hbe hbl
  have HFt := mkHid p3.fit
  have HSm : Hid ((putR as0 aj0 b).sum.length ≤ 100000) := by
    have := right_sum p4
    unfold Hid; omega
  have HP6 := mkHid p6
  have HPt : ∀ (W : World) (S J P : Nat) (ba : Option Addr), Hid (SA W S J P w.heap.size as0 aj0) → Hid (OwnB W w.heap.size (.slice ba 513 513) b) →
      Calls Tryz.prog 17 #[.pointer (some ⟨S, 0, none⟩), .slice ba 513 513] W fun e w' => (∃ q, e = .returned (.tuple #[.agg (rfc (putR as0 aj0 b) q).toArray, .int .i64 (putE as0 aj0 b)]) ∧ RfK w' (putR as0 aj0 b) q) ∧ SA w' S J P w.heap.size (putT as0 aj0 b) aj0 ∧ KS w.heap.size W w' := fun W S J P ba hS hO => bo.put W S J P w.heap.size 0 as0 aj0 ba 513 513 b hS.out fit_0 (by omega) (fun V hV => by
    have := own_isB (own_keepO hV.o hO.out (by decide))
    rw [HBl.out] at this
    exact this)
  rw [p1] at HPt
  clear p3 p4 p6 p1
  generalize putR as0 aj0 b = r at *
  generalize putT as0 aj0 b = t1 at *
  go_enter Tryz.func7, Tryz.ntmps7
  go_wp2_with fail
  refine HF.mono ?_
  rintro e x1 ⟨⟨J, S, P, rfl, hS1⟩, hk1⟩
  clear HF
  go_wp2_with (at_make; refine make_full8 x1 rfl _ _ rfl x1.heap.size .i64 .i64 _ _ 513 rfl rfl rfl rfl (by omega) (Nat.le_refl _) ?_; intro w6 ho6 hg6)
  have hb6 : Below x1.heap.size x1 w6 := (Below.refl _ x1).grown hg6 (Nat.le_refl _) (fun k e => by cases e)
  have HS6 := mkHid (so.keep hS1.out (KeepT.of_below hb6))
  have hlo : w.heap.size ≤ x1.heap.size := hk1.out.b.size
  have HK6 := mkHid (hk1.out.trans (KS.of_below hb6 hlo))
  rw [HBe.out] at ho6
  have HO6 := mkHid (OwnB.base ho6 hlo)
  have HPu := HPt w6 S J P _ HS6 HO6
  clear ho6 hg6 hb6 hS1 hk1 HS6 hlo HPt HO6
  refine HPu.mono ?_
  rintro e x2 ⟨⟨q, rfl, hR2⟩, hS2, hk2⟩
  have HK2 := mkHid (HK6.out.trans hk2)
  have hb3 : Below x2.heap.size x2 (x2.alloc (.cells (rfc r q).toArray 44)) := rfc_bel x2 r q _
  have hlo2 : w.heap.size ≤ x2.heap.size := HK2.out.b.size
  have hK3 := KS.of_below (base := w.heap.size) hb3 hlo2
  have HK3 := mkHid (HK2.out.trans hK3)
  have HGt := bo.get _ S J P w.heap.size 0 t1 aj0 r q (so.keep hS2 (KeepT.of_below hb3)) HFt.out HSm.out (by omega) (fun W hW => hR2 W ((hK3.trans hW).o.less (by decide)))
  rw [p5, HP6.out] at HGt
  have HB3 := mkHid (Blk.new x2 44 (rfc r q))
  have HSz : Hid (r.secs.length = 2) := p2
  clear hR2 hS2 hk2 HK2 hb3 hlo2 hK3 HPu p2 p5 HK6
  obtain ⟨rl, rs, rz⟩ := r
  obtain ⟨qa, qc, qb, qd⟩ := q
  change Hid (rz.length = 2) at HSz
  have hz2 := HSz.out
  simp only [rfc, hz2] at HGt HB3 HK3 ⊢
  clear hz2
  go_wp2_with fail
  generalize x2.alloc (.cells #[.int .i64 rl, .slice qa rs.length qc, .slice qb 2 qd] 44) = Z at *
  refine HGt.mono ?_
  rintro e x4 ⟨⟨v4, rfl, hv4⟩, hS4, hk4⟩
  obtain ⟨ga, gc, hge, _⟩ := hv4
  rw [HBl.out] at hge
  subst hge
  have HB4 := mkHid (hk4.o.blk HB3.out (by decide))
  have d2 : x4.cell? ⟨x2.heap.size, 2, none⟩ = some (.slice qb 2 qd) := HB4.out.cell 2
  have HK4 := mkHid (HK3.out.trans hk4)
  have HNd := bo.need 513 x4 (by omega)
  rw [show needL 513 = 2 from by decide] at HNd
  clear hk4 hS4 HGt HB3 HB4 HK3
  go_wp2_with fail
  refine HNd.mono ?_
  rintro e x5 ⟨rfl, hb5⟩
  have HB5 := mkHid (HK4.out.b.trans (hb5.mono HK4.out.b.size))
  clear hb5 HNd
  go_wp2_with fail
  go_ret
  exact ⟨rfl, HB5.out⟩
end Go.Proofs.YthjdmfbengpepaaGreat
