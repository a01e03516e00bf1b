/- What the document's Same says of two uploads that are the same. -/
import Derived.Test.YtgcmojldegplaaaUp2
import Derived.Test.YtgcmojldegplaaaConvB
namespace Go.Proofs.Ytgcmojldegplaaa
open Go.RowKit

attribute [local go_sem] undef
/-- two blocks, each known whole -/
structure TwoS (w W : World) (c0 c1 : List Value) : Prop where
  k0 : Blk W w.heap.size 25 c0
  k1 : Blk W (w.heap.size + 1) 25 c1
  bel : Below w.heap.size w W
theorem TwoS.on {w W W' : World} {c0 c1 : List Value} (h : TwoS w W c0 c1) (hb : Below W.heap.size W W') : TwoS w W' c0 c1 := ⟨h.k0.on hb, h.k1.on hb, h.bel.trans (hb.mono h.bel.size)⟩
theorem TwoS.new (w : World) (c0 c1 : List Value) : TwoS w ((w.alloc (.cells c0.toArray 25)).alloc (.cells c1.toArray 25)) c0 c1 := by
  have hz : (w.alloc (.cells c0.toArray 25)).heap.size = w.heap.size + 1 := Array.size_push _
  have k1 := Blk.new (w.alloc (.cells c0.toArray 25)) 25 c1
  rw [hz] at k1
  exact ⟨(Blk.new w 25 c0).on ((Below.refl _ _).alloc (Nat.le_refl _) _), k1, ((Below.refl _ w).alloc (Nat.le_refl _) _).alloc (by rw [hz]; omega) _⟩
set_option maxRecDepth 20000 in
set_option maxHeartbeats 8000000 in
theorem refSame16 (u : UpH) (a1 : Option Addr) (n c1 : Nat) (la : List Pq) (a2 : Option Addr) (c2 : Nat) (lb : List Pq) (w : World) (h1 : IsPs16 w a1 n c1 la) (h2 : IsPs16 w a2 n c2 lb)
    (he : la.map Prod.fst = lb.map Prod.fst) (hn : n ≤ 100000) :
    Calls Try.prog 12 #[.agg (upc u (.slice a1 n c1)).toArray, .agg (upc u (.slice a2 n c2)).toArray] w fun e w' => e = .returned (.bool true) ∧ Below w.heap.size w w' := by
  have HT := mkHid (TwoS.new w (upc u (.slice a1 n c1)) (upc u (.slice a2 n c2)))
  have H1 := mkHid h1
  have H2 := mkHid h2
  have HE := mkHid he
  clear h1 h2 he
  obtain ⟨bkt, key, id, time⟩ := u
  simp only [upc] at *
  go_enter Try.func12, Try.ntmps12
  go_upto_region 1 with fail
  generalize World.alloc _ _ = y at *
  have x0 := HT.out.k0.cell 0
  have x1 := HT.out.k0.cell 1
  have x2 := HT.out.k0.cell 2
  have x3 := HT.out.k0.cell 3
  have x4 := HT.out.k0.cell 4
  have y0 := HT.out.k1.cell 0
  have y1 := HT.out.k1.cell 1
  have y2 := HT.out.k1.cell 2
  have y3 := HT.out.k1.cell 3
  have y4 := HT.out.k1.cell 4
  simp only [List.getElem?_cons_zero, List.getElem?_cons_succ] at x0 x1 x2 x3 x4 y0 y1 y2 y3 y4
  go_wp2_with fail
  clear x0 x1 x2 x3 x4 y0 y1 y2 y3 y4
  go_loopw [5] (fun i wr => ∃ (k : Nat), k ≤ n ∧ i = .int .i64 (k : Int) ∧ Hid (TwoS w wr [.string bkt, .string key, .int .u64 (id : Int), .int .u64 (time : Int), .slice a1 n c1] [.string bkt, .string key, .int .u64 (id : Int), .int .u64 (time : Int), .slice a2 n c2])) (fun i _ => n - (intOf i).toNat)
  case atStart => exact ⟨0, Nat.zero_le _, rfl, HT⟩
  case round =>
    clear HT
    obtain ⟨k, hk, rfl, HT⟩ := hrel
    have x4 := HT.out.k0.cell 4
    have y4 := HT.out.k1.cell 4
    simp only [List.getElem?_cons_zero, List.getElem?_cons_succ] at x4 y4
    by_cases hlt : k < n
    · have hlt' : (k : Int) < (n : Int) := by omega
      have Hlt := mkHid hlt
      have hk0 : (0 : Int) ≤ (k : Int) := by omega
      obtain ⟨B1, o1, p, rfl, hB1, hp, hc1⟩ := H1.out.row.at k hlt
      obtain ⟨B2, o2, q, rfl, hB2, hq, hc2⟩ := H2.out.row.at k hlt
      have hpq : p.1 = q.1 := by
        have h := congrArg (fun l : List Pa => l[k]?) HE.out
        simp only [List.getElem?_map, hp, hq, Option.map_some] at h
        exact Option.some.inj h
      obtain ⟨⟨pn, pd⟩, ⟨pa, pc⟩⟩ := p
      obtain ⟨⟨qn, qd⟩, ⟨qa, qc⟩⟩ := q
      simp only [Pa.mk.injEq] at hpq
      obtain ⟨rfl, rfl⟩ := hpq
      have p0 := (HT.out.bel.cell (p := ⟨B1, o1 + k * 2, none⟩) hB1).trans (hc1 0 _ rfl)
      have p1 := (HT.out.bel.cell (p := ⟨B1, o1 + k * 2 + 1, none⟩) hB1).trans (hc1 1 _ rfl)
      have q0 := (HT.out.bel.cell (p := ⟨B2, o2 + k * 2, none⟩) hB2).trans (hc2 0 _ rfl)
      have q1 := (HT.out.bel.cell (p := ⟨B2, o2 + k * 2 + 1, none⟩) hB2).trans (hc2 1 _ rfl)
      simp only at p0 q0
      have g1 := ((H1.out.ok _ (List.mem_of_getElem? hp)).below HT.out.bel).d
      have g2 := ((H2.out.ok _ (List.mem_of_getElem? hq)).below HT.out.bel).d
      have v1 := fun z => conv_isB (wr.drewN z) _ _ _ _ (g1.drewN z)
      have v2 := fun z => conv_isB (wr.drewN z) _ _ _ _ (g2.drewN z)
      have HV : Hid (((str pd).toList == (str pd).toList) = true) := by unfold Hid; simp
      clear g1 g2 hc1 hc2 hp hq hB1 hB2 hlt
      simp only at v1 v2
      generalize str pd = s1 at *
      generalize pd.length = dl at *
      have hv := HV.out
      go_wp2_with fail
      go_quiet (fail)
      go_wp2_with fail
      go_roundw
      case rel => exact ⟨k + 1, Hlt.out, by go_num, mkHid (HT.out.on (bel_drewN (Below.refl _ _) _))⟩
      case measure => simp [intOf]; have := Hlt.out; omega
    · have hge : ¬ (k : Int) < (n : Int) := by omega
      go_wp2_with fail
      go_ret
      exact ⟨rfl, HT.out.bel⟩
end Go.Proofs.Ytgcmojldegplaaa
