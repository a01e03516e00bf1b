/- What the frame tells of a slice of truths. · What the frame tells of a script of transactions that came in. -/
import Derived.Test.YtacnoagjcacniaaGreatB42
import Derived.Deep.SlicePairs
import Derived.OpenShut
namespace Go.Proofs.YtacnoagjcacniaaGreat
open Go.ChangeShapes Go.WideShapes

theorem weights_all_mem {H : Type} {P : Program} {e : TypeId} {d : DataW H} {n : Nat} (hn : n ∈ d.weights P e) : ∀ {l : List (DataW H)}, d ∈ l → n ∈ DataW.weightsAll P e l
  | [], h => by cases h
  | x :: l, h => by
    simp only [DataW.weightsAll]
    rcases List.mem_cons.1 h with rfl | h
    · exact List.mem_append_left _ hn
    · exact List.mem_append_right _ (weights_all_mem hn h)
theorem IsKs.below {w w' : World} {a : Option Addr} {n cap : Nat} {l : List Bool} (h : IsKs w a n cap l) (hb : Go.RowKit.Below w.heap.size w w') : IsKs w' a n cap l :=
  ⟨h.len_eq, fun hp => by
    obtain ⟨b, off, e, hc⟩ := h.cells hp
    refine ⟨b, off, e, fun i hi => ?_⟩
    rw [← hc i hi]
    exact hb.cell (cell_lt (hc i hi))⟩

theorem cellsBo : Tryz.prog.cellsOf 4 = 1 := by kernel_rfl
theorem open_bools {H : Type} {enc : TypeId × Value → H} {W : World} {fuel : Nat} {a : Option Addr} {len cap : Nat} {x : DataW H × List MemPlace} (h : DataW.trod enc Tryz.prog W 0 (fun _ => true) true fuel 36 [.slice a len cap] = some x) :
    ∃ ks, IsKs W a len cap ks ∧ ∀ N, (∀ n ∈ x.1.weights Tryz.prog 36, n ≤ N) → len ≤ N := by
  rcases Deep.open_slice Tryz.underlying36 h with ⟨hcs, _⟩ | ⟨ad, l, c, m, n, D, Pl, hcs, _, hl, hm, hmm, hx, hel⟩
  · simp only [List.cons.injEq, and_true, Value.slice.injEq] at hcs
    obtain ⟨rfl, rfl, rfl⟩ := hcs
    exact ⟨[], isKs_nil W, fun _ _ => Nat.zero_le _⟩
  · simp only [List.cons.injEq, and_true, Value.slice.injEq] at hcs
    obtain ⟨rfl, rfl, rfl⟩ := hcs
    have hmc : m = cap := by simpa using hmm
    subst hmc
    rw [cellsBo] at hel
    have each : ∀ i, i < len → ∃ q : Bool, W.cell? (ad.add (i * 1)) = some (.bool q) := by
      intro i hi
      obtain ⟨cs', h1, h2⟩ := hel i (by omega)
      obtain ⟨_, _, hcell⟩ := World.cells?_some h1
      obtain ⟨b, rfl, _⟩ := DataW.trod_bool Tryz.underlying4 h2
      have e0 := hcell 0 (by omega)
      rw [Deep.add_add] at e0
      exact ⟨b, by simpa using e0⟩
    obtain ⟨q, hq⟩ := Deep.choose_lt each
    refine ⟨(List.range len).map q, ⟨by simp, fun hp => ?_⟩, ?_⟩
    · obtain ⟨b, off, spot⟩ := ad
      have hspot : spot = none := by simpa [Addr.add] using World.cell?_spot (hq 0 hp)
      subst hspot
      refine ⟨b, off, rfl, fun i hi => ?_⟩
      have h0 := hq i hi
      rw [Addr.add_lit, Nat.mul_one] at h0
      rw [h0]
      simp [hi]
    · intro N hN
      have hb : Tryz.prog.bytesOf 4 = 1 := by kernel_rfl
      rw [hx] at hN
      simp only [DataW.weights, Tryz.underlying36, hb] at hN
      have := hN _ (List.mem_cons_self ..)
      simp only [List.length_map, List.length_range] at this
      omega
theorem open_bytes {H : Type} {enc : TypeId × Value → H} {W : World} {fuel : Nat} {a : Option Addr} {len cap : Nat} {x : DataW H × List MemPlace} (h : DataW.trod enc Tryz.prog W 0 (fun _ => true) true fuel 49 [.slice a len cap] = some x) :
    ∃ b, IsB W a len cap b ∧ ∀ N, (∀ n ∈ x.1.weights Tryz.prog 49, n ≤ N) → len ≤ N := by
  rcases open_ints Tryz.underlying49 Tryz.underlying5 (by kernel_rfl) h with ⟨hcs, _⟩ | ⟨y, l, c, zs, hcs, _, hl, hm, hz, hx, hcell, hwz⟩
  · simp only [List.cons.injEq, and_true, Value.slice.injEq] at hcs
    obtain ⟨rfl, rfl, rfl⟩ := hcs
    exact ⟨[], isB_none W, fun _ _ => Nat.zero_le _⟩
  · simp only [List.cons.injEq, and_true, Value.slice.injEq] at hcs
    obtain ⟨rfl, rfl, rfl⟩ := hcs
    have hz0 : zs.length = cap := by simpa using hz
    have hrow : IsRow .u8 W (some y) len cap zs := .inr ⟨_, rfl, hl, hm, hz0, hcell, hwz⟩
    obtain ⟨b, hb⟩ := hrow.bytes
    refine ⟨b, hb, fun N hN => ?_⟩
    have hb1 : Tryz.prog.bytesOf 5 = 1 := by kernel_rfl
    rw [hx] at hN
    simp only [DataW.weights, Tryz.underlying49, hb1] at hN
    have := hN _ (List.mem_cons_self ..)
    simp only [lits, List.length_map, List.length_take] at this
    omega
end Go.Proofs.YtacnoagjcacniaaGreat
namespace Go.Proofs.YtacnoagjcacniaaGreat
open Go.ChangeShapes Go.WideShapes

theorem cellsPq : Tryz.prog.cellsOf 48 = 3 := by kernel_rfl
set_option maxRecDepth 20000 in
theorem open_put {H : Type} {enc : TypeId × Value → H} {W : World} {n : Nat} {cs : List Value} {x : DataW H × List MemPlace} (h : DataW.trod enc Tryz.prog W 0 (fun _ => true) true n 48 cs = some x) :
    ∃ q : Pq, cs = pqc q ∧ -9223372036854775808 ≤ q.at_ ∧ q.at_ ≤ 9223372036854775807 := by
  obtain ⟨xs, k, hk, hxy, hcl, hxl, hf⟩ := DataW.trod_struct Tryz.underlying48 h
  rw [cellsPq] at hcl
  match xs, hxl, cs, hcl with
  | [y0, y1, y2], _, [v0, v1, v2], _ =>
    have g0 := hf 0 _ rfl
    have g1 := hf 1 _ rfl
    have g2 := hf 2 _ rfl
    have c3 : Tryz.prog.cellsOf 3 = 1 := by kernel_rfl
    have c8 : Tryz.prog.cellsOf 5 = 1 := by kernel_rfl
    simp [c3, c8] at g0 g1 g2
    obtain ⟨k0, e0, _, hw0⟩ := DataW.trod_int Tryz.underlying3 g0
    obtain ⟨k1, e1, _, hw1⟩ := DataW.trod_int Tryz.underlying5 g1
    obtain ⟨k2, e2, _, hw2⟩ := DataW.trod_int Tryz.underlying5 g2
    simp only [List.cons.injEq, and_true] at e0 e1 e2
    subst e0 e1 e2
    have r0 : -9223372036854775808 ≤ k0 ∧ k0 ≤ 9223372036854775807 := by simpa [Lit.wf, IntKind.min, IntKind.max, IntKind.signed, IntKind.bits] using hw0
    have r1 : 0 ≤ k1 ∧ k1 ≤ 255 := by simpa [Lit.wf, IntKind.min, IntKind.max, IntKind.signed, IntKind.bits] using hw1
    have r2 : 0 ≤ k2 ∧ k2 ≤ 255 := by simpa [Lit.wf, IntKind.min, IntKind.max, IntKind.signed, IntKind.bits] using hw2
    have hu1 : ((UInt8.ofNat k1.toNat).toNat : Int) = k1 := by simp only [UInt8.toNat_ofNat']; omega
    have hu2 : ((UInt8.ofNat k2.toNat).toNat : Int) = k2 := by simp only [UInt8.toNat_ofNat']; omega
    refine ⟨⟨k0, UInt8.ofNat k1.toNat, UInt8.ofNat k2.toNat⟩, ?_, r0⟩
    unfold pqc
    simp only [hu1, hu2]
theorem IsPqs.below {w w' : World} {a : Option Addr} {n cap : Nat} {l : List Pq} (h : IsPqs w a n cap l) (hb : Go.RowKit.Below w.heap.size w w') : IsPqs w' a n cap l :=
  ⟨h.len_eq, fun hp => by
    obtain ⟨b, off, e, hl, hc⟩ := h.cells hp
    refine ⟨b, off, e, Nat.lt_of_lt_of_le hl hb.size, fun i hi j hj => ?_⟩
    rw [← hc i hi j hj]
    exact hb.cell hl⟩
theorem open_puts {H : Type} {enc : TypeId × Value → H} {W : World} {fuel : Nat} {a : Option Addr} {len cap : Nat} {x : DataW H × List MemPlace} (h : DataW.trod enc Tryz.prog W 0 (fun _ => true) true fuel 35 [.slice a len cap] = some x) (hN : ∀ n ∈ x.1.weights Tryz.prog 35, n ≤ 140737488351232) :
    ∃ ps, IsPqs W a len cap ps ∧ len ≤ 140737488351232 ∧ ∀ q ∈ ps, -9223372036854775808 ≤ q.at_ ∧ q.at_ ≤ 9223372036854775807 := by
  rcases Deep.open_slice Tryz.underlying35 h with ⟨hcs, _⟩ | ⟨ad, l, c, m, n, D, Pl, hcs, _, hl, hm, hmm, hx, hel⟩
  · simp only [List.cons.injEq, and_true, Value.slice.injEq] at hcs
    obtain ⟨rfl, rfl, rfl⟩ := hcs
    exact ⟨[], ⟨rfl, fun h => absurd h (Nat.lt_irrefl 0)⟩, Nat.zero_le _, fun q hq => (by cases hq)⟩
  · simp only [List.cons.injEq, and_true, Value.slice.injEq] at hcs
    obtain ⟨rfl, rfl, rfl⟩ := hcs
    have hmc : m = cap := by simpa using hmm
    subst hmc
    rw [cellsPq] at hel
    have each : ∀ i, i < len → ∃ q : Pq, (∀ j, j < 3 → W.cell? (ad.add (i * 3 + j)) = (pqc q)[j]?) ∧ -9223372036854775808 ≤ q.at_ ∧ q.at_ ≤ 9223372036854775807 := by
      intro i hi
      obtain ⟨cs', h1, h2⟩ := hel i (by omega)
      obtain ⟨_, _, hcell⟩ := World.cells?_some h1
      obtain ⟨o, rfl, hok⟩ := open_put h2
      refine ⟨o, fun j hj => ?_, hok⟩
      have e := hcell j (by omega)
      rw [Deep.add_add] at e
      simpa using e
    haveI : Inhabited Pq := ⟨pq0⟩
    obtain ⟨q, hq⟩ := Deep.choose_lt each
    have hn : ∀ i, i < len → ((List.range len).map q).getD i pq0 = q i := fun i hi => by simp [hi]
    refine ⟨(List.range len).map q, ⟨by simp, fun hp => ?_⟩, ?_, fun y hy => ?_⟩
    · obtain ⟨b, off, spot⟩ := ad
      have h00 : W.cell? (Addr.add ⟨b, off, spot⟩ (0 * 3 + 0)) = some (.int .i64 (q 0).at_) := ((hq 0 hp).1 0 (by omega))
      have hspot : spot = none := by simpa [Addr.add] using World.cell?_spot h00
      subst hspot
      refine ⟨b, off, rfl, cell_lt h00, fun i hi j hj => ?_⟩
      have e := (hq i hi).1 j hj
      rw [Addr.add_lit] at e
      rw [hn i hi, Nat.add_assoc]
      exact e
    · have hb1 : 1 ≤ Tryz.prog.bytesOf 48 := of_decide_eq_true (by kernel_rfl)
      rw [hx] at hN
      simp only [DataW.weights, Tryz.underlying35] at hN
      have := hN _ (List.mem_cons_self ..)
      simp only [List.length_map, List.length_range] at this
      have h5 : len * 1 ≤ (len + (m - len)) * Tryz.prog.bytesOf 48 := Nat.mul_le_mul (by omega) hb1
      omega
    · obtain ⟨i, hi, rfl⟩ := List.mem_map.1 hy
      exact (hq i (List.mem_range.1 hi)).2

theorem cellsXq : Tryz.prog.cellsOf 38 = 5 := by kernel_rfl
theorem slice_of {H : Type} {enc : TypeId × Value → H} {W : World} {fuel : Nat} {t e : TypeId} {v : Value} {x : DataW H × List MemPlace} (hu : Tryz.prog.underlying t = some (.slice e)) (h : DataW.trod enc Tryz.prog W 0 (fun _ => true) true fuel t [v] = some x) : ∃ a len cap, v = .slice a len cap := by
  rcases Deep.open_slice hu h with ⟨hcs, _⟩ | ⟨ad, l, c, m, n, D, Pl, hcs, _⟩
  · simp only [List.cons.injEq, and_true] at hcs; exact ⟨_, _, _, hcs⟩
  · simp only [List.cons.injEq, and_true] at hcs; exact ⟨_, _, _, hcs⟩
set_option maxRecDepth 20000 in
theorem open_x {H : Type} {enc : TypeId × Value → H} {W : World} {n : Nat} {cs : List Value} {d : DataW H} {pl : List MemPlace} (h : DataW.trod enc Tryz.prog W 0 (fun _ => true) true n 38 cs = some (d, pl)) (hN : ∀ n ∈ d.weights Tryz.prog 38, n ≤ 140737488351232) :
    ∃ o : Xq, cs = xqc o ∧ OkX W W.heap.size o := by
  obtain ⟨xs, k, hk, hxy, hcl, hxl, hf⟩ := DataW.trod_struct Tryz.underlying38 h
  rw [cellsXq] at hcl
  match xs, hxl, cs, hcl with
  | [y0, y1, y2, y3, y4], _, [v0, v1, v2, v3, v4], _ =>
    have g0 := hf 0 _ rfl
    have g1 := hf 1 _ rfl
    have g2 := hf 2 _ rfl
    have g3 := hf 3 _ rfl
    have g4 := hf 4 _ rfl
    have c3 : Tryz.prog.cellsOf 3 = 1 := by kernel_rfl
    have csp : Tryz.prog.cellsOf 35 = 1 := by kernel_rfl
    have csb : Tryz.prog.cellsOf 36 = 1 := by kernel_rfl
    simp [c3, csp, csb] at g0 g1 g2 g3 g4
    obtain ⟨k1, e1, _, hw1⟩ := DataW.trod_int Tryz.underlying3 g1
    obtain ⟨k3, e3, _, hw3⟩ := DataW.trod_int Tryz.underlying3 g3
    simp only [List.cons.injEq, and_true] at e1 e3
    subst e1 e3
    have r1 : -9223372036854775808 ≤ k1 ∧ k1 ≤ 9223372036854775807 := by simpa [Lit.wf, IntKind.min, IntKind.max, IntKind.signed, IntKind.bits] using hw1
    have r3 : -9223372036854775808 ≤ k3 ∧ k3 ≤ 9223372036854775807 := by simpa [Lit.wf, IntKind.min, IntKind.max, IntKind.signed, IntKind.bits] using hw3
    have hd : d = .agg [y0.1, y1.1, y2.1, y3.1, y4.1] := by have := (Prod.mk.inj hxy).1; simpa using this
    have hw0 : ∀ n ∈ y0.1.weights Tryz.prog 35, n ≤ 140737488351232 := fun n hn => hN n (by
      rw [hd]
      simp only [DataW.weights, Tryz.underlying38, DataW.weightsEach, List.map_cons, List.map_nil]
      simp [hn])
    have hw2 : ∀ n ∈ y2.1.weights Tryz.prog 36, n ≤ 140737488351232 := fun n hn => hN n (by
      rw [hd]
      simp only [DataW.weights, Tryz.underlying38, DataW.weightsEach, List.map_cons, List.map_nil]
      simp [hn])
    have hw4 : ∀ n ∈ y4.1.weights Tryz.prog 36, n ≤ 140737488351232 := fun n hn => hN n (by
      rw [hd]
      simp only [DataW.weights, Tryz.underlying38, DataW.weightsEach, List.map_cons, List.map_nil]
      simp [hn])
    obtain ⟨a0, n0, p0, rfl⟩ := slice_of Tryz.underlying35 g0
    obtain ⟨a2, n2, p2, rfl⟩ := slice_of Tryz.underlying36 g2
    obtain ⟨a4, n4, p4, rfl⟩ := slice_of Tryz.underlying36 g4
    obtain ⟨l, hl1, hl2, hl3⟩ := open_puts g0 hw0
    obtain ⟨ks, hk1, hk2⟩ := open_bools g2
    obtain ⟨rs, hr1, hr2⟩ := open_bools g4
    have e0 := hl1.len_eq
    have e2 := hk1.len_eq
    have e4 := hr1.len_eq
    subst e0 e2 e4
    exact ⟨⟨l, a0, p0, k1, ks, a2, p2, k3, rs, a4, p4⟩, rfl, ⟨fun W' h => hl1.below h, fun W' h => hk1.below h, fun W' h => hr1.below h, hl2, hk2 _ hw2, hr2 _ hw4, r1.1, r1.2, r3.1, r3.2, hl3⟩⟩

theorem open_xs {H : Type} {enc : TypeId × Value → H} {W : World} {fuel : Nat} {a : Option Addr} {len cap : Nat} {x : DataW H × List MemPlace} (h : DataW.trod enc Tryz.prog W 0 (fun _ => true) true fuel 22 [.slice a len cap] = some x) (hN : ∀ n ∈ x.1.weights Tryz.prog 22, n ≤ 140737488351232) :
    ∃ os, IsXs W a len cap os := by
  rcases Deep.open_slice Tryz.underlying22 h with ⟨hcs, _⟩ | ⟨ad, l, c, m, n, D, Pl, hcs, _, hl, hm, hmm, hx, hel⟩
  · simp only [List.cons.injEq, and_true, Value.slice.injEq] at hcs
    obtain ⟨rfl, rfl, rfl⟩ := hcs
    exact ⟨[], ⟨rfl, Nat.zero_le _, fun h => absurd h (Nat.lt_irrefl 0), fun i hi => absurd hi (Nat.not_lt_zero _)⟩⟩
  · simp only [List.cons.injEq, and_true, Value.slice.injEq] at hcs
    obtain ⟨rfl, rfl, rfl⟩ := hcs
    have hmc : m = cap := by simpa using hmm
    subst hmc
    rw [cellsXq] at hel
    have each : ∀ i, i < len → ∃ q : Xq, (∀ j, j < 5 → W.cell? (ad.add (i * 5 + j)) = (xqc q)[j]?) ∧ OkX W W.heap.size q := by
      intro i hi
      obtain ⟨cs', h1, h2⟩ := hel i (by omega)
      obtain ⟨_, _, hcell⟩ := World.cells?_some h1
      have hbi : ∀ n ∈ (D i).weights Tryz.prog 38, n ≤ 140737488351232 := fun n hn => hN n (by
        rw [hx]
        simp only [DataW.weights, Tryz.underlying22]
        exact List.mem_cons_of_mem _ (List.mem_append_left _ (weights_all_mem hn (List.mem_map.2 ⟨i, List.mem_range.2 hi, rfl⟩))))
      obtain ⟨o, rfl, hok⟩ := open_x h2 hbi
      refine ⟨o, fun j hj => ?_, hok⟩
      have e := hcell j (by omega)
      rw [Deep.add_add] at e
      simpa using e
    haveI : Inhabited Xq := ⟨xq0⟩
    obtain ⟨q, hq⟩ := Deep.choose_lt each
    have hn : ∀ i, i < len → ((List.range len).map q).getD i xq0 = q i := fun i hi => by simp [hi]
    refine ⟨(List.range len).map q, ⟨by simp, ?_, fun hp => ?_, fun i hi => by rw [hn i hi]; exact (hq i hi).2⟩⟩
    · have hb1 : 1 ≤ Tryz.prog.bytesOf 38 := of_decide_eq_true (by kernel_rfl)
      rw [hx] at hN
      simp only [DataW.weights, Tryz.underlying22] at hN
      have := hN _ (List.mem_cons_self ..)
      simp only [List.length_map, List.length_range] at this
      have h5 : len * 1 ≤ (len + (m - len)) * Tryz.prog.bytesOf 38 := Nat.mul_le_mul (by omega) hb1
      omega
    · obtain ⟨b, off, spot⟩ := ad
      have h00 : W.cell? (Addr.add ⟨b, off, spot⟩ (0 * 5 + 0)) = some (.slice (q 0).la (q 0).l.length (q 0).lc) := ((hq 0 hp).1 0 (by omega))
      have hspot : spot = none := by simpa [Addr.add] using World.cell?_spot h00
      subst hspot
      refine ⟨b, off, rfl, cell_lt h00, fun i hi j hj => ?_⟩
      have e := (hq i hi).1 j hj
      rw [Addr.add_lit] at e
      rw [hn i hi, Nat.add_assoc]
      exact e
end Go.Proofs.YtacnoagjcacniaaGreat
