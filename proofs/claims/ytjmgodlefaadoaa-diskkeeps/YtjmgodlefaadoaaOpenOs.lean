/- What the frame tells of a script that came in, and of a slice of truths. -/
import Derived.Test.YtjmgodlefaadoaaDk15
import Derived.Deep.SlicePairs
namespace Go.Proofs.Ytjmgodlefaadoaa
open Go.ChangeShapes Go.WideShapes

theorem weights_all_mem {H : Type} {P : Program} {e : TypeId} {d : DataW H} {n : Nat} (hn : n ∈ d.weights P e) : ∀ {l : List (DataW H)}, d ∈ l → n ∈ DataW.weightsAll P e l
  | [], h => by cases h
  | x :: l, h => by
    simp only [DataW.weightsAll]
    rcases List.mem_cons.1 h with rfl | h
    · exact List.mem_append_left _ hn
    · exact List.mem_append_right _ (weights_all_mem hn h)
theorem IsKs.below {w w' : World} {a : Option Addr} {n cap : Nat} {l : List Bool} (h : IsKs w a n cap l) (hb : Go.RowKit.Below w.heap.size w w') : IsKs w' a n cap l :=
  ⟨h.len_eq, fun hp => by
    obtain ⟨b, off, e, hc⟩ := h.cells hp
    refine ⟨b, off, e, fun i hi => ?_⟩
    rw [← hc i hi]
    exact hb.cell (cell_lt (hc i hi))⟩

theorem cellsBo : Try.prog.cellsOf 4 = 1 := by kernel_rfl
theorem open_bools {H : Type} {enc : TypeId × Value → H} {W : World} {fuel : Nat} {a : Option Addr} {len cap : Nat} {x : DataW H × List MemPlace} (h : DataW.trod enc Try.prog W 0 (fun _ => true) true fuel 32 [.slice a len cap] = some x) :
    ∃ ks, IsKs W a len cap ks ∧ ∀ N, (∀ n ∈ x.1.weights Try.prog 32, n ≤ N) → len ≤ N := by
  rcases Deep.open_slice Try.underlying32 h with ⟨hcs, _⟩ | ⟨ad, l, c, m, n, D, Pl, hcs, _, hl, hm, hmm, hx, hel⟩
  · simp only [List.cons.injEq, and_true, Value.slice.injEq] at hcs
    obtain ⟨rfl, rfl, rfl⟩ := hcs
    exact ⟨[], isKs_nil W, fun _ _ => Nat.zero_le _⟩
  · simp only [List.cons.injEq, and_true, Value.slice.injEq] at hcs
    obtain ⟨rfl, rfl, rfl⟩ := hcs
    have hmc : m = cap := by simpa using hmm
    subst hmc
    rw [cellsBo] at hel
    have each : ∀ i, i < len → ∃ q : Bool, W.cell? (ad.add (i * 1)) = some (.bool q) := by
      intro i hi
      obtain ⟨cs', h1, h2⟩ := hel i (by omega)
      obtain ⟨_, _, hcell⟩ := World.cells?_some h1
      obtain ⟨b, rfl, _⟩ := DataW.trod_bool Try.underlying4 h2
      have e0 := hcell 0 (by omega)
      rw [Deep.add_add] at e0
      exact ⟨b, by simpa using e0⟩
    obtain ⟨q, hq⟩ := Deep.choose_lt each
    refine ⟨(List.range len).map q, ⟨by simp, fun hp => ?_⟩, ?_⟩
    · obtain ⟨b, off, spot⟩ := ad
      have hspot : spot = none := by simpa [Addr.add] using World.cell?_spot (hq 0 hp)
      subst hspot
      refine ⟨b, off, rfl, fun i hi => ?_⟩
      have h0 := hq i hi
      rw [Addr.add_lit, Nat.mul_one] at h0
      rw [h0]
      simp [hi]
    · intro N hN
      have hb : Try.prog.bytesOf 4 = 1 := by kernel_rfl
      rw [hx] at hN
      simp only [DataW.weights, Try.underlying32, hb] at hN
      have := hN _ (List.mem_cons_self ..)
      simp only [List.length_map, List.length_range] at this
      omega

theorem cellsOq : Try.prog.cellsOf 34 = 7 := by kernel_rfl
theorem open_op {H : Type} {enc : TypeId × Value → H} {W : World} {n : Nat} {cs : List Value} {d : DataW H} {pl : List MemPlace} (h : DataW.trod enc Try.prog W 0 (fun _ => true) true n 34 cs = some (d, pl)) (hN : ∀ n ∈ d.weights Try.prog 34, n ≤ 140737488351232) :
    ∃ o : Oq, cs = oqc o ∧ OkQ W W.heap.size o := by
  obtain ⟨xs, k, hk, hxy, hcl, hxl, hf⟩ := DataW.trod_struct Try.underlying34 h
  rw [cellsOq] at hcl
  match xs, hxl, cs, hcl with
  | [y0, y1, y2, y3, y4, y5, y6], _, [v0, v1, v2, v3, v4, v5, v6], _ =>
    have g0 := hf 0 _ rfl
    have g1 := hf 1 _ rfl
    have g2 := hf 2 _ rfl
    have g3 := hf 3 _ rfl
    have g4 := hf 4 _ rfl
    have g5 := hf 5 _ rfl
    have g6 := hf 6 _ rfl
    have c3 : Try.prog.cellsOf 3 = 1 := by kernel_rfl
    have c8 : Try.prog.cellsOf 5 = 1 := by kernel_rfl
    have cs8 : Try.prog.cellsOf 31 = 1 := by kernel_rfl
    have csb : Try.prog.cellsOf 32 = 1 := by kernel_rfl
    simp [c3, c8, cs8, csb] at g0 g1 g2 g3 g4 g5 g6
    obtain ⟨k0, e0, _, _⟩ := DataW.trod_int Try.underlying3 g0
    obtain ⟨k1, e1, _, hw1⟩ := DataW.trod_int Try.underlying3 g1
    obtain ⟨k2, e2, _, hw2⟩ := DataW.trod_int Try.underlying3 g2
    obtain ⟨k3, e3, _, hw3⟩ := DataW.trod_int Try.underlying5 g3
    obtain ⟨k4, e4, _, hw4⟩ := DataW.trod_int Try.underlying5 g4
    simp only [List.cons.injEq, and_true] at e0 e1 e2 e3 e4
    subst e0 e1 e2 e3 e4
    have r1 : -9223372036854775808 ≤ k1 ∧ k1 ≤ 9223372036854775807 := by simpa [Lit.wf, IntKind.min, IntKind.max, IntKind.signed, IntKind.bits] using hw1
    have r2 : -9223372036854775808 ≤ k2 ∧ k2 ≤ 9223372036854775807 := by simpa [Lit.wf, IntKind.min, IntKind.max, IntKind.signed, IntKind.bits] using hw2
    have r3 : 0 ≤ k3 ∧ k3 ≤ 255 := by simpa [Lit.wf, IntKind.min, IntKind.max, IntKind.signed, IntKind.bits] using hw3
    have r4 : 0 ≤ k4 ∧ k4 ≤ 255 := by simpa [Lit.wf, IntKind.min, IntKind.max, IntKind.signed, IntKind.bits] using hw4
    have hu3 : ((UInt8.ofNat k3.toNat).toNat : Int) = k3 := by simp only [UInt8.toNat_ofNat']; omega
    have hu4 : ((UInt8.ofNat k4.toNat).toNat : Int) = k4 := by simp only [UInt8.toNat_ofNat']; omega
    have hd : d = .agg [y0.1, y1.1, y2.1, y3.1, y4.1, y5.1, y6.1] := by have := (Prod.mk.inj hxy).1; simpa using this
    have hw5 : ∀ n ∈ y5.1.weights Try.prog 31, n ≤ 140737488351232 := fun n hn => hN n (by
      rw [hd]
      simp only [DataW.weights, Try.underlying34, DataW.weightsEach, List.map_cons, List.map_nil]
      simp [hn])
    have hw6 : ∀ n ∈ y6.1.weights Try.prog 32, n ≤ 140737488351232 := fun n hn => hN n (by
      rw [hd]
      simp only [DataW.weights, Try.underlying34, DataW.weightsEach, List.map_cons, List.map_nil]
      simp [hn])
    have H5 : ∃ (b : List UInt8) (a : Option Addr) (cap : Nat), v5 = .slice a b.length cap ∧ b.length ≤ 140737488351232 ∧ IsB W a b.length cap b := by
      rcases open_ints Try.underlying31 Try.underlying5 (by kernel_rfl) g5 with ⟨hcs, _⟩ | ⟨x, l, c, zs, hcs, _, hl, hm, hz, hx, hcell, hwz⟩
      · simp only [List.cons.injEq, and_true] at hcs
        exact ⟨[], none, 0, hcs, Nat.zero_le _, isB_none W⟩
      · simp only [List.cons.injEq, and_true] at hcs
        have hz0 : zs.length = c := by simpa using hz
        have hrow : IsRow .u8 W (some x) l c zs := .inr ⟨_, rfl, hl, hm, hz0, hcell, hwz⟩
        obtain ⟨b, hb⟩ := hrow.bytes
        have hlb := hb.len_eq
        subst hlb
        refine ⟨b, some x, c, hcs, ?_, hb⟩
        have hb1 : Try.prog.bytesOf 5 = 1 := by kernel_rfl
        rw [hx] at hw5
        simp only [DataW.weights, Try.underlying31, hb1] at hw5
        have := hw5 _ (List.mem_cons_self ..)
        simp only [lits, List.length_map, List.length_take] at this
        omega
    obtain ⟨b, ra, rc, rfl, hbl, hib⟩ := H5
    have H6 : ∃ (ks : List Bool) (a : Option Addr) (cap : Nat), v6 = .slice a ks.length cap ∧ ks.length ≤ 140737488351232 ∧ IsKs W a ks.length cap ks := by
      have hv6 : ∃ a len cap, v6 = .slice a len cap := by
        rcases Deep.open_slice Try.underlying32 g6 with ⟨hcs, _⟩ | ⟨ad, l, c, m, n, D, Pl, hcs, _⟩
        · simp only [List.cons.injEq, and_true] at hcs; exact ⟨_, _, _, hcs⟩
        · simp only [List.cons.injEq, and_true] at hcs; exact ⟨_, _, _, hcs⟩
      obtain ⟨a, len, cap, rfl⟩ := hv6
      obtain ⟨ks, h1, h2⟩ := open_bools g6
      have hlb := h1.len_eq
      subst hlb
      exact ⟨ks, a, cap, rfl, h2 _ hw6, h1⟩
    obtain ⟨ks, ka, kc, rfl, hkl, hik⟩ := H6
    refine ⟨⟨k0, k1, k2, UInt8.ofNat k3.toNat, UInt8.ofNat k4.toNat, b, ra, rc, ks, ka, kc⟩, ?_, ?_⟩
    · unfold oqc
      simp only [hu3, hu4]
    · exact ⟨fun W' h => hib.below h rfl, fun W' h => hik.below h, hbl, hkl, r1.1, r1.2, r2.1, r2.2⟩

theorem open_ops {H : Type} {enc : TypeId × Value → H} {W : World} {fuel : Nat} {a : Option Addr} {len cap : Nat} {x : DataW H × List MemPlace} (h : DataW.trod enc Try.prog W 0 (fun _ => true) true fuel 22 [.slice a len cap] = some x) (hN : ∀ n ∈ x.1.weights Try.prog 22, n ≤ 140737488351232) :
    ∃ os, IsOs W a len cap os := by
  rcases Deep.open_slice Try.underlying22 h with ⟨hcs, _⟩ | ⟨ad, l, c, m, n, D, Pl, hcs, _, hl, hm, hmm, hx, hel⟩
  · simp only [List.cons.injEq, and_true, Value.slice.injEq] at hcs
    obtain ⟨rfl, rfl, rfl⟩ := hcs
    exact ⟨[], ⟨rfl, fun h => absurd h (Nat.lt_irrefl 0), fun i hi => absurd hi (Nat.not_lt_zero _)⟩⟩
  · simp only [List.cons.injEq, and_true, Value.slice.injEq] at hcs
    obtain ⟨rfl, rfl, rfl⟩ := hcs
    have hmc : m = cap := by simpa using hmm
    subst hmc
    rw [cellsOq] at hel
    have each : ∀ i, i < len → ∃ q : Oq, (∀ j, j < 7 → W.cell? (ad.add (i * 7 + j)) = (oqc q)[j]?) ∧ OkQ W W.heap.size q := by
      intro i hi
      obtain ⟨cs', h1, h2⟩ := hel i (by omega)
      obtain ⟨_, _, hcell⟩ := World.cells?_some h1
      have hbi : ∀ n ∈ (D i).weights Try.prog 34, n ≤ 140737488351232 := fun n hn => hN n (by
        rw [hx]
        simp only [DataW.weights, Try.underlying22]
        exact List.mem_cons_of_mem _ (List.mem_append_left _ (weights_all_mem hn (List.mem_map.2 ⟨i, List.mem_range.2 hi, rfl⟩))))
      obtain ⟨o, rfl, hok⟩ := open_op h2 hbi
      refine ⟨o, fun j hj => ?_, hok⟩
      have e := hcell j (by omega)
      rw [Deep.add_add] at e
      simpa using e
    haveI : Inhabited Oq := ⟨oq0⟩
    obtain ⟨q, hq⟩ := Deep.choose_lt each
    have hn : ∀ i, i < len → ((List.range len).map q).getD i oq0 = q i := fun i hi => by simp [hi]
    refine ⟨(List.range len).map q, ⟨by simp, fun hp => ?_, fun i hi => by rw [hn i hi]; exact (hq i hi).2⟩⟩
    obtain ⟨b, off, spot⟩ := ad
    have h00 : W.cell? (Addr.add ⟨b, off, spot⟩ (0 * 7 + 0)) = some (.int .i64 (q 0).kind) := ((hq 0 hp).1 0 (by omega))
    have hspot : spot = none := by simpa [Addr.add] using World.cell?_spot h00
    subst hspot
    refine ⟨b, off, rfl, cell_lt h00, fun i hi j hj => ?_⟩
    have e := (hq i hi).1 j hj
    rw [Addr.add_lit] at e
    rw [hn i hi, Nat.add_assoc]
    exact e
end Go.Proofs.Ytjmgodlefaadoaa
