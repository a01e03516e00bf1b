/- SpaceNils, over any space that keeps the document. · The program's space keeps the document. · One call of both: Take. · A script of stage 11 in a world. · What the frame tells of a slice of truths. · What the frame tells of a script of stage 11 that came in. -/
import Derived.Test.YtdeoankmmolebaaGreatB41
import Derived.Test.YtdeoankmmolebaaGreatB44
import Derived.Test.YtdeoankmmolebaaGreatB35
import Derived.Deep.SlicePairs
import Derived.OpenShut
namespace Go.Proofs.YtdeoankmmolebaaGreat
open Go.RowKit

/-- what nil ones say -/
structure SpcNil : Prop where
  open_ : ∀ (w : World), Calls Tryz.prog 16 #[.pointer none] w fun e w' => (∃ v, e = .returned (.tuple #[v, .int .i64 2])) ∧ Below w.heap.size w w'
  take : ∀ (w : World), Calls Tryz.prog 26 #[.pointer none] w fun e w' => (∃ v, e = .returned (.tuple #[v, .int .i64 2])) ∧ Below w.heap.size w w'
  read : ∀ (w : World) (i : Int), Calls Tryz.prog 30 #[.pointer none, .int .i64 i] w fun e w' => (∃ v, e = .returned (.tuple #[v, .int .i64 2])) ∧ Below w.heap.size w w'
  give : ∀ (w : World) (i : Int), Calls Tryz.prog 28 #[.pointer none, .int .i64 i] w fun e w' => e = .returned (.int .i64 2) ∧ Below w.heap.size w w'
  write : ∀ (w : World) (i : Int) (ba : Option Addr) (bn bc : Nat), Calls Tryz.prog 31 #[.pointer none, .int .i64 i, .slice ba bn bc] w fun e w' => e = .returned (.int .i64 2) ∧ Below w.heap.size w w'
  commit : ∀ (w : World), Calls Tryz.prog 32 #[.pointer none] w fun e w' => e = .returned (.int .i64 2) ∧ Below w.heap.size w w'
  free : ∀ (w : World), Calls Tryz.prog 19 #[.pointer none] w fun e w' => e = .returned (.int .i64 0) ∧ Below w.heap.size w w'
  left : ∀ (w : World), Calls Tryz.prog 21 #[.pointer none] w fun e w' => e = .returned (.int .i64 0) ∧ Below w.heap.size w w'
set_option maxRecDepth 20000 in
set_option maxHeartbeats 4000000 in
theorem nils11 {JA : World → Nat → Nat → Nat → Jl → Prop} {TA SA : World → Nat → Nat → Nat → Nat → Tl → Jl → Prop} (ok : JrnOK JA TA) (so : SpcOK JA SA) (nl : SpcNil) (i : Int) (ba : Option Addr) (bn bc : Nat) (w : World) :
    Calls Tryz.prog 6 #[.int .i64 i, .slice ba bn bc] w fun e w' => e = .returned (.bool true) ∧ Below w.heap.size w w' := by
  have HAl := lawAlive11 ok so
  clear ok so
  go_enter Tryz.func6, Tryz.ntmps6
  go_wp2_with fail
  refine (nl.open_ _).mono ?_
  rintro e x1 ⟨⟨v1, rfl⟩, hb1⟩
  have HB1 := mkHid hb1
  clear hb1
  go_wp2_with fail
  refine (nl.take _).mono ?_
  rintro e x2 ⟨⟨v2, rfl⟩, hb2⟩
  have HB2 := mkHid (HB1.out.trans (hb2.mono HB1.out.size))
  clear hb2
  go_wp2_with fail
  refine (nl.read _ i).mono ?_
  rintro e x3 ⟨⟨v3, rfl⟩, hb3⟩
  have HB3 := mkHid (HB2.out.trans (hb3.mono HB2.out.size))
  clear hb3
  go_wp2_with fail
  refine (nl.give _ i).mono ?_
  rintro e x4 ⟨rfl, hb4⟩
  have HB4 := mkHid (HB3.out.trans (hb4.mono HB3.out.size))
  clear hb4
  go_wp2_with fail
  refine (nl.write _ i ba bn bc).mono ?_
  rintro e x5 ⟨rfl, hb5⟩
  have HB5 := mkHid (HB4.out.trans (hb5.mono HB4.out.size))
  clear hb5
  go_wp2_with fail
  refine (nl.commit _).mono ?_
  rintro e x6 ⟨rfl, hb6⟩
  have HB6 := mkHid (HB5.out.trans (hb6.mono HB5.out.size))
  clear hb6
  go_wp2_with fail
  refine (nl.free _).mono ?_
  rintro e x7 ⟨rfl, hb7⟩
  have HB7 := mkHid (HB6.out.trans (hb7.mono HB6.out.size))
  clear hb7
  go_wp2_with fail
  refine (nl.left _).mono ?_
  rintro e x8 ⟨rfl, hb8⟩
  have HB8 := mkHid (HB7.out.trans (hb8.mono HB7.out.size))
  clear hb8
  go_wp2_with fail
  refine (HAl _).mono ?_
  rintro e x9 ⟨rfl, hb9⟩
  have HB9 := mkHid (HB8.out.trans (hb9.mono HB8.out.size))
  clear HAl hb9
  go_wp2_with fail
  go_ret
  exact ⟨rfl, HB9.out⟩
end Go.Proofs.YtdeoankmmolebaaGreat
namespace Go.Proofs.YtdeoankmmolebaaGreat
open Go.RowKit

theorem spcOK : SpcOK JAt SpAx where
  toJ := fun ⟨_, _, _, h⟩ => jrnOK.toJ h.ta
  keep := fun h hk => h.keep hk
  open_ := codOpen
  take := codTake
  give := codGive
  read := codSRead
  write := codSWrite
  free := codFree
  left := codSLeft
  commit := codSCommit
  taken := fun w a len cap l i h _ h0 h1 => (codTaken a len cap l i w h h0 h1).mono fun _ _ ⟨he, m, hm⟩ => ⟨he, by rw [hm]; exact bel_drewN (Below.refl _ _) m⟩
  count := fun w a len cap l n h hl h0 h1 => (codSCount a len cap l n w h hl h0 h1).mono fun _ _ ⟨he, hm⟩ => ⟨he, by rw [hm]; exact Below.refl _ _⟩
theorem nilOpen (w : World) : Calls Tryz.prog 16 #[.pointer none] w fun e w' => (∃ v, e = .returned (.tuple #[v, .int .i64 2])) ∧ Below w.heap.size w w' := by
  go_enter Tryz.func16, Tryz.ntmps16
  go_wp2_with fail
  go_ret2
  exact ⟨⟨_, rfl⟩, Below.refl _ _⟩
theorem nilTake (w : World) : Calls Tryz.prog 26 #[.pointer none] w fun e w' => (∃ v, e = .returned (.tuple #[v, .int .i64 2])) ∧ Below w.heap.size w w' := by
  go_enter Tryz.func26, Tryz.ntmps26
  go_wp2_with fail
  go_ret2
  exact ⟨⟨_, rfl⟩, Below.refl _ _⟩
theorem nilSRead (w : World) (i : Int) : Calls Tryz.prog 30 #[.pointer none, .int .i64 i] w fun e w' => (∃ v, e = .returned (.tuple #[v, .int .i64 2])) ∧ Below w.heap.size w w' := by
  go_enter Tryz.func30, Tryz.ntmps30
  go_wp2_with fail
  go_ret2
  exact ⟨⟨_, rfl⟩, Below.refl _ _⟩
theorem nilGive (w : World) (i : Int) : Calls Tryz.prog 28 #[.pointer none, .int .i64 i] w fun e w' => e = .returned (.int .i64 2) ∧ Below w.heap.size w w' := by
  go_enter Tryz.func28, Tryz.ntmps28
  go_wp2_with fail
  go_ret
  exact ⟨rfl, Below.refl _ _⟩
theorem nilSWrite (w : World) (i : Int) (ba : Option Addr) (bn bc : Nat) : Calls Tryz.prog 31 #[.pointer none, .int .i64 i, .slice ba bn bc] w fun e w' => e = .returned (.int .i64 2) ∧ Below w.heap.size w w' := by
  go_enter Tryz.func31, Tryz.ntmps31
  go_wp2_with fail
  go_ret
  exact ⟨rfl, Below.refl _ _⟩
theorem nilSCommit (w : World) : Calls Tryz.prog 32 #[.pointer none] w fun e w' => e = .returned (.int .i64 2) ∧ Below w.heap.size w w' := by
  go_enter Tryz.func32, Tryz.ntmps32
  go_wp2_with fail
  go_ret
  exact ⟨rfl, Below.refl _ _⟩
theorem nilFree (w : World) : Calls Tryz.prog 19 #[.pointer none] w fun e w' => e = .returned (.int .i64 0) ∧ Below w.heap.size w w' := by
  go_enter Tryz.func19, Tryz.ntmps19
  go_wp2_with fail
  go_ret
  exact ⟨rfl, Below.refl _ _⟩
theorem nilLeft (w : World) : Calls Tryz.prog 21 #[.pointer none] w fun e w' => e = .returned (.int .i64 0) ∧ Below w.heap.size w w' := by
  go_enter Tryz.func21, Tryz.ntmps21
  go_wp2_with fail
  go_ret
  exact ⟨rfl, Below.refl _ _⟩
theorem spcNil : SpcNil where
  open_ := nilOpen
  take := nilTake
  read := nilSRead
  give := nilGive
  write := nilSWrite
  commit := nilSCommit
  free := nilFree
  left := nilLeft
end Go.Proofs.YtdeoankmmolebaaGreat
namespace Go.Proofs.YtdeoankmmolebaaGreat
open Go.RowKit

/-- a script's call -/
structure Sq where
  kind : Int
  at_ : Int
  by_ : UInt8
def sqc (o : Sq) : List Value := [.int .i64 o.kind, .int .i64 o.at_, .int .u8 (o.by_.toNat : Int)]
structure Both11 (SA : World → Nat → Nat → Nat → Nat → Tl → Jl → Prop) (w : World) (S R U J K P D base m : Nat) (t : Tl) (j : Jl) : Prop where
  sa : SA w S J P base t j
  rs : RefS w R U K D base m t j
  fit : Fit t j m
theorem Both11.on {JA : World → Nat → Nat → Nat → Jl → Prop} {SA : World → Nat → Nat → Nat → Nat → Tl → Jl → Prop} (so : SpcOK JA SA) {w w' : World} {S R U J K P D base m : Nat} {t : Tl} {j : Jl} (h : Both11 SA w S R U J K P D base m t j) (hb : Below w.heap.size w w') : Both11 SA w' S R U J K P D base m t j := ⟨so.keep h.sa (KeepT.of_below hb), h.rs.on hb, h.fit⟩
theorem KQ.ofK {base : Nat} {w w' : World} (h : KC base w w') : KQ base w w' := KQ.ofC h.t h.b
theorem box11 (w : World) (o : Sq) : Below w.heap.size w (w.alloc (.cells (sqc o).toArray 47)) := (Below.refl _ w).alloc (Nat.le_refl _) _
set_option maxRecDepth 20000 in
set_option maxHeartbeats 4000000 in
theorem step11_take {JA : World → Nat → Nat → Nat → Jl → Prop} {SA : World → Nat → Nat → Nat → Nat → Tl → Jl → Prop} (so : SpcOK JA SA) (o : Sq) (S R U J K P D base m : Nat) (t : Tl) (j : Jl) (w : World) (h : Both11 SA w S R U J K P D base m t j) (hkind : o.kind = 1) :
    Calls Tryz.prog 18 #[.pointer (some ⟨S, 0, none⟩), .pointer (some ⟨R, 0, none⟩), .agg (sqc o).toArray] w fun e w' => e = .returned (.bool true) ∧ Hid (Both11 SA w' S R U J K P D base m (tkT t j) j) ∧ Hid (KQ base w w') := by
  obtain ⟨kind, at', by'⟩ := o
  change kind = 1 at hkind
  subst hkind
  have HB := mkHid (box11 w ⟨1, at', by'⟩)
  have h1 := h.on so HB.out
  have HF := mkHid h.fit
  have H1 := so.take _ S J P base m t j h1.sa h.fit
  have HR := mkHid h1.rs
  have H2 := fun W (hW : RefS W R U K D base m t j) => refTake11 hW (Nat.le_trans HF.out.m (by omega)) HF.out.good.off
  have HK0 := mkHid (KQ.of_below HB.out h.rs.lo)
  have HT := mkHid h.fit.take
  generalize tkV t j = A at *
  generalize tkE t j = E at *
  generalize tkT t j = T1 at *
  have c0 : (w.alloc (.cells (sqc ⟨1, at', by'⟩).toArray 47)).cell? ⟨w.heap.size, 0, none⟩ = some (.int .i64 1) := (Blk.new w _ (sqc _)).cell 0
  clear h h1
  simp only [sqc] at *
  go_enter Tryz.func18, Tryz.ntmps18
  go_wp2_with fail
  refine H1.mono ?_
  rintro e w1 ⟨rfl, hS1, hK1⟩
  have HR1 := mkHid (HR.out.keepS hK1)
  have HK1 := mkHid (HK0.out.trans (KQ.ofS hK1))
  have HS1 := mkHid hS1
  clear hS1 hK1 H1
  go_wp2_with fail
  refine (H2 _ HR1.out).mono ?_
  rintro e w2 ⟨rfl, hR2, hK2⟩
  have HS2 := mkHid (so.keep HS1.out hK2.out.t)
  have HK2 := mkHid (HK1.out.trans (KQ.ofK hK2.out))
  clear H2
  go_wp2_with fail
  go_ret
  exact ⟨rfl, ⟨HS2.out, hR2.out, HT.out⟩, HK2⟩
end Go.Proofs.YtdeoankmmolebaaGreat
namespace Go.Proofs.YtdeoankmmolebaaGreat
open Go.RowKit

def sq0 : Sq := ⟨0, 0, 0⟩
structure OkS (o : Sq) : Prop where
  kind0 : -9223372036854775808 ≤ o.kind
  kind1 : o.kind ≤ 9223372036854775807
  at0 : -9223372036854775808 ≤ o.at_
  at1 : o.at_ ≤ 9223372036854775807
structure IsSs (w : World) (a : Option Addr) (len cap : Nat) (os : List Sq) : Prop where
  len_eq : os.length = len
  max : len ≤ 140737488351232
  cells : 0 < len → ∃ b off, a = some ⟨b, off, none⟩ ∧ b < w.heap.size ∧ ∀ i, i < len → ∀ j, j < 3 → w.cell? ⟨b, off + i * 3 + j, none⟩ = (sqc (os.getD i sq0))[j]?
  ok : ∀ i, i < len → OkS (os.getD i sq0)
end Go.Proofs.YtdeoankmmolebaaGreat
namespace Go.Proofs.YtdeoankmmolebaaGreat
open Go.ChangeShapes Go.WideShapes

theorem weights_all_mem {H : Type} {P : Program} {e : TypeId} {d : DataW H} {n : Nat} (hn : n ∈ d.weights P e) : ∀ {l : List (DataW H)}, d ∈ l → n ∈ DataW.weightsAll P e l
  | [], h => by cases h
  | x :: l, h => by
    simp only [DataW.weightsAll]
    rcases List.mem_cons.1 h with rfl | h
    · exact List.mem_append_left _ hn
    · exact List.mem_append_right _ (weights_all_mem hn h)
theorem IsKs.below {w w' : World} {a : Option Addr} {n cap : Nat} {l : List Bool} (h : IsKs w a n cap l) (hb : Go.RowKit.Below w.heap.size w w') : IsKs w' a n cap l :=
  ⟨h.len_eq, fun hp => by
    obtain ⟨b, off, e, hc⟩ := h.cells hp
    refine ⟨b, off, e, fun i hi => ?_⟩
    rw [← hc i hi]
    exact hb.cell (cell_lt (hc i hi))⟩

theorem cellsBo : Tryz.prog.cellsOf 4 = 1 := by kernel_rfl
theorem open_bytes {H : Type} {enc : TypeId × Value → H} {W : World} {fuel : Nat} {a : Option Addr} {len cap : Nat} {x : DataW H × List MemPlace} (h : DataW.trod enc Tryz.prog W 0 (fun _ => true) true fuel 22 [.slice a len cap] = some x) :
    ∃ b, IsB W a len cap b ∧ ∀ N, (∀ n ∈ x.1.weights Tryz.prog 22, n ≤ N) → len ≤ N := by
  rcases open_ints Tryz.underlying22 Tryz.underlying5 (by kernel_rfl) h with ⟨hcs, _⟩ | ⟨y, l, c, zs, hcs, _, hl, hm, hz, hx, hcell, hwz⟩
  · simp only [List.cons.injEq, and_true, Value.slice.injEq] at hcs
    obtain ⟨rfl, rfl, rfl⟩ := hcs
    exact ⟨[], isB_none W, fun _ _ => Nat.zero_le _⟩
  · simp only [List.cons.injEq, and_true, Value.slice.injEq] at hcs
    obtain ⟨rfl, rfl, rfl⟩ := hcs
    have hz0 : zs.length = cap := by simpa using hz
    have hrow : IsRow .u8 W (some y) len cap zs := .inr ⟨_, rfl, hl, hm, hz0, hcell, hwz⟩
    obtain ⟨b, hb⟩ := hrow.bytes
    refine ⟨b, hb, fun N hN => ?_⟩
    have hb1 : Tryz.prog.bytesOf 5 = 1 := by kernel_rfl
    rw [hx] at hN
    simp only [DataW.weights, Tryz.underlying22, hb1] at hN
    have := hN _ (List.mem_cons_self ..)
    simp only [lits, List.length_map, List.length_take] at this
    omega
end Go.Proofs.YtdeoankmmolebaaGreat
namespace Go.Proofs.YtdeoankmmolebaaGreat
open Go.ChangeShapes Go.WideShapes

theorem cellsSq : Tryz.prog.cellsOf 47 = 3 := by kernel_rfl
set_option maxRecDepth 20000 in
theorem open_sq {H : Type} {enc : TypeId × Value → H} {W : World} {n : Nat} {cs : List Value} {x : DataW H × List MemPlace} (h : DataW.trod enc Tryz.prog W 0 (fun _ => true) true n 47 cs = some x) :
    ∃ q : Sq, cs = sqc q ∧ OkS q := by
  obtain ⟨xs, k, hk, hxy, hcl, hxl, hf⟩ := DataW.trod_struct Tryz.underlying47 h
  rw [cellsSq] at hcl
  match xs, hxl, cs, hcl with
  | [y0, y1, y2], _, [v0, v1, v2], _ =>
    have g0 := hf 0 _ rfl
    have g1 := hf 1 _ rfl
    have g2 := hf 2 _ rfl
    have c3 : Tryz.prog.cellsOf 3 = 1 := by kernel_rfl
    have c8 : Tryz.prog.cellsOf 5 = 1 := by kernel_rfl
    simp [c3, c8] at g0 g1 g2
    obtain ⟨k0, e0, _, hw0⟩ := DataW.trod_int Tryz.underlying3 g0
    obtain ⟨k1, e1, _, hw1⟩ := DataW.trod_int Tryz.underlying3 g1
    obtain ⟨k2, e2, _, hw2⟩ := DataW.trod_int Tryz.underlying5 g2
    simp only [List.cons.injEq, and_true] at e0 e1 e2
    subst e0 e1 e2
    have r0 : -9223372036854775808 ≤ k0 ∧ k0 ≤ 9223372036854775807 := by simpa [Lit.wf, IntKind.min, IntKind.max, IntKind.signed, IntKind.bits] using hw0
    have r1 : -9223372036854775808 ≤ k1 ∧ k1 ≤ 9223372036854775807 := by simpa [Lit.wf, IntKind.min, IntKind.max, IntKind.signed, IntKind.bits] using hw1
    have r2 : 0 ≤ k2 ∧ k2 ≤ 255 := by simpa [Lit.wf, IntKind.min, IntKind.max, IntKind.signed, IntKind.bits] using hw2
    have hu2 : ((UInt8.ofNat k2.toNat).toNat : Int) = k2 := by simp only [UInt8.toNat_ofNat']; omega
    refine ⟨⟨k0, k1, UInt8.ofNat k2.toNat⟩, ?_, r0.1, r0.2, r1.1, r1.2⟩
    unfold sqc
    simp only [hu2]
theorem open_ss {H : Type} {enc : TypeId × Value → H} {W : World} {fuel : Nat} {a : Option Addr} {len cap : Nat} {x : DataW H × List MemPlace} (h : DataW.trod enc Tryz.prog W 0 (fun _ => true) true fuel 27 [.slice a len cap] = some x) (hN : ∀ n ∈ x.1.weights Tryz.prog 27, n ≤ 140737488351232) :
    ∃ os, IsSs W a len cap os := by
  rcases Deep.open_slice Tryz.underlying27 h with ⟨hcs, _⟩ | ⟨ad, l, c, m, n, D, Pl, hcs, _, hl, hm, hmm, hx, hel⟩
  · simp only [List.cons.injEq, and_true, Value.slice.injEq] at hcs
    obtain ⟨rfl, rfl, rfl⟩ := hcs
    exact ⟨[], rfl, Nat.zero_le _, fun h => absurd h (Nat.lt_irrefl 0), fun i hi => absurd hi (Nat.not_lt_zero _)⟩
  · simp only [List.cons.injEq, and_true, Value.slice.injEq] at hcs
    obtain ⟨rfl, rfl, rfl⟩ := hcs
    have hmc : m = cap := by simpa using hmm
    subst hmc
    rw [cellsSq] at hel
    have each : ∀ i, i < len → ∃ q : Sq, (∀ j, j < 3 → W.cell? (ad.add (i * 3 + j)) = (sqc q)[j]?) ∧ OkS q := by
      intro i hi
      obtain ⟨cs', h1, h2⟩ := hel i (by omega)
      obtain ⟨_, _, hcell⟩ := World.cells?_some h1
      obtain ⟨o, rfl, hok⟩ := open_sq h2
      refine ⟨o, fun j hj => ?_, hok⟩
      have e := hcell j (by omega)
      rw [Deep.add_add] at e
      simpa using e
    haveI : Inhabited Sq := ⟨sq0⟩
    obtain ⟨q, hq⟩ := Deep.choose_lt each
    have hn : ∀ i, i < len → ((List.range len).map q).getD i sq0 = q i := fun i hi => by simp [hi]
    refine ⟨(List.range len).map q, by simp, ?_, fun hp => ?_, fun i hi => by rw [hn i hi]; exact (hq i hi).2⟩
    rotate_left
    · obtain ⟨b, off, spot⟩ := ad
      have h00 : W.cell? (Addr.add ⟨b, off, spot⟩ (0 * 3 + 0)) = some (.int .i64 (q 0).kind) := ((hq 0 hp).1 0 (by omega))
      have hspot : spot = none := by simpa [Addr.add] using World.cell?_spot h00
      subst hspot
      refine ⟨b, off, rfl, cell_lt h00, fun i hi j hj => ?_⟩
      have e := (hq i hi).1 j hj
      rw [Addr.add_lit] at e
      rw [hn i hi, Nat.add_assoc]
      exact e
    · have hb1 : 1 ≤ Tryz.prog.bytesOf 47 := of_decide_eq_true (by kernel_rfl)
      rw [hx] at hN
      simp only [DataW.weights, Tryz.underlying27] at hN
      have := hN _ (List.mem_cons_self ..)
      simp only [List.length_map, List.length_range] at this
      have h5 : len * 1 ≤ (len + (m - len)) * Tryz.prog.bytesOf 47 := Nat.mul_le_mul (by omega) hb1
      omega
end Go.Proofs.YtdeoankmmolebaaGreat
