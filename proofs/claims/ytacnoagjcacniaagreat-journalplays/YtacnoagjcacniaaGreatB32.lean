/- The program's journal: what it tells of itself; a journal's Read. · The program's transaction: Read. -/
import Derived.Test.YtacnoagjcacniaaGreatB31
namespace Go.Proofs.YtacnoagjcacniaaGreat
open Go.RowKit Go.Maps

set_option maxRecDepth 20000 in
theorem codInArea (i : Int) (n : Nat) (w : World) :
    Calls Tryz.prog 37 #[.int .i64 i, .int .i64 (n : Int)] w fun e w' => e = .returned (.bool (areaI n i)) ∧ w' = w := by
  by_cases h0 : 49 ≤ i
  · have d0 : decide (49 ≤ i) = true := decide_eq_true h0
    have HV : Hid (decide (i < (n : Int)) = areaI n i) := by
      unfold Hid areaI; congr 1; exact propext ⟨fun h => ⟨h0, h⟩, fun h => h.2⟩
    go_enter Tryz.func37, Tryz.ntmps37
    go_wp2
    go_ret
    exact ⟨ret_b (by first | rfl | exact HV.out), rfl⟩
  · have d0 : decide (49 ≤ i) = false := decide_eq_false h0
    have h0' : i < 49 := by omega
    have HV : Hid (false = areaI n i) := by unfold Hid areaI; exact (decide_eq_false (fun h => h0 h.1)).symm
    go_enter Tryz.func37, Tryz.ntmps37
    go_wp2
    go_ret
    exact ⟨ret_b (by first | rfl | exact HV.out), rfl⟩
theorem codSeq (w : World) (J P base : Nat) (j : Jl) (h : JAt w J P base j) :
    Calls Tryz.prog 24 #[.pointer (some ⟨J, 0, none⟩)] w fun e w' => e = .returned (.int .u64 (j.seq : Int)) ∧ w' = w := by
  have c1 : w.cell? ⟨J, 1, none⟩ = some (.int .u64 (j.seq : Int)) := h.blk.cell 1
  clear h
  generalize j.seq = s at *
  go_enter Tryz.func24, Tryz.ntmps24
  go_wp2_with fail
  go_ret
  exact ⟨rfl, rfl⟩
theorem codJSize (w : World) (J P base : Nat) (j : Jl) (h : JAt w J P base j) :
    Calls Tryz.prog 34 #[.pointer (some ⟨J, 0, none⟩)] w fun e w' => e = .returned (.int .i64 (j.p.n : Int)) ∧ w' = w := by
  have c0 : w.cell? ⟨J, 0, none⟩ = some (.pointer (some ⟨P, 0, none⟩)) := h.blk.cell 0
  have HS : Calls Tryz.prog 50 #[.pointer (some ⟨P, 0, none⟩)] w fun e w' => e = .returned (.int .i64 (j.p.n : Int)) ∧ w' = w := by
    obtain ⟨S, vC, arm, h⟩ := h.d
    exact codSize P S j.p.n w (h.blk.cell 0)
  clear h
  generalize j.p.n = n at *
  go_enter Tryz.func34, Tryz.ntmps34
  go_wp2_with fail
  refine HS.mono ?_
  rintro e w1 ⟨rfl, rfl⟩
  go_wp2_with fail
  go_ret
  exact ⟨rfl, rfl⟩
theorem mkMap (t : TypeId) (w : World) : (Instr.makeMap t none).run Tryz.prog w = .ok (.map (some w.heap.size)) (w.alloc (.map #[] 0)) := rfl
theorem codBegin (w : World) (J P base : Nat) (j : Jl) (h : JAt w J P base j) (hbs : base ≤ w.heap.size) :
    Calls Tryz.prog 14 #[.pointer (some ⟨J, 0, none⟩)] w fun e w' => (∃ T M, e = .returned (.pointer (some ⟨T, 0, none⟩)) ∧ TAt w' T J P base ⟨[], false⟩ j M false) ∧ Below w.heap.size w w' := by
  have HJ := mkHid h
  clear h
  have hb : Tryz.prog.built 93 [(0, .pointer (some ⟨J, 0, none⟩)), (1, .map (some w.heap.size))] = some #[.pointer (some ⟨J, 0, none⟩), .map (some w.heap.size), .int .u32 0, .int .i32 0, .int .u32 0, .bool false] := by kernel_rfl
  have hM : Hid (OwnM (w.alloc (.map #[] 0)) w.heap.size []) := World.ownsMap_made w Tryz.prog 3 secR
  have hb1 : Hid (Below w.heap.size w (w.alloc (.map #[] 0))) := (Below.refl _ w).alloc (Nat.le_refl _) _
  have hmk := mkMap 84 w
  go_enter Tryz.func14, Tryz.ntmps14
  go_wp2_with fail
  go_ret
  have hb2 := hb1.out.alloc hb1.out.size (.cells #[.pointer (some ⟨J, 0, none⟩), .map (some w.heap.size), .int .u32 0, .int .i32 0, .int .u32 0, .bool false] 93)
  refine ⟨⟨_, w.heap.size, rfl, HJ.out.on hb2, Blk.newAt _ _ _ _ _ (by simp) rfl, Nat.le_succ_of_le hbs, hbs, ownM_on hM.out ((Below.refl _ _).alloc (Nat.le_refl _) _), List.Pairwise.nil, fun g hg => (by cases hg), fun _ => rfl⟩, hb2⟩
theorem codLen (w : World) (T J P base : Nat) (t : Tl) (j : Jl) (M : Nat) (tr : Bool) (h : TAt w T J P base t j M tr) :
    Calls Tryz.prog 18 #[.pointer (some ⟨T, 0, none⟩)] w fun e w' => e = .returned (.int .i64 (t.l.length : Int)) ∧ w' = w := by
  have c1 : w.cell? ⟨T, 1, none⟩ = some (.map (some M)) := h.blk.cell 1
  have hl : (Builtin.len_ #[84] 3 #[.map (some M)]).run Tryz.prog w = .ok (.int .i64 (t.l.length : Int)) w := by
    have := h.own.len Tryz.underlying84 3
    rwa [mapD_size] at this
  clear h
  generalize t.l.length = n at *
  go_enter Tryz.func18, Tryz.ntmps18
  go_wp2_with fail
  go_ret
  exact ⟨rfl, rfl⟩
/-- heed of no error -/
theorem codHeed0 (J : Nat) (w : World) : Calls Tryz.prog 57 #[.pointer (some ⟨J, 0, none⟩), .int .i64 0] w fun e w' => (∃ x, e = .returned x) ∧ w' = w := by
  go_enter Tryz.func57, Tryz.ntmps57
  go_wp2_with fail
  go_end0
  exact ⟨⟨_, rfl⟩, rfl⟩
/-- heed of an error -/
theorem codHeed (w : World) (J P base : Nat) (j : Jl) (z : Int) (hz : ¬ z = 0) (h : JAt w J P base j) :
    Calls Tryz.prog 57 #[.pointer (some ⟨J, 0, none⟩), .int .i64 z] w fun e w' => (∃ x, e = .returned x) ∧ w' = w.drew.setCell ⟨J, 2, none⟩ (.int .u32 1) := by
  have c2 : w.cell? ⟨J, 2, none⟩ = some (.int .u32 (flag j.dead)) := h.blk.cell 2
  have HS := atStoreAt J 2 true _ w c2 (h.blk.frozen 2)
  clear h
  go_enter Tryz.func57, Tryz.ntmps57
  go_wp2_with fail
  refine HS.mono ?_
  rintro e w1 ⟨rfl, rfl⟩
  go_wp2_with fail
  go_end0
  exact ⟨⟨_, rfl⟩, rfl⟩
theorem jrd {j : Jl} {i : Int} (ho : j.p.off = false) (ha : areaI j.p.n i = true) : jrE j.p i = 0 ∧ j.p.rdE i = 0 ∧ jrB j.p i = j.p.rdB i := by
  have hin : inR j.p.n i = true := by
    unfold areaI at ha
    have := of_decide_eq_true ha
    exact decide_eq_true ⟨by omega, this.2⟩
  have h1 : j.p.rdE i = 0 := by unfold Pl.rdE Pl.stE; simp [ho, hin]
  refine ⟨?_, h1, ?_⟩
  · unfold jrE; rw [ha]; simpa using h1
  · unfold jrB; rw [ha]; rfl
set_option maxRecDepth 20000 in
theorem codJRead (w : World) (J P base : Nat) (j : Jl) (i : Int) (h : JAt w J P base j) (hf : FewP j.p) (ho : j.p.off = false) :
    Calls Tryz.prog 33 #[.pointer (some ⟨J, 0, none⟩), .int .i64 i] w fun e w' => (∃ v, e = .returned (.tuple #[v, .int .i64 (jrE j.p i)]) ∧ IsV w' v (jrB j.p i)) ∧ Below w.heap.size w w' := by
  have HZ := codJSize w J P base j h
  have HA := codInArea i j.p.n w
  have c0 : w.cell? ⟨J, 0, none⟩ = some (.pointer (some ⟨P, 0, none⟩)) := h.blk.cell 0
  have HR := codRead (fun _ => False) P base j.p i w h.d hf
  have HJ := mkHid h
  clear h
  cases ha : areaI j.p.n i with
  | false =>
    have HE : Hid (jrE j.p i = 50 ∧ jrB j.p i = []) := by unfold Hid jrE jrB; simp [ha]
    rw [ha] at HA
    clear HR ha
    generalize j.p.n = n at *
    go_enter Tryz.func33, Tryz.ntmps33
    go_wp2_with fail
    refine HZ.mono ?_
    rintro e w1 ⟨rfl, rfl⟩
    go_wp2_with fail
    refine HA.mono ?_
    rintro e w2 ⟨rfl, hw2⟩
    obtain rfl := hw2.symm
    go_wp2_with fail
    go_ret2
    refine ⟨⟨.slice none 0 0, ret_v4 rfl HE.out.1.symm, ?_⟩, Below.refl _ _⟩
    rw [HE.out.2]; exact ⟨none, 0, rfl, isB_none _⟩
  | true =>
    obtain ⟨h1, h2, h3⟩ := jrd ho ha
    rw [ha] at HA
    rw [h2] at HR
    have HE := mkHid (And.intro h1 h3)
    have HH := codHeed0 J
    clear h1 h2 h3 ha
    generalize j.p.n = n at *
    generalize j.p.rdB i = bb at *
    go_enter Tryz.func33, Tryz.ntmps33
    go_wp2_with fail
    refine HZ.mono ?_
    rintro e w1 ⟨rfl, rfl⟩
    go_wp2_with fail
    refine HA.mono ?_
    rintro e w2 ⟨rfl, hw2⟩
    obtain rfl := hw2.symm
    go_wp2_with fail
    refine HR.mono ?_
    rintro e w3 ⟨⟨a, c, rfl, hB, _⟩, hb3⟩
    have HB := mkHid hB
    clear hB
    go_wp2_with fail
    refine (HH w3).mono ?_
    rintro e w4 ⟨⟨y, rfl⟩, rfl⟩
    go_wp2_with fail
    go_ret2
    exact ⟨⟨.slice a bb.length c, ret_v4 rfl HE.out.1.symm, by rw [HE.out.2]; exact ⟨a, c, rfl, HB.out⟩⟩, hb3⟩
end Go.Proofs.YtacnoagjcacniaaGreat
namespace Go.Proofs.YtacnoagjcacniaaGreat
open Go.RowKit Go.Maps

theorem zeroJ : (Tryz.prog.info? 98).map (·.zero) = some (some (.agg zSec.toArray)) := by kernel_rfl
theorem zvJ (w : World) : (zeroValue 98).run Tryz.prog w = .ok (.agg zSec.toArray) w := by
  have h := zeroJ
  cases hq : Tryz.prog.info? 98 with
  | none => rw [hq] at h; cases h
  | some i =>
    rw [hq] at h
    have hz : i.zero = some (.agg zSec.toArray) := by simpa using h
    simp [zeroValue, typeInfo, hq, hz]
theorem infoJ : (Tryz.prog.info? 98).map (·.size) = some 512 := by kernel_rfl
theorem infoJOf {b : List UInt8} (h : b.length = 512) : (Tryz.prog.info? 98).map (·.size) = some (bv b).length := by rw [bv_length, h]; exact infoJ
theorem infoJOf' {b : List UInt8} (h : b.length = 512) : (Tryz.prog.info? 98).map (·.size) = some (bv b).toArray.size := by rw [List.size_toArray]; exact infoJOf h
/-- all of an array of bytes -/
theorem slJ (G : Nat) (w : World) : (Instr.sliceAt 98 (.pointer (some ⟨G, 0, none⟩)) none none none).run Tryz.prog w = .ok (.slice (some ⟨G, 0, none⟩) 512 512) w := by
  have he : Tryz.prog.elem 98 = 5 := by kernel_rfl
  have hn : Tryz.prog.arrayLen 98 = 512 := by kernel_rfl
  have hz : (sizeOf 5).run Tryz.prog w = .ok 1 w := by
    obtain ⟨i0, hi, hz0, hz1, hz2⟩ := info_parts info8
    simp [sizeOf, typeInfo, hi, hz1]
  rw [run_sliceAt_array_all w 98 ⟨G, 0, none⟩ (by rw [he, hn]; exact Tryz.underlying98), he, hn, hz]
  simp only [Result.andThen, slicedAt, Nat.zero_mul, Addr.add_lit]
  rfl
theorem arrJ (a : Option Addr) (c : Nat) (w : World) : (Instr.arrayAt 98 (.slice a 512 c)).run Tryz.prog w = .ok (.pointer a) w := by
  simp [Instr.arrayAt, run_underlying Tryz.underlying98]
theorem keyI {i : Int} (h0 : -9223372036854775808 ≤ i) (h1 : i ≤ 9223372036854775807) : keyOf Tryz.prog 3 (.int .i64 i) = some (.int .i64 i) := by
  refine Maps.keyOf_int_mk Tryz.underlying3 ?_
  simp [Lit.wf, IntKind.min, IntKind.max, IntKind.signed, IntKind.bits]
  omega
theorem lookOk {w : World} {M : Nat} {l : Qs} (h : OwnM w M l) {i : Int} (h0 : -9223372036854775808 ≤ i) (h1 : i ≤ 9223372036854775807) :
    (Instr.lookup 84 (.map (some M)) (.int .i64 i) true).run Tryz.prog w = .ok (.tuple #[(Tl.find l i).elim (.agg zSec.toArray) secV, .bool (Tl.find l i).isSome]) w := by
  obtain ⟨v, ps, hr, hv⟩ := h.look_ok (Maps.int_keyed Tryz.underlying3) Tryz.underlying84 (zvJ w) (zd := .held (.agg zSec.toArray)) (zp := []) rfl (keyI h0 h1)
  rw [mapD_at, mapD_has] at *
  have hv2 : (DataW.held v : DataW Value) = .held ((Tl.find l i).elim (.agg zSec.toArray) secV) := congrArg Prod.fst (Option.some.inj hv)
  have hv2 := DataW.held.inj hv2
  rw [hr, hv2]
theorem look1 {w : World} {M : Nat} {l : Qs} (h : OwnM w M l) {i : Int} (h0 : -9223372036854775808 ≤ i) (h1 : i ≤ 9223372036854775807) :
    (Instr.lookup 84 (.map (some M)) (.int .i64 i) false).run Tryz.prog w = .ok ((Tl.find l i).elim (.agg zSec.toArray) secV) w := by
  obtain ⟨v, ps, hr, hv⟩ := h.lookup (Maps.int_keyed Tryz.underlying3) Tryz.underlying84 (zvJ w) (zd := .held (.agg zSec.toArray)) (zp := []) rfl (keyI h0 h1)
  rw [mapD_at] at *
  have hv2 : (DataW.held v : DataW Value) = .held ((Tl.find l i).elim (.agg zSec.toArray) secV) := congrArg Prod.fst (Option.some.inj hv)
  have hv2 := DataW.held.inj hv2
  rw [hr, hv2]
theorem zAll : zSec.toArray.all (·.oneCell') = true := by unfold zSec; exact bvAll9 _
theorem zInfo : (Tryz.prog.info? 98).map (·.size) = some zSec.toArray.size := by rw [List.size_toArray, zSec_length]; exact infoJ
theorem find_len {l : Qs} {i : Int} {b : List UInt8} (h : Tl.find l i = some b) (hl : ∀ g ∈ l, g.2.length = 512 ∧ 49 ≤ g.1 ∧ g.1 < 4096) : b.length = 512 := by
  unfold Tl.find at h
  obtain ⟨g, hg, rfl⟩ := Option.map_eq_some_iff.1 h
  exact (hl g (List.mem_of_find?_eq_some hg)).1
attribute [local go_sem ↓] zvJ slJ

set_option maxRecDepth 20000 in
set_option maxHeartbeats 1000000 in
theorem codTRead (w : World) (T J P base : Nat) (t : Tl) (j : Jl) (M : Nat) (tr : Bool) (i : Int) (h : TAt w T J P base t j M tr) (hf : FewP j.p) (ho : j.p.off = false) (h0 : -9223372036854775808 ≤ i) (h1 : i ≤ 9223372036854775807) :
    Calls Tryz.prog 19 #[.pointer (some ⟨T, 0, none⟩), .int .i64 i] w fun e w' => (∃ v, e = .returned (.tuple #[v, .int .i64 (t.rdE j i)]) ∧ IsV w' v (t.rdB j i)) ∧ Below w.heap.size w w' := by
  have c0 : w.cell? ⟨T, 0, none⟩ = some (.pointer (some ⟨J, 0, none⟩)) := h.blk.cell 0
  have c1 : w.cell? ⟨T, 1, none⟩ = some (.map (some M)) := h.blk.cell 1
  have hlk := lookOk h.own h0 h1
  have HT := mkHid h
  clear h
  have HD0 : Hid (Below w.heap.size w (w.alloc (.cells zSec.toArray 98))) := (Below.refl _ w).alloc (Nat.le_refl _) _
  have HR : Hid (Blk (w.alloc (.cells zSec.toArray 98)) w.heap.size 98 zSec) := Blk.new w _ _
  cases hfd : Tl.find t.l i with
  | none =>
    have HE : Hid (t.rdE j i = jrE j.p i ∧ t.rdB j i = jrB j.p i) := by unfold Hid Tl.rdE Tl.rdB jrE jrB; rw [hfd]; exact ⟨rfl, rfl⟩
    rw [hfd] at hlk
    have HDW : Hid (Below w.heap.size w ((w.alloc (.cells zSec.toArray 98)).setRow w.heap.size zSec.toArray)) := bel_row HD0.out (Nat.le_refl _) _
    have d0 : ((w.alloc (.cells zSec.toArray 98)).setRow w.heap.size zSec.toArray).cell? ⟨T, 0, none⟩ = some (.pointer (some ⟨J, 0, none⟩)) := (HDW.out.cell (p := ⟨T, 0, none⟩) (cell_lt c0)).trans c0
    have HJR := codJRead _ J P base j i (HT.out.ja.on HDW.out) hf ho
    clear hfd
    go_enter Tryz.func19, Tryz.ntmps19
    go_wp2_with (refine wpList_store_row rfl 98 _ _ rfl w.heap.size zSec.toArray rfl rfl _ _ HR.out zInfo rfl zAll ?_)
    refine HJR.mono ?_
    rintro e w2 ⟨⟨v, rfl, hv⟩, hb2⟩
    have HV := mkHid hv
    clear hv
    go_wp2_with fail
    go_ret2
    exact ⟨⟨v, by rw [HE.out.1]; rfl, by rw [HE.out.2]; exact HV.out⟩, HDW.out.trans (hb2.mono HDW.out.size)⟩
  | some b =>
    have HE : Hid (t.rdE j i = 0 ∧ t.rdB j i = b) := by unfold Hid Tl.rdE Tl.rdB; rw [hfd]; exact ⟨rfl, rfl⟩
    have HL : Hid (b.length = 512) := find_len hfd HT.out.ok
    rw [hfd] at hlk
    have hlk2 : (Instr.lookup 84 (.map (some M)) (.int .i64 i) true).run Tryz.prog w = .ok (.tuple #[.agg (bv b).toArray, .bool true]) w := hlk
    clear hlk hfd
    have HS6 : Hid ((Tryz.prog.info? 98).map (·.size) = some (bv b).toArray.size) := infoJOf' HL.out
    have HS7 : Hid (zSec.toArray.size = (bv b).toArray.size) := by unfold Hid; rw [List.size_toArray, List.size_toArray, zSec_length, bv_length, HL.out]
    have HDW : Hid (Below w.heap.size w ((w.alloc (.cells zSec.toArray 98)).setRow w.heap.size (bv b).toArray)) := bel_row HD0.out (Nat.le_refl _) _
    have HBW : Hid (Blk ((w.alloc (.cells zSec.toArray 98)).setRow w.heap.size (bv b).toArray) w.heap.size 98 (bv b)) := HR.out.row _
    go_enter Tryz.func19, Tryz.ntmps19
    go_wp2_with (refine wpList_store_row rfl 98 _ _ rfl w.heap.size (bv b).toArray rfl rfl _ _ HR.out HS6.out HS7.out (bvAll9 b) ?_)
    go_ret2
    refine ⟨⟨.slice (some ⟨w.heap.size, 0, none⟩) b.length 512, by rw [HE.out.1, HL.out]; rfl, ?_⟩, HDW.out⟩
    rw [HE.out.2]
    refine ⟨_, 512, rfl, rfl, Nat.le_of_eq HL.out, by decide, fun e => (by cases e), fun _ => ⟨_, 0, rfl, fun i hi => ?_⟩⟩
    rw [HBW.out.cell, Nat.zero_add, bv_at b i hi]
end Go.Proofs.YtacnoagjcacniaaGreat
