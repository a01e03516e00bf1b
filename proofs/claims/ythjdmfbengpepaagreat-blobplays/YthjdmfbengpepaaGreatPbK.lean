/- The program's Put, where there is room. -/
import Derived.Test.YthjdmfbengpepaaGreatB43
namespace Go.Proofs.YthjdmfbengpepaaGreat
open Go.RowKit Go.Shelf
attribute [local go_sem] Oper.semAt_some

/-- append(numbers, z), in a round -/
theorem listIn_appZ {F : Fence} {fn : Nat} {ops : Array Oper} {rest : List Oper} {o : Oper} {a : Act} {Q : Exit → Act → World → Prop} (w : World) (hgd : o.guard = none) (s x : Operand)
    (ho : o.op = .call { callee := .builtin .append, args := #[s, x], argTypes := #[42, 42] }) (base : Nat)
    (v : Value) (l : List Int) (hs : a.eval s = v) (hown : OwnZ w base v l) (B : Nat) (z : Int) (hx : a.eval x = .slice (some ⟨B, 0, none⟩) 1 1)
    (hb : w.heap[B]? = some (.cells #[.int .i64 z] 3 (0, 0))) (hle : l.length ≤ 4096) (hbase : base ≤ w.heap.size)
    (h : ∀ v' w', OwnZ w' base v' (l ++ [z]) → w.grownBy w' v.ownBlock → wpListIn F fn Tryz.prog ops Q rest (a.put o.dst v') w') :
    wpListIn F fn Tryz.prog ops Q (o :: rest) a w := by
  obtain ⟨i0, hi, hz0, hz1, hz2⟩ := info_parts infoI3
  refine wpListIn_append_own w hgd s x 42 ho base 3 i0 (.int .i64 0) 1 8 Tryz.underlying42 hi hz0 hz1 hz2 rfl (by omega) v l.length _ hs hown ⟨B, 0, none⟩ 1 1 [.int .i64 z] hx (by simp) (fun j u hu => World.news_of_block hb j u (by simpa using hu)) (fun u hu => by rw [List.mem_singleton.1 hu]; rfl) (by unfold maxLen; omega) (by omega) hbase ?_
  intro v' w' h1 h2 _
  refine h v' w' ?_ h2
  unfold OwnZ
  rw [List.length_append, zv_append]
  exact h1
set_option maxRecDepth 100000 in
set_option maxHeartbeats 4000000 in
theorem codPut_mid (w : World) (S J P base m : Nat) (t : Tl) (j : Jl) (ba : Option Addr) (len bc : Nat) (b : List UInt8) (h : SpAx w S J P base t j) (hf : Fit t j m) (hbB : ∀ W, KS base w W → IsB W ba len bc b) (hlen : b.length = len) (hsm : len ≤ 6144) (hro : roomOk t j (putN b)) :
    Calls Tryz.prog 17 #[.pointer (some ⟨S, 0, none⟩), .slice ba len bc] w fun e w' => (∃ q, e = .returned (.tuple #[.agg (rfc (putR t j b) q).toArray, .int .i64 (putE t j b)]) ∧ RfK w' (putR t j b) q) ∧ SpAx w' S J P base (putT t j b) j ∧ KS base w w' := by
  obtain ⟨k0, k1, k2, hB, hsz⟩ := put_boxes w S 0
  have HE : Hid (putE t j b = (putAll t j b).1 ∧ putT t j b = (putAll t j b).2.1) := by
    unfold Hid putE putT
    rw [if_neg (by omega), if_neg (fun x => x hro), if_neg (fun x => x.elim (fun y => by omega) (fun y => y hro))]; exact ⟨rfl, rfl⟩
  have HP : Hid (putAll t j b = putGo j b (putN b) 0 t []) := rfl
  have HB := mkHid hB
  have HLo := mkHid (spcOK.lo h)
  have HS := mkHid (h.keep (KeepT.of_below hB))
  have HFt := mkHid hf
  have HBb : Hid (∀ W, KS base w W → IsB W ba len bc b) := hbB
  have HK0 := mkHid k0
  have HK1 := mkHid k1
  have HK2 := mkHid k2
  have HLen := mkHid hlen
  have hpn : putN b ≤ 12 := by unfold putN needL; split <;> omega
  have hPn : putN b = needN len := by unfold putN needN; rw [hlen]
  have HNd := fun W => codNeed12 (len : Int) W (by omega)
  rw [← hlen, ← need_nat b, hlen] at HNd
  have HFi : Hid (∀ W, SpAx W S J P base t j → Calls Tryz.prog 47 #[.pointer (some ⟨S, 0, none⟩), .int .i64 (putN b : Int)] W fun e w' => e = .returned (.bool true) ∧ SpAx w' S J P base t j ∧ KS base W w') := fun W hW => by
    have := codFits spcOK W S J P base m t j (putN b) hW hf (by omega)
    rw [decide_eq_true hro] at this
    exact this
  have hsm' : ¬ (6144 : Int) < (len : Int) := by omega
  have HPn := mkHid hPn
  clear h hlen hf hro k0 k1 k2 hB hsz hPn hbB
  generalize putN b = pn at *
  refine (callsIn_wide (n := 6)).1 ?_
  refine callsIn_of_wp_marks Tryz.func17 rfl trivial ?_ rfl
  refine wpIn_wide.2 ?_
  simp only [Tryz.ntmps17, List.size_toArray, List.length_cons, List.length_nil, Nat.reduceAdd, Nat.reduceSub, Array.replicate_succ, Array.replicate_zero, List.push_toArray, List.append_toArray, List.nil_append, List.cons_append]
  go_upto_region 5 with fail
  generalize ((w.alloc (.cells #[.pointer (some ⟨S, 0, none⟩)] 25)).alloc (.cells #[.int .i64 0, .slice none 0 0, .slice none 0 0] 44)).alloc (.cells #[.int .i64 0] 31) = Y at *
  have HYd : Hid (Below Y.heap.size Y Y.drew) := (Below.refl _ Y).drew
  refine wp_region_noPanic ?_
  refine wp_region_held_drew (S := fun w' => w'.cell? ⟨w.heap.size, 0, none⟩ = some (.pointer (some ⟨S, 0, none⟩))) (by kernel_rfl) (HK0.out.cell 0) (fun hHeld => ?_)
  refine takeH (some 17) (i := 0) (v := .pointer (some ⟨S, 0, none⟩)) rfl (by kernel_rfl) (by kernel_rfl) (by kernel_rfl) (fun _ _ _ h => h) (Or.inl ⟨by rfl, ?_⟩) hHeld rfl ?_
  · intro w hSw; go_simp
  (try simp only [Act.put, List.setIfInBounds_toArray, List.set_cons_zero, List.set_cons_succ])
  refine takeH (some 18) (i := 1) (v := ?_) rfl (by kernel_rfl) (by kernel_rfl) (by kernel_rfl) (fun _ _ _ h => h) (Or.inl ⟨by rfl, ?_⟩) hHeld rfl ?_
  rotate_left
  · intro w hSw; go_simp; with_reducible rfl
  (try simp only [Act.put, List.setIfInBounds_toArray, List.set_cons_zero, List.set_cons_succ])
  refine takeH (some 19) (i := 2) (v := .int .i64 (len : Int)) rfl (by kernel_rfl) (by kernel_rfl) (by kernel_rfl) (fun _ _ _ h => h) (Or.inl ⟨by rfl, ?_⟩) hHeld rfl ?_
  · intro w hSw; go_simp
  (try simp only [Act.put, List.setIfInBounds_toArray, List.set_cons_zero, List.set_cons_succ])
  refine wpAnyH_ready (rs := [3]) (by kernel_rfl) (by simp) (AllReadyH.cons rfl (fun K hK => ?_) AllReadyH.nil)
  go_simp
  go_wp2_with (go_at_call 29; refine (HNd _).mono ?_; rintro e x ⟨rfl, hx⟩; obtain rfl := hx.symm)
  refine hK.out _ _ hHeld (fun hHeld => ?_)
  (try simp only [Act.put, List.setIfInBounds_toArray, List.set_cons_zero, List.set_cons_succ])
  clear hK K
  refine wpAnyH_ready (rs := [4]) (by kernel_rfl) (by simp) (AllReadyH.cons rfl (fun K hK => ?_) AllReadyH.nil)
  go_simp
  go_wp2_with (go_at_call 47; refine (HFi.out _ (HS.out.keep (KeepT.of_below HYd.out))).mono ?_; rintro e x1 ⟨rfl, hs1, hk1⟩)
  have HS1 := mkHid hs1
  have hk1' := (KS.of_below (base := base) HYd.out (Nat.le_trans HLo.out HB.out.size)).trans hk1
  have HK1' := mkHid hk1'
  refine hK.out _ _ ((hk1'.o.blk HK0.out (by decide)).cell 0) (fun hHeld => ?_)
  (try simp only [Act.put, List.setIfInBounds_toArray, List.set_cons_zero, List.set_cons_succ])
  clear hK K hs1 hk1 hk1'
  refine wpAnyH_ready (rs := [5]) (by kernel_rfl) (by simp) (AllReadyH.cons rfl (fun K hK => ?_) AllReadyH.nil)
  go_simp
  refine hK.out _ _ hHeld (fun hHeld => ?_)
  (try simp only [Act.put, List.setIfInBounds_toArray, List.set_cons_zero, List.set_cons_succ])
  clear hK K
  refine wpAnyH_done (by kernel_rfl) ?_ _
  refine NoPanic.normal ?_
  have HKw := mkHid ((KS.of_below HB.out HLo.out).trans HK1'.out)
  have HB0 := mkHid (HK1'.out.o.blk HK0.out (by decide))
  have HB1 := mkHid (HK1'.out.o.blk HK1.out (by decide))
  have HB2 := mkHid (HK1'.out.o.blk HK2.out (by decide))
  clear hHeld HK1' HK0 HK1 HK2 HS HNd HFi
  have HSh := digSha256 ba len bc b x1 (HBb.out _ HKw.out) (by omega)
  go_wp2_with fail
  refine HSh.mono ?_
  rintro e x2 ⟨v2, rfl, ho2, hb2⟩
  obtain ⟨sa, sc, rfl, _⟩ := ho2.isB
  rw [sha256L_length] at ho2 ⊢
  have HO2 : Hid (OwnB x2 w.heap.size (.slice sa 32 sc) (sha256L b)) := ho2.base HKw.out.b.size
  have HS2 := mkHid (HS1.out.keep (KeepT.of_below hb2))
  have HKw2 := mkHid (HKw.out.trans (KS.of_below hb2 (spcOK.lo HS1.out)))
  have HC0 := mkHid (HB0.out.on hb2)
  have HC1 := mkHid (HB1.out.on hb2)
  have HC2 := mkHid (HB2.out.on hb2)
  clear ho2 hb2 HSh HKw HB0 HB1 HB2 HS1
  go_wp2_with fail
  generalize hZ : x2.alloc (.cells #[.int .i64 (len : Int), .slice sa 32 sc, .slice none 0 0] 44) = Z
  have hbZ : Below x2.heap.size x2 Z := by rw [← hZ]; exact (Below.refl _ x2).alloc (Nat.le_refl _) _
  have hZr : Blk Z x2.heap.size 44 [.int .i64 (len : Int), .slice sa 32 sc, .slice none 0 0] := by rw [← hZ]; exact Blk.new x2 _ [_, _, _]
  have hZs : Z.heap.size = x2.heap.size + 1 := by rw [← hZ]; exact Array.size_push _
  clear hZ
  refine (callsIn_wide.1 (codChunk 5 ba len bc Z)).mono ?_
  rintro e V ⟨rfl, hV⟩
  have hbV : Below Z.heap.size Z V := by rw [hV]; exact ((Below.refl _ Z).alloc (Nat.le_refl _) _).alloc (by simp) _
  have hVs : V.heap.size = x2.heap.size + 1 + 1 + 1 := by rw [hV]; simp [hZs]
  have hVc : VarC (x2.heap.size + 1) (x2.heap.size + 1 + 1) ba len bc V := by
    rw [hV, ← hZs]
    exact ⟨(Blk.newAt Z Z.heap.size 41 _ [.slice ba len bc] rfl rfl).alloc _, Blk.newAt _ (Z.heap.size + 1) 3 _ [.int .i64 512] (by simp) rfl⟩
  rw [hZs]
  have hb3 : Below x2.heap.size x2 V := hbZ.trans (hbV.mono hbZ.size)
  have HA0 : Hid (PuAt w V S J P base m t j x2.heap.size V.heap.size (len : Int) (.slice sa 32 sc) (.slice none 0 0) (sha256L b) []) :=
    ⟨HS2.out.keep (KeepT.of_below hb3), HFt.out, HC0.out.on hb3, HC1.out.on hb3, HC2.out.on hb3, hZr.on hbV, HC2.out.lt, by omega, Nat.le_refl _, own_on8 HO2.out hb3, OwnZ.nil _ _, HKw2.out.trans (KS.of_below hb3 (spcOK.lo HS2.out)), HLo.out⟩
  have HVc := mkHid hVc
  have HVs := mkHid hVs
  clear hV hbV hVs hVc hb3 hbZ hZr hZs HS2 HC0 HC1 HC2 HO2 HKw2
  generalize x2.heap.size = R at *
  go_wp2_with fail
  obtain ⟨N, hN⟩ : ∃ N, N = w.heap.size := ⟨_, rfl⟩
  have HSeq := seqChunk 5 (by omega) (R + 1) (R + 1 + 1) ba len bc (fun hp => by
    obtain ⟨b', o', e', _⟩ := (HBb.out w (KS.refl _ _)).cells hp
    exact ⟨b', o', e'⟩) (HBb.out w (KS.refl _ _)).le (by omega)
  rw [← HPn.out] at HSeq
  have HI0 : ∀ k A B, (∃ (t' : Tl) (vz : Value) (acc : List Int), PuAt w A S J P base m t' j R V.heap.size (len : Int) (.slice sa 32 sc) vz (sha256L b) acc ∧ VarC (R + 1) (R + 1 + 1) ba len bc A ∧ acc.length = k ∧ putAll t j b = putGo j b (pn - k) k t' acc) → Turn V.heap.size A B → (∃ (t' : Tl) (vz : Value) (acc : List Int), PuAt w B S J P base m t' j R V.heap.size (len : Int) (.slice sa 32 sc) vz (sha256L b) acc ∧ VarC (R + 1) (R + 1 + 1) ba len bc B ∧ acc.length = k ∧ putAll t j b = putGo j b (pn - k) k t' acc) := by
    rintro k A B ⟨t', vz, acc, h1, h3, h2⟩ hT
    exact ⟨t', vz, acc, h1.turn hT, ⟨hT.same _ _ h3.1 rfl, hT.same _ _ h3.2 rfl⟩, h2⟩
  have HX0 : ∀ (k : Nat) A B, (∃ E : Int, E ≠ 0 ∧ putE t j b = E ∧ SpAx A S J P base (putT t j b) j ∧ KS base w A ∧ Blk A (w.heap.size + 1) 44 zero3 ∧ Blk A (w.heap.size + 1 + 1) 31 [.int .i64 E]) → Turn V.heap.size A B → (∃ E : Int, E ≠ 0 ∧ putE t j b = E ∧ SpAx B S J P base (putT t j b) j ∧ KS base w B ∧ Blk B (w.heap.size + 1) 44 zero3 ∧ Blk B (w.heap.size + 1 + 1) 31 [.int .i64 E]) := by
    rintro k A B ⟨E, h1, h2, h3, h4, h5, h6⟩ hT
    exact ⟨E, h1, h2, h3.keepN (.ofTurn hT), h4.new (hT.b.mono HA0.out.ks.b.size) HLo.out, hT.same _ _ h5 rfl, hT.same _ _ h6 rfl⟩
  refine (wpIn_wide (n := 6)).1 ?_
  refine range_n (by omega) (gf := 100) (lb := #[.pointer (some ⟨R + 1, 0, none⟩), .pointer (some ⟨R + 1 + 1, 0, none⟩)]) rfl (enters_of Tryz.func100 (by kernel_rfl) rfl)
    HSeq (fun W hW => ⟨HVc.out.1.on hW, HVc.out.2.on hW⟩) (fun A B C h1 h2 => ⟨h2.1.trans h1.1, h2.2.trans h1.2⟩) (fun W l o hl => ⟨World.putObj_heap_other (by have := HVs.out; omega), World.putObj_heap_other (by have := HVs.out; omega)⟩) (fun _ => rfl)
    (fun k W => ∃ (t' : Tl) (vz : Value) (acc : List Int), PuAt w W S J P base m t' j R V.heap.size (len : Int) (.slice sa 32 sc) vz (sha256L b) acc ∧ VarC (R + 1) (R + 1 + 1) ba len bc W ∧ acc.length = k ∧ putAll t j b = putGo j b (pn - k) k t' acc)
    (fun k W => ∃ E : Int, E ≠ 0 ∧ putE t j b = E ∧ SpAx W S J P base (putT t j b) j ∧ KS base w W ∧ Blk W (w.heap.size + 1) 44 zero3 ∧ Blk W (w.heap.size + 1 + 1) 31 [.int .i64 E])
    HI0 HX0 ⟨t, _, [], HA0.out, HVc.out, rfl, HP.out⟩
    (fun k => { tmps := #[.pointer (some ⟨S, 0, none⟩), .slice ba len bc, .pointer (some ⟨w.heap.size, 0, none⟩), undef, .pointer (some ⟨w.heap.size + 1, 0, none⟩), .pointer (some ⟨w.heap.size + 1 + 1, 0, none⟩), .pointer (some ⟨R, 0, none⟩), .slice (ba.map fun x => ⟨x.block, x.off + 512 * k, none⟩) (chN len k) (chN len k), undef, undef, .pointer (some ⟨S, 0, none⟩), .bool false, undef, .slice ba len bc, .int .i64 (len : Int), .bool false, undef, .pointer (some ⟨S, 0, none⟩), .slice ba len bc, .int .i64 (len : Int), .int .i64 (pn : Int), .bool true, .bool false, undef, .slice ba len bc, .int .i64 (len : Int), .slice ba len bc, .slice sa 32 sc, .agg #[.int .i64 (len : Int), .slice sa 32 sc, .slice none 0 0], .slice ba len bc, .func (.func 100) #[] #[.pointer (some ⟨R + 1, 0, none⟩), .pointer (some ⟨R + 1 + 1, 0, none⟩)], .slice (ba.map fun x => ⟨x.block, x.off + 512 * k, none⟩) (chN len k) (chN len k), undef, undef, undef, undef, undef, undef, undef, undef, undef, undef, undef, undef, undef, undef, undef, undef, undef], defers := [] }) ?assign ?body ?done ?stop
  case assign =>
    intro l k W K hK
    simp only [chE]
    gi_wp2
    exact hK
  case body =>
    clear HI0 HX0 HSeq HA0
    rintro l0 k W ⟨t', vz, acc, hA, hVc, hacc, hG⟩ hlt
    have HVw := mkHid hVc
    clear hVc
    have hlt2 : 512 * k < len := (needN_lt len k).1 (by rw [← HPn.out]; exact hlt)
    have hI := HBb.out W hA.ks
    obtain ⟨bb, off, hbe, _⟩ := hI.cells (by omega)
    subst hbe
    have hG2 : putAll t j b = putGo j b ((pn - (k + 1)) + 1) k t' acc := by rw [hG]; congr 1; omega
    have hepos : 0 < chN len k := by unfold chN; omega
    have hele : 512 * k + chN len k ≤ len := by unfold chN; omega
    have HPl := codPlace spcOK W S J P base m t' j (some ⟨bb, off + 512 * k, none⟩) (chN len k) (chN len k) ((b.drop (512 * k)).take (chN len k)) hA.sp hA.ft (fun X hX => (HBb.out X (hA.ks.trans hX)).mid (512 * k) (chN len k) hele hepos) hepos (tkV_le hA.ft)
    have hpc := pad_chunk b k
    rw [HLen.out] at hpc
    rw [hpc] at HPl
    have HFp := mkHid (hA.ft.place (chunkL b k))
    have HA := mkHid hA
    have c0 : W.cell? ⟨w.heap.size, 0, none⟩ = some (.pointer (some ⟨S, 0, none⟩)) := hA.bt.cell 0
    have HNo : Hid (plE t' j (chunkL b k) ≠ 0 → putAll t j b = (plE t' j (chunkL b k), plT t' j (chunkL b k), acc)) := fun h => hG2.trans (putGo_no h)
    have HOn : Hid (plE t' j (chunkL b k) = 0 → putAll t j b = putGo j b (pn - (k + 1)) (k + 1) (plT t' j (chunkL b k)) (acc ++ [plV t' j])) := fun h => hG2.trans (putGo_on h)
    have HAc := mkHid hacc
    have hk4 : k ≤ 4096 := by omega
    have HK4 := mkHid hk4
    clear hpc hI hG hG2 hA hacc hepos hele hlt2 hlt hk4
    simp only [Option.map_some]
    generalize plT t' j (chunkL b k) = t2 at *
    generalize plE t' j (chunkL b k) = E2 at *
    generalize plV t' j = v2 at *
    generalize chN len k = e2 at *
    by_cases hz : E2 = 0
    · subst hz
      have HG2 := mkHid (HOn.out rfl)
      clear HNo HOn
      gi_wp2_with (first | (refine ⟨trivial, ?_⟩; gi_at_call 50; refine (CallsIn.inRound l0 (callsIn_wide.2 HPl)).mono ?_; rintro e W1 ⟨rfl, hs1, hk1⟩; have HA1 := mkHid (HA.out.call hs1 HFp.out hk1); have HKk := mkHid hk1; have HA2 := mkHid (HA1.out.on ((Below.refl _ W1).alloc (Nat.le_refl _) (.cells #[.int .i64 v2] 3))); have d2 : W1.cell? ⟨R, 2, none⟩ = some vz := HA1.out.r.cell 2; clear hs1 hk1 HPl) | (gi_at_builtin; refine listIn_appZ _ rfl (.tmp 43) (.tmp 45) rfl V.heap.size vz acc rfl HA2.out.zs W1.heap.size v2 rfl (heap_alloc_new W1 _) (by rw [HAc.out]; exact HK4.out) HA2.out.es ?_; intro v5 W5 ho5 hg5; have hR5 := (KeepT.grownZ HA2.out.zs hg5).blk HA2.out.r (by decide); have r5 := hR5.cell 2; have f5 := hR5.frozen 2; obtain ⟨za5, zc5, hze5, _⟩ := ho5.isZ; obtain ⟨ln, hln⟩ : ∃ ln, ln = (acc ++ [v2]).length := ⟨_, rfl⟩; rw [← hln] at hze5; subst hze5; have HGr := mkHid (HA2.out.grown ho5 hg5); clear hR5 ho5 hg5))
      have hln' : ln = acc.length + 1 := by first | exact hln | (rw [hln, List.length_append]; rfl)
      subst hln'
      have hkk : KeepO [] W (W1.alloc (.cells #[.int .i64 v2] 3)) := (HKk.out.o.less (by simp)).trans (KeepO.of_below ((Below.refl _ W1).alloc (Nat.le_refl _) _))
      obtain ⟨g1, g2, g3⟩ := HGr.out
      have hRE := HA2.out.lt
      have hVE := HVs.out
      have v1 := HKk.out.o.blk HVw.out.1 (by decide)
      have v2' := HKk.out.o.blk HVw.out.2 (by decide)
      have hVn : VarC (R + 1) (R + 1 + 1) (some ⟨bb, off, none⟩) len bc (W5.setCell ⟨R, 2, none⟩ (.slice za5 (acc.length + 1) zc5)) := by
        refine ⟨(g3 (R + 1) (by omega) (by omega)).trans (v1.alloc _), (g3 (R + 1 + 1) (by omega) (by omega)).trans (v2'.alloc _)⟩
      refine ⟨hkk.trans g2, ⟨Eq.trans hVn.1 HVw.out.1.symm, Eq.trans hVn.2 HVw.out.2.symm⟩, t2, _, acc ++ [v2], g1, hVn, by rw [List.length_append, HAc.out]; rfl, HG2.out⟩
    · have HG2 := mkHid (HNo.out hz)
      clear HNo HOn
      gi_wp2_with (refine ⟨trivial, ?_⟩; gi_at_call 50; refine (CallsIn.inRound l0 (callsIn_wide.2 HPl)).mono ?_; rintro e W1 ⟨rfl, hs1, hk1⟩; have HA1 := mkHid (HA.out.call hs1 HFp.out hk1); have HKk := mkHid hk1; have c1 : W1.cell? ⟨w.heap.size + 1, 0, none⟩ = some (.int .i64 0) := HA1.out.br.cell 0; have c2 : W1.cell? ⟨w.heap.size + 1, 1, none⟩ = some (.slice none 0 0) := HA1.out.br.cell 1; have c3 : W1.cell? ⟨w.heap.size + 1, 2, none⟩ = some (.slice none 0 0) := HA1.out.br.cell 2; have c4 : W1.cell? ⟨w.heap.size + 1 + 1, 0, none⟩ = some (.int .i64 0) := HA1.out.be.cell 0; have f1 := HA1.out.br.frozen 0; have f2 := HA1.out.br.frozen 1; have f3 := HA1.out.br.frozen 2; have f4 := HA1.out.be.frozen 0; clear hs1 hk1 HPl)
      obtain ⟨k3, k4, hT, hB5⟩ := put_store HA1.out.br HA1.out.be (.int .i64 0) (.slice none 0 0) (.slice none 0 0) (.int .i64 E2)
      have e1 : putE t j b = E2 := by rw [HE.out.1, HG2.out]
      have e2 : putT t j b = t2 := by rw [HE.out.2, HG2.out]
      exact ⟨(HKk.out.o.less (by simp)).trans (KeepO.ofT hT (by simp)), E2, hz, e1, by rw [e2]; exact HA1.out.sp.keepN (.ofT hT refs_sub), HA1.out.ks.new hB5 HLo.out, k3, k4⟩
  case done =>
    rintro D W hD ⟨t', vz, acc, hA, _, hacc, hG⟩ hK
    rw [Nat.sub_self, putGo] at hG
    have e1 : putE t j b = 0 := by rw [HE.out.1, hG]
    have e2 : putT t j b = t' := by rw [HE.out.2, hG]
    have e3 : (putAll t j b).2.2 = acc := by rw [hG]
    obtain ⟨za, zc, hze, _⟩ := hA.zs.isZ
    rw [hacc] at hze
    subst hze
    have HAc := mkHid hacc
    clear hacc
    have HA := mkHid hA
    have Q1 := mkHid e1
    have Q2 := mkHid e2
    have Q3 := mkHid e3
    have HKD := mkHid hK
    have c1 : W.cell? ⟨w.heap.size + 1, 0, none⟩ = some (.int .i64 0) := HA.out.br.cell 0
    have c2 : W.cell? ⟨w.heap.size + 1, 1, none⟩ = some (.slice none 0 0) := HA.out.br.cell 1
    have c3 : W.cell? ⟨w.heap.size + 1, 2, none⟩ = some (.slice none 0 0) := HA.out.br.cell 2
    have c4 : W.cell? ⟨w.heap.size + 1 + 1, 0, none⟩ = some (.int .i64 0) := HA.out.be.cell 0
    have f1 := HA.out.br.frozen 0
    have f2 := HA.out.br.frozen 1
    have f3 := HA.out.br.frozen 2
    have f4 := HA.out.be.frozen 0
    have q0 : W.cell? ⟨R, 0, none⟩ = some (.int .i64 (len : Int)) := HA.out.r.cell 0
    have q1 : W.cell? ⟨R, 1, none⟩ = some (.slice sa 32 sc) := HA.out.r.cell 1
    have q2 : W.cell? ⟨R, 2, none⟩ = some (.slice za pn zc) := HA.out.r.cell 2
    have hne := HA.out.ne
    have hwD : w.heap.size ≤ D := Nat.le_trans HA0.out.ks.b.size hD
    clear hA hG e1 e2 e3 hK HI0 HX0 HSeq
    simp only [Exit.inBlock, Exit.then]
    go_wp2_with fail
    obtain ⟨k3, k4, hT, hB5⟩ := put_store HA.out.br HA.out.be (.int .i64 (len : Int)) (.slice sa 32 sc) (.slice za pn zc) (.int .i64 0)
    have hK' := hT.same D _ HKD.out (fun c t fz e => by cases e)
    refine ⟨by simp, .inl ⟨_, _, rfl, run_takeDeferred hK', ?_⟩⟩
    have hTu : Turn w.heap.size _ _ := Turn.put (.deferred none) hK' rfl hwD
    refine ⟨_, results_cells12 (P := Tryz.prog) rfl _ _ (w.heap.size + 1) (w.heap.size + 1 + 1) _ _ rfl (load_rf12 _ _ _ _ _ (hTu.same _ _ k3 rfl)) rfl (load_er12 _ _ _ (hTu.same _ _ k4 rfl)), ?_, ?_, ?_⟩
    · have hR := put_yes (q0 := ⟨sa, sc, za, zc⟩) Q1.out Q3.out (RfK.own (base := w.heap.size) (by show OwnB _ _ (.slice sa (sha256L b).length sc) (sha256L b); rw [sha256L_length]; exact own_turn hTu (own_keep hT HA.out.sum (by decide))) (by show OwnZ _ _ (.slice za acc.length zc) acc; rw [HAc.out]; exact own_base (own_turn hTu (own_keep hT HA.out.zs (by decide))) (by have := HA.out.lt; omega)) (by show (-9223372036854775808 : Int) ≤ (b.length : Int); omega) (by show (b.length : Int) ≤ 9223372036854775807; have := HLen.out; omega))
      obtain ⟨q1', he, hI⟩ := hR
      refine ⟨q1', ?_, hI⟩
      rw [← he]
      simp only [rfc, sha256L_length, HLen.out, HAc.out]
    · rw [Q2.out]
      exact (HA.out.sp.keepN (.ofT hT refs_sub)).keepN (.ofTurn hTu)
    · exact (HA.out.ks.new hB5 HLo.out).new hTu.b HLo.out
  case stop =>
    rintro D k W hD ⟨E, h0, he, hT, hKS, k1, k2⟩ hK
    have hwD : w.heap.size ≤ D := Nat.le_trans HA0.out.ks.b.size hD
    gi_wp2
    refine ⟨by simp, .inl ⟨_, _, rfl, run_takeDeferred hK, ?_⟩⟩
    have hTu : Turn w.heap.size _ _ := Turn.put (.deferred none) hK rfl hwD
    refine ⟨_, results_cells12 (P := Tryz.prog) rfl _ _ (w.heap.size + 1) (w.heap.size + 1 + 1) _ _ rfl (load_rf12 _ _ _ _ _ (hTu.same _ _ k1 rfl)) rfl (load_er12 _ _ _ (hTu.same _ _ k2 rfl)), put_no he h0, hT.keepN (.ofTurn hTu), hKS.new hTu.b HLo.out⟩
theorem codPut12 (w : World) (S J P base m : Nat) (t : Tl) (j : Jl) (ba : Option Addr) (len bc : Nat) (b : List UInt8) (h : SpAx w S J P base t j) (hf : Fit t j m) (hbB : ∀ W, KS base w W → IsB W ba len bc b) :
    Calls Tryz.prog 17 #[.pointer (some ⟨S, 0, none⟩), .slice ba len bc] w fun e w' => (∃ q, e = .returned (.tuple #[.agg (rfc (putR t j b) q).toArray, .int .i64 (putE t j b)]) ∧ RfK w' (putR t j b) q) ∧ SpAx w' S J P base (putT t j b) j ∧ KS base w w' := by
  have hlen := (hbB w (KS.refl _ _)).len_eq
  by_cases hbig : 6144 < len
  · exact codPut_big w S J P base t j ba len bc b h hlen hbig
  · by_cases hro : roomOk t j (putN b)
    · exact codPut_mid w S J P base m t j ba len bc b h hf hbB hlen (by omega) hro
    · exact codPut_full w S J P base m t j ba len bc b h hf hlen (by omega) hro
end Go.Proofs.YthjdmfbengpepaaGreat
