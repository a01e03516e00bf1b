/- The program's Put: what it stands on. · The program's Put, where nothing is taken. -/
import Derived.Test.YthjdmfbengpepaaGreatB42
import Derived.Test.YthjdmfbengpepaaGreatB40
import Derived.Test.YthjdmfbengpepaaGreatB11
import Derived.Test.YthjdmfbengpepaaGreatB41
import Derived.Maps.AppendAt
import Derived.Test.YthjdmfbengpepaaGreatB22
namespace Go.Proofs.YthjdmfbengpepaaGreat
open Go.RowKit Go.Shelf

theorem KS.new {base : Nat} {w0 w w' : World} (h : KS base w0 w) (hb : Below w0.heap.size w w') (hl : base ≤ w0.heap.size) : KS base w0 w' :=
  ⟨⟨Nat.le_trans h.o.size hb.size, fun k c t fz hk ht => (hb.5 k (Array.getElem?_eq_some_iff.1 hk).1).trans (h.o.same k c t fz hk ht), fun k o hk hc => (hb.5 k (Array.getElem?_eq_some_iff.1 hk).1).trans (h.o.ctl k o hk hc)⟩, h.b.trans (hb.mono hl)⟩
/-- rows of numbers, refs, errors and a loop's records may be turned -/
structure KeepN (w w' : World) : Prop where
  size : w.heap.size ≤ w'.heap.size
  same : ∀ (k : Nat) (o : Obj), w.heap[k]? = some o → isCtl o = false → (∀ c t fz, o = .cells c t fz → t ∉ [3, 44, 31]) → w'.heap[k]? = some o
theorem KeepN.ofT {w w' : World} {ts : List TypeId} (h : KeepT ts w w') (hs : ∀ t, t ∉ [3, 44, 31] → t ∉ ts) : KeepN w w' := ⟨h.size, fun k o hk _ ho => h.same k o hk (fun c t fz e => hs t (ho c t fz e))⟩
theorem KeepN.ofTurn {B : Nat} {w w' : World} (h : Turn B w w') : KeepN w w' := ⟨h.b.size, fun k o hk hc _ => h.same k o hk hc⟩
theorem KeepN.blk {w w' : World} (h : KeepN w w') {B t : Nat} {cs : List Value} (hb : Blk w B t cs) (ht : t ∉ [3, 44, 31]) : Blk w' B t cs := h.same B _ hb rfl (fun c t' fz e => by injection e with _ h2 _; rw [← h2]; exact ht)
theorem own_keepN {w w' : World} (h : KeepN w w') {e : TypeId} {base size n : Nat} {v : Value} {xs : List Value} (ho : w.ownsRow base e size v n xs) (he : e ∉ [3, 44, 31]) : w'.ownsRow base e size v n xs := by
  refine ⟨ho.1, ?_⟩
  rcases ho.2 with h2 | ⟨g, cap, cur, h3, h4, h5, h6⟩
  · exact .inl h2
  · exact .inr ⟨g, cap, cur, h3, h4, h.same g _ h5 rfl (fun c t' fz e => by injection e with _ h2 _; rw [← h2]; exact he), h6⟩
theorem SpAx.keepN {w w' : World} {S J P base : Nat} {t : Tl} {j : Jl} (h : SpAx w S J P base t j) (hk : KeepN w w') : SpAx w' S J P base t j := by
  obtain ⟨T, g, c, h⟩ := h
  obtain ⟨M, tr, ht⟩ := h.ta
  obtain ⟨S1, vC, arm, hd⟩ := ht.ja.d
  obtain ⟨es, clock, hb, r⟩ := ht.own
  exact ⟨T, g, c, ⟨M, tr, ⟨hk.blk ht.ja.blk (by decide), ht.ja.low, ⟨S1, vC, arm, { hd with blk := hk.blk hd.blk (by decide), st := hk.blk hd.st (by decide), ca := own_keepN hk hd.ca (by decide), xlt := fun k hx => Nat.lt_of_lt_of_le (hd.xlt k hx) hk.size }⟩, ht.ja.seq⟩, hk.blk ht.blk (by decide), ht.low, ht.lowM, ⟨es, clock, hk.same M _ hb rfl (fun c t fz e => by cases e), r⟩, ht.sort, ht.ok, ht.over⟩, hk.blk h.blk (by decide), h.low, own_keepN hk h.own (by decide)⟩
theorem SpAx.lo' {w : World} {S J P base : Nat} {t : Tl} {j : Jl} (h : SpAx w S J P base t j) : base ≤ w.heap.size := spcOK.lo h
abbrev zero3 : List Value := [.int .i64 0, .slice none 0 0, .slice none 0 0]
/-- how Put stands on its way -/
structure PuAt (w0 W : World) (S J P base m : Nat) (t : Tl) (j : Jl) (R E : Nat) (n : Int) (vs vz : Value) (sm : List UInt8) (acc : List Int) : Prop where
  sp : SpAx W S J P base t j
  ft : Fit t j m
  bt : Blk W w0.heap.size 25 [.pointer (some ⟨S, 0, none⟩)]
  br : Blk W (w0.heap.size + 1) 44 zero3
  be : Blk W (w0.heap.size + 1 + 1) 31 [.int .i64 0]
  r : Blk W R 44 [.int .i64 n, vs, vz]
  ne : w0.heap.size + 1 + 1 < R
  lt : R < E
  es : E ≤ W.heap.size
  sum : OwnB W w0.heap.size vs sm
  zs : OwnZ W E vz acc
  ks : KS base w0 W
  lo : base ≤ w0.heap.size
theorem own_turn {B : Nat} {w w' : World} (h : Turn B w w') {e : TypeId} {base size n : Nat} {v : Value} {xs : List Value} (ho : w.ownsRow base e size v n xs) : w'.ownsRow base e size v n xs := by
  refine ⟨ho.1, ?_⟩
  rcases ho.2 with h2 | ⟨g, cap, cur, h3, h4, h5, h6⟩
  · exact .inl h2
  · exact .inr ⟨g, cap, cur, h3, h4, h.same g _ h5 rfl, h6⟩
theorem PuAt.turn {w0 W W' : World} {S J P base m : Nat} {t : Tl} {j : Jl} {R E : Nat} {n : Int} {vs vz : Value} {sm : List UInt8} {acc : List Int} (h : PuAt w0 W S J P base m t j R E n vs vz sm acc) (hT : Turn E W W') : PuAt w0 W' S J P base m t j R E n vs vz sm acc :=
  ⟨h.sp.keepN (.ofTurn hT), h.ft, hT.same _ _ h.bt rfl, hT.same _ _ h.br rfl, hT.same _ _ h.be rfl, hT.same _ _ h.r rfl, h.ne, h.lt, Nat.le_trans h.es hT.b.size, own_turn hT h.sum, own_turn hT h.zs, h.ks.new (hT.b.mono (by have := h.ne; have := h.lt; omega)) h.lo, h.lo⟩
theorem PuAt.call {w0 W W' : World} {S J P base m : Nat} {t t2 : Tl} {j : Jl} {R E : Nat} {n : Int} {vs vz : Value} {sm : List UInt8} {acc : List Int} (h : PuAt w0 W S J P base m t j R E n vs vz sm acc) (hs : SpAx W' S J P base t2 j) (hf : Fit t2 j m) (hk : KS base W W') : PuAt w0 W' S J P base m t2 j R E n vs vz sm acc :=
  ⟨hs, hf, hk.o.blk h.bt (by decide), hk.o.blk h.br (by decide), hk.o.blk h.be (by decide), hk.o.blk h.r (by decide), h.ne, h.lt, Nat.le_trans h.es hk.b.size, own_keepO hk.o h.sum (by decide), own_keepO hk.o h.zs (by decide), h.ks.trans hk, h.lo⟩
theorem PuAt.on {w0 W W' : World} {S J P base m : Nat} {t : Tl} {j : Jl} {R E : Nat} {n : Int} {vs vz : Value} {sm : List UInt8} {acc : List Int} (h : PuAt w0 W S J P base m t j R E n vs vz sm acc) (hb : Below W.heap.size W W') : PuAt w0 W' S J P base m t j R E n vs vz sm acc :=
  h.turn (Turn.of_below hb h.es)
theorem PuAt.grown {w0 W W' : World} {S J P base m : Nat} {t : Tl} {j : Jl} {R E : Nat} {n : Int} {vs vz vz' : Value} {sm : List UInt8} {acc acc' : List Int} (h : PuAt w0 W S J P base m t j R E n vs vz sm acc) (ho : OwnZ W' E vz' acc') (hg : W.grownBy W' vz.ownBlock) :
    PuAt w0 (W'.setCell ⟨R, 2, none⟩ vz') S J P base m t j R E n vs vz' sm acc' ∧ KeepO [] W (W'.setCell ⟨R, 2, none⟩ vz') ∧ ∀ k, k < E → k ≠ R → (W'.setCell ⟨R, 2, none⟩ vz').heap[k]? = W.heap[k]? := by
  have hk : KeepT [3] W W' := KeepT.grownZ h.zs hg
  have hne := h.ne
  have hlt := h.lt
  have hR := hk.blk h.r (by decide)
  have hk2 : KeepT [44] W' (W'.setCell ⟨R, 2, none⟩ vz') := (KeepT.refl _ _).set hR (by decide) 2 _
  have hb1 : Below w0.heap.size W W' := (Below.refl _ W).grown hg (Nat.le_trans (by omega) h.es) (fun k e => by have := (World.ownsRow.lt h.zs k e).1; omega)
  have hb2 : Below w0.heap.size W (W'.setCell ⟨R, 2, none⟩ vz') := hb1.setCell (p := ⟨R, 2, none⟩) (by show w0.heap.size ≤ R; omega) _
  refine ⟨⟨(h.sp.keepN (.ofT hk (fun t ht hm => ht (by simp only [List.mem_singleton] at hm; subst hm; decide)))).keepN (.ofT hk2 (fun t ht hm => ht (by simp only [List.mem_singleton] at hm; subst hm; decide))), h.ft, hk2.blk (hk.blk h.bt (by decide)) (by decide), Blk.other (hk.blk h.br (by decide)) _ _ (by show w0.heap.size + 1 ≠ R; omega), hk2.blk (hk.blk h.be (by decide)) (by decide), hR.set 2 _, h.ne, h.lt, Nat.le_trans h.es (Nat.le_trans hk.size hk2.size), own_keep hk2 (own_keep hk h.sum (by decide)) (by decide), own_keep hk2 ho (by decide), h.ks.new hb2 h.lo, h.lo⟩, (KeepO.ofT hk (by simp)).trans (KeepO.ofT hk2 (by simp)), fun k hk3 hkR => ?_⟩
  have e1 : (W'.setCell ⟨R, 2, none⟩ vz').heap[k]? = W'.heap[k]? := Below.heap_setCell _ _ _ _ hkR
  exact e1.trans (hg.block k (Nat.lt_of_lt_of_le hk3 h.es) (fun e => by have := (World.ownsRow.lt h.zs k e.symm).1; omega))
theorem tkV_le {t : Tl} {j : Jl} {m : Nat} (hf : Fit t j m) : tkV t j ≤ 100000 := by
  have h1 := tk_rng' t j
  have h2 := hf.few.n
  unfold tkV
  split <;> omega
theorem putGo_no {j : Jl} {b : List UInt8} {f k : Nat} {t : Tl} {acc : List Int} (h : plE t j (chunkL b k) ≠ 0) : putGo j b (f + 1) k t acc = (plE t j (chunkL b k), plT t j (chunkL b k), acc) := by
  rw [putGo]
  by_cases hz : tkE t j ≠ 0
  · obtain ⟨e1, _, e3⟩ := pl_no (chunkL b k) hz
    rw [if_pos hz, e1, e3]
  · obtain ⟨e1, _, e3⟩ := pl_yes (chunkL b k) (Classical.not_not.1 hz)
    rw [e1] at h
    rw [if_neg hz, if_pos h, e1, e3]
theorem putGo_on {j : Jl} {b : List UInt8} {f k : Nat} {t : Tl} {acc : List Int} (h : plE t j (chunkL b k) = 0) : putGo j b (f + 1) k t acc = putGo j b f (k + 1) (plT t j (chunkL b k)) (acc ++ [plV t j]) := by
  rw [putGo]
  by_cases hz : tkE t j ≠ 0
  · obtain ⟨e1, _, _⟩ := pl_no (chunkL b k) hz
    rw [e1] at h
    exact absurd h hz
  · obtain ⟨e1, e2, e3⟩ := pl_yes (chunkL b k) (Classical.not_not.1 hz)
    rw [e1] at h
    rw [if_neg hz, if_neg (fun x => x h), e2, e3]
theorem pad_chunk (b : List UInt8) (k : Nat) : pad512 ((b.drop (512 * k)).take (chN b.length k)) = chunkL b k := by
  unfold chunkL chN
  rw [show k * 512 = 512 * k by omega]
  have hd : (b.drop (512 * k)).length = b.length - 512 * k := List.length_drop ..
  generalize b.drop (512 * k) = c at *
  unfold pad512
  rw [← hd, List.take_take, List.length_take]
  by_cases h : c.length ≤ 512
  · rw [show min 512 (min 512 c.length) = c.length by omega, List.take_of_length_le (Nat.le_refl _), List.take_of_length_le h, show min (min 512 c.length) c.length = c.length by omega]
  · rw [show min 512 (min 512 c.length) = 512 by omega, show 512 - min (min 512 c.length) c.length = 512 - c.length by omega]
theorem Fit.place {t : Tl} {j : Jl} {m : Nat} (h : Fit t j m) (c : List UInt8) : Fit (plT t j c) j m := by
  unfold plT
  split
  · exact h.take
  · exact h.take.spWr _ _
theorem load_rf12 (w : World) (g : Nat) (c0 c1 c2 : Value) (h : Blk w g 44 [c0, c1, c2]) : (loadVar 44 ⟨g, 0, none⟩).run Tryz.prog w = .ok (.agg #[c0, c1, c2]) w :=
  run_loadVar_row w g 44 44 #[c0, c1, c2] (0, 0) _ h Tryz.underlying44 rfl (by kernel_rfl)
end Go.Proofs.YthjdmfbengpepaaGreat
namespace Go.Proofs.YthjdmfbengpepaaGreat
open Go.RowKit Go.Shelf

/-- the three variables of Put -/
theorem put_boxes (w : World) (S : Nat) (k : Int) : Blk (((w.alloc (.cells #[.pointer (some ⟨S, 0, none⟩)] 25)).alloc (.cells #[.int .i64 0, .slice none 0 0, .slice none 0 0] 44)).alloc (.cells #[.int .i64 k] 31)) w.heap.size 25 [.pointer (some ⟨S, 0, none⟩)] ∧ Blk (((w.alloc (.cells #[.pointer (some ⟨S, 0, none⟩)] 25)).alloc (.cells #[.int .i64 0, .slice none 0 0, .slice none 0 0] 44)).alloc (.cells #[.int .i64 k] 31)) (w.heap.size + 1) 44 zero3 ∧ Blk (((w.alloc (.cells #[.pointer (some ⟨S, 0, none⟩)] 25)).alloc (.cells #[.int .i64 0, .slice none 0 0, .slice none 0 0] 44)).alloc (.cells #[.int .i64 k] 31)) (w.heap.size + 1 + 1) 31 [.int .i64 k] ∧ Below w.heap.size w (((w.alloc (.cells #[.pointer (some ⟨S, 0, none⟩)] 25)).alloc (.cells #[.int .i64 0, .slice none 0 0, .slice none 0 0] 44)).alloc (.cells #[.int .i64 k] 31)) ∧ (((w.alloc (.cells #[.pointer (some ⟨S, 0, none⟩)] 25)).alloc (.cells #[.int .i64 0, .slice none 0 0, .slice none 0 0] 44)).alloc (.cells #[.int .i64 k] 31)).heap.size = w.heap.size + 1 + 1 + 1 :=
  ⟨((Blk.newAt w w.heap.size 25 _ [.pointer (some ⟨S, 0, none⟩)] rfl rfl).alloc _).alloc _, (Blk.newAt _ (w.heap.size + 1) 44 _ zero3 (by simp) rfl).alloc _, Blk.newAt _ (w.heap.size + 1 + 1) 31 _ [.int .i64 k] (by simp) rfl, (((Below.refl _ w).alloc (Nat.le_refl _) _).alloc (by simp) _).alloc (by simp; omega) _, by simp⟩
/-- the results stored -/
theorem put_store {x : World} {N : Nat} {d0 d1 d2 e0 : Value} (b1 : Blk x (N + 1) 44 [d0, d1, d2]) (b2 : Blk x (N + 1 + 1) 31 [e0]) (c0 c1 c2 k : Value) :
    Blk ((((x.setCell ⟨N + 1, 0, none⟩ c0).setCell ⟨N + 1, 1, none⟩ c1).setCell ⟨N + 1, 2, none⟩ c2).setCell ⟨N + 1 + 1, 0, none⟩ k) (N + 1) 44 [c0, c1, c2] ∧ Blk ((((x.setCell ⟨N + 1, 0, none⟩ c0).setCell ⟨N + 1, 1, none⟩ c1).setCell ⟨N + 1, 2, none⟩ c2).setCell ⟨N + 1 + 1, 0, none⟩ k) (N + 1 + 1) 31 [k] ∧ KeepT [44, 31] x ((((x.setCell ⟨N + 1, 0, none⟩ c0).setCell ⟨N + 1, 1, none⟩ c1).setCell ⟨N + 1, 2, none⟩ c2).setCell ⟨N + 1 + 1, 0, none⟩ k) ∧ Below N x ((((x.setCell ⟨N + 1, 0, none⟩ c0).setCell ⟨N + 1, 1, none⟩ c1).setCell ⟨N + 1, 2, none⟩ c2).setCell ⟨N + 1 + 1, 0, none⟩ k) :=
  ⟨(((b1.set 0 _).set 1 _).set 2 _).other _ _ (by show N + 1 ≠ N + 1 + 1; omega), (((b2.other _ _ (by show N + 1 + 1 ≠ N + 1; omega)).other _ _ (by show N + 1 + 1 ≠ N + 1; omega)).other _ _ (by show N + 1 + 1 ≠ N + 1; omega)).set 0 _, ((((KeepT.refl _ _).set b1 (by decide) 0 _).set (b1.set 0 _) (by decide) 1 _).set ((b1.set 0 _).set 1 _) (by decide) 2 _).set (((b2.other _ _ (by show N + 1 + 1 ≠ N + 1; omega)).other _ _ (by show N + 1 + 1 ≠ N + 1; omega)).other _ _ (by show N + 1 + 1 ≠ N + 1; omega)) (by decide) 0 _, ((((Below.refl _ x).setCell (p := ⟨N + 1, 0, none⟩) (Nat.le_succ _) _).setCell (p := ⟨N + 1, 1, none⟩) (Nat.le_succ _) _).setCell (p := ⟨N + 1, 2, none⟩) (Nat.le_succ _) _).setCell (p := ⟨N + 1 + 1, 0, none⟩) (by show N ≤ N + 1 + 1; omega) _⟩
theorem refs_sub : ∀ t, t ∉ [3, 44, 31] → t ∉ [44, 31] := fun _ h1 h2 => h1 (List.mem_cons_of_mem _ h2)
/-- a return with no ref -/
theorem put_leave {w W : World} {S J P base : Nat} {t : Tl} {j : Jl} {b : List UInt8} {k : Int} (tmps : Array Value) (h4 : tmps.getD 4 undef = .pointer (some ⟨w.heap.size + 1, 0, none⟩)) (h5 : tmps.getD 5 undef = .pointer (some ⟨w.heap.size + 1 + 1, 0, none⟩))
    (k1 : Blk W (w.heap.size + 1) 44 zero3) (k2 : Blk W (w.heap.size + 1 + 1) 31 [.int .i64 k]) (he : putE t j b = k) (h0 : k ≠ 0) (hT : SpAx W S J P base (putT t j b) j) (hK : KS base w W) :
    bodyPost Tryz.prog Tryz.f17 (fun e w' => (∃ q, e = .returned (.tuple #[.agg (rfc (putR t j b) q).toArray, .int .i64 (putE t j b)]) ∧ RfK w' (putR t j b) q) ∧ SpAx w' S J P base (putT t j b) j ∧ KS base w w') .ret { tmps := tmps, defers := [] } W :=
  bodyPost_ret (results_cells12 (P := Tryz.prog) rfl _ _ (w.heap.size + 1) (w.heap.size + 1 + 1) _ _ h4 (load_rf12 _ _ _ _ _ k1) h5 (load_er12 _ _ _ k2)) rfl ⟨put_no he h0, hT, hK⟩
set_option maxRecDepth 20000 in
set_option maxHeartbeats 2000000 in
theorem codPut_big (w : World) (S J P base : Nat) (t : Tl) (j : Jl) (ba : Option Addr) (len bc : Nat) (b : List UInt8) (h : SpAx w S J P base t j) (hlen : b.length = len) (hbig : 6144 < len) :
    Calls Tryz.prog 17 #[.pointer (some ⟨S, 0, none⟩), .slice ba len bc] w fun e w' => (∃ q, e = .returned (.tuple #[.agg (rfc (putR t j b) q).toArray, .int .i64 (putE t j b)]) ∧ RfK w' (putR t j b) q) ∧ SpAx w' S J P base (putT t j b) j ∧ KS base w w' := by
  have HBx := mkHid (put_boxes w S 3)
  have HE : Hid (putE t j b = 3 ∧ putT t j b = t) := by
    unfold Hid putE putT
    rw [if_pos (by omega), if_pos (.inl (by omega))]; exact ⟨rfl, rfl⟩
  have HS := mkHid h
  have hbig' : (6144 : Int) < (len : Int) := by omega
  clear h hlen
  go_enter Tryz.func17, Tryz.ntmps17
  go_wp2_with fail
  (try simp only [Exit.inBlock, Exit.then])
  obtain ⟨_, k1, k2, hB, _⟩ := HBx.out
  exact put_leave _ rfl rfl k1 k2 HE.out.1 (by decide) (by rw [HE.out.2]; exact HS.out.keep (KeepT.of_below hB)) (KS.of_below hB (spcOK.lo HS.out))
set_option maxRecDepth 20000 in
set_option maxHeartbeats 2000000 in
theorem codPut_full (w : World) (S J P base m : Nat) (t : Tl) (j : Jl) (ba : Option Addr) (len bc : Nat) (b : List UInt8) (h : SpAx w S J P base t j) (hf : Fit t j m) (hlen : b.length = len) (hsm : len ≤ 6144) (hro : ¬ roomOk t j (putN b)) :
    Calls Tryz.prog 17 #[.pointer (some ⟨S, 0, none⟩), .slice ba len bc] w fun e w' => (∃ q, e = .returned (.tuple #[.agg (rfc (putR t j b) q).toArray, .int .i64 (putE t j b)]) ∧ RfK w' (putR t j b) q) ∧ SpAx w' S J P base (putT t j b) j ∧ KS base w w' := by
  obtain ⟨k0, k1, k2, hB, hsz⟩ := put_boxes w S 0
  have HE : Hid (putE t j b = 44 ∧ putT t j b = t) := by
    unfold Hid putE putT
    rw [if_neg (by omega), if_pos hro, if_pos (.inr hro)]; exact ⟨rfl, rfl⟩
  have HB := mkHid hB
  have HLo := mkHid (spcOK.lo h)
  have HS := mkHid (h.keep (KeepT.of_below hB))
  have HK0 := mkHid k0
  have HK1 := mkHid k1
  have HK2 := mkHid k2
  have hpn : putN b ≤ 12 := by unfold putN needL; split <;> omega
  have HNd := fun W => codNeed12 (len : Int) W (by omega)
  rw [← hlen, ← need_nat b, hlen] at HNd
  have HFi : Hid (∀ W, SpAx W S J P base t j → Calls Tryz.prog 47 #[.pointer (some ⟨S, 0, none⟩), .int .i64 (putN b : Int)] W fun e w' => e = .returned (.bool false) ∧ SpAx w' S J P base t j ∧ KS base W w') := fun W hW => by
    have := codFits spcOK W S J P base m t j (putN b) hW hf (by omega)
    rw [decide_eq_false hro] at this
    exact this
  have hsm' : ¬ (6144 : Int) < (len : Int) := by omega
  clear h hlen hf hro k0 k1 k2 hB hsz hpn
  generalize putN b = pn at *
  go_enter Tryz.func17, Tryz.ntmps17
  go_upto_region 5 with fail
  generalize ((w.alloc (.cells #[.pointer (some ⟨S, 0, none⟩)] 25)).alloc (.cells #[.int .i64 0, .slice none 0 0, .slice none 0 0] 44)).alloc (.cells #[.int .i64 0] 31) = Y at *
  have HYd : Hid (Below Y.heap.size Y Y.drew) := (Below.refl _ Y).drew
  refine wp_region_noPanic ?_
  refine wp_region_held_drew (S := fun w' => w'.cell? ⟨w.heap.size, 0, none⟩ = some (.pointer (some ⟨S, 0, none⟩))) (by kernel_rfl) (HK0.out.cell 0) (fun hHeld => ?_)
  refine takeH (some 17) (i := 0) (v := .pointer (some ⟨S, 0, none⟩)) rfl (by kernel_rfl) (by kernel_rfl) (by kernel_rfl) (fun _ _ _ h => h) (Or.inl ⟨by rfl, ?_⟩) hHeld rfl ?_
  · intro w hSw; go_simp
  (try simp only [Act.put, List.setIfInBounds_toArray, List.set_cons_zero, List.set_cons_succ])
  refine takeH (some 18) (i := 1) (v := ?_) rfl (by kernel_rfl) (by kernel_rfl) (by kernel_rfl) (fun _ _ _ h => h) (Or.inl ⟨by rfl, ?_⟩) hHeld rfl ?_
  rotate_left
  · intro w hSw; go_simp; with_reducible rfl
  (try simp only [Act.put, List.setIfInBounds_toArray, List.set_cons_zero, List.set_cons_succ])
  refine takeH (some 19) (i := 2) (v := .int .i64 (len : Int)) rfl (by kernel_rfl) (by kernel_rfl) (by kernel_rfl) (fun _ _ _ h => h) (Or.inl ⟨by rfl, ?_⟩) hHeld rfl ?_
  · intro w hSw; go_simp
  (try simp only [Act.put, List.setIfInBounds_toArray, List.set_cons_zero, List.set_cons_succ])
  refine wpAnyH_ready (rs := [3]) (by kernel_rfl) (by simp) (AllReadyH.cons rfl (fun K hK => ?_) AllReadyH.nil)
  go_simp
  go_wp2_with (go_at_call 29; refine (HNd _).mono ?_; rintro e x ⟨rfl, hx⟩; obtain rfl := hx.symm)
  refine hK.out _ _ hHeld (fun hHeld => ?_)
  (try simp only [Act.put, List.setIfInBounds_toArray, List.set_cons_zero, List.set_cons_succ])
  clear hK K
  refine wpAnyH_ready (rs := [4]) (by kernel_rfl) (by simp) (AllReadyH.cons rfl (fun K hK => ?_) AllReadyH.nil)
  go_simp
  go_wp2_with (go_at_call 47; refine (HFi.out _ (HS.out.keep (KeepT.of_below HYd.out))).mono ?_; rintro e x1 ⟨rfl, hs1, hk1⟩)
  have HS1 := mkHid hs1
  have hk1' := (KS.of_below (base := base) HYd.out (Nat.le_trans HLo.out HB.out.size)).trans hk1
  have HK1' := mkHid hk1'
  refine hK.out _ _ ((hk1'.o.blk HK0.out (by decide)).cell 0) (fun hHeld => ?_)
  (try simp only [Act.put, List.setIfInBounds_toArray, List.set_cons_zero, List.set_cons_succ])
  clear hK K hs1 hk1 hk1'
  refine wpAnyH_ready (rs := [5]) (by kernel_rfl) (by simp) (AllReadyH.cons rfl (fun K hK => ?_) AllReadyH.nil)
  go_simp
  refine hK.out _ _ hHeld (fun hHeld => ?_)
  (try simp only [Act.put, List.setIfInBounds_toArray, List.set_cons_zero, List.set_cons_succ])
  clear hK K
  refine wpAnyH_done (by kernel_rfl) ?_ _
  refine NoPanic.normal ?_
  have b1 := HK1'.out.o.blk HK1.out (by decide)
  have b2 := HK1'.out.o.blk HK2.out (by decide)
  have c1 : x1.cell? ⟨w.heap.size + 1, 0, none⟩ = some (.int .i64 0) := b1.cell 0
  have c2 : x1.cell? ⟨w.heap.size + 1, 1, none⟩ = some (.slice none 0 0) := b1.cell 1
  have c3 : x1.cell? ⟨w.heap.size + 1, 2, none⟩ = some (.slice none 0 0) := b1.cell 2
  have c4 : x1.cell? ⟨w.heap.size + 1 + 1, 0, none⟩ = some (.int .i64 0) := b2.cell 0
  have f1 := b1.frozen 0
  have f2 := b1.frozen 1
  have f3 := b1.frozen 2
  have f4 := b2.frozen 0
  have HB1 := mkHid b1
  have HB2 := mkHid b2
  clear b1 b2 hHeld
  go_wp2_with fail
  (try simp only [Exit.inBlock, Exit.then])
  obtain ⟨k3, k4, hT, hB5⟩ := put_store HB1.out HB2.out (.int .i64 0) (.slice none 0 0) (.slice none 0 0) (.int .i64 44)
  exact put_leave _ rfl rfl k3 k4 HE.out.1 (by decide) (by rw [HE.out.2]; exact HS1.out.keepN (.ofT hT refs_sub)) (((KS.of_below HB.out HLo.out).trans HK1'.out).new hB5 HLo.out)
end Go.Proofs.YthjdmfbengpepaaGreat
