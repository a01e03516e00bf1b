/- The program's upload: with. -/
import Derived.Test.YtgcmojldegplaaaUpZd
import Derived.Test.YtgcmojldegplaaaUpZe
import Derived.Deep.CutRange
import Derived.Test.YtgcmojldegplaaaTakeL
namespace Go.Proofs.Ytgcmojldegplaaa
open Go.RowKit

theorem cellsC_set : ∀ (l : List Pq) (k : Nat) (p q : Pq), l[k]? = some p → q.1.n = p.1.n → cellsC rtP (l.set k q) = (cellsC rtP l).set (k * 2 + 1) (.slice q.2.ad q.1.d.length q.2.cap)
  | [], _, _, _, h, _ => by simp at h
  | x :: l, 0, p, q, h, e => by
    obtain rfl : x = p := by simpa using h
    show pac q ++ cellsC rtP l = _
    rw [cellsC]
    show _ = (pac x ++ cellsC rtP l).set 1 _
    unfold pac
    rw [e]
    rfl
  | x :: l, k + 1, p, q, h, e => by
    have := cellsC_set l k p q (by simpa using h) e
    rw [List.set_cons_succ]
    show pac x ++ cellsC rtP (l.set k q) = _
    rw [this, cellsC, show (k + 1) * 2 + 1 = (pac x).length + (k * 2 + 1) by show _ = 2 + (k * 2 + 1); omega]
    show _ = (pac x ++ _).set _ _
    rw [List.set_append_right _ _ (by omega), Nat.add_sub_cancel_left]
/-- a part's bytes turned to others, in place -/
theorem OwnC.setD {w : World} {base g n cap : Nat} {l : List Pq} (h : OwnC rtP w base (.slice (some ⟨g, 0, none⟩) n cap) l) (hn : l.length = n) (k : Nat) (p q : Pq) (hp : l[k]? = some p) (e : q.1.n = p.1.n) :
    OwnC rtP (w.setCell ⟨g, k * 2 + 1, none⟩ (.slice q.2.ad q.1.d.length q.2.cap)) base (.slice (some ⟨g, 0, none⟩) n cap) (l.set k q) ∧ w.grownBy (w.setCell ⟨g, k * 2 + 1, none⟩ (.slice q.2.ad q.1.d.length q.2.cap)) (some g) := by
  subst hn
  have hs := World.ownsRow.stored h (k * 2 + 1) (.slice q.2.ad q.1.d.length q.2.cap)
  refine ⟨?_, hs.2⟩
  unfold OwnC
  rw [List.length_set, cellsC_set l k p q hp e]
  exact hs.1
/-- a part whose bytes lie below, or are the call's own -/
inductive PaG (w0 : World) (base : Nat) (wr : World) (p : Pq) : Prop
  | low (h : PaW w0 p)
  | own (n0 : -9223372036854775808 ≤ p.1.n) (n1 : p.1.n ≤ 9223372036854775807) (h : OwnB wr base (.slice p.2.ad p.1.d.length p.2.cap) p.1.d)
theorem PaG.keep {w0 wr wx : World} {base : Nat} {p : Pq} (h : PaG w0 base wr p) (hk : KeepO [5] wr wx) : PaG w0 base wx p := by
  cases h with
  | low h => exact .low h
  | own n0 n1 h => exact .own n0 n1 (own_keepO hk h (List.mem_singleton.2 rfl))
theorem PaG.ok {w0 wr : World} {base : Nat} {p : Pq} (h : PaG w0 base wr p) (hb : Below w0.heap.size w0 wr) : PaOK wr p := by
  cases h with
  | low h => exact h wr hb
  | own n0 n1 h =>
    obtain ⟨a, cap, e, hi⟩ := h.isB
    injection e with e1 e2 e3
    rw [← e1, ← e3] at hi
    exact ⟨n0, n1, hi⟩
/-- the row on its way: each part's bytes become the call's own -/
structure RnP (w0 w wr : World) (v : Value) (ps : List Pa) : Prop where
  bel0 : Below w0.heap.size w0 w
  bel : Below w.heap.size w wr
  has : ∃ L : List Pq, OwnC rtP wr w.heap.size v L ∧ L.map Prod.fst = ps ∧ ∀ p ∈ L, PaG w0 w.heap.size wr p
theorem RnP.all {w0 w wr : World} {v : Value} {ps : List Pa} (h : RnP w0 w wr v ps) : Below w0.heap.size w0 wr := h.bel0.trans (h.bel.mono h.bel0.size)
/-- at the end: blocks of uploads may have been turned -/
theorem RnP.fin {w0 w wr wx : World} {v : Value} {ps : List Pa} (h : RnP w0 w wr v ps) (hk : KeepT [25] wr wx) (hb : Below w0.heap.size w0 wx) : ∃ a m cap l', v = .slice a m cap ∧ IsPs16 wx a m cap l' ∧ l'.map Prod.fst = ps := by
  obtain ⟨L, h1, h2, h3⟩ := h.has
  have h1x := h1.keep (us := [43]) (KeepO.ofT hk (by decide)) (List.mem_singleton.2 rfl)
  obtain ⟨a, m, cap, rfl, h4⟩ := h1x.ps16 (fun p hp => ((h3 p hp).keep (KeepO.ofT hk (by decide))).ok hb)
  exact ⟨a, m, cap, L, rfl, h4, h2⟩
theorem RnP.form {w0 w wr : World} {v : Value} {ps : List Pa} (h : RnP w0 w wr v ps) (h0 : 0 < ps.length) : ∃ g cap, v = .slice (some ⟨g, 0, none⟩) ps.length cap := by
  obtain ⟨L, h1, rfl, h3⟩ := h.has
  rw [List.length_map] at h0 ⊢
  obtain ⟨av, cap, rfl, _, _, hc⟩ := h1.form okP
  obtain ⟨g, rfl, _⟩ := hc h0
  exact ⟨g, cap, rfl⟩
/-- the part at a place; its bytes turned to the same bytes elsewhere -/
theorem RnP.step {w0 w wr : World} {v : Value} {ps : List Pa} (h : RnP w0 w wr v ps) (k : Nat) (hk : k < ps.length) :
    ∃ g cap q a c, v = .slice (some ⟨g, 0, none⟩) ps.length cap ∧ ps[k]? = some q ∧ wr.cell? ⟨g, k * 2 + 1, none⟩ = some (.slice a q.d.length c) ∧ IsB wr a q.d.length c q.d ∧
      ∀ wx a' c', Below wr.heap.size wr wx → OwnB wx wr.heap.size (.slice a' q.d.length c') q.d → wx.frozen? ⟨g, k * 2 + 1, none⟩ = false ∧ RnP w0 w (wx.setCell ⟨g, k * 2 + 1, none⟩ (.slice a' q.d.length c')) v ps := by
  have hall := h.all
  obtain ⟨L, h1, rfl, h3⟩ := h.has
  rw [List.length_map] at hk ⊢
  obtain ⟨av, cap, rfl, _, _, hc⟩ := h1.form okP
  obtain ⟨g, rfl, hg, _, hcl⟩ := hc (by omega)
  have hp : L[k]? = some L[k] := List.getElem?_eq_getElem hk
  have hok := (h3 _ (List.getElem_mem hk)).ok hall
  refine ⟨g, cap, (L[k]).1, (L[k]).2.ad, (L[k]).2.cap, rfl, by rw [List.getElem?_map, hp]; rfl, hcl k hk 1 (by decide), hok.d, fun wx a' c' hb ho => ?_⟩
  have h1x := h1.on hb
  refine ⟨World.ownsRow.frozenAt h1x _, ?_⟩
  obtain ⟨s1, s2⟩ := h1x.setD rfl k L[k] ((L[k]).1, ⟨a', c'⟩) hp rfl
  have hbx := h.bel.trans (hb.mono h.bel.size)
  have hkt : KeepO [5] wx (wx.setCell ⟨g, k * 2 + 1, none⟩ (.slice a' (L[k]).1.d.length c')) := KeepO.ofT (KeepT.grownC h1x s2) (by decide)
  refine ⟨h.bel0, hbx.grown s2 hbx.size (fun j hj => by obtain rfl := Option.some.inj hj; exact hg), L.set k ((L[k]).1, ⟨a', c'⟩), s1, ?_, fun p hpm => ?_⟩
  · rw [List.map_set]
    have : (L.map Prod.fst)[k]? = some (L[k]).1 := by rw [List.getElem?_map, hp]; rfl
    obtain ⟨hk2, e2⟩ := List.getElem?_eq_some_iff.1 this
    show (L.map Prod.fst).set k (L[k]).1 = _
    rw [← e2, List.set_getElem_self]
  · rcases List.mem_or_eq_of_mem_set hpm with hm | rfl
    · exact ((h3 p hm).keep (KeepO.of_below hb)).keep hkt
    · exact .own hok.n0 hok.n1 (own_base (own_keepO hkt ho (List.mem_singleton.2 rfl)) h.bel.size)
attribute [local go_sem] undef
set_option maxRecDepth 20000 in
set_option maxHeartbeats 8000000 in
theorem codWith16 (a : Option Addr) (n cap : Nat) (l : List Pq) (x : Pq) (w0 w : World) (hW0 : Below w0.heap.size w0 w) (h0 : IsPs16 w0 a n cap l) (hr : rightPs (l.map Prod.fst) = true) (hx : PaOK w0 x) (hxs : x.1.d.length ≤ 1536) :
    Calls Try.prog 18 #[.slice a n cap, .agg (pac x).toArray] w fun e w' => (∃ a' m cap', e = .returned (.slice a' m cap') ∧ RnP w0 w w' (.slice a' m cap') (putPs (l.map Prod.fst) x.1.n x.1.d)) ∧ Below w.heap.size w w' := by
  have h := h0.below hW0
  have hn4 : n ≤ 4 := h.len4 hr
  have HR := mkHid (right_rise l 0 hr).2
  have HLn := mkHid h.row.len
  have hle := h.le
  have hY : Below w.heap.size w (w.alloc (.cells (pac x).toArray 43)) := (Below.refl _ w).alloc (Nat.le_refl _) _
  have K0 := Blk.new w 43 (pac x)
  have HPl : Hid (∀ p ∈ l, PaW w0 p) := fun p hp V hV => (h0.ok p hp).below hV
  have HPx : Hid (PaW w0 x) := fun V hV => hx.below hV
  have HSm : Hid (∀ p ∈ l, p.1.d.length ≤ 1536) := h.small hr
  have HSr : Hid (∀ W, Below w.heap.size w W → SrcC rtP W a n cap l) := fun W hW => (h.row.src okP h.nil).below hW
  have HF : Hid (∀ W, Below w.heap.size w W → Calls Try.prog 19 #[.slice a n cap, .int .i64 x.1.n] W fun e w' => (∃ i b, e = .returned (.tuple #[.int .i64 ((i : Nat) : Int), .bool b]) ∧ AtP l x.1.n i b) ∧ Below W.heap.size W w') := fun W hW => codFind16 a n cap l x.1.n W (h.row.below hW (Nat.le_refl _)) (by omega)
  have HW0 := mkHid hW0
  clear h h0 hr hx hW0
  obtain ⟨⟨xn, xd⟩, ⟨xa, xc⟩⟩ := x
  simp only [pac] at *
  obtain ⟨dl, hdl⟩ : ∃ dl, dl = xd.length := ⟨_, rfl⟩
  have HDl := mkHid hdl
  rw [← hdl] at K0 hY hxs ⊢
  clear hdl
  generalize hyy : w.alloc (.cells #[.int .i64 xn, .slice xa dl xc] 43) = y0 at *
  have c0 := K0.cell 0
  simp only [List.getElem?_cons_zero] at c0
  go_enter Try.func18, Try.ntmps18
  go_upto_region 1 with fail
  have HCF := HF.out y0 hY
  go_upto_region 2 with (go_at_call 19; refine HCF.mono ?_; rintro e y1 ⟨⟨i, b, rfl, hA⟩, hb1⟩)
  have HA := mkHid hA
  have hi : i ≤ n := by have := hA.le; rw [HLn.out] at this; exact this
  have hB1 := hY.trans (hb1.mono hY.size)
  have K1 := K0.on hb1
  clear HCF hA c0 K0 hb1 HF hY hyy
  have hs1 : ∀ W, (Instr.slice 23 (.slice a n cap) (some (.int .i64 (i : Int))) none none).run Try.prog W = .ok (.slice (cutC rtP a cap i) (n - i) (cap - i)) W := fun W => slLC okP a n cap i hi W
  have hs0 : ∀ W, (Instr.slice 23 (.slice a n cap) none (some (.int .i64 (i : Int))) none).run Try.prog W = .ok (.slice a i cap) W := fun W => slHC okP a n cap i (by omega) W
  have HT1 : Hid (∀ W, Below w.heap.size w W → SrcC rtP W (cutC rtP a cap i) (n - i) (cap - i) (l.drop i)) := fun W hW => (HSr.out W hW).tail okP i hi hle
  have HH1 : Hid (∀ W, Below w.heap.size w W → SrcC rtP W a i cap (l.take i)) := fun W hW => (HSr.out W hW).head okP i hi
  generalize cutC rtP a cap i = A1 at *
  have hs2 : b = true → ∀ W, (Instr.slice 23 (.slice A1 (n - i) (cap - i)) (some (.int .i64 1)) none none).run Try.prog W = .ok (.slice (cutC rtP A1 (cap - i) 1) (n - i - 1) (cap - i - 1)) W := fun hb W => by
    subst hb
    obtain ⟨_, _, _, h3⟩ := HA.out.there
    exact slLC okP A1 (n - i) (cap - i) 1 (by rw [HLn.out] at h3; omega) W
  have HT2 : Hid (b = true → ∀ W, Below w.heap.size w W → SrcC rtP W (cutC rtP A1 (cap - i) 1) (n - i - 1) (cap - i - 1) (l.drop (i + 1))) := fun hb W hW => by
    subst hb
    obtain ⟨_, _, _, h3⟩ := HA.out.there
    rw [HLn.out] at h3
    have := (HT1.out W hW).tail okP 1 (by omega) (by omega)
    rw [List.drop_drop] at this
    exact this
  go_upto_if 20 with fail
  go_cut [7] from 20 (fun v wx => ∃ A2 m2 c2, v = .slice A2 m2 c2 ∧ m2 ≤ 4 ∧ Hid (∀ W, Below w.heap.size w W → SrcC rtP W A2 m2 c2 (l.drop (if b then i + 1 else i))) ∧ y1 = wx)
  case first =>
    cases b with
    | true =>
      replace hs2 := hs2 rfl
      replace HT2 := mkHid (HT2.out rfl)
      go_wp2_with fail
      go_meet
      case rel => exact ⟨_, _, _, rfl, by omega, HT2, rfl⟩
    | false =>
      go_wp2_with fail
      go_meet
      case rel => exact ⟨_, _, _, rfl, by omega, HT1, rfl⟩
  case rest =>
    obtain ⟨A2, m2, c2, rfl, hm2, HT, rfl⟩ := hcut
    have HCo : ∀ W, Below y1.heap.size y1 W → Calls Try.prog 20 #[.slice (some ⟨W.heap.size + 1, 0, none⟩) 3 3] ((W.alloc (.cells #[.int .i64 xn, .slice xa dl xc] 43)).alloc (.cells #[.slice a i cap, .slice (some ⟨W.heap.size, 0, none⟩) 1 1, .slice A2 m2 c2] 23)) fun e w' => ∃ g N cp, e = .returned (.slice (some ⟨g, 0, none⟩) N cp) ∧ Hid (RnP w0 w w' (.slice (some ⟨g, 0, none⟩) N cp) (putPs (l.map Prod.fst) xn xd)) ∧ Hid (N = (putPs (l.map Prod.fst) xn xd).length) ∧ Below y1.heap.size y1 w' := fun W hW => by
      have b1 : Below W.heap.size W ((W.alloc (.cells #[.int .i64 xn, .slice xa dl xc] 43)).alloc (.cells #[.slice a i cap, .slice (some ⟨W.heap.size, 0, none⟩) 1 1, .slice A2 m2 c2] 23)) := ((Below.refl _ W).alloc (Nat.le_refl _) _).alloc (by simp) _
      have k1 := Blk.newAt (W.alloc (.cells #[.int .i64 xn, .slice xa dl xc] 43)) (W.heap.size + 1) 23 #[.slice a i cap, .slice (some ⟨W.heap.size, 0, none⟩) 1 1, .slice A2 m2 c2] _ (by simp) rfl
      have k0 : Blk ((W.alloc (.cells #[.int .i64 xn, .slice xa dl xc] 43)).alloc (.cells #[.slice a i cap, .slice (some ⟨W.heap.size, 0, none⟩) 1 1, .slice A2 m2 c2] 23)) W.heap.size 43 (pac ((⟨xn, xd⟩, ⟨xa, xc⟩) : Pq)) := by
        unfold pac
        simp only [← HDl.out]
        exact (Blk.newAt W _ _ _ _ rfl rfl).alloc _
      have hbW := (hB1.trans (hW.mono hB1.size))
      have hb2 := hbW.trans (b1.mono hbW.size)
      refine (codConcat16 (W.heap.size + 1) a i cap (some ⟨W.heap.size, 0, none⟩) 1 1 A2 m2 c2 (l.take i) [((⟨xn, xd⟩, ⟨xa, xc⟩) : Pq)] (l.drop (if b then i + 1 else i)) _ k1 (HH1.out _ hb2) k0.srcC (HT.out _ hb2) (Nat.le_refl _) (by omega)).mono ?_
      rintro e w' ⟨v, rfl, ho, hb⟩
      have hbw := hb2.trans (hb.mono hb2.size)
      have hR : RnP w0 w w' v (putPs (l.map Prod.fst) xn xd) := ⟨HW0.out, hbw, _, ho.base hb2.size, by rw [HA.out.put HR.out, List.map_append, List.map_append, List.append_assoc]; rfl, fun p hp => by
        rcases List.mem_append.1 hp with hp | hp
        · rcases List.mem_append.1 hp with hp | hp
          · exact .low (HPl.out p (List.mem_of_mem_take hp))
          · obtain rfl := List.mem_singleton.1 hp
            exact .low HPx.out
        · exact .low (HPl.out p (List.mem_of_mem_drop hp))⟩
      obtain ⟨g, cp, rfl⟩ := hR.form (by rw [HA.out.put HR.out]; simp; omega)
      exact ⟨g, _, cp, rfl, hR, rfl, hW.trans ((b1.mono hW.size).trans (hb.mono (Nat.le_trans hW.size b1.size)))⟩
    have HPs : Hid (∀ q ∈ putPs (l.map Prod.fst) xn xd, q.d.length ≤ 1536) := fun q hq => by
      rw [HA.out.put HR.out] at hq
      rcases List.mem_append.1 hq with hq | hq
      · obtain ⟨p, hp, rfl⟩ := List.mem_map.1 hq
        exact HSm.out p (List.mem_of_mem_take hp)
      · rcases List.mem_cons.1 hq with rfl | hq
        · show xd.length ≤ 1536
          rw [← HDl.out]; exact hxs
        · obtain ⟨p, hp, rfl⟩ := List.mem_map.1 hq
          exact HSm.out p (List.mem_of_mem_drop hp)
    have HPn : Hid ((putPs (l.map Prod.fst) xn xd).length ≤ 9) := by
      unfold Hid
      rw [HA.out.put HR.out, List.length_append, List.length_cons, List.length_map, List.length_map, List.length_take, List.length_drop, HLn.out]
      omega
    obtain ⟨ps, hps⟩ : ∃ ps, putPs (l.map Prod.fst) xn xd = ps := ⟨_, rfl⟩
    rw [hps] at HPs HPn
    simp only [hps] at HCo
    have HPe := mkHid hps
    clear hps
    have e0 := K1.cell 0
    have e1 := K1.cell 1
    simp only [List.getElem?_cons_zero, List.getElem?_cons_succ] at e0 e1
    have HCe : ∀ W, Below y1.heap.size y1 W → Below y1.heap.size y1 W ∧ W.cell? ⟨w.heap.size, 0, none⟩ = some (.int .i64 xn) ∧ W.cell? ⟨w.heap.size, 1, none⟩ = some (.slice xa dl xc) := fun W hW => ⟨hW, (K1.on hW).cell 0, (K1.on hW).cell 1⟩
    have HBy := mkHid hB1
    clear hs1 hs2 HT1 HT2 HT HH1 HA HPl HPx HSm HSr HW0 HR HLn K1 hB1 HDl hi hle hn4 hm2
    go_upto_region 5 with fail
    go_cut [8] from 23 (fun v wx => ∃ g N cp, v = .slice (some ⟨g, 0, none⟩) N cp ∧ Hid (RnP w0 w wx (.slice (some ⟨g, 0, none⟩) N cp) ps) ∧ Hid (N = ps.length))
    case first =>
      refine lk0 (fun w' => Below y1.heap.size y1 w' ∧ w'.cell? ⟨w.heap.size, 0, none⟩ = some (.int .i64 xn) ∧ w'.cell? ⟨w.heap.size, 1, none⟩ = some (.slice xa dl xc)) 8 (HCe _ ((Below.refl _ y1).drew)) (fun hHeld => ?_)
      refine lkT 23 0 (.slice a n cap) rfl (Or.inl ⟨by rfl, ?_⟩) hHeld ?_
      · intro w hSw; go_simp
      (try simp only [Act.put, List.setIfInBounds_toArray, List.set_cons_zero, List.set_cons_succ])
      refine lkT 24 1 (.int .i64 (i : Int)) rfl (Or.inl ⟨by rfl, ?_⟩) hHeld ?_
      · intro w hSw; go_simp
      (try simp only [Act.put, List.setIfInBounds_toArray, List.set_cons_zero, List.set_cons_succ])
      refine lkT 25 2 (.slice a i cap) rfl (Or.inl ⟨by rfl, ?_⟩) hHeld ?_
      · intro w hSw; go_simp
      (try simp only [Act.put, List.setIfInBounds_toArray, List.set_cons_zero, List.set_cons_succ])
      refine lkT 26 3 (.agg #[.int .i64 xn, .slice xa dl xc]) rfl (Or.inl ⟨by rfl, ?_⟩) hHeld ?_
      · intro w hSw; obtain ⟨-, s1, s2⟩ := hSw; go_simp
      (try simp only [Act.put, List.setIfInBounds_toArray, List.set_cons_zero, List.set_cons_succ])
      refine lkT 28 5 (.slice A2 m2 c2) rfl (Or.inl ⟨by rfl, ?_⟩) hHeld ?_
      · intro w hSw; go_simp
      (try simp only [Act.put, List.setIfInBounds_toArray, List.set_cons_zero, List.set_cons_succ])
      have hD : Below y1.heap.size y1 y1.drew := (Below.refl _ y1).drew
      have hCo := HCo y1.drew hD
      refine lk1 4 rfl (fun K hK => ?_)
      go_simp
      refine hK.out _ _ (HCe _ (hD.alloc hD.size _)) (fun hHeld => ?_)
      (try simp only [Act.put, List.setIfInBounds_toArray, List.set_cons_zero, List.set_cons_succ])
      clear hK K
      refine lk1 6 rfl (fun K hK => ?_)
      go_simp
      refine hK.out _ _ (HCe _ ((hD.alloc hD.size _).alloc (hD.alloc hD.size _).size _)) (fun hHeld => ?_)
      (try simp only [Act.put, List.setIfInBounds_toArray, List.set_cons_zero, List.set_cons_succ])
      clear hK K
      refine lk1 7 rfl (fun K hK => ?_)
      go_simp
      rw [show y1.drew.heap.size = y1.heap.size from rfl, show (y1.drew.alloc (.cells #[.int .i64 xn, .slice xa dl xc] 43)).alloc (.cells #[.slice a i cap, .slice (some ⟨y1.heap.size, 0, none⟩) 1 1, .slice A2 m2 c2] 23) = ((y1.alloc (.cells #[.int .i64 xn, .slice xa dl xc] 43)).alloc (.cells #[.slice a i cap, .slice (some ⟨y1.heap.size, 0, none⟩) 1 1, .slice A2 m2 c2] 23)).drew from rfl] at hCo
      refine hCo.mono ?_
      rintro e y2 ⟨g, N, cp, rfl, hRn, hNn, hbx⟩
      go_simp
      refine hK.out _ _ (HCe _ hbx) (fun hHeld => ?_)
      (try simp only [Act.put, List.setIfInBounds_toArray, List.set_cons_zero, List.set_cons_succ])
      clear hK K
      refine lkZ rfl (fun K hK => ?_)
      go_simp
      refine hK.out _ _ ?_
      simp only [Exit.then]
      (try simp only [Act.put, List.setIfInBounds_toArray, List.set_cons_zero, List.set_cons_succ])
      clear hK K
      (try go_wp2_with fail)
      go_meet
      case rel => exact ⟨_, _, _, rfl, hRn, hNn⟩
    case rest =>
      obtain ⟨g, N, cp, rfl, HRn, HNn⟩ := hcut
      have HN9 : Hid (N ≤ 9) := by unfold Hid; rw [HNn.out]; exact HPn.out
      clear HCe HCo e0 e1 HBy hs0 HPn
      go_wp2_with fail
      go_loopw [33] (fun i wr => ∃ k : Nat, k ≤ N ∧ i = .int .i64 (k : Int) ∧ Hid (RnP w0 w wr (.slice (some ⟨g, 0, none⟩) N cp) ps)) (fun i _ => N - (Go.RowKit.intOf i).toNat)
      case atStart => exact ⟨0, Nat.zero_le _, rfl, HRn⟩
      case round =>
        clear HRn
        obtain ⟨k, hk, rfl, HRn⟩ := hrel
        by_cases hlt : k < N
        · obtain ⟨g', cp', q, qa, qc, hv, hq, hcell, hisb, hnext⟩ := HRn.out.step k (by rw [← HNn.out]; exact hlt)
          injection hv with hv1 hv2 hv3
          injection hv1 with hv1
          injection hv1 with hv1
          subst hv1
          have hql := HPs.out q (List.mem_of_getElem? hq)
          obtain ⟨ql, hqd⟩ : ∃ ql, ql = q.d.length := ⟨_, rfl⟩
          rw [← hqd] at hcell hisb hnext hql
          have HQd := mkHid hqd
          have HNx := mkHid hnext
          have HCl := codClone16 qa ql qc q.d wr hisb (by omega)
          have hlt' : (k : Int) < (N : Int) := by omega
          have hk0 : (0 : Int) ≤ (k : Int) := by omega
          have Hlt := mkHid hlt
          have hN9 := HN9.out
          clear hv2 hv3 hq hisb hnext hqd hlt hk
          go_wp2_with (go_at_call 21; refine HCl.mono ?_; rintro e y ⟨⟨v', rfl, ho⟩, hb⟩; obtain ⟨a', c', rfl, hi'⟩ := ho.isB; rw [← HQd.out] at ho ⊢; obtain ⟨hfz, hRn⟩ := HNx.out y a' c' hb ho; have HRn2 := mkHid hRn; have hcy := (hb.cell (p := ⟨g, k * 2 + 1, none⟩) (cell_lt hcell)).trans hcell; clear hRn hi' ho hcell)
          go_roundw
          case rel => exact ⟨k + 1, Hlt.out, by go_num, HRn2⟩
          case measure => simp [Go.RowKit.intOf]; have := Hlt.out; omega
        · obtain rfl : k = N := by omega
          have hge : ¬ (k : Int) < (k : Int) := by omega
          go_wp2_with fail
          go_ret
          exact ⟨⟨_, _, _, rfl, by rw [HPe.out]; exact HRn.out⟩, HRn.out.bel⟩
end Go.Proofs.Ytgcmojldegplaaa
