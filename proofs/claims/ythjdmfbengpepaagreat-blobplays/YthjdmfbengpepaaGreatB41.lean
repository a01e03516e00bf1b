/- The program's blob: Drop. · Blobs on a new disk of 64, plain: what is put lies there. · Get, plain; what was put on a new disk of 64 is got. · What digest.Same answers, of any two slices of bytes. -/
import Derived.Test.YthjdmfbengpepaaGreatB31
import Derived.Test.YthjdmfbengpepaaGreatB30
import Derived.Test.YthjdmfbengpepaaGreatB27
import Derived.Test.YthjdmfbengpepaaGreatB15
namespace Go.Proofs.YthjdmfbengpepaaGreat
open Go.RowKit

theorem own_on8 {w w' : World} {base : Nat} {v : Value} {l : List UInt8} (h : OwnB w base v l) (hb : Below w.heap.size w w') : OwnB w' base v l := own_keepO (us := [5]) (KeepO.of_below hb) h (by decide)
set_option maxRecDepth 20000 in
set_option maxHeartbeats 2000000 in
theorem codDrop12 {JA : World → Nat → Nat → Nat → Jl → Prop} {SA : World → Nat → Nat → Nat → Nat → Tl → Jl → Prop} (so : SpcOK JA SA) (w : World) (S J P base m : Nat) (t : Tl) (j : Jl) (r : Rf) (q : RfA) (h : SA w S J P base t j) (hf : Fit t j m) (hr : ∀ W, KS base w W → IsRf W r q) :
    Calls Tryz.prog 12 #[.pointer (some ⟨S, 0, none⟩), .agg (rfc r q).toArray] w fun e w' => e = .returned (.int .i64 (dropE t j r)) ∧ SA w' S J P base (dropT t j r) j ∧ KS base w w' := by
  have hY : Below w.heap.size w (w.alloc (.cells (rfc r q).toArray 44)) := (Below.refl _ w).alloc (Nat.le_refl _) _
  have kb := Blk.new w 44 (rfc r q)
  have HLo := mkHid (so.lo h)
  have HKY := mkHid (KS.of_below hY HLo.out)
  have HSY := mkHid (so.keep h (KeepT.of_below hY))
  have HRt := codRight12 r q _ (hr _ HKY.out)
  have HRr : Hid (∀ W, KS base w W → IsRf W r q) := hr
  have HFt := mkHid hf
  have HSec : Hid (rightL r = true → ∀ k, k < r.secs.length → 51 ≤ r.secs.getD k 0 ∧ r.secs.getD k 0 < 4096) := fun h k hk => right_sec h hk
  have HDE : Hid (rightL r = true → dropE t j r = (dropGo j r.secs t).1 ∧ dropT t j r = (dropGo j r.secs t).2) := fun h => by unfold dropE dropT; rw [if_pos h, if_pos h]; exact ⟨rfl, rfl⟩
  have HDN : Hid (rightL r = false → dropE t j r = 1 ∧ dropT t j r = t) := fun h => by unfold dropE dropT; rw [h]; exact ⟨rfl, rfl⟩
  clear h hY hr hf
  generalize dropE t j r = dE at *
  generalize dropT t j r = dT at *
  obtain ⟨rl, rs, rz⟩ := r
  obtain ⟨qa, qc, qb, qd⟩ := q
  simp only [rfc] at *
  have HKb := mkHid kb
  have c0 := kb.cell 0
  have c1 := kb.cell 1
  have c2 := kb.cell 2
  simp only [List.getElem?_cons_zero, List.getElem?_cons_succ] at c0 c1 c2
  clear kb
  cases hrt : rightL ⟨rl, rs, rz⟩ with
  | false =>
    rw [hrt] at HRt
    have HN := mkHid (HDN.out hrt)
    clear hrt
    go_enter Tryz.func12, Tryz.ntmps12
    go_wp2_with fail
    refine HRt.mono ?_
    rintro e y1 ⟨rfl, hb1⟩
    have HK1 := mkHid (HKY.out.trans (KS.of_below hb1 (so.lo HSY.out)))
    have HS1 := mkHid (so.keep HSY.out (KeepT.of_below hb1))
    clear hb1 HRt
    go_wp2_with fail
    go_ret
    exact ⟨by rw [HN.out.1]; rfl, by rw [HN.out.2]; exact HS1.out, HK1.out⟩
  | true =>
    rw [hrt] at HRt
    have HD := mkHid (HDE.out hrt)
    have hSc := HSec.out hrt
    have HSc : Hid (∀ k, k < rz.length → 51 ≤ rz.getD k 0 ∧ rz.getD k 0 < 4096) := hSc
    have hzl : rz.length ≤ 12 := right_len (r := ⟨rl, rs, rz⟩) hrt
    clear hrt HDN HDE HSec hSc
    go_enter Tryz.func12, Tryz.ntmps12
    go_wp2_with fail
    refine HRt.mono ?_
    rintro e y1 ⟨rfl, hb1⟩
    have HK1 := mkHid (KS.of_below (base := base) hb1 (so.lo HSY.out))
    have HS1 := mkHid (so.keep HSY.out (KeepT.of_below hb1))
    have c3 : y1.cell? ⟨w.heap.size, 2, none⟩ = some (.slice qb rz.length qd) := Blk.cell (HK1.out.o.blk HKb.out (by decide)) 2
    clear hb1 HRt c0 c1 c2
    go_wp2_with fail
    clear c3
    generalize w.alloc (.cells #[.int .i64 rl, .slice qa rs.length qc, .slice qb rz.length qd] 44) = Y at *
    go_loopw [16] (fun i wr => ∃ (k : Nat) (t' : Tl), k ≤ rz.length ∧ i = .int .i64 (k : Int) ∧ Hid (dropGo j rz t = dropGo j (rz.drop k) t') ∧ Hid (SA wr S J P base t' j ∧ Fit t' j m) ∧ Hid (KS base Y wr)) (fun i _ => rz.length - (Go.RowKit.intOf i).toNat)
    case atStart => exact ⟨0, t, Nat.zero_le _, rfl, rfl, ⟨HS1.out, HFt.out⟩, HK1⟩
    case round =>
      clear HS1 HK1 HFt
      obtain ⟨k, t', hk, rfl, HDr, HS, HK⟩ := hrel
      by_cases hlt : k < rz.length
      · have hlt' : (k : Int) < (rz.length : Int) := by omega
        obtain ⟨g, off, hge, _, hcs⟩ := (HRr.out wr (HKY.out.trans HK.out)).secs.cells (show 0 < rz.length by omega)
        change qb = _ at hge
        subst hge
        have f0 : wr.cell? ⟨g, off + k, none⟩ = some (.int .i64 (rz.getD k 0)) := hcs k hlt
        have hsr := HSc.out k hlt
        have HNo : Hid (gvE t' j (rz.getD k 0) ≠ 0 → dropGo j (rz.drop k) t' = (gvE t' j (rz.getD k 0), gvT t' j (rz.getD k 0))) := dropGo_no hlt
        have HOn : Hid (gvE t' j (rz.getD k 0) = 0 → dropGo j (rz.drop k) t' = dropGo j (rz.drop (k + 1)) (gvT t' j (rz.getD k 0))) := dropGo_on hlt
        clear hcs
        generalize rz.getD k 0 = s at *
        have HGv := so.give wr S J P base m t' j s HS.out.1 HS.out.2 (by omega) (by omega)
        have HF2 := mkHid (HS.out.2.give s)
        generalize gvT t' j s = t2 at *
        generalize gvE t' j s = E at *
        by_cases hz : E = 0
        · subst hz
          have HD2 : Hid (dropGo j rz t = dropGo j (rz.drop (k + 1)) t2) := HDr.out.trans (HOn.out rfl)
          clear HNo HOn HDr
          go_wp2_with fail
          refine HGv.mono ?_
          rintro e y2 ⟨rfl, hs2, hk2⟩
          have HS2 : Hid (SA y2 S J P base t2 j ∧ Fit t2 j m) := ⟨hs2, HF2.out⟩
          have HK2 := mkHid (HK.out.trans hk2)
          clear HGv hs2 hk2 HS HK
          go_wp2_with fail
          go_roundw
          case rel => exact ⟨k + 1, t2, by omega, by go_num, HD2, HS2, HK2⟩
          case measure => simp [Go.RowKit.intOf]; omega
        · have HD2 : Hid (dropGo j rz t = (E, t2)) := HDr.out.trans (HNo.out hz)
          clear HNo HOn HDr
          go_wp2_with fail
          refine HGv.mono ?_
          rintro e y2 ⟨rfl, hs2, hk2⟩
          have HS2 := mkHid hs2
          have HK2 := mkHid (HKY.out.trans (HK.out.trans hk2))
          clear HGv hs2 hk2 HS HK
          go_wp2_with fail
          go_ret
          exact ⟨by rw [HD.out.1, HD2.out]; rfl, by rw [HD.out.2, HD2.out]; exact HS2.out, HK2.out⟩
      · have hlt' : ¬ (k : Int) < (rz.length : Int) := by omega
        have HD2 : Hid (dropGo j rz t = (0, t')) := by unfold Hid; rw [HDr.out, List.drop_of_length_le (by omega)]; rfl
        go_wp2_with fail
        go_ret
        exact ⟨by rw [HD.out.1, HD2.out]; rfl, by rw [HD.out.2, HD2.out]; exact HS.out.1, HKY.out.trans HK.out⟩
end Go.Proofs.YthjdmfbengpepaaGreat
namespace Go.Proofs.YthjdmfbengpepaaGreat
open Go.RowKit

theorem Outs.write {t : Tl} {L : List Int} (h : Outs t L) {k : Nat} (h0 : 51 ≤ k) (h1 : k < 64) {b : List UInt8} (hb : b.length = 512) :
    spWrE t aj0 (k : Int) b = 0 ∧ Outs (spWr t aj0 (k : Int) b) L ∧ ∀ z : Int, Tl.find (spWr t aj0 (k : Int) b).l z = if z = (k : Int) then some b else Tl.find t.l z := by
  have hlen := h.len
  have e1 : t.wrE aj0 (k : Int) b = 0 := wr_ok h.fit.over h.fit.dead aj_n (by omega) (by omega) (by omega) hb
  have e2 : spWrE t aj0 (k : Int) b = 0 := by unfold spWrE; rw [if_neg (by omega), e1]
  have e3 : spWr t aj0 (k : Int) b = t.write aj0 (k : Int) b := by unfold spWr; rw [if_neg (by omega)]
  obtain ⟨s1, q1⟩ := write_keys (b := b) e1 h.sort h.keys (by omega) h1
  refine ⟨e2, ?_, fun z => ?_⟩
  · rw [e3]
    refine ⟨h.fit.write _ _, s1, q1, fun x hx hy => ?_, h.nodup, h.rng⟩
    rw [map_other (by omega)]
    exact h.mem x hx hy
  · rw [e3, write_l e1, find_put]
theorem tk_rng' (t : Tl) (j : Jl) : tkK t j = 51 + (j.p.n - 51) ∨ tkK t j < 51 + (j.p.n - 51) := by
  unfold tkK tkI
  rcases tkGo_spec (mapL t j) (j.p.n - 51) 51 with h | h
  · exact .inl h.1
  · exact .inr h.2.1
theorem Outs.taken {t : Tl} {L : List Int} (h : Outs t L) (hl : L.length < 13) : tkE t aj0 = 0 ∧ 51 ≤ tkV t aj0 ∧ tkV t aj0 < 64 ∧ (tkV t aj0 : Int) ∉ L ∧ Outs (tkT t aj0) (L ++ [(tkV t aj0 : Int)]) ∧ ∀ z : Int, z ≠ 49 → z ≠ (tkV t aj0 : Int) → Tl.find (tkT t aj0).l z = Tl.find t.l z := by
  obtain ⟨e, k, hv, h0, h1, hn, hO⟩ := h.take hl
  subst hv
  refine ⟨e, h0, h1, hn, hO, fun z hz hzk => ?_⟩
  have hk : tkK t aj0 ≠ aj0.p.n := fun hk => by rw [(tk_full hk).1] at e; cases e
  have e1 : tkE1 t aj0 (tkK t aj0) = 0 := by
    refine Classical.byContradiction fun hc => ?_
    have := (tk_no1 (x := tkK t aj0) rfl (by
      rcases tk_rng' t aj0 with h | h
      · exact absurd h hk
      · exact h) hc).1
    rw [e] at this
    exact hc this.symm
  have hlt : tkK t aj0 < aj0.p.n := by
    rcases tk_rng' t aj0 with h | h
    · exact absurd h hk
    · exact h
  obtain ⟨a1, a2⟩ := tk_two (x := tkK t aj0) rfl hlt e1
  have e2 : tkE2 t aj0 (tkK t aj0) = 0 := a1.symm.trans e
  have hV : tkV t aj0 = tkK t aj0 := (tk_yes rfl hlt e1 e2).2.1
  rw [a2]
  unfold tkT2
  have e2' : (tkT1 t aj0 (tkK t aj0)).wrE aj0 ((49 : Nat) : Int) (flipL (mapL (tkT1 t aj0 (tkK t aj0)) aj0) (tkK t aj0)) = 0 := e2
  have w2 := write_l e2'
  change ((tkT1 t aj0 (tkK t aj0)).write aj0 49 (flipL (mapL (tkT1 t aj0 (tkK t aj0)) aj0) (tkK t aj0))).l = _ at w2
  rw [w2, find_put, if_neg (show ¬ z = ((49 : Nat) : Int) from hz)]
  unfold tkT1
  rw [write_l e1, find_put, if_neg (by rw [← hV]; exact hzk)]
theorem put_spec (b : List UInt8) : ∀ (f i : Nat) (t : Tl) (L acc : List Int), Outs t L → L.length + f ≤ 13 →
    ∃ (t' : Tl) (secs : List Int), putGo aj0 b f i t acc = (0, t', acc ++ secs) ∧ secs.length = f ∧ Outs t' (L ++ secs) ∧ (∀ x, x < f → Tl.find t'.l (secs.getD x 0) = some (chunkL b (i + x))) ∧ ∀ z ∈ L, Tl.find t'.l z = Tl.find t.l z := by
  intro f
  induction f with
  | zero =>
    intro i t L acc hO _
    exact ⟨t, [], by rw [putGo, List.append_nil], rfl, by rw [List.append_nil]; exact hO, fun x hx => absurd hx (Nat.not_lt_zero _), fun z _ => rfl⟩
  | succ f ih =>
    intro i t L acc hO hl
    obtain ⟨e, h0, h1, hn, hO1, hf1⟩ := hO.taken (by omega)
    obtain ⟨e2, hO2, hf2⟩ := hO1.write h0 h1 (b := chunkL b i) (pad512_len _)
    obtain ⟨t', secs, he, hs, hO3, hc, hk⟩ := ih (i + 1) (spWr (tkT t aj0) aj0 (tkV t aj0 : Int) (chunkL b i)) (L ++ [(tkV t aj0 : Int)]) (acc ++ [(tkV t aj0 : Int)]) hO2 (by rw [List.length_append, List.length_singleton]; omega)
    refine ⟨t', (tkV t aj0 : Int) :: secs, ?_, by rw [List.length_cons, hs], ?_, ?_, ?_⟩
    · rw [putGo, if_neg (fun h => h e), if_neg (fun h => h e2), he, List.append_assoc]; rfl
    · rw [List.append_assoc] at hO3; exact hO3
    · intro x hx
      cases x with
      | zero =>
        show Tl.find t'.l (tkV t aj0 : Int) = _
        rw [hk _ (List.mem_append_right _ (List.mem_singleton.2 rfl)), hf2, if_pos rfl, Nat.add_zero]
      | succ x =>
        have := hc x (by omega)
        rw [show i + 1 + x = i + (x + 1) by omega] at this
        exact this
    · intro z hz
      have hr := hO.rng z hz
      have hne : z ≠ (tkV t aj0 : Int) := fun h => hn (by rw [← h]; exact hz)
      rw [hk z (List.mem_append_left _ hz), hf2, if_neg hne, hf1 z (by omega) hne]
/-- the chunks behind one another are the bytes -/
def joinL (b : List UInt8) (n : Nat) : List UInt8 := ((List.range n).map fun i => chunkL b i).flatten
theorem join_succ (b : List UInt8) (n : Nat) : joinL b (n + 1) = joinL b n ++ chunkL b n := by
  unfold joinL
  rw [List.range_succ, List.map_append, List.flatten_append]
  simp
theorem join_len (b : List UInt8) (n : Nat) : (joinL b n).length = 512 * n := by
  induction n with
  | zero => rfl
  | succ n ih => rw [join_succ, List.length_append, ih]; unfold chunkL; rw [pad512_len]; omega
theorem join_take (b : List UInt8) (n : Nat) : (joinL b n).take (min b.length (512 * n)) = b.take (512 * n) := by
  induction n with
  | zero => simp [joinL]
  | succ n ih =>
    rw [join_succ]
    by_cases h : b.length ≤ 512 * n
    · rw [show min b.length (512 * (n + 1)) = min b.length (512 * n) by omega, List.take_append_of_le_length (by rw [join_len]; omega), ih, List.take_of_length_le h, List.take_of_length_le (by omega)]
    · have e1 : joinL b n = b.take (512 * n) := by
        rw [← ih, show min b.length (512 * n) = 512 * n by omega, ← join_len b n, List.take_length]
      have e2 : chunkL b n = (b.drop (n * 512)).take 512 ++ List.replicate (512 - (b.drop (n * 512)).length) 0 := rfl
      have hl : (b.take (512 * n)).length = 512 * n := by rw [List.length_take]; omega
      rw [e1, List.take_append, hl, List.take_of_length_le (by rw [hl]; omega), e2]
      have e3 : b.take (512 * (n + 1)) = b.take (512 * n) ++ (b.drop (512 * n)).take 512 := by
        rw [← List.take_append_drop (512 * n) (b.take (512 * (n + 1))), List.take_take, show min (512 * n) (512 * (n + 1)) = 512 * n by omega, List.drop_take, show 512 * (n + 1) - 512 * n = 512 by omega]
      rw [e3, show n * 512 = 512 * n by omega]
      congr 1
      have hd : (b.drop (512 * n)).length = b.length - 512 * n := List.length_drop ..
      rw [List.take_append_of_le_length (by rw [List.length_take, hd]; omega)]
      rw [List.take_take]
      by_cases hb : b.length ≤ 512 * (n + 1)
      · rw [show min (min b.length (512 * (n + 1)) - 512 * n) 512 = b.length - 512 * n by omega, List.take_of_length_le (by rw [hd]; omega), List.take_of_length_le (by rw [hd]; omega)]
      · rw [show min (min b.length (512 * (n + 1)) - 512 * n) 512 = 512 by omega]
theorem join_all (b : List UInt8) (n : Nat) (h : b.length ≤ 512 * n) : (joinL b n).take b.length = b := by
  have := join_take b n
  rw [show min b.length (512 * n) = b.length by omega, List.take_of_length_le h] at this
  exact this
end Go.Proofs.YthjdmfbengpepaaGreat
namespace Go.Proofs.YthjdmfbengpepaaGreat
open Go.RowKit

/-- sectors read behind one another -/
def getGo (t : Tl) (j : Jl) : List Int → List UInt8 → Int × List UInt8
  | [], acc => (0, acc)
  | s :: l, acc => if spRdE t j s ≠ 0 then (spRdE t j s, []) else getGo t j l (acc ++ spRdB t j s)
def getE (t : Tl) (j : Jl) (r : Rf) : Int := if rightL r = false then 1 else if (getGo t j r.secs []).1 ≠ 0 then (getGo t j r.secs []).1 else if sha256L ((getGo t j r.secs []).2.take r.len.toNat) = r.sum then 0 else 52
def getB (t : Tl) (j : Jl) (r : Rf) : List UInt8 := if getE t j r = 0 then (getGo t j r.secs []).2.take r.len.toNat else []
theorem get_spec (t : Tl) (j : Jl) (b : List UInt8) : ∀ (l : List Int) (i : Nat), (∀ x, x < l.length → 50 ≤ l.getD x 0 ∧ Tl.find t.l (l.getD x 0) = some (chunkL b (i + x))) → getGo t j l (joinL b i) = (0, joinL b (i + l.length)) := by
  intro l
  induction l with
  | nil => intro i _; rfl
  | cons s l ih =>
    intro i h
    obtain ⟨h0, h1⟩ := h 0 (by simp)
    change 50 ≤ s at h0
    change Tl.find t.l s = some (chunkL b (i + 0)) at h1
    rw [Nat.add_zero] at h1
    have e1 : spRdE t j s = 0 := by unfold spRdE Tl.rdE; rw [if_neg (by omega), h1]
    have e2 : spRdB t j s = chunkL b i := by unfold spRdB Tl.rdB; rw [if_neg (by omega), h1]
    rw [getGo, if_neg (fun h => h e1), e2, ← join_succ, ih (i + 1) (fun x hx => by
      have := h (x + 1) (by rw [List.length_cons]; omega)
      rw [show i + (x + 1) = i + 1 + x by omega] at this
      exact this), List.length_cons, show i + 1 + l.length = i + (l.length + 1) by omega]
theorem need_le (b : List UInt8) : b.length ≤ 512 * putN b := by
  unfold putN needL
  split <;> omega
theorem need_nat (b : List UInt8) : ((putN b : Nat) : Int) = needL (b.length : Int) := by
  unfold putN
  have := needL_nn (b.length : Int)
  omega
/-- what was put is got -/
theorem put_get {t : Tl} {L : List Int} (h : Outs t L) {b : List UInt8} (hb : b.length ≤ 6144) (hr : L.length + putN b ≤ 13) :
    putE t aj0 b = 0 ∧ (putR t aj0 b).secs.length = putN b ∧ Outs (putT t aj0 b) (L ++ (putR t aj0 b).secs) ∧ rightL (putR t aj0 b) = true ∧ getE (putT t aj0 b) aj0 (putR t aj0 b) = 0 ∧ getB (putT t aj0 b) aj0 (putR t aj0 b) = b := by
  have hroom : roomOk t aj0 (putN b) := by
    have h1 := h.all
    have h2 := h.len
    have e : aj0.p.n - 51 = 13 := rfl
    unfold roomOk
    rw [e]
    by_cases h0 : putN b = 0
    · exact .inl h0
    · exact .inr ⟨by omega, by omega⟩
  obtain ⟨t', secs, he, hs, hO, hc, _⟩ := put_spec b (putN b) 0 t L [] h hr
  rw [List.nil_append] at he
  have hA : putAll t aj0 b = (0, t', secs) := he
  have e1 : putE t aj0 b = 0 := by unfold putE; rw [if_neg (by omega), if_neg (fun x => x hroom), hA]
  have e2 : putT t aj0 b = t' := by unfold putT; rw [if_neg (fun x => x.elim (fun y => by omega) (fun y => y hroom)), hA]
  have e3 : putR t aj0 b = ⟨(b.length : Int), sha256L b, secs⟩ := by unfold putR; rw [if_pos e1, hA]
  have hnd := (List.nodup_append.1 hO.nodup).2.1
  have hrg : ∀ z ∈ secs, 51 ≤ z ∧ z ≤ 63 := fun z hz => hO.rng z (List.mem_append_right _ hz)
  have hR : rightL ⟨(b.length : Int), sha256L b, secs⟩ = true := by
    refine decide_eq_true ⟨⟨by show (0 : Int) ≤ (b.length : Int); omega, by show (b.length : Int) ≤ 6144; omega, sha256L_length b, by show (secs.length : Int) = needL (b.length : Int); rw [hs]; exact need_nat b⟩, fun i hi => ?_⟩
    change i < secs.length at hi
    refine ⟨?_, fun x hx => ?_⟩
    · have := hrg _ (getD_mem hi)
      change 51 ≤ secs.getD i 0 ∧ secs.getD i 0 < 4096
      omega
    · change secs.getD x 0 ≠ secs.getD i 0
      have hx2 : x < secs.length := by omega
      have g1 : secs.getD x 0 = secs[x] := by simp [hx2]
      have g2 : secs.getD i 0 = secs[i] := by simp [hi]
      rw [g1, g2]
      exact List.pairwise_iff_getElem.1 hnd x i hx2 hi hx
  have hG : getGo t' aj0 secs [] = (0, joinL b (putN b)) := by
    have := get_spec t' aj0 b secs 0 (fun x hx => ⟨by have := hrg _ (getD_mem hx); omega, hc x (by omega)⟩)
    rw [Nat.zero_add, hs] at this
    exact this
  have hJ : (joinL b (putN b)).take ((b.length : Int)).toNat = b := by rw [Int.toNat_natCast]; exact join_all b (putN b) (need_le b)
  rw [e1, e2, e3]
  have eE : getE t' aj0 ⟨(b.length : Int), sha256L b, secs⟩ = 0 := by
    unfold getE
    rw [hR, if_neg (by simp)]
    show (if (getGo t' aj0 secs []).1 ≠ 0 then _ else if sha256L ((getGo t' aj0 secs []).2.take ((b.length : Int)).toNat) = sha256L b then (0 : Int) else 52) = 0
    rw [hG, if_neg (by simp), hJ, if_pos rfl]
  refine ⟨rfl, hs, hO, hR, eE, ?_⟩
  unfold getB
  rw [if_pos eE]
  show (getGo t' aj0 secs []).2.take ((b.length : Int)).toNat = b
  rw [hG]
  exact hJ
end Go.Proofs.YthjdmfbengpepaaGreat
namespace Go.Proofs.YthjdmfbengpepaaGreat
open Go.RowKit

/-- what is gathered of the differences -/
def gath (x y : List UInt8) : Nat → UInt8
  | 0 => 0
  | k + 1 => gath x y k ||| (nth x k ^^^ nth y k)
theorem gath_zero (x y : List UInt8) (k : Nat) : gath x y k = 0 ↔ sameTo x y k = true := by
  induction k with
  | zero => simp [gath, sameTo_zero]
  | succ k ih => rw [gath, or_xor_zero, ih, sameTo_succ]; simp

set_option maxHeartbeats 400000 in
theorem digSame (a0 : Option Addr) (len0 cap0 : Nat) (l : List UInt8) (a1 : Option Addr) (len1 cap1 : Nat) (m : List UInt8) (w : World) (w0 : IsB w a0 len0 cap0 l) (w1 : IsB w a1 len1 cap1 m) :
    Calls Tryz.prog 56 #[.slice a0 len0 cap0, .slice a1 len1 cap1] w fun e w' => e = .returned (.bool (eqB l m)) ∧ ∃ n, w' = w.drewN n := by
  have hl0 := w0.le
  have hl1 := w1.le
  have hm0 := w0.max
  have hm1 := w1.max
  have e0 : Hid (l.length = len0) := w0.len_eq
  have e1 : Hid (m.length = len1) := w1.len_eq
  have c0 : Hid (IsB w a0 len0 cap0 l) := w0
  have c1 : Hid (IsB w a1 len1 cap1 m) := w1
  clear w0 w1
  unfold maxLen at hm0 hm1
  by_cases hne : len0 = len1
  · subst hne
    go_enter Tryz.func56, Tryz.ntmps56
    go_wp2
    go_loopw [5, 14] (fun d i w' => ∃ k n : Nat, k ≤ len0 ∧ i = .int .i64 k ∧ d = .int .u8 ((gath l m k).toNat : Int) ∧ w' = w.drewN n) (fun _ i _ => len0 - (Go.RowKit.intOf i).toNat)
    case atStart => exact ⟨0, 0, Nat.zero_le _, rfl, rfl, rfl⟩
    case round =>
      obtain ⟨k, n, hk, rfl, rfl, rfl⟩ := hrel
      by_cases hlt : k < len0
      · obtain ⟨b0, o0, rfl, hc0⟩ := c0.out.cells (by omega)
        obtain ⟨b1, o1, rfl, hc1⟩ := c1.out.cells (by omega)
        have g0 := hc0 k hlt
        have g1 := hc1 k hlt
        clear hc0 hc1
        have hlt' : (k : Int) < (len0 : Int) := by omega
        go_wp2
        go_quiet (fail)
        go_wp2
        go_roundw
        case rel => exact ⟨k + 1, _, by omega, by go_num, by rw [bits_xor8, bits_or8]; rfl, rfl⟩
        case measure => simp [Go.RowKit.intOf]; omega
      · go_wp2
        go_ret
        have : k = len0 := by omega
        subst this
        refine ⟨ret_bool ?_, _, rfl⟩
        rw [← sameTo_whole l m (by rw [e0.out, e1.out]), e0.out, Bool.eq_iff_iff, toNat8_zero]; exact gath_zero l m k
  · have hne' : ((len0 : Int) != (len1 : Int)) = true := by rw [bne_iff_ne]; omega
    go_enter Tryz.func56, Tryz.ntmps56
    go_wp2
    go_ret
    exact ⟨ret_bool (eqB_len l m (by rw [e0.out, e1.out]; exact hne)).symm, 0, rfl⟩
end Go.Proofs.YthjdmfbengpepaaGreat
