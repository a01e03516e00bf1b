/- The program's transaction: Commit. · The statements' image of a disk's area. · What nil journals and transactions say; reads and writes at a new disk. · The program's journal keeps the document. · The program's space: Taken, Count. -/
import Derived.Test.YthjdmfbengpepaaGreatB36
import Derived.Test.YthjdmfbengpepaaGreatPj4
import Derived.Test.YthjdmfbengpepaaGreatB22
import Derived.Test.YthjdmfbengpepaaGreatB35
import Derived.Test.YthjdmfbengpepaaGreatB24
import Derived.Lib.BitFns
import Derived.BigQuiet
import Derived.Deep.QuietTactic
namespace Go.Proofs.YthjdmfbengpepaaGreat
open Go.RowKit

abbrev ErT : TypeId := 31
abbrev TxT : TypeId := 179
abbrev CD : List TypeId := [133, 202, 208, 142, 179, 31]
abbrev CF : List TypeId := [133, 202, 208, 142, 179]
theorem JAt.keepD {w w' : World} {J P base : Nat} {j : Jl} (h : JAt w J P base j) {ts : List TypeId} (hk : KeepT ts w w') (h0 : 142 ∉ ts) (h1 : 133 ∉ ts) (h2 : 202 ∉ ts) (h3 : 208 ∉ ts) : JAt w' J P base j := ⟨hk.blk h.blk h0, h.low, h.d.keep hk h1 h2 h3, h.seq⟩
theorem u10_tx : ∀ t ∈ U10, t ∉ [179] := by decide
theorem u10_cf : ∀ t ∈ U10, t ∉ CF := by decide
/-- how things stand behind the inner commit -/
structure InQ (w w' : World) (T J P base M A2 : Nat) (t : Tl) (j : Jl) : Prop where
  ja : JAt w' J P base (inJ t j)
  own : OwnM w' M t.l
  e : Blk w' A2 31 [.int .i64 (inE t j)]
  k : KeepT CD w w'
  b : Below base w w'
  o : ∀ (k : Nat) (o : Obj), k ≠ A2 → w.heap[k]? = some o → (∀ c t fz, o = .cells c t fz → t ∉ CF) → w'.heap[k]? = some o

set_option maxRecDepth 20000 in
set_option maxHeartbeats 2000000 in
theorem codClosure (w : World) (T J P base m : Nat) (t : Tl) (j : Jl) (M A1 A2 : Nat) (tr : Bool) (hT : Blk w T 179 (txC J M 0 1 tr)) (hlT : base ≤ T) (hown : OwnM w M t.l) (hs : SortQ t.l) (hok : ∀ g ∈ t.l, g.2.length = 512 ∧ 49 ≤ g.1 ∧ g.1 < 4096) (hj : JAt w J P base j) (hf : FewM j.p m) (hm : m ≤ 80000) (h48 : t.l.length ≤ 48) (h1 : Blk w A1 97 [.pointer (some ⟨T, 0, none⟩)]) (h2 : Blk w A2 31 [.int .i64 51]) (hl2 : base ≤ A2) :
    Calls Tryz.prog 161 #[.pointer (some ⟨A1, 0, none⟩), .pointer (some ⟨A2, 0, none⟩)] w fun e w' => e = .returned (.tuple #[]) ∧ InQ w w' T J P base M A2 t j ∧ Blk w' T 179 (txC J M 0 1 true) := by
  have hA : w.cell? ⟨A1, 0, none⟩ = some (.pointer (some ⟨T, 0, none⟩)) := h1.cell 0
  have hTc : w.cell? ⟨T, 5, none⟩ = some (.bool tr) := hT.cell 5
  have hTf := hT.frozen 5
  have HT1 : Hid (Blk (w.setCell ⟨T, 5, none⟩ (.bool true)) T 179 (txC J M 0 1 true)) := hT.set 5 (.bool true)
  have hK1 : KeepT [179] w (w.setCell ⟨T, 5, none⟩ (.bool true)) := (KeepT.refl _ w).set hT (by simp) 5 _
  have HB1 : Hid (Below base w (w.setCell ⟨T, 5, none⟩ (.bool true))) := bel_one (gr_cell w T 5 _) hlT hT.lt
  have HK1 := mkHid hK1
  have HA1 := mkHid (hK1.blk h1 (by decide))
  have HA2 := mkHid (hK1.blk h2 (by decide))
  have HIn : Hid (TIn (w.setCell ⟨T, 5, none⟩ (.bool true)) T J M t.l [.int .u32 0, .int .i32 1, .int .u32 0, .bool true]) := ⟨HT1.out, ownM_keep hown hK1, hs, hok⟩
  have HJ := mkHid (hj.keepD hK1 (by decide) (by decide) (by decide) (by decide))
  have HLA := mkHid hl2
  clear hT hown hs hok hj h1 h2 hK1 hlT hl2
  go_enter Tryz.func161, Tryz.ntmps161
  go_upto_region 1 with fail
  generalize w.setCell ⟨T, 5, none⟩ (.bool true) = w1 at *
  have hA1 : w1.cell? ⟨A1, 0, none⟩ = some (.pointer (some ⟨T, 0, none⟩)) := HA1.out.cell 0
  have HC := codInner w1 T J P base m t j M _ HIn.out HJ.out hf hm h48
  clear hA hTc hTf
  obtain ⟨eI, heI⟩ : ∃ eI, eI = inE t j := ⟨_, rfl⟩
  obtain ⟨jI, hjI⟩ : ∃ jI, jI = inJ t j := ⟨_, rfl⟩
  rw [← heI, ← hjI] at HC
  have HeI := mkHid heI
  have HjI := mkHid hjI
  clear heI hjI
  go_wp2_with fail
  refine HC.mono ?_
  rintro e w2 ⟨rfl, hJ2, hK2, hB2⟩
  have HJ2 := mkHid hJ2
  have HK2 := mkHid hK2
  have HA22 := mkHid (hK2.blk HA2.out (by decide))
  have HT2 := mkHid (hK2.blk HT1.out (by decide))
  have HO2 := mkHid (ownM_keep HIn.out.own hK2)
  have c2 : w2.cell? ⟨A2, 0, none⟩ = some (.int .i64 51) := HA22.out.cell 0
  have f2 := HA22.out.frozen 0
  have hK3 : KeepT [31] w2 (w2.setCell ⟨A2, 0, none⟩ (.int .i64 eI)) := (KeepT.refl _ w2).set HA22.out (by simp) 0 _
  have HR : Hid (JAt (w2.setCell ⟨A2, 0, none⟩ (.int .i64 eI)) J P base jI ∧ OwnM (w2.setCell ⟨A2, 0, none⟩ (.int .i64 eI)) M t.l ∧ Blk (w2.setCell ⟨A2, 0, none⟩ (.int .i64 eI)) A2 31 [.int .i64 eI] ∧ KeepT CD w (w2.setCell ⟨A2, 0, none⟩ (.int .i64 eI)) ∧ Below base w (w2.setCell ⟨A2, 0, none⟩ (.int .i64 eI)) ∧ Blk (w2.setCell ⟨A2, 0, none⟩ (.int .i64 eI)) T 179 (txC J M 0 1 true) ∧ ∀ (k : Nat) (o : Obj), k ≠ A2 → w.heap[k]? = some o → (∀ c t fz, o = .cells c t fz → t ∉ CF) → (w2.setCell ⟨A2, 0, none⟩ (.int .i64 eI)).heap[k]? = some o) :=
    ⟨HJ2.out.keepD hK3 (by decide) (by decide) (by decide) (by decide), ownM_keep HO2.out hK3, HA22.out.set 0 _, ((HK1.out.wide (by decide)).trans (HK2.out.wide (by decide))).trans (hK3.wide (by decide)), (HB1.out.trans hB2).trans (bel_one (gr_cell w2 A2 0 _) HLA.out HA22.out.lt), hK3.blk HT2.out (by decide), fun k o hk ho hc => (Below.heap_setCell _ _ _ _ hk).trans (((HK1.out.wide (by decide) : KeepT CF _ _).trans (HK2.out.wide (by decide))).same k o ho hc)⟩
  clear hJ2 hK2 hB2 HC hK3 HJ2 HK2 HA22 HT2 HO2
  go_wp2_with fail
  go_end0
  exact ⟨rfl, ⟨by rw [← HjI.out]; exact HR.out.1, HR.out.2.1, by rw [← HeI.out]; exact HR.out.2.2.1, HR.out.2.2.2.1, HR.out.2.2.2.2.1, HR.out.2.2.2.2.2.2⟩, HR.out.2.2.2.2.2.1⟩
theorem cm_dead {t : Tl} {j : Jl} (h : t.over = true ∨ j.dead = true) : cmE t j = 51 ∧ cmT t j = t ∧ cmJ t j = j := by
  unfold cmE cmT cmJ; rw [if_pos h, if_pos h, if_pos h]; exact ⟨rfl, rfl, rfl⟩
theorem cm_in {t : Tl} {j : Jl} (hd : j.dead = false) (ho : t.over = false) : cmE t j = inE t j ∧ cmT t j = { t with over := true } ∧ cmJ t j = inJ t j := by
  have hn : ¬ (t.over = true ∨ j.dead = true) := by simp [hd, ho]
  have hn2 : ¬ j.dead = true := by simp [hd]
  refine ⟨?_, ?_, ?_⟩
  · unfold cmE inE; rw [if_neg hn, if_neg hn2]
  · unfold cmT; rw [if_neg hn]
  · unfold cmJ inJ jCm; rw [if_neg hn, if_neg hn2]
theorem inJ_p {t : Tl} {j : Jl} (hd : j.dead = true) : inE t j = 51 ∧ inJ t j = j := by
  unfold inE inJ; rw [if_pos hd, if_pos hd]; exact ⟨rfl, rfl⟩
theorem TAt.txB {w : World} {T J P base : Nat} {t : Tl} {j : Jl} {M : Nat} {tr : Bool} (h : TAt w T J P base t j M tr) : Blk w T 179 (txC J M (flag tr) 0 tr) := h.blk

set_option maxRecDepth 20000 in
set_option maxHeartbeats 2000000 in
theorem codCommit (w : World) (T J P base m : Nat) (t : Tl) (j : Jl) (h : TAx w T J P base t j) (hf : FewM j.p m) (hm : m ≤ 80000) (h48 : t.l.length ≤ 48) :
    Calls Tryz.prog 144 #[.pointer (some ⟨T, 0, none⟩)] w fun e w' => e = .returned (.int .i64 (cmE t j)) ∧ TAx w' T J P base (cmT t j) (cmJ t j) ∧ KP base w w' := by
  obtain ⟨M, tr, h⟩ := h
  have HT := mkHid h
  have HLow : Hid (base ≤ w.heap.size) := h.ja.d.low
  have HF := mkHid hf
  clear h hf
  have KB1 : Hid (Blk ((w.alloc (.cells #[.pointer (some ⟨T, 0, none⟩)] 97)).alloc (.cells #[.int .i64 51] 31)) w.heap.size 97 [.pointer (some ⟨T, 0, none⟩)]) := (Blk.new w _ _).alloc _
  have KB2 : Hid (Blk ((w.alloc (.cells #[.pointer (some ⟨T, 0, none⟩)] 97)).alloc (.cells #[.int .i64 51] 31)) (w.heap.size + 1) 31 [.int .i64 51]) := Blk.newAt _ _ _ _ _ (by simp) rfl
  have HB : Hid (Below w.heap.size w ((w.alloc (.cells #[.pointer (some ⟨T, 0, none⟩)] 97)).alloc (.cells #[.int .i64 51] 31))) := ((Below.refl _ w).alloc (Nat.le_refl _) _).alloc (by simp) _
  go_enter Tryz.func144, Tryz.ntmps144
  go_upto_region 4 with fail
  generalize (w.alloc (.cells #[.pointer (some ⟨T, 0, none⟩)] 97)).alloc (.cells #[.int .i64 51] 31) = w1 at *
  have HT1 := mkHid (HT.out.on HB.out)
  have HLA : Hid (base ≤ w.heap.size + 1) := Nat.le_succ_of_le HLow.out
  obtain ⟨A2, hA2⟩ : ∃ A2, A2 = w.heap.size + 1 := ⟨_, rfl⟩
  have HNe : Hid (∀ (k : Nat) (o : Obj), w.heap[k]? = some o → k ≠ A2) := fun k o hk => by have := (Array.getElem?_eq_some_iff.1 hk).1; omega
  rw [← hA2] at KB2 HLA ⊢
  clear hA2
  have HKw : Hid (KP base w w1) := KP.of_below HB.out HLow.out
  clear HT HB
  generalize w.heap.size = A1 at *
  have hA1 : w1.cell? ⟨A1, 0, none⟩ = some (.pointer (some ⟨T, 0, none⟩)) := KB1.out.cell 0
  cases tr with
  | true =>
    have HE : Hid (cmE t j = 51 ∧ cmT t j = t ∧ cmJ t j = j) := cm_dead (by
      cases hd : j.dead with
      | true => exact .inr rfl
      | false => exact .inl (HT1.out.over hd).symm)
    have hA2 : w1.cell? ⟨A2, 0, none⟩ = some (.int .i64 51) := KB2.out.cell 0
    have HD := fun fv => onceDone T J M 0 true fv w1 HT1.out.txB
    have hmf : ∀ (fn : Fn) (first cap : Array Value) (w : World), (Instr.makeFunc fn first cap).run Tryz.prog w = .ok (.func fn first cap) w := fun _ _ _ _ => rfl
    go_wp2_with fail
    refine (HD _).mono ?_
    rintro e w2 ⟨rfl, hw2⟩
    obtain rfl := hw2.symm
    go_wp2_with fail
    go_ret
    exact ⟨by rw [HE.out.1]; rfl, by rw [HE.out.2.1, HE.out.2.2]; exact ⟨M, true, HT1.out⟩, HKw.out⟩
  | false =>
    have hK3 : KeepT [179] w1 (w1.setCell ⟨T, 3, none⟩ (.int .i32 1)) := (KeepT.refl _ w1).set HT1.out.txB (by simp) 3 _
    have hB3 : Below base w1 (w1.setCell ⟨T, 3, none⟩ (.int .i32 1)) := bel_one (gr_cell w1 T 3 _) HT1.out.low HT1.out.blk.lt
    have HCl := codClosure (w1.setCell ⟨T, 3, none⟩ (.int .i32 1)) T J P base m t j M A1 A2 false (HT1.out.txB.set 3 _) HT1.out.low (ownM_keep HT1.out.own hK3) HT1.out.sort HT1.out.ok (HT1.out.ja.keepD hK3 (by decide) (by decide) (by decide) (by decide)) HF.out hm h48 (hK3.blk KB1.out (by decide)) (hK3.blk KB2.out (by decide)) HLA.out
    have HO := onceFirst T J M false ⟨A1, 0, none⟩ ⟨A2, 0, none⟩ (fun w2 => InQ (w1.setCell ⟨T, 3, none⟩ (.int .i32 1)) w2 T J P base M A2 t j) w1 HT1.out.txB HCl
    have HK3 := mkHid (And.intro hK3 hB3)
    have hmf : ∀ (fn : Fn) (first cap : Array Value) (w : World), (Instr.makeFunc fn first cap).run Tryz.prog w = .ok (.func fn first cap) w := fun _ _ _ _ => rfl
    clear hK3 hB3 HCl
    go_wp2_with fail
    refine HO.mono ?_
    rintro e w4 ⟨rfl, w2, hQ, hT2, hw4⟩
    have hK5 : KeepT [179] w2 w4 := by
      rw [hw4]
      have hd : KeepT [179] w2 w2.drew := KeepT.of_below ((Below.refl _ w2).drew)
      have h1 : Blk w2.drew T 179 (txC J M 0 1 true) := hT2
      have h2 := h1.set 2 (.int .u32 1)
      exact (hd.set h1 (by simp) 2 _).set h2 (by simp) 3 _
    have hT4 : Blk w4 T 179 (txC J M 1 0 true) := by
      rw [hw4]
      have h1 : Blk w2.drew T 179 (txC J M 0 1 true) := hT2
      exact (h1.set 2 (.int .u32 1)).set 3 (.int .i32 0)
    have hB4 : Below base w2 w4 := by
      rw [hw4]
      have h1 : Blk w2.drew T 179 (txC J M 0 1 true) := hT2
      have h2 := h1.set 2 (.int .u32 1)
      have hd : Below base w2 w2.drew := ((Below.refl _ w2).drew).mono (by have := HT1.out.low; have := hT2.lt; omega)
      exact (hd.trans (bel_one (gr_cell w2.drew T 2 _) HT1.out.low h1.lt)).trans (bel_one (gr_cell _ T 3 _) HT1.out.low h2.lt)
    have hE4 : Blk w4 A2 31 [.int .i64 (inE t j)] := hK5.blk hQ.e (by decide)
    have hJ4 : JAt w4 J P base (inJ t j) := hQ.ja.keepD hK5 (by decide) (by decide) (by decide) (by decide)
    have hO4 : OwnM w4 M t.l := ownM_keep hQ.own hK5
    have hKP : KP base w w4 := by
      refine ⟨⟨Nat.le_trans HKw.out.o.size (Nat.le_trans HK3.out.1.size (Nat.le_trans hQ.k.size hK5.size)), fun k c ty fz hk ht => ?_, fun k o hk hc => ?_⟩, HKw.out.b.trans (HK3.out.2.trans (hQ.b.trans hB4))⟩
      · have h1 := HK3.out.1.same k _ (HKw.out.o.same k c ty fz hk ht) (fun c' t' fz' e => by injection e with _ h2 _; rw [← h2]; exact u10_tx ty ht)
        exact hK5.same k _ (hQ.o k _ (HNe.out k _ hk) h1 (fun c' t' fz' e => by injection e with _ h2 _; rw [← h2]; exact u10_cf ty ht)) (fun c' t' fz' e => by injection e with _ h2 _; rw [← h2]; exact u10_tx ty ht)
      · have h1 := HK3.out.1.same k _ (HKw.out.o.ctl k o hk hc) (fun c' t' fz' e => by subst e; cases hc)
        exact hK5.same k _ (hQ.o k _ (HNe.out k _ hk) h1 (fun c' t' fz' e => by subst e; cases hc)) (fun c' t' fz' e => by subst e; cases hc)
    have hA2 : w4.cell? ⟨A2, 0, none⟩ = some (.int .i64 (inE t j)) := hE4.cell 0
    have HR : Hid (inE t j = cmE t j ∧ TAx w4 T J P base (cmT t j) (cmJ t j) ∧ KP base w w4) := by
      cases hd : j.dead with
      | true =>
        obtain ⟨e1, e2, e3⟩ := cm_dead (t := t) (j := j) (.inr hd)
        obtain ⟨e4, e5⟩ := inJ_p (t := t) hd
        rw [e5] at hJ4
        exact ⟨by rw [e1, e4], by rw [e2, e3]; exact ⟨M, true, ⟨hJ4, hT4, HT1.out.low, HT1.out.lowM, hO4, HT1.out.sort, HT1.out.ok, fun h => by rw [hd] at h; cases h⟩⟩, hKP⟩
      | false =>
        obtain ⟨e1, e2, e3⟩ := cm_in (t := t) hd (HT1.out.over hd).symm
        exact ⟨e1.symm, by rw [e2, e3]; exact ⟨M, true, ⟨hJ4, hT4, HT1.out.low, HT1.out.lowM, hO4, HT1.out.sort, HT1.out.ok, fun _ => rfl⟩⟩, hKP⟩
    clear hK5 hT4 hB4 hE4 hJ4 hO4 hKP hw4 hQ hT2 HO
    generalize inE t j = eI at *
    go_wp2_with fail
    go_ret
    exact ⟨by rw [← HR.out.1]; rfl, HR.out.2.1, HR.out.2.2⟩
end Go.Proofs.YthjdmfbengpepaaGreat
namespace Go.Proofs.YthjdmfbengpepaaGreat
open Go.RowKit

def imgTo (p : Pl) (q : Nat) : List UInt8 := (List.range (q - 49)).flatMap fun i => p.st (49 + i)
theorem imgTo_succ (p : Pl) (q : Nat) (h : 49 ≤ q) : imgTo p (q + 1) = imgTo p q ++ p.st q := by
  unfold imgTo
  have e : q + 1 - 49 = (q - 49) + 1 := by omega
  have e2 : 49 + (q - 49) = q := by omega
  rw [e, List.range_succ, List.flatMap_append, List.flatMap_singleton, e2]
theorem imgTo_length (p : Pl) (hp : ∀ i, (p.st i).length = 512) : ∀ k, (imgTo p (49 + k)).length = 512 * k := by
  intro k
  induction k with
  | zero => rfl
  | succ k ih => rw [show 49 + (k + 1) = (49 + k) + 1 by omega, imgTo_succ _ _ (by omega), List.length_append, ih, hp]; omega
theorem imgTo_len (p : Pl) (hp : ∀ i, (p.st i).length = 512) (q : Nat) (h : 49 ≤ q) : (imgTo p q).length = 512 * (q - 49) := by
  have := imgTo_length p hp (q - 49)
  rw [show 49 + (q - 49) = q by omega] at this
  exact this

end Go.Proofs.YthjdmfbengpepaaGreat
namespace Go.Proofs.YthjdmfbengpepaaGreat
open Go.RowKit

/-- what nil ones say -/
structure JrnNil : Prop where
  jread : ∀ (w : World) (i : Int), Calls Tryz.prog 81 #[.pointer none, .int .i64 i] w fun e w' => (∃ v, e = .returned (.tuple #[v, .int .i64 2])) ∧ Below w.heap.size w w'
  tread : ∀ (w : World) (i : Int), Calls Tryz.prog 57 #[.pointer none, .int .i64 i] w fun e w' => (∃ v, e = .returned (.tuple #[v, .int .i64 2])) ∧ Below w.heap.size w w'
  mount : ∀ (w : World), Calls Tryz.prog 34 #[.pointer none] w fun e w' => (∃ v, e = .returned (.tuple #[v, .int .i64 2])) ∧ Below w.heap.size w w'
  size : ∀ (w : World), Calls Tryz.prog 83 #[.pointer none] w fun e w' => e = .returned (.int .i64 0) ∧ Below w.heap.size w w'
  begin_ : ∀ (w : World), Calls Tryz.prog 82 #[.pointer none] w fun e w' => e = .returned (.pointer none) ∧ Below w.heap.size w w'
  write : ∀ (w : World) (i : Int) (ba : Option Addr) (bn bc : Nat), Calls Tryz.prog 133 #[.pointer none, .int .i64 i, .slice ba bn bc] w fun e w' => e = .returned (.int .i64 2) ∧ Below w.heap.size w w'
  len : ∀ (w : World), Calls Tryz.prog 134 #[.pointer none] w fun e w' => e = .returned (.int .i64 0) ∧ Below w.heap.size w w'
  commit : ∀ (w : World), Calls Tryz.prog 144 #[.pointer none] w fun e w' => e = .returned (.int .i64 2) ∧ Below w.heap.size w w'

theorem jr_in {i : Int} (h : 49 ≤ i ∧ i < 64) : jrE (Pl.new 64) i = 0 := by
  have h1 : areaI 64 i = true := decide_eq_true h
  have h2 : inR 64 i = true := decide_eq_true ⟨by omega, by show i < ((64 : Nat) : Int); omega⟩
  unfold jrE Pl.rdE Pl.stE
  simp [Pl.new, h1, h2]
theorem jr_out {i : Int} (h : ¬ (49 ≤ i ∧ i < 64)) : jrE (Pl.new 64) i = 50 := by
  have h1 : areaI 64 i = false := decide_eq_false h
  unfold jrE
  simp [Pl.new, h1]
theorem wr0_out {i : Int} (b : List UInt8) (h : ¬ (49 ≤ i ∧ i < 64)) : Tl.wrE ⟨[], false⟩ aj0 i b = 50 := by
  have h1 : areaI 64 i = false := decide_eq_false h
  unfold Tl.wrE
  simp [aj0, Pl.new, h1]
theorem wr0_arg {i : Int} (b : List UInt8) (h : 49 ≤ i ∧ i < 64) (hb : ¬ b.length = 512) : Tl.wrE ⟨[], false⟩ aj0 i b = 1 := by
  have h1 : areaI 64 i = true := decide_eq_true h
  unfold Tl.wrE
  simp [aj0, Pl.new, h1, hb]
theorem wr0_ok {i : Int} (b : List UInt8) (h : 49 ≤ i ∧ i < 64) (hb : b.length = 512) : Tl.wrE ⟨[], false⟩ aj0 i b = 0 := by
  have h1 : areaI 64 i = true := decide_eq_true h
  unfold Tl.wrE
  simp [aj0, Pl.new, h1, hb]

end Go.Proofs.YthjdmfbengpepaaGreat
namespace Go.Proofs.YthjdmfbengpepaaGreat
open Go.RowKit

theorem jrnOK : JrnOK JAt TAx where
  disk := fun h => h.d
  toJ := fun ⟨_, _, h⟩ => h.ja
  turn := fun h hk hd => h.turn hk hd
  keepJ := fun h hk => h.keep hk
  keepT := fun ⟨M, tr, h⟩ hk => ⟨M, tr, h.keep hk⟩
  mount := fun w P base m p h hf hm => codMount P base m p w h hf hm
  begin_ := fun w J P base m j h _ _ => (codBegin w J P base j h h.d.low).mono fun _ _ ⟨⟨T, M, h1, h2⟩, h3⟩ => ⟨⟨T, h1, M, false, h2⟩, KP.of_below h3 h.d.low⟩
  write := fun w T J P base m t j i ba bc b ⟨M, tr, h⟩ hl hf _ h0 h1 _ hB => codTWrite w T J P base t j M tr i ba bc b h hl hf.n h0 h1 (hB w (KeepO.refl _ _) (Below.refl _ _))
  read := fun w T J P base m t j i ⟨M, tr, h⟩ _ hf hm h0 h1 ho => (codTRead w T J P base t j M tr i h (hf.few (by omega)) ho h0 h1).mono fun _ _ ⟨h2, h3⟩ => ⟨h2, ⟨M, tr, h.on h3⟩, KP.of_below h3 h.ja.d.low⟩
  len := fun w T J P base t j ⟨M, tr, h⟩ _ => (codLen w T J P base t j M tr h).mono fun _ _ ⟨h1, h2⟩ => ⟨h1, by rw [h2]; exact ⟨M, tr, h⟩, by rw [h2]; exact KP.refl _ _⟩
  commit := fun w T J P base m t j h hl hf hm _ => codCommit w T J P base m t j h hf hm hl
  size := fun w J P base j h => (codJSize w J P base j h).mono fun _ _ ⟨h1, h2⟩ => ⟨h1, by rw [h2]; exact Below.refl _ _⟩
  jread := fun w J P base m j i h hf hm _ _ ho => codJRead w J P base j i h (hf.few (by omega)) ho

theorem nilJRead (w : World) (i : Int) : Calls Tryz.prog 81 #[.pointer none, .int .i64 i] w fun e w' => (∃ v, e = .returned (.tuple #[v, .int .i64 2])) ∧ Below w.heap.size w w' := by
  go_enter Tryz.func81, Tryz.ntmps81
  go_wp2_with fail
  go_ret2
  exact ⟨⟨_, rfl⟩, Below.refl _ _⟩
theorem nilTRead (w : World) (i : Int) : Calls Tryz.prog 57 #[.pointer none, .int .i64 i] w fun e w' => (∃ v, e = .returned (.tuple #[v, .int .i64 2])) ∧ Below w.heap.size w w' := by
  go_enter Tryz.func57, Tryz.ntmps57
  go_wp2_with fail
  go_ret2
  exact ⟨⟨_, rfl⟩, Below.refl _ _⟩
theorem nilMount (w : World) : Calls Tryz.prog 34 #[.pointer none] w fun e w' => (∃ v, e = .returned (.tuple #[v, .int .i64 2])) ∧ Below w.heap.size w w' := by
  go_enter Tryz.func34, Tryz.ntmps34
  go_wp2_with fail
  go_ret2
  exact ⟨⟨_, rfl⟩, Below.refl _ _⟩
theorem nilJSize (w : World) : Calls Tryz.prog 83 #[.pointer none] w fun e w' => e = .returned (.int .i64 0) ∧ Below w.heap.size w w' := by
  go_enter Tryz.func83, Tryz.ntmps83
  go_wp2_with fail
  go_ret
  exact ⟨rfl, Below.refl _ _⟩
theorem nilBegin (w : World) : Calls Tryz.prog 82 #[.pointer none] w fun e w' => e = .returned (.pointer none) ∧ Below w.heap.size w w' := by
  go_enter Tryz.func82, Tryz.ntmps82
  go_wp2_with fail
  go_ret
  exact ⟨rfl, Below.refl _ _⟩
theorem nilTWrite (w : World) (i : Int) (ba : Option Addr) (bn bc : Nat) : Calls Tryz.prog 133 #[.pointer none, .int .i64 i, .slice ba bn bc] w fun e w' => e = .returned (.int .i64 2) ∧ Below w.heap.size w w' := by
  go_enter Tryz.func133, Tryz.ntmps133
  go_wp2_with fail
  go_ret
  exact ⟨rfl, Below.refl _ _⟩
theorem nilLen (w : World) : Calls Tryz.prog 134 #[.pointer none] w fun e w' => e = .returned (.int .i64 0) ∧ Below w.heap.size w w' := by
  go_enter Tryz.func134, Tryz.ntmps134
  go_wp2_with fail
  go_ret
  exact ⟨rfl, Below.refl _ _⟩
theorem nilCommit (w : World) : Calls Tryz.prog 144 #[.pointer none] w fun e w' => e = .returned (.int .i64 2) ∧ Below w.heap.size w w' := by
  have hb : Hid (Below w.heap.size w (w.alloc (.cells #[.pointer none] 97))) := (Below.refl _ w).alloc (Nat.le_refl _) _
  go_enter Tryz.func144, Tryz.ntmps144
  go_wp2_with fail
  go_ret
  exact ⟨rfl, hb.out⟩
theorem jrnNil : JrnNil where
  jread := nilJRead
  tread := nilTRead
  mount := nilMount
  size := nilJSize
  begin_ := nilBegin
  write := nilTWrite
  len := nilLen
  commit := nilCommit
end Go.Proofs.YthjdmfbengpepaaGreat
namespace Go.Proofs.YthjdmfbengpepaaGreat
open Go.RowKit

theorem and_all : ∀ y : Fin 256, ∀ r : Fin 8, decide (y.val &&& 2 ^ r.val = 0) = !decide (y.val / 2 ^ r.val % 2 = 1) := by decide +kernel
theorem ne0_dec (y : Nat) : (((y : Int) != 0) : Bool) = !decide (y = 0) := by
  by_cases h : y = 0
  · subst h; rfl
  · rw [decide_eq_false h]
    have : (((y : Int) == 0) : Bool) = false := beq_eq_false_iff_ne.2 (by omega)
    unfold bne
    rw [this]
theorem pow8 (r : Nat) (h : r < 8) : 2 ^ r < 256 := Nat.lt_of_lt_of_le (Nat.pow_lt_pow_right (by omega) h) (by decide)
theorem ret_u8 {x y : Int} (h : x = y) : Ending.returned (.int .u8 x) = .returned (.int .u8 y) := by rw [h]
theorem pow_mod (r : Nat) (h : 2 ^ r < 256) : ((2 : Int) ^ r % 256) = ((2 ^ r : Nat) : Int) := by
  have e : ((2 : Int) ^ r) = ((2 ^ r : Nat) : Int) := by rw [Int.natCast_pow]; rfl
  rw [e]
  generalize 2 ^ r = z at *
  omega
theorem pow_less (r : Nat) (h : 2 ^ r < 256) : (((2 : Int) ^ r - 1) % 256) = ((2 ^ r - 1 : Nat) : Int) := by
  have e : ((2 : Int) ^ r) = ((2 ^ r : Nat) : Int) := by rw [Int.natCast_pow]; rfl
  have := Nat.two_pow_pos r
  rw [e]; omega
set_option maxHeartbeats 1000000 in
theorem codBit (k : Nat) (w : World) (hk : (k : Int) ≤ 9223372036854775807) :
    Calls Tryz.prog 120 #[.int .i64 (k : Int)] w fun e w' => e = .returned (.int .u8 ((2 ^ (k % 8) : Nat) : Int)) ∧ w' = w := by
  obtain ⟨r, hr⟩ : ∃ r, r = k % 8 := ⟨_, rfl⟩
  have hr8 : r < 8 := by omega
  have hr1 : (k : Int).tmod 8 = (r : Int) := by rw [Int.tmod_eq_emod_of_nonneg (by omega)]; omega
  have HP := mkHid (pow8 r hr8)
  rw [← hr]
  clear hr
  go_enter Tryz.func120, Tryz.ntmps120
  go_wp2_with fail
  go_ret
  exact ⟨ret_u8 (pow_mod r HP.out), rfl⟩
set_option maxRecDepth 100000 in
set_option maxHeartbeats 1000000 in
theorem codOnes (x : UInt8) (w : World) :
    Calls Tryz.prog 94 #[.int .u8 (x.toNat : Int)] w fun e w' => e = .returned (.int .i64 (Lib.onesCount x.toNat : Int)) ∧ w' = w := by
  have e : ((x.toNat : Int)).toNat = x.toNat := by omega
  have hx := x.toNat_lt
  have HV := Lib.pop8_int (x.toNat : Int) (by omega) (by omega)
  rw [e] at HV
  have HV := mkHid HV
  have h0 : (0 : Int) ≤ (x.toNat : Int) := by omega
  have h1 : (x.toNat : Int) ≤ 255 := by omega
  go_enter Tryz.func94, Tryz.ntmps94
  conv in (ByteArray.mk _) => change Lib.pop8tab
  go_wp2
  go_ret
  exact ⟨ret_i (by unfold wrap64; exact HV.out), rfl⟩
set_option maxHeartbeats 1000000 in
theorem codBelow (m : Nat) (w : World) (h0 : 1 ≤ m) (hm : (m : Int) ≤ 9223372036854775807) :
    Calls Tryz.prog 95 #[.int .i64 (m : Int)] w fun e w' => e = .returned (.int .u8 ((2 ^ min m 8 - 1 : Nat) : Int)) ∧ w' = w := by
  by_cases h8 : 8 ≤ m
  · have h8' : (8 : Int) ≤ (m : Int) := by omega
    rw [Nat.min_eq_right h8]
    go_enter Tryz.func95, Tryz.ntmps95
    go_wp2_with fail
    go_ret
    exact ⟨rfl, rfl⟩
  · have h8' : ¬ (8 : Int) ≤ (m : Int) := by omega
    rw [Nat.min_eq_left (by omega)]
    have HP := mkHid (pow8 m (by omega))
    go_enter Tryz.func95, Tryz.ntmps95
    go_wp2_with fail
    go_ret
    exact ⟨ret_u8 (pow_less m HP.out), rfl⟩
set_option maxHeartbeats 1000000 in
theorem codTaken (a : Option Addr) (len cap : Nat) (l : List UInt8) (i : Int) (w : World) (h : IsB w a len cap l) (h0 : -9223372036854775808 ≤ i) (h1 : i ≤ 9223372036854775807) :
    Calls Tryz.prog 74 #[.slice a len cap, .int .i64 i] w fun e w' => e = .returned (.bool (takenL l i)) ∧ ∃ m, w' = w.drewN m := by
  have hmax := h.max
  unfold maxLen at hmax
  have hle := h.le
  have hlm : (len : Int) ≤ 9223372036854775807 := by omega
  clear hmax hle
  have H := mkHid h
  clear h
  by_cases hn : i < 0
  · have HV : Hid (false = takenL l i) := (takenL_neg l i hn).symm
    have hd : decide ((0 : Int) ≤ i) = false := decide_eq_false (by omega)
    go_enter Tryz.func74, Tryz.ntmps74
    go_wp2_with fail
    go_quiet (fail)
    go_wp2
    go_ret
    exact ⟨ret_b HV.out, _, rfl⟩
  · obtain ⟨k, rfl⟩ : ∃ k : Nat, i = (k : Int) := ⟨i.toNat, by omega⟩
    have HT : Hid (takenL l (k : Int) = bitN l k) := takenL_nat l k
    have HBt := fun W => codBit k W h1
    obtain ⟨q, hq⟩ : ∃ q, q = k / 8 := ⟨_, rfl⟩
    obtain ⟨r, hr⟩ : ∃ r, r = k % 8 := ⟨_, rfl⟩
    rw [← hr] at HBt
    have hr8 : r < 8 := by omega
    have hk0 : (0 : Int) ≤ (k : Int) := by omega
    have hqm : (q : Int) ≤ 9223372036854775807 := by omega
    have hq1 : (k : Int).tdiv 8 = (q : Int) := by rw [Int.tdiv_eq_ediv_of_nonneg (by omega)]; omega
    have HQ := mkHid hq
    have HR := mkHid hr
    clear hq hr
    by_cases hlt : q < len
    · have hlt' : (q : Int) < (len : Int) := by omega
      obtain ⟨b0, o0, rfl, hc0⟩ := H.out.cells (by omega)
      have g0 := hc0 q hlt
      clear hc0
      obtain ⟨y, hy⟩ : ∃ y : Nat, y = (nth l q).toNat &&& 2 ^ r := ⟨_, rfl⟩
      have HV : bits .and .u8 ((nth l q).toNat : Int) ((2 ^ r : Nat) : Int) = (y : Int) := by
        have e := bits_and8 (nth l q) (UInt8.ofNat (2 ^ r))
        rw [UInt8.toNat_and, UInt8.toNat_ofNat', Nat.mod_eq_of_lt (pow8 r hr8), ← hy] at e
        exact e
      have HB : Hid ((!decide (y = 0)) = bitN l k) := by
        unfold Hid bitN
        have := and_all ⟨(nth l q).toNat, (nth l q).toNat_lt⟩ ⟨r, hr8⟩
        simp only at this
        rw [hy, this, ← HQ.out, ← HR.out, Bool.not_not]
      clear hy
      generalize ((2 ^ r : Nat) : Int) = br at *
      go_enter Tryz.func74, Tryz.ntmps74
      go_wp2_with fail
      go_quiet (first | (go_at_call 120; exact Calls.quiet_of_same (HBt _)))
      go_wp2
      go_ret
      refine ⟨ret_b ?_, _, rfl⟩
      rw [HT.out, ← HB.out]
      exact ne0_dec y
    · have hlt' : decide ((q : Int) < (len : Int)) = false := decide_eq_false (by omega)
      have HV : Hid (false = takenL l (k : Int)) := by
        unfold Hid
        rw [HT.out, bitN_behind l k (by have := H.out.len_eq; have := HQ.out; omega)]
      go_enter Tryz.func74, Tryz.ntmps74
      go_wp2_with fail
      go_quiet (fail)
      go_wp2
      go_ret
      exact ⟨ret_b HV.out, _, rfl⟩
/-- the lowest bits counted -/
def popM (x : Nat) : Nat → Nat
  | 0 => 0
  | m + 1 => popM x m + x / 2 ^ m % 2
theorem pop_all : ∀ x : Fin 256, ∀ m : Fin 9, Lib.onesCount (x.val % 2 ^ m.val) = popM x.val m.val := by decide +kernel
theorem cnt_byte (b : List UInt8) (k : Nat) : ∀ m, m ≤ 8 → cntL b (8 * k + m) = cntL b (8 * k) + popM (nth b k).toNat m := by
  intro m
  induction m with
  | zero => intro _; rfl
  | succ m ih =>
    intro hm
    rw [← Nat.add_assoc, cntL, ih (by omega), popM, Nat.add_assoc]
    congr 2
    have e1 : (8 * k + m) / 8 = k := by omega
    have e2 : (8 * k + m) % 8 = m := by omega
    unfold bitN
    rw [e1, e2]
    by_cases h : (nth b k).toNat / 2 ^ m % 2 = 1
    · rw [if_pos (decide_eq_true h), h]
    · rw [if_neg (by rw [decide_eq_false h]; simp)]
      omega
theorem cnt_ones (b : List UInt8) (k m : Nat) (hm : m ≤ 8) : Lib.onesCount ((nth b k) &&& UInt8.ofNat (2 ^ m - 1)).toNat + cntL b (8 * k) = cntL b (8 * k + m) := by
  have h1 : 2 ^ m - 1 < 256 := by
    have : 2 ^ m ≤ 2 ^ 8 := Nat.pow_le_pow_right (by omega) hm
    have := Nat.two_pow_pos m
    omega
  rw [UInt8.toNat_and, UInt8.toNat_ofNat', Nat.mod_eq_of_lt h1, Nat.and_two_pow_sub_one_eq_mod, cnt_byte b k m hm]
  have := pop_all ⟨(nth b k).toNat, (nth b k).toNat_lt⟩ ⟨m, by omega⟩
  simp only at this
  rw [this]
  omega
set_option maxRecDepth 20000 in
set_option maxHeartbeats 1000000 in
theorem codSCount (a : Option Addr) (len cap : Nat) (l : List UInt8) (n : Int) (w : World) (h : IsB w a len cap l) (hl : len ≤ 10000) (h0 : -9223372036854775808 ≤ n) (h1 : n ≤ 9223372036854775807) :
    Calls Tryz.prog 44 #[.slice a len cap, .int .i64 n] w fun e w' => e = .returned (.int .i64 (countL l n : Int)) ∧ w' = w := by
  have hlen := h.len_eq
  have H := mkHid h
  clear h
  go_enter Tryz.func44, Tryz.ntmps44
  go_wp2_with fail
  go_loopw [5, 10] (fun o i wr => wr = w ∧ ∃ k : Nat, k ≤ len ∧ i = .int .i64 (k : Int) ∧ o = .int .i64 (cntL l (min (8 * k) n.toNat) : Int)) (fun _ i _ => len - (intOf i).toNat)
  case atStart => exact ⟨rfl, 0, Nat.zero_le _, rfl, by simp [cntL]⟩
  case round =>
    obtain ⟨rfl, k, hk, rfl, rfl⟩ := hrel
    have hcl := cntL_le l (min (8 * k) n.toNat)
    by_cases hlt : k < len
    · have hlt' : (k : Int) < (len : Int) := by omega
      obtain ⟨b0, o0, rfl, hc0⟩ := H.out.cells (by omega)
      have g0 := hc0 k hlt
      clear hc0
      by_cases hn : n ≤ 8 * (k : Int)
      · have HC : Hid (cntL l (min (8 * k) n.toNat) = countL l n) := by unfold Hid; rw [countL_all]; congr 1; omega
        go_wp2_with fail
        go_ret
        exact ⟨ret_i (by rw [← HC.out]), rfl⟩
      · obtain ⟨m, hm⟩ : ∃ m : Nat, (m : Int) = n - 8 * (k : Int) := ⟨(n - 8 * (k : Int)).toNat, by omega⟩
        have hm1 : 1 ≤ m := by omega
        have hmm : (m : Int) ≤ 9223372036854775807 := by omega
        have e8 : min (8 * k) n.toNat = 8 * k := by omega
        have e9 : min (8 * (k + 1)) n.toNat = 8 * k + min m 8 := by omega
        have hcn := cnt_ones l k (min m 8) (Nat.min_le_right _ _)
        rw [e8] at hcl ⊢
        have HBe := codBelow m wr hm1 hmm
        rw [hm] at HBe
        have HX : bits .and .u8 ((nth l k).toNat : Int) ((2 ^ min m 8 - 1 : Nat) : Int) = ((nth l k &&& UInt8.ofNat (2 ^ min m 8 - 1)).toNat : Int) := by
          have h1 : 2 ^ min m 8 - 1 < 256 := by
            have : 2 ^ min m 8 ≤ 2 ^ 8 := Nat.pow_le_pow_right (by omega) (Nat.min_le_right _ _)
            have := Nat.two_pow_pos (min m 8)
            omega
          rw [← bits_and8, UInt8.toNat_ofNat', Nat.mod_eq_of_lt h1]
        have HO := codOnes (nth l k &&& UInt8.ofNat (2 ^ min m 8 - 1)) wr
        have hcl2 := cntL_le l (8 * k + min m 8)
        have HE9 := mkHid e9
        generalize nth l k &&& UInt8.ofNat (2 ^ min m 8 - 1) = z at *
        generalize ((2 ^ min m 8 - 1 : Nat) : Int) = be at *
        generalize Lib.onesCount z.toNat = oc at *
        generalize cntL l (8 * k) = c0 at *
        go_wp2_with (first
          | (go_at_call 95; refine HBe.mono ?_; rintro e y1 ⟨rfl, hy1⟩; obtain rfl := hy1.symm)
          | (go_at_call 94; refine HO.mono ?_; rintro e y1 ⟨rfl, hy1⟩; obtain rfl := hy1.symm))
        go_roundw
        case rel => exact ⟨trivial, k + 1, by omega, by go_num, by rw [HE9.out, ← hcn, Int.natCast_add, Int.add_comm]⟩
        case measure => simp [intOf]; omega
    · have HC : Hid (cntL l (min (8 * k) n.toNat) = countL l n) := by unfold Hid countL; rw [hlen]; congr 1; omega
      have hlt' : ¬ (k : Int) < (len : Int) := by omega
      go_wp2_with fail
      go_ret
      exact ⟨ret_i (by rw [← HC.out]), rfl⟩
end Go.Proofs.YthjdmfbengpepaaGreat
