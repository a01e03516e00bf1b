/- What the document's Open answers. · The chapter's example, plain. · What the statements ask of the program's space; their alive. · What a call leaves fits again. · The program's journal in a world: its map of sectors, plain. -/
import Derived.Test.YthjdmfbengpepaaGreatB25
import Derived.Test.YthjdmfbengpepaaGreatB22
import Derived.KernelRfl
import Derived.Test.YthjdmfbengpepaaGreatB21
import Derived.Maps.OwnSet
import Derived.Lib.SlKeysI
namespace Go.Proofs.YthjdmfbengpepaaGreat
open Go.RowKit

theorem jr_map {p : Pl} {m : Nat} (hf : FewM p m) (ho : p.off = false) : jrE p 49 = 0 := by
  have hn := hf.n0
  have ha : areaI p.n 49 = true := by unfold areaI; exact decide_eq_true (by omega)
  have hi : inR p.n 49 = true := by unfold inR; exact decide_eq_true (by omega)
  unfold jrE
  rw [ha]
  unfold Pl.rdE Pl.stE
  rw [ho, hi]; rfl
set_option maxHeartbeats 1000000 in
theorem refOpen11 {X : Nat → Prop} {w : World} {K D base m : Nat} {j : Jl} (rj : RjAt w K D j.seq j.dead) (rk : IsRk X w D base m j.p) (few : FewM j.p m) (seq : j.seq < 18446744073709551616) (hlK : base ≤ K) (hm : m ≤ 100000) (ho : j.p.off = false) :
    Calls Tryz.prog 11 #[.pointer (some ⟨K, 0, none⟩)] w fun e w' => (∃ R U, e = .returned (.tuple #[.pointer (some ⟨R, 0, none⟩), .int .i64 0]) ∧ Hid (RefS w' R U K D base m ⟨[], false⟩ j)) ∧ Hid (Below w.heap.size w w') := by
  have HR := refJRead10 K D base m j.seq j.dead j.p 49 w rj rk hm
  rw [jr_map few ho] at HR
  have HJ := mkHid rj
  have HD := mkHid rk
  have HF := mkHid few
  have HQ := mkHid seq
  have HK := mkHid hlK
  have HL := mkHid rk.low
  clear rj rk few seq hlK
  go_enter Tryz.func11, Tryz.ntmps11
  go_upto_region 4 with (go_at_call 40; refine HR.mono ?_; rintro e y1 ⟨v, rfl, hv, hb⟩)
  have HB := mkHid hb
  have HJ1 : Hid (RjAt y1 K D j.seq j.dead) := Blk.on HJ.out hb
  have HD1 := mkHid (HD.out.on hb)
  clear hv hb HR HJ HD
  go_wp2_with fail
  go_ret2
  have bU := Blk.new y1 92 [.pointer (some ⟨K, 0, none⟩), .slice none 0 0, .bool false]
  have b1 : Below y1.heap.size y1 (y1.alloc (.cells #[.pointer (some ⟨K, 0, none⟩), .slice none 0 0, .bool false] 92)) := (Below.refl _ y1).alloc (Nat.le_refl _) _
  generalize hW : y1.alloc (.cells #[.pointer (some ⟨K, 0, none⟩), .slice none 0 0, .bool false] 92) = W at *
  have bR := Blk.new W 94 [.pointer (some ⟨y1.heap.size, 0, none⟩)]
  have hz : W.heap.size = y1.heap.size + 1 := by rw [← hW]; exact Array.size_push _
  rw [hz] at bR
  have b2 : Below W.heap.size W (W.alloc (.cells #[.pointer (some ⟨y1.heap.size, 0, none⟩)] 94)) := (Below.refl _ W).alloc (Nat.le_refl _) _
  have b3 := b1.trans (b2.mono b1.size)
  have l1 := HL.out
  have l2 := HB.out.size
  have l3 := b1.size
  exact ⟨⟨_, y1.heap.size, rfl, ⟨bR, by omega, ⟨_, _, RefT.begin_ (bU.on b2) b3 (by omega) HK.out HJ1.out HD1.out HF.out HQ.out⟩, fun g hg => (by cases hg)⟩⟩, HB.out.trans (b3.mono HB.out.size)⟩
end Go.Proofs.YthjdmfbengpepaaGreat
namespace Go.Proofs.YthjdmfbengpepaaGreat
open Go.RowKit

def as0 : Tl := ⟨[], false⟩
def as1 : Tl := tkT as0 aj0
def as2 : Tl := tkT as1 aj0
def as3 : Tl := gvT as2 aj0 51
def as4 : Tl := tkT as3 aj0
theorem as_1 : (tkE as0 aj0, tkV as0 aj0) = (0, 51) := by kernel_rfl
theorem as_2 : (tkE as1 aj0, tkV as1 aj0) = (0, 52) := by kernel_rfl
theorem as_3 : gvE as2 aj0 51 = 0 := by kernel_rfl
theorem as_4 : (tkE as3 aj0, tkV as3 aj0) = (0, 51) := by kernel_rfl
theorem as_5 : freeL (mapL as4 aj0) 13 = 11 := by kernel_rfl
theorem as_6 : as4.over = false ∧ as4.l.length ≤ 48 ∧ as4.l ≠ [] := by
  have h : (as4.over, as4.l.length) = (false, 3) := by kernel_rfl
  obtain ⟨h1, h2⟩ := Prod.mk.inj h
  exact ⟨h1, by omega, fun e => by rw [e] at h2; cases h2⟩
theorem as_7 : as4.l.all (fun g => decide (g.1 < 64 ∧ g.2.length = 512)) = true := by kernel_rfl
theorem as_8 : cmE as4 aj0 = 0 := (commit_ok (t := as4) (j := aj0) (few_mnew 64 (by omega) (by omega)) (good_new 64) as_6.1 rfl as_6.2.2 as_6.2.1 (fun g hg => of_decide_eq_true (List.all_eq_true.1 as_7 g hg))).1
end Go.Proofs.YthjdmfbengpepaaGreat
namespace Go.Proofs.YthjdmfbengpepaaGreat
open Go.RowKit

/-- how a transaction and its journal stand while nothing has gone wrong -/
structure Fit (t : Tl) (j : Jl) (m : Nat) : Prop where
  few : FewM j.p m
  m : m ≤ 80000
  good : Good j.p
  len : t.l.length ≤ 48
  lens : ∀ g ∈ t.l, g.2.length = 512
  at_ : ∀ g ∈ t.l, g.1 < j.p.n
  over : t.over = false
  dead : j.dead = false
  seq : j.seq < 18446744073709551616
/-- what is asked of the program's space: 'SA w S J P base t j': at block S, over the journal at J, a transaction stands as t -/
structure SpcOK (JA : World → Nat → Nat → Nat → Jl → Prop) (SA : World → Nat → Nat → Nat → Nat → Tl → Jl → Prop) : Prop where
  toJ : ∀ {w : World} {S J P base : Nat} {t : Tl} {j : Jl}, SA w S J P base t j → JA w J P base j
  lo : ∀ {w : World} {S J P base : Nat} {t : Tl} {j : Jl}, SA w S J P base t j → base ≤ w.heap.size
  keep : ∀ {w w' : World} {S J P base : Nat} {t : Tl} {j : Jl}, SA w S J P base t j → KeepT CT w w' → SA w' S J P base t j
  open_ : ∀ (w : World) (J P base m : Nat) (j : Jl), JA w J P base j → Fit ⟨[], false⟩ j m →
    Calls Tryz.prog 35 #[.pointer (some ⟨J, 0, none⟩)] w fun e w' => (∃ S, e = .returned (.tuple #[.pointer (some ⟨S, 0, none⟩), .int .i64 0]) ∧ SA w' S J P base ⟨[], false⟩ j) ∧ KS base w w'
  take : ∀ (w : World) (S J P base m : Nat) (t : Tl) (j : Jl), SA w S J P base t j → Fit t j m →
    Calls Tryz.prog 101 #[.pointer (some ⟨S, 0, none⟩)] w fun e w' => e = .returned (.tuple #[.int .i64 (tkV t j : Int), .int .i64 (tkE t j)]) ∧ SA w' S J P base (tkT t j) j ∧ KS base w w'
  give : ∀ (w : World) (S J P base m : Nat) (t : Tl) (j : Jl) (i : Int), SA w S J P base t j → Fit t j m → -9223372036854775808 ≤ i → i ≤ 9223372036854775807 →
    Calls Tryz.prog 42 #[.pointer (some ⟨S, 0, none⟩), .int .i64 i] w fun e w' => e = .returned (.int .i64 (gvE t j i)) ∧ SA w' S J P base (gvT t j i) j ∧ KS base w w'
  read : ∀ (w : World) (S J P base m : Nat) (t : Tl) (j : Jl) (i : Int), SA w S J P base t j → Fit t j m → -9223372036854775808 ≤ i → i ≤ 9223372036854775807 →
    Calls Tryz.prog 23 #[.pointer (some ⟨S, 0, none⟩), .int .i64 i] w fun e w' => (∃ v, e = .returned (.tuple #[v, .int .i64 (spRdE t j i)]) ∧ IsV w' v (spRdB t j i)) ∧ SA w' S J P base t j ∧ KS base w w'
  write : ∀ (w : World) (S J P base m : Nat) (t : Tl) (j : Jl) (i : Int) (ba : Option Addr) (bc : Nat) (b : List UInt8), SA w S J P base t j → Fit t j m → -9223372036854775808 ≤ i → i ≤ 9223372036854775807 → b.length ≤ 140737488351232 → (∀ W, KeepO [5] w W → Below base w W → IsB W ba b.length bc b) →
    Calls Tryz.prog 102 #[.pointer (some ⟨S, 0, none⟩), .int .i64 i, .slice ba b.length bc] w fun e w' => e = .returned (.int .i64 (spWrE t j i b)) ∧ SA w' S J P base (spWr t j i b) j ∧ KS base w w'
  free : ∀ (w : World) (S J P base m : Nat) (t : Tl) (j : Jl), SA w S J P base t j → Fit t j m →
    Calls Tryz.prog 15 #[.pointer (some ⟨S, 0, none⟩)] w fun e w' => e = .returned (.int .i64 (freeL (mapL t j) (j.p.n - 51) : Int)) ∧ SA w' S J P base t j ∧ KS base w w'
  left : ∀ (w : World) (S J P base m : Nat) (t : Tl) (j : Jl), SA w S J P base t j → Fit t j m →
    Calls Tryz.prog 97 #[.pointer (some ⟨S, 0, none⟩)] w fun e w' => e = .returned (.int .i64 (48 - (t.l.length : Int))) ∧ SA w' S J P base t j ∧ KS base w w'
  commit : ∀ (w : World) (S J P base m : Nat) (t : Tl) (j : Jl), SA w S J P base t j → Fit t j m →
    Calls Tryz.prog 121 #[.pointer (some ⟨S, 0, none⟩)] w fun e w' => e = .returned (.int .i64 (cmE t j)) ∧ JA w' J P base (cmJ t j) ∧ KS base w w'
  taken : ∀ (w : World) (a : Option Addr) (len cap : Nat) (l : List UInt8) (i : Int), IsB w a len cap l → len ≤ 10000 → -9223372036854775808 ≤ i → i ≤ 9223372036854775807 →
    Calls Tryz.prog 74 #[.slice a len cap, .int .i64 i] w fun e w' => e = .returned (.bool (takenL l i)) ∧ Below w.heap.size w w'
  count : ∀ (w : World) (a : Option Addr) (len cap : Nat) (l : List UInt8) (n : Int), IsB w a len cap l → len ≤ 10000 → -9223372036854775808 ≤ n → n ≤ 9223372036854775807 →
    Calls Tryz.prog 44 #[.slice a len cap, .int .i64 n] w fun e w' => e = .returned (.int .i64 (countL l n : Int)) ∧ Below w.heap.size w w'
theorem as_len : as1.l.length ≤ 48 ∧ as2.l.length ≤ 48 ∧ as3.l.length ≤ 48 := by
  have h : (as1.l.length, as2.l.length, as3.l.length) = (2, 3, 3) := by kernel_rfl
  obtain ⟨h1, h2⟩ := Prod.mk.inj h
  obtain ⟨h2, h3⟩ := Prod.mk.inj h2
  omega
def allOk (t : Tl) : Bool := t.l.all (fun g => decide (g.1 < 64 ∧ g.2.length = 512)) && !t.over
theorem allOk_fit {t : Tl} (h : allOk t = true) (hl : t.l.length ≤ 48) : Fit t aj0 0 := by
  unfold allOk at h
  obtain ⟨h1, h2⟩ := Bool.and_eq_true_iff.1 h
  have ho : t.over = false := by
    cases ho : t.over with
    | false => rfl
    | true => rw [ho] at h2; cases h2
  have h3 := fun g hg => of_decide_eq_true (List.all_eq_true.1 h1 g hg)
  exact ⟨few_mnew 64 (by omega) (by omega), by omega, good_new 64, hl, fun g hg => (h3 g hg).2, fun g hg => (h3 g hg).1, ho, rfl, by show (0 : Nat) < 18446744073709551616; omega⟩
theorem fit_0 : Fit as0 aj0 0 := allOk_fit (by kernel_rfl) (by show 0 ≤ 48; omega)
theorem fit_1 : Fit as1 aj0 0 := allOk_fit (by kernel_rfl) as_len.1
theorem fit_2 : Fit as2 aj0 0 := allOk_fit (by kernel_rfl) as_len.2.1
theorem fit_3 : Fit as3 aj0 0 := allOk_fit (by kernel_rfl) as_len.2.2
theorem fit_4 : Fit as4 aj0 0 := allOk_fit (by kernel_rfl) as_6.2.1
set_option maxRecDepth 20000 in
set_option maxHeartbeats 4000000 in
theorem lawAlive11 {JA : World → Nat → Nat → Nat → Jl → Prop} {TA SA : World → Nat → Nat → Nat → Nat → Tl → Jl → Prop} (ok : JrnOK JA TA) (so : SpcOK JA SA) (w : World) :
    Calls Tryz.prog 76 #[] w fun e w' => e = .returned (.bool true) ∧ Below w.heap.size w w' := by
  obtain ⟨base, hbase⟩ : ∃ base, base = w.heap.size := ⟨_, rfl⟩
  have HN : Calls Tryz.prog 33 #[.int .i64 64] w fun e w' => (∃ P, e = .returned (.tuple #[.pointer (some ⟨P, 0, none⟩), .int .i64 0]) ∧ IsD0 w' P base (Pl.new 64)) ∧ Below base w w' := by
    refine (codNew (fun _ => False) 64 w base (Nat.le_of_eq hbase) (fun _ h => h.elim)).mono ?_
    rintro e w' ⟨h1, h2⟩
    rw [if_pos (by omega)] at h1
    exact ⟨h1, by rw [hbase]; exact h2⟩
  have HBase := mkHid hbase
  rw [← hbase]
  clear hbase
  go_enter Tryz.func76, Tryz.ntmps76
  go_wp2_with fail
  refine HN.mono ?_
  rintro e x1 ⟨⟨P, rfl, hI1⟩, hb1⟩
  have HB1 := mkHid hb1
  have HM := jMount ok hI1 (few_mnew 64 (by omega) (by omega)) (by omega) aj_mount.1
  rw [aj_mount.2.1, aj_mount.2.2] at HM
  clear HN hI1 hb1
  go_wp2_with fail
  refine HM.mono ?_
  rintro e x2 ⟨⟨J, rfl, hJ2⟩, hk2⟩
  have HB2 := mkHid (HB1.out.trans hk2.b)
  have HO := so.open_ x2 J P base 0 aj0 hJ2 fit_0
  clear HM hJ2 hk2
  go_wp2_with fail
  refine HO.mono ?_
  rintro e x3 ⟨⟨S, rfl, hS3⟩, hk3⟩
  have HB3 := mkHid (HB2.out.trans hk3.b)
  have HT := so.take x3 S J P base 0 as0 aj0 hS3 fit_0
  obtain ⟨e1, e2⟩ := Prod.mk.inj as_1
  rw [e1, e2] at HT
  clear HO hS3 hk3 e1 e2
  go_wp2_with fail
  refine HT.mono ?_
  rintro e x4 ⟨rfl, hS4, hk4⟩
  have HB4 := mkHid (HB3.out.trans hk4.b)
  clear HT hk4
  have HT := so.take x4 S J P base 0 as1 aj0 hS4 fit_1
  obtain ⟨e1, e2⟩ := Prod.mk.inj as_2
  rw [e1, e2] at HT
  clear hS4 e1 e2
  go_wp2_with fail
  refine HT.mono ?_
  rintro e x5 ⟨rfl, hS5, hk5⟩
  have HB5 := mkHid (HB4.out.trans hk5.b)
  clear HT hk5
  have HG := so.give x5 S J P base 0 as2 aj0 51 hS5 fit_2 (by omega) (by omega)
  rw [as_3] at HG
  clear hS5
  go_wp2_with fail
  refine HG.mono ?_
  rintro e x6 ⟨rfl, hS6, hk6⟩
  have HB6 := mkHid (HB5.out.trans hk6.b)
  clear HG hk6
  have HT := so.take x6 S J P base 0 as3 aj0 hS6 fit_3
  obtain ⟨e1, e2⟩ := Prod.mk.inj as_4
  rw [e1, e2] at HT
  clear hS6 e1 e2
  go_wp2_with fail
  refine HT.mono ?_
  rintro e x7 ⟨rfl, hS7, hk7⟩
  have HB7 := mkHid (HB6.out.trans hk7.b)
  clear HT hk7
  have HF := so.free x7 S J P base 0 as4 aj0 hS7 fit_4
  have e5 : freeL (mapL as4 aj0) (aj0.p.n - 51) = 11 := as_5
  rw [e5] at HF
  clear hS7 e5
  go_wp2_with fail
  refine HF.mono ?_
  rintro e x8 ⟨rfl, hS8, hk8⟩
  have HB8 := mkHid (HB7.out.trans hk8.b)
  clear HF hk8
  have HC := so.commit x8 S J P base 0 as4 aj0 hS8 fit_4
  rw [as_8] at HC
  clear hS8
  go_wp2_with fail
  refine HC.mono ?_
  rintro e x9 ⟨rfl, hJ9, hk9⟩
  have HB9 := mkHid (HB8.out.trans hk9.b)
  clear HC hk9 hJ9
  go_wp2_with fail
  go_ret
  exact ⟨rfl, HB9.out⟩
end Go.Proofs.YthjdmfbengpepaaGreat
namespace Go.Proofs.YthjdmfbengpepaaGreat
open Go.RowKit

theorem Fit.write {t : Tl} {j : Jl} {m : Nat} (h : Fit t j m) (i : Int) (b : List UInt8) : Fit (t.write j i b) j m :=
  ⟨h.few, h.m, h.good, tlWrite_len _ _ _ _ h.len, tlWrite_512 h.lens, tlWrite_at _ _ _ _ h.at_, (tlWrite_over _ _ _ _).trans h.over, h.dead, h.seq⟩
theorem Fit.spWr {t : Tl} {j : Jl} {m : Nat} (h : Fit t j m) (i : Int) (b : List UInt8) : Fit (spWr t j i b) j m := by
  unfold Go.Proofs.YthjdmfbengpepaaGreat.spWr
  split
  · exact h
  · exact h.write i b
theorem Fit.give {t : Tl} {j : Jl} {m : Nat} (h : Fit t j m) (i : Int) : Fit (gvT t j i) j m := by
  unfold gvT
  split
  · exact h
  · exact h.write _ _
theorem Fit.take {t : Tl} {j : Jl} {m : Nat} (h : Fit t j m) : Fit (tkT t j) j m := by
  unfold tkT
  split
  · exact h
  · split
    · exact h.write _ _
    · exact (h.write _ _).write _ _
theorem Fit.fresh {t : Tl} {j : Jl} {m : Nat} (h : Fit t j m) : Fit ⟨[], false⟩ j m :=
  ⟨h.few, h.m, h.good, Nat.zero_le _, fun g hg => (by cases hg), fun g hg => (by cases hg), rfl, h.dead, h.seq⟩
/-- a commit does not go wrong, and what stands behind it fits -/
theorem Fit.commit {t : Tl} {j : Jl} {m : Nat} (h : Fit t j m) (hm : m + 150 ≤ 80000) : cmE t j = 0 ∧ Fit ⟨[], false⟩ (cmJ t j) (m + 150) ∧ (cmJ t j).p.n = j.p.n := by
  have hnot : ¬ (t.over = true ∨ j.dead = true) := by rw [h.over, h.dead]; simp
  by_cases hne : t.l = []
  · have e1 : cmE t j = 0 := by unfold cmE; rw [if_neg hnot, if_pos hne]
    have e2 : cmJ t j = j := by unfold cmJ; rw [if_neg hnot, if_pos hne]
    rw [e2]
    exact ⟨e1, { h.fresh with few := h.few.more (by omega), m := hm }, rfl⟩
  · obtain ⟨e1, q, e2, h3, h4, _⟩ := commit_ok h.few h.good h.over h.dead hne h.len (fun g hg => ⟨h.at_ g hg, h.lens g hg⟩)
    have hf := h.few.commit h.len
    rw [e2] at hf ⊢
    exact ⟨e1, ⟨hf.more (by omega), hm, h3, Nat.zero_le _, fun g hg => (by cases hg), fun g hg => (by cases hg), rfl, rfl, Nat.mod_lt _ (by omega)⟩, h4⟩
end Go.Proofs.YthjdmfbengpepaaGreat
namespace Go.Proofs.YthjdmfbengpepaaGreat
open Go.RowKit Go.Maps

/-- a sector as a value -/
def secV (b : List UInt8) : Value := .agg (bv b).toArray
/-- how a map's sector is read: as it is -/
def secR (v : Value) : Option (DataW Value × List MemPlace) := some (.held v, [])
def keyQ (i : Nat) : Lit := .int .i64 (i : Int)
def entQ (g : Nat × List UInt8) : Lit × DataW Value := (keyQ g.1, .held (secV g.2))
/-- a transaction's sectors as a map -/
def mapD (l : Qs) : DataW Value := .map (l.map entQ)
/-- in order of their numbers -/
def SortQ (l : Qs) : Prop := l.Pairwise fun a b => a.1 < b.1

theorem key_same (i : Nat) (z : Int) : (keyQ i).sameKey (.int .i64 z) = decide ((i : Int) = z) := by
  show decide (IntKind.i64 = IntKind.i64 ∧ (i : Int) = z) = _
  congr 1
  exact propext ⟨fun h => h.2, fun h => ⟨rfl, h⟩⟩
theorem key_before (i k : Nat) : (keyQ i).before (keyQ k) = decide (i < k) := by
  show decide ((i : Int) < (k : Int)) = _
  congr 1
  exact propext ⟨fun h => by omega, fun h => by omega⟩
theorem mapD_size (l : Qs) : Maps.size (mapD l) = l.length := by unfold mapD; rw [Maps.size_eq, List.length_map]
theorem find_map (l : Qs) (z : Int) : (l.map entQ).find? (fun p => p.1.sameKey (.int .i64 z)) = (l.find? fun g => ((g.1 : Int) == z)).map entQ := by
  induction l with
  | nil => rfl
  | cons g l ih =>
    rw [List.map_cons, List.find?_cons, List.find?_cons]
    have e : (entQ g).1.sameKey (.int .i64 z) = ((g.1 : Int) == z) := by
      show (keyQ g.1).sameKey _ = _
      rw [key_same]
      cases h : ((g.1 : Int) == z) with
      | true => exact decide_eq_true (by simpa using h)
      | false => exact decide_eq_false (by simpa using h)
    rw [e, ih]
    cases ((g.1 : Int) == z) <;> rfl
theorem mapD_at (l : Qs) (z : Int) (v : Value) : (mapD l).atKey (.int .i64 z) (.held v) = .held ((Tl.find l z).elim v secV) := by
  unfold mapD DataW.atKey Tl.find
  dsimp only
  rw [find_map]
  cases l.find? (fun g => ((g.1 : Int) == z)) <;> rfl
theorem mapD_has (l : Qs) (z : Int) : Maps.has (mapD l) (.int .i64 z) = (Tl.find l z).isSome := by
  unfold mapD Tl.find
  rw [Maps.has_eq]
  induction l with
  | nil => rfl
  | cons g l ih =>
    rw [List.map_cons, List.any_cons, ih, List.find?_cons]
    have e : (entQ g).1.sameKey (.int .i64 z) = ((g.1 : Int) == z) := by
      show (keyQ g.1).sameKey _ = _
      rw [key_same]
      cases h : ((g.1 : Int) == z) with
      | true => exact decide_eq_true (by simpa using h)
      | false => exact decide_eq_false (by simpa using h)
    rw [e]
    cases ((g.1 : Int) == z) <;> simp
theorem filter_keep (l : Qs) (i : Nat) (h : ∀ g ∈ l, g.1 ≠ i) : (l.map entQ).filter (fun p => !p.1.sameKey (keyQ i)) = l.map entQ := by
  rw [List.filter_eq_self]
  intro p hp
  obtain ⟨g, hg, rfl⟩ := List.mem_map.1 hp
  have : (entQ g).1.sameKey (keyQ i) = false := by
    show (keyQ g.1).sameKey (.int .i64 (i : Int)) = false
    rw [key_same]
    exact decide_eq_false (fun e => h g hg (by omega))
  rw [this]; rfl
theorem insert_front (l : Qs) (x : Nat × List UInt8) (h : ∀ g ∈ l, x.1 < g.1) : DataW.insert (entQ x) (l.map entQ) = entQ x :: l.map entQ := by
  cases l with
  | nil => rfl
  | cons g l =>
    rw [List.map_cons, DataW.insert]
    have : (entQ x).1.before (entQ g).1 = true := by
      show (keyQ x.1).before (keyQ g.1) = true
      rw [key_before]
      exact decide_eq_true (h g (by simp))
    rw [if_pos this]
theorem mapD_put (l : Qs) (i : Nat) (b : List UInt8) (hs : SortQ l) : (mapD l).put (keyQ i) (.held (secV b)) = mapD (putQ l i b) := by
  unfold mapD DataW.put
  dsimp only
  congr 1
  show DataW.insert (entQ (i, b)) _ = _
  induction l with
  | nil => rfl
  | cons g l ih =>
    obtain ⟨h1, h2⟩ := List.pairwise_cons.1 hs
    rw [putQ]
    have ek : (entQ g).1.sameKey (keyQ i) = decide ((g.1 : Int) = (i : Int)) := key_same g.1 (i : Int)
    by_cases ha : g.1 < i
    · rw [if_pos ha, List.map_cons, List.map_cons, List.filter_cons, ek, decide_eq_false (by omega), Bool.not_false, if_pos rfl, DataW.insert]
      have : (entQ (i, b)).1.before (entQ g).1 = false := by
        show (keyQ i).before (keyQ g.1) = false
        rw [key_before]
        exact decide_eq_false (by omega)
      rw [if_neg (by rw [this]; decide), ih h2]
    · by_cases hb : g.1 = i
      · rw [if_neg ha, if_pos hb, List.map_cons, List.map_cons, List.filter_cons, ek, decide_eq_true (by omega), Bool.not_true, if_neg (by decide), filter_keep l i (fun x hx => by have := h1 x hx; omega)]
        exact insert_front l (i, b) (fun x hx => by have := h1 x hx; show i < x.1; omega)
      · rw [if_neg ha, if_neg hb, filter_keep (g :: l) i (fun x hx => by
          rcases List.mem_cons.1 hx with rfl | hx
          · exact hb
          · have := h1 x hx; omega)]
        exact insert_front (g :: l) (i, b) (fun x hx => by
          rcases List.mem_cons.1 hx with rfl | hx
          · show i < x.1; omega
          · have := h1 x hx; show i < x.1; omega)
theorem putQ_sort (l : Qs) (i : Nat) (b : List UInt8) (hs : SortQ l) : SortQ (putQ l i b) := by
  induction l with
  | nil => exact List.pairwise_cons.2 ⟨fun _ h => (by cases h), List.Pairwise.nil⟩
  | cons g l ih =>
    obtain ⟨h1, h2⟩ := List.pairwise_cons.1 hs
    rw [putQ]
    by_cases ha : g.1 < i
    · rw [if_pos ha]
      refine List.pairwise_cons.2 ⟨fun x hx => ?_, ih h2⟩
      have : x ∈ l ∨ x = (i, b) := by
        clear ih hs h1 ha
        induction l with
        | nil => exact .inr (List.mem_singleton.1 hx)
        | cons y l ih2 =>
          rw [putQ] at hx
          split at hx
          · rcases List.mem_cons.1 hx with e | e
            · exact .inl (by rw [e]; simp)
            · rcases ih2 (List.pairwise_cons.1 h2).2 e with e | e
              · exact .inl (List.mem_cons_of_mem _ e)
              · exact .inr e
          · split at hx
            · rcases List.mem_cons.1 hx with e | e
              · exact .inr e
              · exact .inl (List.mem_cons_of_mem _ e)
            · rcases List.mem_cons.1 hx with e | e
              · exact .inr e
              · exact .inl e
      rcases this with h | h
      · exact h1 x h
      · rw [h]; exact ha
    · by_cases hb : g.1 = i
      · rw [if_neg ha, if_pos hb]
        exact List.pairwise_cons.2 ⟨fun x hx => by have := h1 x hx; show i < x.1; omega, h2⟩
      · rw [if_neg ha, if_neg hb]
        refine List.pairwise_cons.2 ⟨fun x hx => ?_, hs⟩
        rcases List.mem_cons.1 hx with rfl | hx
        · show i < x.1; omega
        · have := h1 x hx; show i < x.1; omega
theorem hit_find (l : Qs) (i : Nat) (hs : SortQ l) : hitQ l i = (Tl.find l (i : Int)).isSome := by
  unfold Tl.find
  induction l with
  | nil => rfl
  | cons g l ih =>
    obtain ⟨h1, h2⟩ := List.pairwise_cons.1 hs
    rw [hitQ, List.find?_cons]
    by_cases ha : g.1 < i
    · rw [if_pos ha, ih h2]
      have : ((g.1 : Int) == (i : Int)) = false := by simp; omega
      rw [this]
    · rw [if_neg ha]
      by_cases hb : g.1 = i
      · have : ((g.1 : Int) == (i : Int)) = true := by simp; omega
        rw [this]
        simp [hb]
      · have : ((g.1 : Int) == (i : Int)) = false := by simp; omega
        rw [this]
        have hn : l.find? (fun g => ((g.1 : Int) == (i : Int))) = none := List.find?_eq_none.2 (fun x hx => by have := h1 x hx; simp; omega)
        rw [hn]
        simp [hb]
theorem mapD_keys (l : Qs) : intKeys (mapD l) = l.map fun g => (g.1 : Int) := by
  unfold mapD intKeys
  dsimp only
  rw [List.map_map]
  rfl
theorem sorted_keys (l : Qs) (hs : SortQ l) (ss : List Int) (hp : ss.Perm (intKeys (mapD l))) : ss.mergeSort (fun x y => decide (x ≤ y)) = l.map fun g => (g.1 : Int) := by
  have hS : (l.map fun g => (g.1 : Int)).Pairwise (fun a b => decide (a ≤ b) = true) := List.pairwise_map.2 (hs.imp (fun h => decide_eq_true (by omega)))
  rw [mapD_keys] at hp
  have h1 : (ss.mergeSort (fun x y => decide (x ≤ y))).Pairwise (fun a b => decide (a ≤ b) = true) := List.pairwise_mergeSort (by intro a b c h1 h2; simp at *; omega) (by intro a b; simp; omega) ss
  refine List.Perm.eq_of_pairwise (le := fun a b => decide (a ≤ b) = true) (fun a b _ _ h1 h2 => ?_) h1 hS ((List.mergeSort_perm _ _).trans hp)
  have a1 := of_decide_eq_true h1
  have a2 := of_decide_eq_true h2
  omega

/-- the program's journal -/
structure JAt (w : World) (J P base : Nat) (j : Jl) : Prop where
  blk : Blk w J 142 [.pointer (some ⟨P, 0, none⟩), .int .u64 (j.seq : Int), .int .u32 (flag j.dead)]
  low : base ≤ J
  d : IsD0 w P base j.p
  seq : j.seq < 18446744073709551616
abbrev OwnM (w : World) (M : Nat) (l : Qs) : Prop := w.ownsMap Tryz.prog 3 secR M l.length (mapD l)
/-- its transaction -/
structure TAt (w : World) (T J P base : Nat) (t : Tl) (j : Jl) (M : Nat) (tried : Bool) : Prop where
  ja : JAt w J P base j
  blk : Blk w T 179 [.pointer (some ⟨J, 0, none⟩), .map (some M), .int .u32 (flag tried), .int .i32 0, .int .u32 0, .bool tried]
  low : base ≤ T
  lowM : base ≤ M
  own : OwnM w M t.l
  sort : SortQ t.l
  ok : ∀ g ∈ t.l, g.2.length = 512 ∧ 49 ≤ g.1 ∧ g.1 < 4096
  over : j.dead = false → tried = t.over
def TAx (w : World) (T J P base : Nat) (t : Tl) (j : Jl) : Prop := ∃ M tried, TAt w T J P base t j M tried

theorem own_tight {w : World} {M n : Nat} {l : Qs} (h : w.ownsMap Tryz.prog 3 secR M n (mapD l)) : OwnM w M l := by
  obtain ⟨es, clock, hb, F, hs, hD⟩ := h
  refine ⟨es, clock, hb, F, ?_, hD⟩
  have e1 := congrArg Maps.size hD
  rw [mapD_size] at e1
  rw [e1, Maps.size_eq, length_sorted]
  simp
theorem ownM_obj {w : World} {M : Nat} {l : Qs} (h : OwnM w M l) : ∃ es clock, w.heap[M]? = some (.map es clock) := by
  obtain ⟨es, clock, hb, _⟩ := h
  exact ⟨es, clock, hb⟩
theorem ownM_same {w w' : World} {M : Nat} {l : Qs} (h : OwnM w M l) (e : w'.heap[M]? = w.heap[M]?) : OwnM w' M l := by
  obtain ⟨es, clock, hb, r⟩ := h
  exact ⟨es, clock, e.trans hb, r⟩
theorem ownM_keep {w w' : World} {M : Nat} {l : Qs} (h : OwnM w M l) {ts : List TypeId} (hk : KeepT ts w w') : OwnM w' M l := by
  obtain ⟨es, clock, hb, r⟩ := h
  exact ⟨es, clock, hk.same M _ hb (fun c t fz e => by cases e), r⟩
theorem ownM_on {w w' : World} {M : Nat} {l : Qs} (h : OwnM w M l) (hb : Below w.heap.size w w') : OwnM w' M l := ownM_keep (ts := []) h (KeepT.of_below hb)
theorem blk_map {w : World} {B t M : Nat} {cs : List Value} {l : Qs} (h : Blk w B t cs) (hm : OwnM w M l) : B ≠ M := fun e => by
  subst e
  obtain ⟨es, clock, hb⟩ := ownM_obj hm
  have := hb.symm.trans h
  cases this
theorem JAt.on {w w' : World} {J P base : Nat} {j : Jl} (h : JAt w J P base j) (hb : Below w.heap.size w w') : JAt w' J P base j := ⟨h.blk.on hb, h.low, h.d.on hb, h.seq⟩
theorem JAt.keep {w w' : World} {J P base : Nat} {j : Jl} (h : JAt w J P base j) (hk : KeepT CT w w') : JAt w' J P base j := ⟨hk.blk h.blk (by decide), h.low, h.d.keep hk (by decide) (by decide) (by decide), h.seq⟩
theorem JAt.turn {w w' : World} {J P base : Nat} {j : Jl} {p' : Pl} (h : JAt w J P base j) (hk : KeepT PD w w') (hd : IsD0 w' P base p') : JAt w' J P base ⟨p', j.seq, j.dead⟩ := ⟨hk.blk h.blk (by decide), h.low, hd, h.seq⟩
theorem TAt.on {w w' : World} {T J P base : Nat} {t : Tl} {j : Jl} {M : Nat} {tr : Bool} (h : TAt w T J P base t j M tr) (hb : Below w.heap.size w w') : TAt w' T J P base t j M tr := ⟨h.ja.on hb, h.blk.on hb, h.low, h.lowM, ownM_on h.own hb, h.sort, h.ok, h.over⟩
theorem TAt.keep {w w' : World} {T J P base : Nat} {t : Tl} {j : Jl} {M : Nat} {tr : Bool} (h : TAt w T J P base t j M tr) (hk : KeepT CT w w') : TAt w' T J P base t j M tr := ⟨h.ja.keep hk, hk.blk h.blk (by decide), h.low, h.lowM, ownM_keep h.own hk, h.sort, h.ok, h.over⟩
/-- what a commit needs of a transaction: its cells ahead, its map -/
structure TIn (w : World) (T J M : Nat) (l : Qs) (rest : List Value) : Prop where
  blk : Blk w T 179 (.pointer (some ⟨J, 0, none⟩) :: .map (some M) :: rest)
  own : OwnM w M l
  sort : SortQ l
  ok : ∀ g ∈ l, g.2.length = 512 ∧ 49 ≤ g.1 ∧ g.1 < 4096
theorem TIn.on {w w' : World} {T J M : Nat} {l : Qs} {rest : List Value} (h : TIn w T J M l rest) (hb : Below w.heap.size w w') : TIn w' T J M l rest := ⟨h.blk.on hb, ownM_on h.own hb, h.sort, h.ok⟩
theorem TIn.keep {w w' : World} {T J M : Nat} {l : Qs} {rest : List Value} (h : TIn w T J M l rest) {ts : List TypeId} (hk : KeepT ts w w') (ht : 179 ∉ ts) : TIn w' T J M l rest := ⟨hk.blk h.blk ht, ownM_keep h.own hk, h.sort, h.ok⟩
end Go.Proofs.YthjdmfbengpepaaGreat
