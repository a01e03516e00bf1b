/- AuditVerifies: the walk. · The audit log, plain: a record that is shown is read as it was, bytes that are one are what is shown of it; of two logs with one head; a log that is edited. · The program's Read. · The document's reader: a block of three cells; number. · The document's reader: Uint, List, Bool. · The document's reader: Bytes, Text. · The document's reader: Bytes, Text, where some are read. · The document's reader: bytes and texts. -/
import Derived.Test.YtooffagdbppmaaaAu12
import Derived.Test.YtooffagdbppmaaaB43
import Derived.Test.YtooffagdbppmaaaB37
import Derived.Test.YtooffagdbppmaaaB36
import Derived.Test.YtooffagdbppmaaaAu6
import Derived.Deep.RegionHeld3
namespace Go.Proofs.Ytooffagdbppmaaa
open Go.RowKit

theorem light_of14 {l : List Rq14} (h : lightR (l.map Prod.fst) = true) : (∀ x ∈ l, rcLen x.1 ≤ 5000) ∧ l.length ≤ 100 := by
  obtain ⟨h1, h2⟩ := light_len h
  exact ⟨fun x hx => h1 x.1 (List.mem_map.2 ⟨x, hx, rfl⟩), by rw [List.length_map] at h2; exact h2⟩
attribute [local go_sem] undef
set_option maxRecDepth 20000 in
set_option maxHeartbeats 2000000 in
theorem verifies14 (a : Option Addr) (n cap : Nat) (l : List Rq14) (hv : Value) (hd : List UInt8) (w : World) (h : IsRl w a n l) (hz : ∀ x ∈ l, RcZ x.1) (hn : n ≤ 140737488351232) (hh : IsV w hv hd) :
    Calls Try.prog 6 #[.slice a n cap, hv] w fun e w' => e = .returned (.bool true) ∧ Below w.heap.size w w' := by
  have HX := mkHid h
  have HH := mkHid hh
  have HLt := lawLight14 a n cap l w h hz hn
  have HL2 := @light_of14 l
  have HLn := mkHid h.len
  clear h hz hh
  generalize lightR (l.map Prod.fst) = LT at *
  cases LT with
  | false =>
    clear HL2
    go_enter Try.func6, Try.ntmps6
    go_wp2_with fail
    refine HLt.mono ?_
    rintro e y1 ⟨rfl, hb1⟩
    have HB1 := mkHid hb1
    clear hb1 HLt
    go_wp2_with fail
    go_ret
    exact ⟨rfl, HB1.out⟩
  | true =>
    obtain ⟨hs, hm⟩ := HL2 rfl
    rw [HLn.out] at hm
    have HC := fun W (hW : Below w.heap.size w W) => codVerify14 a n cap l hv hd W (HX.out.below hW) (HH.out.below hW rfl) hs (by omega)
    have HD := fun W (hW : Below w.heap.size w W) => refVerify14 a n cap l hv hd W (HX.out.below hW) (HH.out.below hW rfl) hs (by omega)
    clear HL2 hs hm HX HH HLn
    generalize verN (l.map Prod.fst) hd = VN at *
    go_enter Try.func6, Try.ntmps6
    go_wp2_with fail
    refine HLt.mono ?_
    rintro e y1 ⟨rfl, hb1⟩
    have HB1 := mkHid hb1
    clear hb1 HLt
    go_wp2_with fail
    refine (HC y1 HB1.out).mono ?_
    rintro e y2 ⟨rfl, hb2⟩
    have HB2 := mkHid (HB1.out.trans (hb2.mono HB1.out.size))
    clear hb2 HC HB1
    go_wp2_with fail
    refine (HD y2 HB2.out).mono ?_
    rintro e y3 ⟨rfl, hb3⟩
    have HB3 := mkHid (HB2.out.trans (hb3.mono HB2.out.size))
    clear hb3 HD HB2
    go_wp2_with fail
    refine (lawAlive14 y3).mono ?_
    rintro e y4 ⟨rfl, hb4⟩
    have HB4 := mkHid (HB3.out.trans (hb4.mono HB3.out.size))
    clear hb4 HB3
    go_wp2_with fail
    go_ret
    exact ⟨rfl, HB4.out⟩
end Go.Proofs.Ytooffagdbppmaaa
namespace Go.Proofs.Ytooffagdbppmaaa
open Go.RowKit

theorem show_eq14 (r : Rc) : showRc r = uB14 r.seq ++ (uB14 r.clk ++ (sB14 115 (sL r.who) ++ (uB14 (max r.kind 0).toNat ++ (sB14 115 (sL r.bkt) ++ (sB14 115 (sL r.key) ++ (uB14 r.ver ++ (uB14 (max r.err 0).toNat ++ (sB14 98 r.sum ++ (sB14 98 r.prev ++ []))))))))) := by
  unfold showRc
  simp only [uintL_eq14, bytesL_eq14, textL_eq14, List.nil_append, List.append_assoc, List.append_nil]
theorem uB_back (n : Nat) (r : List UInt8) (h : n < 18446744073709551616) : rdUint (uB14 n ++ r) false = (n, r, false) := rdUint_back n r h
theorem sB_back (m : UInt8) (b r : List UInt8) (h : b.length < 4294967296) : rdSome m (sB14 m b ++ r) false = (b, r, false) := rdSome_back m b r h
theorem str_sL (s : ByteArray) : (⟨(sL s).toArray⟩ : ByteArray) = s := by unfold sL; rw [Array.toArray_toList]
/-- as it is read: what is too great is told as less -/
def toldRc (r : Rc) : Rc := { r with kind := toldN (max r.kind 0).toNat, err := toldN (max r.err 0).toNat }
theorem rec_show14 (r : Rc) (hn : RcN r) (hl : rcLen r ≤ 5000) : recR (showRc r) = toldRc r ∧ doneN (ra10 (showRc r)).2.1 (ra10 (showRc r)).2.2 = 0 := by
  have hk : (max r.kind 0).toNat < 18446744073709551616 := by have := hn.kind1; omega
  have he : (max r.err 0).toNat < 18446744073709551616 := by have := hn.err1; omega
  unfold rcLen at hl
  have l1 : (sL r.who).length < 4294967296 := by rw [sL_length]; omega
  have l2 : (sL r.bkt).length < 4294967296 := by rw [sL_length]; omega
  have l3 : (sL r.key).length < 4294967296 := by rw [sL_length]; omega
  have l4 : r.sum.length < 4294967296 := by omega
  have l5 : r.prev.length < 4294967296 := by omega
  have e1 := uB_back r.seq (uB14 r.clk ++ (sB14 115 (sL r.who) ++ (uB14 (max r.kind 0).toNat ++ (sB14 115 (sL r.bkt) ++ (sB14 115 (sL r.key) ++ (uB14 r.ver ++ (uB14 (max r.err 0).toNat ++ (sB14 98 r.sum ++ (sB14 98 r.prev ++ []))))))))) hn.seq
  rw [← show_eq14] at e1
  change ra1 (showRc r) = _ at e1
  have f2 : ra2 (showRc r) = rdUint (ra1 (showRc r)).2.1 (ra1 (showRc r)).2.2 := rfl
  rw [e1] at f2
  simp only [] at f2
  rw [uB_back _ _ hn.clk] at f2
  have f3 : ra3 (showRc r) = rdSome 115 (ra2 (showRc r)).2.1 (ra2 (showRc r)).2.2 := rfl
  rw [f2] at f3
  simp only [] at f3
  rw [sB_back 115 (sL r.who) _ l1] at f3
  have f4 : ra4 (showRc r) = rdUint (ra3 (showRc r)).2.1 (ra3 (showRc r)).2.2 := rfl
  rw [f3] at f4
  simp only [] at f4
  rw [uB_back _ _ hk] at f4
  have f5 : ra5 (showRc r) = rdSome 115 (ra4 (showRc r)).2.1 (ra4 (showRc r)).2.2 := rfl
  rw [f4] at f5
  simp only [] at f5
  rw [sB_back 115 (sL r.bkt) _ l2] at f5
  have f6 : ra6 (showRc r) = rdSome 115 (ra5 (showRc r)).2.1 (ra5 (showRc r)).2.2 := rfl
  rw [f5] at f6
  simp only [] at f6
  rw [sB_back 115 (sL r.key) _ l3] at f6
  have f7 : ra7 (showRc r) = rdUint (ra6 (showRc r)).2.1 (ra6 (showRc r)).2.2 := rfl
  rw [f6] at f7
  simp only [] at f7
  rw [uB_back _ _ hn.ver] at f7
  have f8 : ra8 (showRc r) = rdUint (ra7 (showRc r)).2.1 (ra7 (showRc r)).2.2 := rfl
  rw [f7] at f8
  simp only [] at f8
  rw [uB_back _ _ he] at f8
  have f9 : ra9 (showRc r) = rdSome 98 (ra8 (showRc r)).2.1 (ra8 (showRc r)).2.2 := rfl
  rw [f8] at f9
  simp only [] at f9
  rw [sB_back 98 r.sum _ l4] at f9
  have f10 : ra10 (showRc r) = rdSome 98 (ra9 (showRc r)).2.1 (ra9 (showRc r)).2.2 := rfl
  rw [f9] at f10
  simp only [] at f10
  rw [sB_back 98 r.prev _ l5] at f10
  constructor
  · unfold recR toldRc
    rw [e1, f2, f3, f4, f5, f6, f7, f8, f9, f10]
    simp only [str_sL]
  · rw [f10]; rfl
theorem told_right14 (r : Rc) (h0 : 0 ≤ r.kind) (h1 : 0 ≤ r.err) : rightRc (toldRc r) = rightRc r ∧ (rightRc r = true → toldRc r = r) := by
  obtain ⟨rseq, rclk, rwho, rkind, rbkt, rkey, rver, rerr, rsum, rprev⟩ := r
  simp only [] at h0 h1
  constructor
  · unfold rightRc toldRc toldN
    simp only []
    rw [decide_eq_decide]
    constructor
    · rintro ⟨a, b, c, d, e⟩; exact ⟨by omega, by omega, by omega, by omega, e⟩
    · rintro ⟨a, b, c, d, e⟩; exact ⟨by omega, by omega, by omega, by omega, e⟩
  · intro h
    have h := of_decide_eq_true h
    simp only [] at h
    unfold toldRc toldN
    simp only []
    rw [show ((min (max rkind 0).toNat 2147483647 : Nat) : Int) = rkind by omega, show ((min (max rerr 0).toNat 2147483647 : Nat) : Int) = rerr by omega]
theorem read_show14 (r : Rc) (hn : RcN r) (hl : rcLen r ≤ 5000) (h0 : 0 ≤ r.kind) (h1 : 0 ≤ r.err) : readRc (showRc r) = if rightRc r = true then some r else none := by
  obtain ⟨e, d⟩ := rec_show14 r hn hl
  obtain ⟨t1, t2⟩ := told_right14 r h0 h1
  unfold readRc
  rw [e, t1]
  by_cases h : rightRc r = true
  · rw [if_pos ⟨d, h⟩, if_pos h, t2 h]
  · rw [if_neg (fun x => h x.2), if_neg h]
theorem numTo_div (l : List UInt8) (a : Nat) : ∀ b, numTo l (a + b) / 256 ^ b = numTo l a
  | 0 => by rw [Nat.pow_zero, Nat.div_one, Nat.add_zero]
  | b + 1 => by
    rw [← Nat.add_assoc, numTo, Nat.pow_succ, Nat.mul_comm (256 ^ b), ← Nat.div_div_eq_div_mul]
    have := UInt8.toNat_lt (nth l (1 + (a + b)))
    rw [show (numTo l (a + b) * 256 + (nth l (1 + (a + b))).toNat) / 256 = numTo l (a + b) by omega]
    exact numTo_div l a b
theorem beAt_num (l : List UInt8) (size j : Nat) (hj : j < size) : beAt (numTo l size) size j = nth l (1 + j) := by
  unfold beAt
  have e : (2 : Nat) ^ (8 * (size - 1 - j)) = 256 ^ (size - 1 - j) := by rw [Nat.pow_mul]
  have := numTo_div l (j + 1) (size - 1 - j)
  rw [show j + 1 + (size - 1 - j) = size by omega] at this
  rw [e, this, numTo]
  apply UInt8.toNat_inj.1
  rw [UInt8.toNat_ofNat']
  have := UInt8.toNat_lt (nth l (1 + j))
  omega
theorem beL_num (l : List UInt8) (size : Nat) (h : 1 + size ≤ l.length) : beL (numTo l size) size size = (l.drop 1).take size := by
  apply List.ext_getElem
  · rw [beL_length, List.length_take, List.length_drop]; omega
  · intro i h1 h2
    rw [beL_length] at h1
    simp only [beL, List.getElem_map, List.getElem_range]
    rw [beAt_num l size i h1, List.getElem_take, List.getElem_drop, nth_eq]
theorem head_num (l : List UInt8) (m : UInt8) (size : Nat) (h : 1 + size ≤ l.length) (hm : nth l 0 = m) : l = behL [] m (numTo l size) size size ++ l.drop (1 + size) := by
  unfold behL
  rw [beL_num l size h, List.nil_append]
  cases l with
  | nil => simp at h
  | cons x t =>
    rw [nth_zero_cons] at hm
    rw [hm, List.drop_succ_cons, List.drop_zero, Nat.add_comm 1 size, List.drop_succ_cons, List.cons_append, List.take_append_drop]
theorem rdUint_it {l : List UInt8} {br : Bool} (h : (rdUint l br).2.2 = false) : br = false ∧ l = uB14 (rdUint l br).1 ++ (rdUint l br).2.1 ∧ (rdUint l br).1 < 18446744073709551616 := by
  unfold rdUint at h ⊢
  by_cases ho : okH l br 117 8 = true
  · rw [if_pos ho]
    obtain ⟨a, b, c⟩ := okH_of ho
    exact ⟨a, head_num l 117 8 b c, numTo_lt64 l 8 (by omega)⟩
  · rw [if_neg ho] at h; cases h
theorem rdSome_it {m : UInt8} {l : List UInt8} {br : Bool} (h : (rdSome m l br).2.2 = false) : br = false ∧ l = sB14 m (rdSome m l br).1 ++ (rdSome m l br).2.1 := by
  unfold rdSome at h ⊢
  by_cases ho : okB l br m = true
  · rw [if_pos ho]
    unfold okB at ho
    obtain ⟨o1, o2⟩ := Bool.and_eq_true_iff.1 ho
    have o3 := of_decide_eq_true o2
    obtain ⟨a, b, c⟩ := okH_of o1
    refine ⟨a, ?_⟩
    have e := head_num l m 4 b c
    show l = sB14 m ((l.drop 5).take (numTo l 4)) ++ l.drop (5 + numTo l 4)
    unfold sB14
    rw [List.length_take, List.length_drop, show min (numTo l 4) (l.length - 5) = numTo l 4 by omega, List.append_assoc, ← List.drop_drop, List.take_append_drop]
    exact e
  · rw [if_neg ho] at h; cases h
theorem doneN_zero14 {l : List UInt8} {br : Bool} : doneN l br = 0 ↔ br = false ∧ l = [] := by
  unfold doneN
  cases br <;> cases l <;> simp
theorem sL_mk14 (l : List UInt8) : sL ⟨l.toArray⟩ = l := by unfold sL; simp
theorem show_read14 {b : List UInt8} {r : Rc} (h : readRc b = some r) : showRc r = b ∧ RcN r ∧ rightRc r = true := by
  unfold readRc at h
  split at h
  · rename_i hc
    obtain ⟨hd, hr⟩ := hc
    have e := Option.some.inj h
    obtain ⟨d1, d2⟩ := doneN_zero14.1 hd
    obtain ⟨c9, e10⟩ := rdSome_it (l := (ra9 b).2.1) (br := (ra9 b).2.2) d1
    obtain ⟨c8, e9⟩ := rdSome_it (l := (ra8 b).2.1) (br := (ra8 b).2.2) c9
    obtain ⟨c7, e8, n8⟩ := rdUint_it (l := (ra7 b).2.1) (br := (ra7 b).2.2) c8
    obtain ⟨c6, e7, n7⟩ := rdUint_it (l := (ra6 b).2.1) (br := (ra6 b).2.2) c7
    obtain ⟨c5, e6⟩ := rdSome_it (l := (ra5 b).2.1) (br := (ra5 b).2.2) c6
    obtain ⟨c4, e5⟩ := rdSome_it (l := (ra4 b).2.1) (br := (ra4 b).2.2) c5
    obtain ⟨c3, e4, n4⟩ := rdUint_it (l := (ra3 b).2.1) (br := (ra3 b).2.2) c4
    obtain ⟨c2, e3⟩ := rdSome_it (l := (ra2 b).2.1) (br := (ra2 b).2.2) c3
    obtain ⟨c1, e2, n2⟩ := rdUint_it (l := (ra1 b).2.1) (br := (ra1 b).2.2) c2
    obtain ⟨_, e1, n1⟩ := rdUint_it (l := b) (br := false) c1
    have hrr := of_decide_eq_true hr
    have k1 : (recR b).kind ≤ 19 := hrr.2.1
    have k2 : (recR b).err ≤ 9999 := hrr.2.2.2.1
    have k3 : toldN (ra4 b).1 ≤ 19 := k1
    have k4 : toldN (ra8 b).1 ≤ 9999 := k2
    unfold toldN at k3 k4
    have t4 : (max (toldN (ra4 b).1) 0).toNat = (ra4 b).1 := by unfold toldN; omega
    have t8 : (max (toldN (ra8 b).1) 0).toNat = (ra8 b).1 := by unfold toldN; omega
    subst e
    refine ⟨?_, ⟨n1, n2, n7, ?_, ?_, ?_, ?_⟩, hr⟩
    · rw [show_eq14]
      show uB14 (ra1 b).1 ++ (uB14 (ra2 b).1 ++ (sB14 115 (sL ⟨(ra3 b).1.toArray⟩) ++ (uB14 (max (toldN (ra4 b).1) 0).toNat ++ (sB14 115 (sL ⟨(ra5 b).1.toArray⟩) ++ (sB14 115 (sL ⟨(ra6 b).1.toArray⟩) ++ (uB14 (ra7 b).1 ++ (uB14 (max (toldN (ra8 b).1) 0).toNat ++ (sB14 98 (ra9 b).1 ++ (sB14 98 (ra10 b).1 ++ []))))))))) = b
      rw [t4, t8, sL_mk14, sL_mk14, sL_mk14, ← d2]
      rw [show sB14 98 (ra10 b).1 ++ (ra10 b).2.1 = (ra9 b).2.1 from e10.symm, show sB14 98 (ra9 b).1 ++ (ra9 b).2.1 = (ra8 b).2.1 from e9.symm, show uB14 (ra8 b).1 ++ (ra8 b).2.1 = (ra7 b).2.1 from e8.symm, show uB14 (ra7 b).1 ++ (ra7 b).2.1 = (ra6 b).2.1 from e7.symm, show sB14 115 (ra6 b).1 ++ (ra6 b).2.1 = (ra5 b).2.1 from e6.symm, show sB14 115 (ra5 b).1 ++ (ra5 b).2.1 = (ra4 b).2.1 from e5.symm, show uB14 (ra4 b).1 ++ (ra4 b).2.1 = (ra3 b).2.1 from e4.symm, show sB14 115 (ra3 b).1 ++ (ra3 b).2.1 = (ra2 b).2.1 from e3.symm, show uB14 (ra2 b).1 ++ (ra2 b).2.1 = (ra1 b).2.1 from e2.symm]
      exact e1.symm
    · show -9223372036854775808 ≤ (recR b).kind; have := hrr.1; omega
    · omega
    · show -9223372036854775808 ≤ (recR b).err; have := hrr.2.2.1; omega
    · omega
  · cases h
theorem show_inj14 {r s : Rc} (hr : rightRc r = true) (hs : rightRc s = true) (nr : RcN r) (ns : RcN s) (lr : rcLen r ≤ 5000) (ls : rcLen s ≤ 5000) (e : showRc r = showRc s) : r = s := by
  have h1 := of_decide_eq_true hr
  have h2 := of_decide_eq_true hs
  have e1 := read_show14 r nr lr h1.1 h1.2.2.1
  have e2 := read_show14 s ns ls h2.1 h2.2.2.1
  rw [if_pos hr] at e1
  rw [if_pos hs, ← e, e1] at e2
  exact Option.some.inj e2
/-- two logs, turned about, with one head -/
theorem forged14 : ∀ (a b : List Rc) (h : List UInt8), verB a h = true → verB b h = true → (∀ r ∈ a, RcN r ∧ rcLen r ≤ 5000) → (∀ r ∈ b, RcN r ∧ rcLen r ≤ 5000) →
    (a = b ∧ colB a b = none) ∨ (a ≠ b ∧ ∃ r s, colB a b = some (r, s) ∧ r ∈ a ∧ s ∈ b ∧ showRc r ≠ showRc s ∧ digRc r = digRc s)
  | [], [], h, _, _, _, _ => .inl ⟨rfl, rfl⟩
  | [], s :: b, h, ha, hb, _, _ => by
    rw [verB, decide_eq_true_iff] at ha
    subst ha
    rw [verB, Bool.and_eq_true, Bool.and_eq_true, decide_eq_true_iff] at hb
    have := congrArg List.length hb.1.2
    rw [digRc_len] at this; cases this
  | r :: a, [], h, ha, hb, _, _ => by
    rw [verB, decide_eq_true_iff] at hb
    subst hb
    rw [verB, Bool.and_eq_true, Bool.and_eq_true, decide_eq_true_iff] at ha
    have := congrArg List.length ha.1.2
    rw [digRc_len] at this; cases this
  | r :: a, s :: b, h, ha, hb, na, nb => by
    rw [verB, Bool.and_eq_true, Bool.and_eq_true, Bool.and_eq_true, decide_eq_true_iff, decide_eq_true_iff] at ha hb
    rw [colB]
    by_cases e : r = s
    · subst e
      rw [if_pos ((sameRc_iff r r).2 rfl)]
      rcases forged14 a b r.prev ha.2 hb.2 (fun x hx => na x (List.mem_cons_of_mem _ hx)) (fun x hx => nb x (List.mem_cons_of_mem _ hx)) with ⟨e1, e2⟩ | ⟨e1, x, y, e2, e3, e4, e5⟩
      · exact .inl ⟨by rw [e1], e2⟩
      · exact .inr ⟨fun e => e1 (List.cons.inj e).2, x, y, e2, List.mem_cons_of_mem _ e3, List.mem_cons_of_mem _ e4, e5⟩
    · rw [if_neg (fun x => e ((sameRc_iff r s).1 x)), if_pos (ha.1.2.trans hb.1.2.symm)]
      have n1 := na r List.mem_cons_self
      have n2 := nb s List.mem_cons_self
      exact .inr ⟨fun x => e (List.cons.inj x).1, r, s, rfl, List.mem_cons_self, List.mem_cons_self, fun x => e (show_inj14 ha.1.1.1 hb.1.1.1 n1.1 n2.1 n1.2 n2.2 x), ha.1.2.trans hb.1.2.symm⟩
/-- a log that is edited at one place, turned about -/
theorem edited14 : ∀ (p : List Rc) (x y : Rc) (s : List Rc) (h : List UInt8), verB (p ++ x :: s) h = true → x ≠ y → colB (p ++ x :: s) (p ++ y :: s) = none → verB (p ++ y :: s) h = false
  | [], x, y, s, h, hv, hn, hc => by
    rw [List.nil_append, verB, Bool.and_eq_true, Bool.and_eq_true, Bool.and_eq_true, decide_eq_true_iff, decide_eq_true_iff] at hv
    rw [List.nil_append, List.nil_append, colB, if_neg (fun e => hn ((sameRc_iff x y).1 e))] at hc
    have : digRc x ≠ digRc y := fun e => by rw [if_pos e] at hc; cases hc
    rw [List.nil_append, verB, decide_eq_false (p := digRc y = h) (fun e => this (hv.1.2.trans e.symm)), Bool.and_false, Bool.false_and]
  | r :: p, x, y, s, h, hv, hn, hc => by
    rw [List.cons_append, verB, Bool.and_eq_true] at hv
    rw [List.cons_append, List.cons_append, colB, if_pos ((sameRc_iff r r).2 rfl)] at hc
    rw [List.cons_append, verB, edited14 p x y s r.prev hv.2 hn hc, Bool.and_false]
/-- a log that grows by Next -/
theorem grows14 {l : List Rc} {r : Rc} (hl : verL l ((l.getLast?.map digRc).getD []) = true) (hn : l.length < 1000000) (hs : ∀ x, l.getLast? = some x → x.seq = l.length) (hr : rightRc (nextRc l r) = true) :
    verL (l ++ [nextRc l r]) (digRc (nextRc l r)) = true ∧ (nextRc l r).seq = (l ++ [nextRc l r]).length := by
  have e : (nextRc l r).seq = l.length + 1 ∧ (nextRc l r).prev = (l.getLast?.map digRc).getD [] := by
    unfold nextRc
    cases hg : l.getLast? with
    | none =>
      have : l = [] := List.getLast?_eq_none_iff.1 hg
      subst this
      exact ⟨rfl, rfl⟩
    | some x =>
      have := hs x hg
      exact ⟨by show (x.seq + 1) % 18446744073709551616 = _; omega, rfl⟩
  rw [verL_snoc, e.1, e.2, hl, hr, List.length_append]
  exact ⟨by simp, rfl⟩
end Go.Proofs.Ytooffagdbppmaaa
namespace Go.Proofs.Ytooffagdbppmaaa
open Go.RowKit

theorem gr_keepT14 {w w' : World} {B t : Nat} {cs : List Value} (hb : Blk w B t cs) (hg : w.grownBy w' (some B)) : KeepT [t] w w' :=
  ⟨hg.size, fun k o hk hno => (hg.block k (Array.getElem?_eq_some_iff.1 hk).1 (fun e => by
    have hkb : k = B := Option.some.inj e
    subst hkb
    have : o = .cells cs.toArray t (0, 0) := Option.some.inj (hk.symm.trans hb)
    exact hno _ _ _ this (List.mem_singleton.2 rfl))).trans hk⟩
def rdR14 (b : List UInt8) : Rc := (readRc b).getD rc0
def rdE14 (b : List UInt8) : Int := if (readRc b).isSome then 0 else 4
/-- what Read answers -/
def RdP14 (b : List UInt8) (e : Ending) (w' : World) : Prop := ∃ q, e = .returned (.tuple #[.agg (rcc (rdR14 b) q).toArray, .int .i64 (rdE14 b)]) ∧ IsRec w' (rdR14 b) q
theorem rd_no14 {b : List UInt8} {w' : World} (h : readRc b = none) : RdP14 b (.returned (.tuple #[.agg #[.int .u64 0, .int .u64 0, .string { data := #[] }, .int .i64 0, .string { data := #[] }, .string { data := #[] }, .int .u64 0, .int .i64 0, .slice none 0 0, .slice none 0 0], .int .i64 4])) w' := by
  unfold RdP14 rdR14 rdE14
  rw [h]
  exact ⟨⟨none, 0, none, 0⟩, rfl, isB_none w', isB_none w', ⟨by decide, by decide, by decide, by decide, by decide, by decide, by decide⟩⟩
theorem rd_yes14 {b : List UInt8} {w' : World} {r : Rc} {q : RcA} (h : readRc b = some r) (hr : IsRec w' r q) : RdP14 b (.returned (.tuple #[.agg (rcc r q).toArray, .int .i64 0])) w' := by
  unfold RdP14 rdR14 rdE14
  rw [h]
  exact ⟨q, rfl, hr⟩
theorem codTold14 (n : Nat) (w : World) :
    Calls Try.prog 40 #[.int .u64 (n : Int)] w fun e w' => e = .returned (.int .i64 (toldN n)) ∧ w' = w := by
  unfold toldN
  obtain ⟨m, hm⟩ : ∃ m : Nat, m = min n 2147483647 := ⟨_, rfl⟩
  have hm1 : min (n : Int) 2147483647 = (m : Int) := by omega
  have hw : IntKind.i64.wrap (m : Int) = (m : Int) := by rw [IntKind.wrap_i64]; omega
  rw [← hm]
  clear hm
  go_enter Try.func40, Try.ntmps40
  go_wp2_with fail
  go_ret
  exact ⟨rfl, rfl⟩
/-- how Read stands on its way -/
structure ReAt (w W : World) (B : Nat) (l : List UInt8) (br : Bool) : Prop where
  x : IsR W B l br
  res : Blk W w.heap.size 26 [.int .u64 0, .int .u64 0, .string { data := #[] }, .int .i64 0, .string { data := #[] }, .string { data := #[] }, .int .u64 0, .int .i64 0, .slice none 0 0, .slice none 0 0]
  lo : w.heap.size < B
  bel : Below w.heap.size w W
theorem ReAt.call {w W W' : World} {B : Nat} {l l' : List UInt8} {br br' : Bool} (h : ReAt w W B l br) (hx : IsR W' B l' br') (hg : W.grownBy W' (some B)) : ReAt w W' B l' br' ∧ KeepT [87] W W' := by
  obtain ⟨a, cap, hb, _⟩ := h.x
  have hk : KeepT [87] W W' := gr_keepT14 hb hg
  have := h.lo
  exact ⟨⟨hx, hk.blk h.res (by decide), h.lo, h.bel.grown hg h.bel.size (fun k e => by have := Option.some.inj e; omega)⟩, hk⟩
theorem rd_rcN14 (b : List UInt8) : RcN (recR b) := by
  have h1 : ∀ l br, (rdUint l br).1 < 18446744073709551616 := fun l br => by
    unfold rdUint; split
    · exact numTo_lt64 l 8 (by omega)
    · show 0 < _; decide
  refine ⟨h1 _ _, h1 _ _, h1 _ _, ?_, ?_, ?_, ?_⟩
  · show _ ≤ toldN _; unfold toldN; omega
  · show toldN _ ≤ _; unfold toldN; omega
  · show _ ≤ toldN _; unfold toldN; omega
  · show toldN _ ≤ _; unfold toldN; omega
attribute [local go_sem] undef
set_option maxRecDepth 20000 in
set_option maxHeartbeats 4000000 in
theorem codRead14 (a : Option Addr) (len cap : Nat) (b : List UInt8) (w : World) (h : IsB w a len cap b) (hl : len ≤ 100000) :
    Calls Try.prog 18 #[.slice a len cap] w fun e w' => RdP14 b e w' ∧ Below w.heap.size w w' := by
  have HQ : Hid (readRc b = if doneN (ra10 b).2.1 (ra10 b).2.2 = 0 ∧ rightRc (recR b) = true then some (recR b) else none) := rfl
  have HRN := mkHid (rd_rcN14 b)
  have HRt := fun q W => codRight14 (recR b) q W
  have HRc : Hid (∀ q, rcc (recR b) q = [.int .u64 ((ra1 b).1 : Int), .int .u64 ((ra2 b).1 : Int), .string ⟨(ra3 b).1.toArray⟩, .int .i64 (toldN (ra4 b).1), .string ⟨(ra5 b).1.toArray⟩, .string ⟨(ra6 b).1.toArray⟩, .int .u64 ((ra7 b).1 : Int), .int .i64 (toldN (ra8 b).1), .slice q.a (ra9 b).1.length q.c, .slice q.b (ra10 b).1.length q.d]) := fun q => rfl
  have HSp : Hid ((recR b).sum = (ra9 b).1 ∧ (recR b).prev = (ra10 b).1) := ⟨rfl, rfl⟩
  have HNo := mkHid (fun W (h : readRc b = none) => rd_no14 (w' := W) h)
  have HYe := mkHid (fun W q (h : readRc b = some (recR b)) (hr : IsRec W (recR b) q) => rd_yes14 h hr)
  generalize hRR : recR b = RR at *
  have k0 := Blk.new w 26 [.int .u64 0, .int .u64 0, .string { data := #[] }, .int .i64 0, .string { data := #[] }, .string { data := #[] }, .int .u64 0, .int .i64 0, .slice none 0 0, .slice none 0 0]
  have b0 : Below w.heap.size w (w.alloc (.cells #[.int .u64 0, .int .u64 0, .string { data := #[] }, .int .i64 0, .string { data := #[] }, .string { data := #[] }, .int .u64 0, .int .i64 0, .slice none 0 0, .slice none 0 0] 26)) := (Below.refl _ w).alloc (Nat.le_refl _) _
  have HI := mkHid (h.below b0 rfl)
  have HK0 := mkHid k0
  have HB0 := mkHid b0
  have HSz : Hid ((w.alloc (.cells #[.int .u64 0, .int .u64 0, .string { data := #[] }, .int .i64 0, .string { data := #[] }, .string { data := #[] }, .int .u64 0, .int .i64 0, .slice none 0 0, .slice none 0 0] 26)).heap.size = w.heap.size + 1) := Array.size_push _
  clear h k0 b0 hRR
  go_enter Try.func18, Try.ntmps18
  go_wp2_with fail
  generalize w.alloc (.cells #[.int .u64 0, .int .u64 0, .string { data := #[] }, .int .i64 0, .string { data := #[] }, .string { data := #[] }, .int .u64 0, .int .i64 0, .slice none 0 0, .slice none 0 0] 26) = Y at *
  refine (cRead a len cap b Y HI.out (by omega)).mono ?_
  rintro e y0 ⟨B, rfl, hB, hR0, hb0⟩
  have H0 : Hid (ReAt w y0 B b false) := ⟨hR0, HK0.out.on hb0, by have := HSz.out; omega, HB0.out.trans (hb0.mono HB0.out.size)⟩
  clear hR0 hb0 hB HI HK0 HB0 HSz
  have hC1 := cUint B b false y0 H0.out.x
  rw [show rdUint b false = ra1 b from rfl] at hC1
  go_wp2_with fail
  refine hC1.mono ?_
  rintro e y1 ⟨rfl, hx1, hg1⟩
  obtain ⟨h1, hk1⟩ := H0.out.call hx1 hg1
  have H1 := mkHid h1
  clear h1 hk1 hx1 hg1 hC1 H0
  have hC2 := cUint B (ra1 b).2.1 (ra1 b).2.2 y1 H1.out.x
  rw [show rdUint (ra1 b).2.1 (ra1 b).2.2 = ra2 b from rfl] at hC2
  go_wp2_with fail
  refine hC2.mono ?_
  rintro e y2 ⟨rfl, hx2, hg2⟩
  obtain ⟨h2, hk2⟩ := H1.out.call hx2 hg2
  have H2 := mkHid h2
  clear h2 hk2 hx2 hg2 hC2 H1
  have hC3 := cText B (ra2 b).2.1 (ra2 b).2.2 y2 H2.out.x
  rw [show rdSome 115 (ra2 b).2.1 (ra2 b).2.2 = ra3 b from rfl] at hC3
  go_wp2_with fail
  refine hC3.mono ?_
  rintro e y3 ⟨rfl, hx3, hg3⟩
  obtain ⟨h3, hk3⟩ := H2.out.call hx3 hg3
  have H3 := mkHid h3
  clear h3 hk3 hx3 hg3 hC3 H2
  have hC4 := cUint B (ra3 b).2.1 (ra3 b).2.2 y3 H3.out.x
  rw [show rdUint (ra3 b).2.1 (ra3 b).2.2 = ra4 b from rfl] at hC4
  go_wp2_with fail
  refine hC4.mono ?_
  rintro e y4 ⟨rfl, hx4, hg4⟩
  obtain ⟨h4, hk4⟩ := H3.out.call hx4 hg4
  have H4 := mkHid h4
  clear h4 hk4 hx4 hg4 hC4 H3
  go_wp2_with fail
  refine (codTold14 (ra4 b).1 y4).mono ?_
  rintro e z4 ⟨rfl, hz4⟩
  have hz4 := hz4.symm
  subst hz4
  have hC5 := cText B (ra4 b).2.1 (ra4 b).2.2 y4 H4.out.x
  rw [show rdSome 115 (ra4 b).2.1 (ra4 b).2.2 = ra5 b from rfl] at hC5
  go_wp2_with fail
  refine hC5.mono ?_
  rintro e y5 ⟨rfl, hx5, hg5⟩
  obtain ⟨h5, hk5⟩ := H4.out.call hx5 hg5
  have H5 := mkHid h5
  clear h5 hk5 hx5 hg5 hC5 H4
  have hC6 := cText B (ra5 b).2.1 (ra5 b).2.2 y5 H5.out.x
  rw [show rdSome 115 (ra5 b).2.1 (ra5 b).2.2 = ra6 b from rfl] at hC6
  go_wp2_with fail
  refine hC6.mono ?_
  rintro e y6 ⟨rfl, hx6, hg6⟩
  obtain ⟨h6, hk6⟩ := H5.out.call hx6 hg6
  have H6 := mkHid h6
  clear h6 hk6 hx6 hg6 hC6 H5
  have hC7 := cUint B (ra6 b).2.1 (ra6 b).2.2 y6 H6.out.x
  rw [show rdUint (ra6 b).2.1 (ra6 b).2.2 = ra7 b from rfl] at hC7
  go_wp2_with fail
  refine hC7.mono ?_
  rintro e y7 ⟨rfl, hx7, hg7⟩
  obtain ⟨h7, hk7⟩ := H6.out.call hx7 hg7
  have H7 := mkHid h7
  clear h7 hk7 hx7 hg7 hC7 H6
  have hC8 := cUint B (ra7 b).2.1 (ra7 b).2.2 y7 H7.out.x
  rw [show rdUint (ra7 b).2.1 (ra7 b).2.2 = ra8 b from rfl] at hC8
  go_wp2_with fail
  refine hC8.mono ?_
  rintro e y8 ⟨rfl, hx8, hg8⟩
  obtain ⟨h8, hk8⟩ := H7.out.call hx8 hg8
  have H8 := mkHid h8
  clear h8 hk8 hx8 hg8 hC8 H7
  go_wp2_with fail
  refine (codTold14 (ra8 b).1 y8).mono ?_
  rintro e z8 ⟨rfl, hz8⟩
  have hz8 := hz8.symm
  subst hz8
  have hC9 := cBytes B (ra8 b).2.1 (ra8 b).2.2 y8 H8.out.x
  rw [show rdSome 98 (ra8 b).2.1 (ra8 b).2.2 = ra9 b from rfl] at hC9
  go_wp2_with fail
  refine hC9.mono ?_
  rintro e y9 ⟨v9, rfl, ho9, hx9, hg9⟩
  obtain ⟨h9, hk9⟩ := H8.out.call hx9 hg9
  have H9 := mkHid h9
  have HO9 := mkHid (ho9.base H8.out.bel.size)
  clear ho9
  clear h9 hk9 hx9 hg9 hC9 H8
  have hC10 := cBytes B (ra9 b).2.1 (ra9 b).2.2 y9 H9.out.x
  rw [show rdSome 98 (ra9 b).2.1 (ra9 b).2.2 = ra10 b from rfl] at hC10
  go_wp2_with fail
  refine hC10.mono ?_
  rintro e y10 ⟨v10, rfl, ho10, hx10, hg10⟩
  obtain ⟨h10, hk10⟩ := H9.out.call hx10 hg10
  have H10 := mkHid h10
  have HO10 := mkHid (ho10.base H9.out.bel.size)
  have HP9 : Hid (OwnB y10 w.heap.size v9 (ra9 b).1) := own_keep hk10 HO9.out (by decide)
  clear ho10
  clear h10 hk10 hx10 hg10 hC10 H9
  obtain ⟨sa, sc, hse, _⟩ := HP9.out.isB
  obtain ⟨pa, pc, hpe, _⟩ := HO10.out.isB
  subst hse hpe
  have HRc2 := mkHid (HRc.out ⟨sa, sc, pa, pc⟩)
  have HRt2 := fun W => HRt ⟨sa, sc, pa, pc⟩ W
  rw [HRc2.out] at HRt2
  have HIs : Hid (∀ W, KeepT [26] y10 W → IsRec W RR ⟨sa, sc, pa, pc⟩) := fun W hW => by
    refine ⟨?_, ?_, HRN.out⟩
    · rw [HSp.out.1]; exact IsV.toB (own_keepR14 HP9.out hW).isV
    · rw [HSp.out.2]; exact IsV.toB (own_keepR14 HO10.out hW).isV
  have HYe2 := mkHid (fun W => HYe.out W ⟨sa, sc, pa, pc⟩)
  rw [HRc2.out] at HYe2
  clear HRc HRc2 HRt HYe HSp HO9 HP9 HO10 HRN
  generalize (ra9 b).1.length = sl at *
  generalize (ra10 b).1.length = pl at *
  generalize (ra1 b).1 = s1 at *
  generalize (ra2 b).1 = s2 at *
  generalize (⟨(ra3 b).1.toArray⟩ : ByteArray) = s3 at *
  generalize toldN (ra4 b).1 = s4 at *
  generalize (⟨(ra5 b).1.toArray⟩ : ByteArray) = s5 at *
  generalize (⟨(ra6 b).1.toArray⟩ : ByteArray) = s6 at *
  generalize (ra7 b).1 = s7 at *
  generalize toldN (ra8 b).1 = s8 at *
  have hDn := fun W (hW : Below y10.heap.size y10 W) => cDone B (ra10 b).2.1 (ra10 b).2.2 W (H10.out.x.on hW)
  generalize doneN (ra10 b).2.1 (ra10 b).2.2 = DN at *
  have hbA : Below y10.heap.size y10 (y10.alloc (.cells #[.int .u64 (s1 : Int), .int .u64 (s2 : Int), .string s3, .int .i64 s4, .string s5, .string s6, .int .u64 (s7 : Int), .int .i64 s8, .slice sa sl sc, .slice pa pl pc] 26)) := (Below.refl _ y10).alloc (Nat.le_refl _) _
  have HKA := mkHid (Blk.new y10 26 [.int .u64 (s1 : Int), .int .u64 (s2 : Int), .string s3, .int .i64 s4, .string s5, .string s6, .int .u64 (s7 : Int), .int .i64 s8, .slice sa sl sc, .slice pa pl pc])
  have HRA := mkHid (H10.out.res.on hbA)
  have HBA := mkHid (H10.out.bel.trans (hbA.mono H10.out.bel.size))
  have HTA : Hid (KeepT [26] y10 (y10.alloc (.cells #[.int .u64 (s1 : Int), .int .u64 (s2 : Int), .string s3, .int .i64 s4, .string s5, .string s6, .int .u64 (s7 : Int), .int .i64 s8, .slice sa sl sc, .slice pa pl pc] 26))) := KeepT.of_below hbA
  have HDA := hDn _ hbA
  have hlo := H10.out.lo
  have hlt : w.heap.size < y10.heap.size := by have := H10.out.x.lt; omega
  clear hDn hbA H10
  go_wp2_with fail
  generalize y10.alloc (.cells #[.int .u64 (s1 : Int), .int .u64 (s2 : Int), .string s3, .int .i64 s4, .string s5, .string s6, .int .u64 (s7 : Int), .int .i64 s8, .slice sa sl sc, .slice pa pl pc] 26) = Z at *
  generalize y10.heap.size = R at *
  refine HDA.mono ?_
  rintro e z1 ⟨rfl, hz1⟩
  subst hz1
  clear HDA
  by_cases hdn : DN = 0
  · subst hdn
    cases hrt : rightRc RR with
    | true =>
      have HOk := mkHid (HQ.out.trans (if_pos ⟨rfl, hrt⟩))
      rw [hrt] at HRt2
      clear hrt HQ HNo
      have c0 : z1.cell? ⟨R, 0, none⟩ = some (.int .u64 (s1 : Int)) := HKA.out.cell 0
      have c1 : z1.cell? ⟨R, 1, none⟩ = some (.int .u64 (s2 : Int)) := HKA.out.cell 1
      have c2 : z1.cell? ⟨R, 2, none⟩ = some (.string s3) := HKA.out.cell 2
      have c3 : z1.cell? ⟨R, 3, none⟩ = some (.int .i64 s4) := HKA.out.cell 3
      have c4 : z1.cell? ⟨R, 4, none⟩ = some (.string s5) := HKA.out.cell 4
      have c5 : z1.cell? ⟨R, 5, none⟩ = some (.string s6) := HKA.out.cell 5
      have c6 : z1.cell? ⟨R, 6, none⟩ = some (.int .u64 (s7 : Int)) := HKA.out.cell 6
      have c7 : z1.cell? ⟨R, 7, none⟩ = some (.int .i64 s8) := HKA.out.cell 7
      have c8 : z1.cell? ⟨R, 8, none⟩ = some (.slice sa sl sc) := HKA.out.cell 8
      have c9 : z1.cell? ⟨R, 9, none⟩ = some (.slice pa pl pc) := HKA.out.cell 9
      go_wp2_with fail
      refine (HRt2 z1).mono ?_
      rintro e z2 ⟨rfl, hb2⟩
      have HK2 := mkHid (HKA.out.on hb2)
      have HR2 := mkHid (HRA.out.on hb2)
      have HB2 := mkHid (HBA.out.trans (hb2.mono HBA.out.size))
      have HT2 := mkHid (HTA.out.trans (KeepT.of_below hb2))
      clear hb2 HKA HRA HBA HTA HRt2 c0 c1 c2 c3 c4 c5 c6 c7 c8 c9
      go_wp2_with (first | (refine wpList_load_row rfl 26 _ rfl _ rfl _ _ _ _ HK2.out Try.underlying26 rfl (by kernel_rfl) ?_) | (refine wpList_store_row rfl 26 _ _ rfl w.heap.size #[.int .u64 (s1 : Int), .int .u64 (s2 : Int), .string s3, .int .i64 s4, .string s5, .string s6, .int .u64 (s7 : Int), .int .i64 s8, .slice sa sl sc, .slice pa pl pc] rfl rfl _ _ HR2.out (by kernel_rfl) rfl (one14 _ _ _ _ _ _ _ _ _ _ _ _ _ _) ?_))
      have hbr := bel_row HB2.out (Nat.le_refl _) #[.int .u64 (s1 : Int), .int .u64 (s2 : Int), .string s3, .int .i64 s4, .string s5, .string s6, .int .u64 (s7 : Int), .int .i64 s8, .slice sa sl sc, .slice pa pl pc]
      refine bodyPost_ret (results_cellrow_tmp (P := Try.prog) rfl _ _ w.heap.size 26 #[.int .u64 (s1 : Int), .int .u64 (s2 : Int), .string s3, .int .i64 s4, .string s5, .string s6, .int .u64 (s7 : Int), .int .i64 s8, .slice sa sl sc, .slice pa pl pc] (0, 0) _ rfl (HR2.out.row [_, _, _, _, _, _, _, _, _, _]) Try.underlying26 rfl (by kernel_rfl)) rfl ⟨?_, hbr⟩
      exact HYe2.out _ HOk.out (HIs.out _ (HT2.out.row14 HR2.out (by decide) _))
    | false =>
      have HNn := mkHid (HQ.out.trans (if_neg (fun h => by rw [hrt] at h; cases h.2)))
      rw [hrt] at HRt2
      clear hrt HQ HYe2
      have c0 : z1.cell? ⟨R, 0, none⟩ = some (.int .u64 (s1 : Int)) := HKA.out.cell 0
      have c1 : z1.cell? ⟨R, 1, none⟩ = some (.int .u64 (s2 : Int)) := HKA.out.cell 1
      have c2 : z1.cell? ⟨R, 2, none⟩ = some (.string s3) := HKA.out.cell 2
      have c3 : z1.cell? ⟨R, 3, none⟩ = some (.int .i64 s4) := HKA.out.cell 3
      have c4 : z1.cell? ⟨R, 4, none⟩ = some (.string s5) := HKA.out.cell 4
      have c5 : z1.cell? ⟨R, 5, none⟩ = some (.string s6) := HKA.out.cell 5
      have c6 : z1.cell? ⟨R, 6, none⟩ = some (.int .u64 (s7 : Int)) := HKA.out.cell 6
      have c7 : z1.cell? ⟨R, 7, none⟩ = some (.int .i64 s8) := HKA.out.cell 7
      have c8 : z1.cell? ⟨R, 8, none⟩ = some (.slice sa sl sc) := HKA.out.cell 8
      have c9 : z1.cell? ⟨R, 9, none⟩ = some (.slice pa pl pc) := HKA.out.cell 9
      go_wp2_with fail
      refine (HRt2 z1).mono ?_
      rintro e z2 ⟨rfl, hb2⟩
      have HR2 := mkHid (HRA.out.on hb2)
      have HB2 := mkHid (HBA.out.trans (hb2.mono HBA.out.size))
      clear hb2 HKA HRA HBA HTA HRt2 c0 c1 c2 c3 c4 c5 c6 c7 c8 c9
      go_wp2_with (first | (refine wpList_store_row rfl 26 _ _ rfl w.heap.size #[.int .u64 0, .int .u64 0, .string { data := #[] }, .int .i64 0, .string { data := #[] }, .string { data := #[] }, .int .u64 0, .int .i64 0, .slice none 0 0, .slice none 0 0] rfl rfl _ _ HR2.out (by kernel_rfl) rfl (one14 _ _ _ _ _ _ _ _ _ _ _ _ _ _) ?_))
      have hbr := bel_row HB2.out (Nat.le_refl _) #[.int .u64 0, .int .u64 0, .string { data := #[] }, .int .i64 0, .string { data := #[] }, .string { data := #[] }, .int .u64 0, .int .i64 0, .slice none 0 0, .slice none 0 0]
      refine bodyPost_ret (results_cellrow_tmp (P := Try.prog) rfl _ _ w.heap.size 26 #[.int .u64 0, .int .u64 0, .string { data := #[] }, .int .i64 0, .string { data := #[] }, .string { data := #[] }, .int .u64 0, .int .i64 0, .slice none 0 0, .slice none 0 0] (0, 0) _ rfl (HR2.out.row [_, _, _, _, _, _, _, _, _, _]) Try.underlying26 rfl (by kernel_rfl)) rfl ⟨?_, hbr⟩
      exact HNo.out _ HNn.out
  · have HNn := mkHid (HQ.out.trans (if_neg (fun h => hdn h.1)))
    clear HQ HYe2 HKA HTA HRt2
    go_wp2_with (first | (refine wpList_store_row rfl 26 _ _ rfl w.heap.size #[.int .u64 0, .int .u64 0, .string { data := #[] }, .int .i64 0, .string { data := #[] }, .string { data := #[] }, .int .u64 0, .int .i64 0, .slice none 0 0, .slice none 0 0] rfl rfl _ _ HRA.out (by kernel_rfl) rfl (one14 _ _ _ _ _ _ _ _ _ _ _ _ _ _) ?_))
    have hbr := bel_row HBA.out (Nat.le_refl _) #[.int .u64 0, .int .u64 0, .string { data := #[] }, .int .i64 0, .string { data := #[] }, .string { data := #[] }, .int .u64 0, .int .i64 0, .slice none 0 0, .slice none 0 0]
    refine bodyPost_ret (results_cellrow_tmp (P := Try.prog) rfl _ _ w.heap.size 26 #[.int .u64 0, .int .u64 0, .string { data := #[] }, .int .i64 0, .string { data := #[] }, .string { data := #[] }, .int .u64 0, .int .i64 0, .slice none 0 0, .slice none 0 0] (0, 0) _ rfl (HRA.out.row [_, _, _, _, _, _, _, _, _, _]) Try.underlying26 rfl (by kernel_rfl)) rfl ⟨?_, hbr⟩
    exact HNo.out _ HNn.out
end Go.Proofs.Ytooffagdbppmaaa
namespace Go.Proofs.Ytooffagdbppmaaa
open Go.RowKit
attribute [local go_sem ↓] Go.wp_at_zero Go.wp_at_succ

/-- its cells -/
def xcell (a : Option Addr) (len cap k : Nat) (bad : Bool) : List Value := [.slice a len cap, .int .i64 (k : Int), .bool bad]

/-- the document's reader of the bytes l, at place k -/
def IsX (w : World) (X : Nat) (a : Option Addr) (len cap : Nat) (l : List UInt8) (k : Nat) (bad : Bool) : Prop :=
  Blk w X 60 (xcell a len cap k bad) ∧ IsB w a len cap l ∧ (0 < len → ∀ x, a = some x → x.block ≠ X) ∧ k ≤ len


/-- the reader turned: its place, its truth -/
theorem IsX.at {w : World} {X : Nat} {a : Option Addr} {len cap : Nat} {l : List UInt8} {k : Nat} {bad : Bool} (h : IsX w X a len cap l k bad) (k' : Nat) (hk : k' ≤ len) : IsX (w.setCell ⟨X, 1, none⟩ (.int .i64 (k' : Int))) X a len cap l k' bad :=
  ⟨h.1.set 1 _, h.2.1.setOther X 1 _ h.2.2.1, h.2.2.1, hk⟩
theorem IsX.bad {w : World} {X : Nat} {a : Option Addr} {len cap : Nat} {l : List UInt8} {k : Nat} {bad : Bool} (h : IsX w X a len cap l k bad) : IsX (w.setCell ⟨X, 2, none⟩ (.bool true)) X a len cap l k true :=
  ⟨h.1.set 2 _, h.2.1.setOther X 2 _ h.2.2.1, h.2.2.1, h.2.2.2⟩
theorem IsX.drewN {w : World} {X : Nat} {a : Option Addr} {len cap : Nat} {l : List UInt8} {k : Nat} {bad : Bool} (h : IsX w X a len cap l k bad) (n : Nat) : IsX (w.drewN n) X a len cap l k bad :=
  ⟨h.1.drewN n, h.2.1.drewN n, h.2.2.1, h.2.2.2⟩
theorem gr_drewN (w : World) (n : Nat) (o : Option Nat) : w.grownBy (w.drewN n) o := ⟨rfl, rfl, rfl, Nat.le_refl _, fun _ _ _ => rfl⟩

theorem okX_not {l : List UInt8} {k : Nat} {bad : Bool} {mark : UInt8} {size len : Nat} (hlen : l.length = len) (h : okH (l.drop k) bad mark size = false) : bad = true ∨ (bad = false ∧ len - k < size + 1) ∨ (bad = false ∧ size + 1 ≤ len - k ∧ nth l k ≠ mark) := by
  cases bad
  · refine .inr ?_
    by_cases h1 : len - k < size + 1
    · exact .inl ⟨rfl, h1⟩
    · refine .inr ⟨rfl, by omega, fun e => ?_⟩
      unfold okH at h
      rw [nth_drop, Nat.add_zero, e] at h
      simp [hlen] at h
      omega
  · exact .inl rfl

set_option maxRecDepth 20000 in
set_option maxHeartbeats 1000000 in
theorem xnumNo (X : Nat) (a : Option Addr) (len cap : Nat) (l : List UInt8) (k : Nat) (bad : Bool) (mark : UInt8) (size : Nat) (w : World) (h : IsX w X a len cap l k bad) (hs : size ≤ 8) (hno : okH (l.drop k) bad mark size = false) :
    Calls Try.prog 64 #[.pointer (some ⟨X, 0, none⟩), .int .u8 (mark.toNat : Int), .int .i64 (size : Int)] w fun e w' => e = .returned (.tuple #[.int .u64 0, .bool false]) ∧ IsX w' X a len cap l k true ∧ w.grownBy w' (some X) := by
  have H : Hid (IsX w X a len cap l k bad) := h
  obtain ⟨hb, hi, hne, hk⟩ := h
  have c0 := hb.cell 0
  have c1 := hb.cell 1
  have c2 := hb.cell 2
  have f2 := hb.frozen 2
  have hmx := hi.max
  have hle := hi.le
  unfold maxLen at hmx
  have HI : Hid (IsB w a len cap l) := hi
  simp only [xcell, List.getElem?_cons_zero, List.getElem?_cons_succ] at c0 c1 c2
  have hcase := okX_not hi.len_eq hno
  clear hb hi hne hno
  rcases hcase with rfl | ⟨rfl, h1⟩ | ⟨rfl, h1, h2⟩
  · go_enter Try.func64, Try.ntmps64
    go_wp2
    go_quiet (fail)
    go_wp2
    go_ret2
    exact ⟨rfl, (H.out.drewN _).bad, gr_trans (gr_drewN w _ _) (gr_set _ _ _ _)⟩
  · have h1' : (len : Int) - (k : Int) < (size : Int) + 1 := by omega
    go_enter Try.func64, Try.ntmps64
    go_wp2
    go_quiet (fail)
    go_wp2
    go_ret2
    exact ⟨rfl, (H.out.drewN _).bad, gr_trans (gr_drewN w _ _) (gr_set _ _ _ _)⟩
  · have h1' : decide ((len : Int) - (k : Int) < (size : Int) + 1) = false := decide_eq_false (by omega)
    have hq : (((nth l k).toNat : Int) != (mark.toNat : Int)) = true := by
      rw [bne_iff_ne]; intro h; exact h2 ((toNat8_inj _ _).1 h)
    obtain ⟨b, off, rfl, hc⟩ := HI.out.cells (by omega)
    have g := hc k (by omega)
    have hlt : (k : Int) < (len : Int) := by omega
    clear hc h2
    go_enter Try.func64, Try.ntmps64
    go_wp2
    go_quiet (fail)
    go_wp2
    go_ret2
    exact ⟨rfl, (H.out.drewN _).bad, gr_trans (gr_drewN w _ _) (gr_set _ _ _ _)⟩

theorem okX_of {l : List UInt8} {k : Nat} {bad : Bool} {mark : UInt8} {size len : Nat} (hlen : l.length = len) (h : okH (l.drop k) bad mark size = true) : bad = false ∧ 1 + size + k ≤ len ∧ nth l k = mark := by
  obtain ⟨h1, h2, h3⟩ := okH_of h
  rw [List.length_drop, hlen] at h2
  rw [nth_drop, Nat.add_zero] at h3
  exact ⟨h1, by omega, h3⟩

set_option maxRecDepth 20000 in
set_option maxHeartbeats 2000000 in
theorem xnumOk (X : Nat) (a : Option Addr) (len cap : Nat) (l : List UInt8) (k : Nat) (bad : Bool) (mark : UInt8) (size : Nat) (w : World) (h : IsX w X a len cap l k bad) (hs : size ≤ 8) (hok : okH (l.drop k) bad mark size = true) :
    Calls Try.prog 64 #[.pointer (some ⟨X, 0, none⟩), .int .u8 (mark.toNat : Int), .int .i64 (size : Int)] w fun e w' => e = .returned (.tuple #[.int .u64 (numTo (l.drop k) size : Int), .bool true]) ∧ ∃ n, w' = w.drewN n := by
  obtain ⟨hb, hi, hne, hk⟩ := h
  have c0 := hb.cell 0
  have c1 := hb.cell 1
  have c2 := hb.cell 2
  have hmx := hi.max
  have hle := hi.le
  unfold maxLen at hmx
  have HI : Hid (IsB w a len cap l) := hi
  simp only [xcell, List.getElem?_cons_zero, List.getElem?_cons_succ] at c0 c1 c2
  obtain ⟨rfl, h1, h2⟩ := okX_of hi.len_eq hok
  clear hb hi hne hok
  have h1' : decide ((len : Int) - (k : Int) < (size : Int) + 1) = false := decide_eq_false (by omega)
  have hq : (((nth l k).toNat : Int) != (mark.toNat : Int)) = false := by rw [h2]; simp
  obtain ⟨b, off, rfl, hc⟩ := HI.out.cells (by omega)
  have g := hc k (by omega)
  have HC : Hid (∀ i, i < len → w.cell? ⟨b, off + i, none⟩ = some (.int .u8 ((nth l i).toNat : Int))) := hc
  have hlt : (k : Int) < (len : Int) := by omega
  clear hc h2
  go_enter Try.func64, Try.ntmps64
  go_wp2
  go_quiet (fail)
  go_wp2
  clear g
  go_loopw [8, 9] (fun v i wr => ∃ j t n : Nat, j ≤ size ∧ Hid (t = 1 + j) ∧ v = .int .u64 (numTo (l.drop k) j : Int) ∧ i = .int .i64 (t : Int) ∧ wr = w.drewN n) (fun _ i _ => size + 1 - (intOf i).toNat)
  case atStart => exact ⟨0, 1, _, by omega, rfl, rfl, rfl, rfl⟩
  case round =>
    obtain ⟨j, t, n, hj, ht, rfl, rfl, hww⟩ := hrel
    have ht1 := ht.out
    rw [hww]; clear hww wr
    by_cases hjl : j < size
    · have hlt2 : (t : Int) ≤ (size : Int) := by omega
      have g := HC.out (k + t) (by omega)
      have hx := (nth l (k + t)).toNat_lt
      have h7 := numTo_lt7 (l.drop k) j (by omega)
      have HV : Hid (numTo (l.drop k) (j + 1) = numTo (l.drop k) j * 256 + (nth l (k + t)).toNat) := by
        unfold Hid; rw [numTo, nth_drop, ht1]
      have hm7 : numTo (l.drop k) j * 256 + (nth l (k + t)).toNat < 18446744073709551616 := by
        rw [← HV.out]; exact numTo_lt64 _ _ (by omega)
      have hb1 : (k : Int) + (t : Int) < (len : Int) := by omega
      have hidx : ((k : Int) + (t : Int)).toNat = k + t := by omega
      have ht8 : t ≤ 8 := by omega
      clear ht1
      generalize numTo (l.drop k) j = N at *
      generalize (nth l (k + t)).toNat = Y at *
      go_wp2
      go_quiet (fail)
      go_wp2
      go_roundw
      case rel => exact ⟨j + 1, t + 1, _, by omega, by have := ht.out; unfold Hid; omega, by rw [HV.out]; go_num, by go_num, rfl⟩
      case measure => have := ht.out; simp [intOf]; omega
    · have e : j = size := by omega
      have hlt2 : ¬ ((t : Int) ≤ (size : Int)) := by omega
      have HE : Hid (j = size) := e
      clear e ht1
      go_wp2
      go_ret2
      rw [HE.out]
      exact ⟨rfl, _, rfl⟩
end Go.Proofs.Ytooffagdbppmaaa
namespace Go.Proofs.Ytooffagdbppmaaa
open Go.RowKit
attribute [local go_sem ↓] Go.wp_at_zero Go.wp_at_succ

theorem rdUint_ok {l : List UInt8} {br : Bool} (h : okH l br 117 8 = true) : rdUint l br = (numTo l 8, l.drop 9, false) := by unfold rdUint; rw [h]; rfl
theorem rdUint_no {l : List UInt8} {br : Bool} (h : okH l br 117 8 = false) : rdUint l br = (0, l, true) := by unfold rdUint; rw [h]; rfl

set_option maxRecDepth 20000 in
set_option maxHeartbeats 1000000 in
theorem xUint (X : Nat) (a : Option Addr) (len cap : Nat) (l : List UInt8) (k : Nat) (bad : Bool) (w : World) (h : IsX w X a len cap l k bad) :
    Calls Try.prog 44 #[.pointer (some ⟨X, 0, none⟩)] w fun e w' => e = .returned (.int .u64 ((rdUint (l.drop k) bad).1 : Int)) ∧ (∃ k', IsX w' X a len cap l k' (rdUint (l.drop k) bad).2.2 ∧ (rdUint (l.drop k) bad).2.1 = l.drop k') ∧ w.grownBy w' (some X) := by
  have H : Hid (IsX w X a len cap l k bad) := h
  clear h
  cases hok : okH (l.drop k) bad 117 8
  · have HO : Hid (okH (l.drop k) bad 117 8 = false) := hok
    rw [rdUint_no hok]
    clear hok
    go_enter Try.func44, Try.ntmps44
    go_wp2_with fail
    refine (xnumNo X a len cap l k bad 117 8 w H.out (by omega) HO.out).mono ?_
    rintro e w1 ⟨rfl, hr, hg⟩
    go_wp2_with fail
    go_ret
    exact ⟨rfl, ⟨k, hr, rfl⟩, hg⟩
  · have HO : Hid (okH (l.drop k) bad 117 8 = true) := hok
    rw [rdUint_ok hok]
    obtain ⟨hb, h1, _⟩ := okX_of H.out.2.1.len_eq hok
    clear hok
    have hmx := H.out.2.1.max
    have hle := H.out.2.1.le
    unfold maxLen at hmx
    obtain ⟨m, hm⟩ : ∃ m, numTo (l.drop k) 8 = m := ⟨_, rfl⟩
    have Hm : Hid (numTo (l.drop k) 8 = m) := hm
    rw [hm]; clear hm
    go_enter Try.func44, Try.ntmps44
    go_wp2_with fail
    refine (xnumOk X a len cap l k bad 117 8 w H.out (by omega) HO.out).mono ?_
    rintro e w1 ⟨rfl, n1, hw⟩
    rw [Hm.out]
    have H1 : Hid (IsX w1 X a len cap l k bad) := by rw [hw]; exact H.out.drewN n1
    have G1 : w.grownBy w1 (some X) := by rw [hw]; exact gr_drewN w n1 _
    clear hw
    have c1 := H1.out.1.cell 1
    have f1 := H1.out.1.frozen 1
    simp only [xcell, List.getElem?_cons_zero, List.getElem?_cons_succ] at c1
    have HX : Hid (IsX (w1.setCell ⟨X, 1, none⟩ (.int .i64 ((k : Int) + 9))) X a len cap l (k + 9) bad) := by
      have := H1.out.at (k + 9) (by omega)
      rw [show ((k + 9 : Nat) : Int) = (k : Int) + 9 by omega] at this
      exact this
    go_wp2_with fail
    go_ret
    exact ⟨rfl, ⟨k + 9, by rw [← hb]; exact HX.out, by rw [List.drop_drop]⟩, gr_trans G1 (gr_set _ _ _ _)⟩

theorem rdList_ok {l : List UInt8} {br : Bool} {most : Int} (h : okH l br 108 4 = true) (hm : (numTo l 4 : Int) ≤ most) : rdList l br most = (numTo l 4, l.drop 5, false) := by unfold rdList okL; rw [h]; simp [hm]
theorem rdList_no {l : List UInt8} {br : Bool} {most : Int} (h : okH l br 108 4 = false) : rdList l br most = (0, l, true) := by unfold rdList okL; rw [h]; rfl
theorem rdList_big {l : List UInt8} {br : Bool} {most : Int} (hm : ¬ (numTo l 4 : Int) ≤ most) : rdList l br most = (0, l, true) := by unfold rdList okL; simp [hm]

end Go.Proofs.Ytooffagdbppmaaa
namespace Go.Proofs.Ytooffagdbppmaaa
open Go.RowKit
attribute [local go_sem ↓] Go.wp_at_zero Go.wp_at_succ

set_option maxRecDepth 20000 in
/-- append(out, b...), of a slice that isn't nil, in a region that draws -/
theorem step_appS {ops : Array Oper} {o : Oper} {a : Act} {K : Act → World → Prop} {Q : Exit → Act → World → Prop} {E : Prop} (w : World) (hgd : o.guard = none) (s x : Operand)
    (ho : o.op = .call { callee := .builtin .append, args := #[s, x], argTypes := #[24, 24] }) (base : Nat)
    (v : Value) (l : List UInt8) (hs : a.eval s = v) (hown : OwnB w base v l) (ad : Addr) (m c : Nat) (news : List UInt8) (hx : a.eval x = .slice (some ad) m c) (hB : IsB w (some ad) m c news)
    (hbytes : l.length + m ≤ 140737488355328) (hbase : base ≤ w.heap.size)
    (h : ∀ v' w', OwnB w' base v' (l ++ news) → w.grownBy w' v.ownBlock → K (a.put o.dst v') w') :
    if Region.wanted o (yielded ops a.tmps) = true then Oper.wp Try.prog o a w K Q else E := by
  obtain ⟨i0, hi, hz0, hz1, hz2⟩ := info_parts info8
  have hw : Region.wanted o (yielded ops a.tmps) = true := by simp [Region.wanted, hgd]
  rw [if_pos hw]
  have hnews : ∀ j u, (bv news)[j]? = some u → w.cell? (ad.add j) = some u := by
    intro j u hj
    have hjl : j < news.length := by
      rcases Nat.lt_or_ge j news.length with h | h
      · exact h
      · rw [List.getElem?_eq_none (by rw [bv_length]; exact h)] at hj; cases hj
    have hl := hB.len_eq
    obtain ⟨b, off, e, hc⟩ := hB.cells (by omega)
    injection e with e
    rw [bv_at news j hjl] at hj
    rw [e, Addr.add_lit, hc j (by omega)]; exact hj
  obtain ⟨v', w', hr, h2, h3, _⟩ := run_append_own (P := Try.prog) w base 24 o.type 5 i0 (.int .u8 0) 1 1 Try.underlying24 hi hz0 hz1 hz2 rfl (by omega) v l.length (bv l) hown ad m c (bv news) (by rw [bv_length, hB.len_eq]; omega) hnews (bv_one news) (by unfold maxLen; omega) (by omega) hbase
  unfold Oper.wp execOp
  simp only [ho, resolve, invoke, builtin, Sem.run_bind, Sem.run_pure, Result.andThen_ok, List.map_toArray, List.map_cons, List.map_nil, hs, hx, hr]
  exact h v' w' (by unfold OwnB; rw [bv_append, List.length_append, hB.len_eq]; exact h2) h3

set_option maxRecDepth 20000 in
set_option maxHeartbeats 1000000 in
theorem xsomeNo (X : Nat) (a : Option Addr) (len cap : Nat) (l : List UInt8) (k : Nat) (bad : Bool) (mark : UInt8) (w : World) (h : IsX w X a len cap l k bad) (hno : okB (l.drop k) bad mark = false) :
    Calls Try.prog 65 #[.pointer (some ⟨X, 0, none⟩), .int .u8 (mark.toNat : Int)] w fun e w' => e = .returned (.slice none 0 0) ∧ IsX w' X a len cap l k true ∧ w.grownBy w' (some X) := by
  have H : Hid (IsX w X a len cap l k bad) := h
  clear h
  have hmx := H.out.2.1.max
  have hle := H.out.2.1.le
  unfold maxLen at hmx
  cases hok : okH (l.drop k) bad mark 4
  · have HO : Hid (okH (l.drop k) bad mark 4 = false) := hok
    clear hok hno
    go_enter Try.func65, Try.ntmps65
    go_wp2_with fail
    refine (xnumNo X a len cap l k bad mark 4 w H.out (by omega) HO.out).mono ?_
    rintro e w1 ⟨rfl, hr, hg⟩
    have c2 := hr.1.cell 2
    have f2 := hr.1.frozen 2
    have HR : Hid (IsX w1 X a len cap l k true) := hr
    clear hr
    simp only [xcell, List.getElem?_cons_zero, List.getElem?_cons_succ] at c2
    go_wp2_with fail
    go_quiet (fail)
    go_wp2
    go_ret
    exact ⟨rfl, (HR.out.drewN _).bad, gr_trans hg (gr_trans (gr_drewN w1 _ _) (gr_set _ _ _ _))⟩
  · have HO : Hid (okH (l.drop k) bad mark 4 = true) := hok
    obtain ⟨hb, h1, _⟩ := okX_of H.out.2.1.len_eq hok
    have hlen : len < k + 5 + numTo (l.drop k) 4 := by
      have e := H.out.2.1.len_eq
      rcases Nat.lt_or_ge len (k + 5 + numTo (l.drop k) 4) with h2 | h2
      · exact h2
      · unfold okB at hno
        rw [hok, List.length_drop, e] at hno
        simp at hno
        omega
    have hnum := numTo_lt4 (l.drop k)
    obtain ⟨m, hm⟩ : ∃ m, numTo (l.drop k) 4 = m := ⟨_, rfl⟩
    have Hm : Hid (numTo (l.drop k) 4 = m) := hm
    rw [hm] at hnum hlen; clear hm
    clear hok hno
    go_enter Try.func65, Try.ntmps65
    go_wp2_with fail
    refine (xnumOk X a len cap l k bad mark 4 w H.out (by omega) HO.out).mono ?_
    rintro e w1 ⟨rfl, n1, hw⟩
    rw [Hm.out]
    have H1 : Hid (IsX w1 X a len cap l k bad) := by rw [hw]; exact H.out.drewN n1
    have G1 : w.grownBy w1 (some X) := by rw [hw]; exact gr_drewN w n1 _
    clear hw
    have c0 := H1.out.1.cell 0
    have c1 := H1.out.1.cell 1
    have c2 := H1.out.1.cell 2
    have f2 := H1.out.1.frozen 2
    simp only [xcell, List.getElem?_cons_zero, List.getElem?_cons_succ] at c0 c1 c2
    have hgt : (len : Int) - (k : Int) - 5 < (m : Int) := by omega
    have hnn : (0 : Int) ≤ (len : Int) - (k : Int) - 5 := by omega
    go_wp2_with fail
    go_quiet (fail)
    go_wp2
    go_ret
    exact ⟨rfl, (H1.out.drewN _).bad, gr_trans G1 (gr_trans (gr_drewN w1 _ _) (gr_set _ _ _ _))⟩
end Go.Proofs.Ytooffagdbppmaaa
namespace Go.Proofs.Ytooffagdbppmaaa
open Go.RowKit
attribute [local go_sem ↓] Go.wp_at_zero Go.wp_at_succ slLH

theorem rdX_ok {l : List UInt8} {k : Nat} {bad : Bool} {mark : UInt8} {len : Nat} (hlen : l.length = len) (h : okB (l.drop k) bad mark = true) : okH (l.drop k) bad mark 4 = true ∧ bad = false ∧ k + 5 + numTo (l.drop k) 4 ≤ len := by
  unfold okB at h
  rw [Bool.and_eq_true, decide_eq_true_eq] at h
  obtain ⟨h1, h2, _⟩ := okX_of hlen h.1
  have := h.2
  rw [List.length_drop, hlen] at this
  exact ⟨h.1, h1, by omega⟩

/-- a store into an old block leaves what the call owns -/
theorem OwnB.setOther {w : World} {base : Nat} {v : Value} {l : List UInt8} (h : OwnB w base v l) (a : Addr) (u : Value) (ha : a.block < base) : OwnB (w.setCell a u) base v l := by
  refine ⟨h.1, ?_⟩
  rcases h.2 with h2 | ⟨g, cap, cur, h3, h4, h5, h6⟩
  · exact .inl h2
  · exact .inr ⟨g, cap, cur, h3, h4, by rw [heap_setCell_other w a g u (by omega)]; exact h5, h6⟩

theorem wrapi64_5 (k p : Nat) (h : k + 5 = p) (hp : p ≤ 9223372036854775807) : IntKind.i64.wrap ((k : Int) + 5) = (p : Int) := by
  rw [wrapi64_in _ (by omega) (by omega)]; omega

set_option maxRecDepth 20000 in
set_option maxHeartbeats 1000000 in
theorem xsomeOk (X : Nat) (a : Option Addr) (len cap : Nat) (l : List UInt8) (k : Nat) (bad : Bool) (mark : UInt8) (w : World) (h : IsX w X a len cap l k bad) (hl : len ≤ 140737488351232) (hok : okB (l.drop k) bad mark = true) :
    Calls Try.prog 65 #[.pointer (some ⟨X, 0, none⟩), .int .u8 (mark.toNat : Int)] w fun e w' => ∃ v, e = .returned v ∧ OwnB w' w.heap.size v (((l.drop k).drop 5).take (numTo (l.drop k) 4)) ∧ IsX w' X a len cap l (k + 5 + numTo (l.drop k) 4) false ∧ w.grownBy w' (some X) := by
  have H : Hid (IsX w X a len cap l k bad) := h
  clear h
  have hmx := H.out.2.1.max
  have hle := H.out.2.1.le
  unfold maxLen at hmx
  obtain ⟨hoh, hb, hlen⟩ := rdX_ok H.out.2.1.len_eq hok
  have HO : Hid (okH (l.drop k) bad mark 4 = true) := hoh
  clear hok hoh
  subst hb
  obtain ⟨m, hm⟩ : ∃ m, numTo (l.drop k) 4 = m := ⟨_, rfl⟩
  have Hm : Hid (numTo (l.drop k) 4 = m) := hm
  rw [hm] at hlen ⊢; clear hm
  obtain ⟨b, off, rfl, right⟩ := H.out.2.1.cells (by omega)
  have hbX : b ≠ X := H.out.2.2.1 (by omega) _ rfl
  obtain ⟨p, hp⟩ : ∃ p, k + 5 = p := ⟨_, rfl⟩
  obtain ⟨q, hq⟩ : ∃ q, p + m = q := ⟨_, rfl⟩
  have hw1 := wrapi64_5 k p hp (by omega)
  have hw2 : IntKind.i64.wrap ((p : Int) + (m : Int)) = (q : Int) := by rw [wrapi64_in _ (by omega) (by omega)]; omega
  have hw3 : IntKind.i64.wrap (m : Int) = (m : Int) := wrapi64_in _ (by omega) (by omega)
  obtain ⟨o2, ho2⟩ := cutA_some b off cap p
  have hpq : p ≤ q := by omega
  have hqc : q ≤ cap := by omega
  have hqp : q - p = m := by omega
  have HS : Hid (∀ w1, IsX w1 X (some ⟨b, off, none⟩) len cap l k false → IsB w1 (some ⟨b, o2, none⟩) m (cap - p) (((l.drop k).drop 5).take m)) := by
    intro w1 h1
    have := (h1.2.1.cut p (by omega))
    rw [ho2] at this
    have := this.head m (by omega)
    rw [List.drop_drop, hp]; exact this
  have HP : Hid (k + 5 = p) := hp
  have HQ : Hid (p + m = q) := hq
  go_enter Try.func65, Try.ntmps65
  go_wp2_with fail
  refine (xnumOk X (some ⟨b, off, none⟩) len cap l k false mark 4 w H.out (by omega) HO.out).mono ?_
  rintro e w1 ⟨rfl, n1, hw⟩
  rw [Hm.out]
  have H1 : Hid (IsX w1 X (some ⟨b, off, none⟩) len cap l k false) := by rw [hw]; exact H.out.drewN n1
  have G1 : w.grownBy w1 (some X) := by rw [hw]; exact gr_drewN w n1 _
  clear hw
  have c0 := H1.out.1.cell 0
  have c1 := H1.out.1.cell 1
  simp only [xcell, List.getElem?_cons_zero, List.getElem?_cons_succ] at c0 c1
  have hgt : decide ((len : Int) - (k : Int) - 5 < (m : Int)) = false := decide_eq_false (by omega)
  have hnn : (0 : Int) ≤ (len : Int) - (k : Int) - 5 := by omega
  go_wp2_with fail
  go_quiet (fail)
  go_wp2
  have H2 : Hid (IsX (w1.drewN nq) X (some ⟨b, off, none⟩) len cap l k false) := H1.out.drewN nq
  have G2 : w.grownBy (w1.drewN nq) (some X) := gr_trans G1 (gr_drewN w1 nq _)
  generalize w1.drewN nq = w2 at *
  clear c0 c1 G1 H1 hgt hnn
  have c0 := H2.out.1.cell 0
  have c1 := H2.out.1.cell 1
  simp only [xcell, List.getElem?_cons_zero, List.getElem?_cons_succ] at c0 c1
  have hXlt : X < w2.heap.size := H2.out.1.lt
  have hB2 := HS.out w2 H2.out
  have HB2 : Hid (IsB w2 (some ⟨b, o2, none⟩) m (cap - p) (((l.drop k).drop 5).take m)) := hB2
  clear hB2 hp hq right
  have bel0 : Below w2.heap.size w2 (w2.alloc (.cells #[] 5)).drew := ((Below.refl _ _).alloc (Nat.le_refl _) _).drew
  have K0 : Hid ((w2.alloc (.cells #[] 5)).drew.cell? ⟨X, 0, none⟩ = some (.slice (some ⟨b, off, none⟩) len cap)) := (bel0.cell (p := ⟨X, 0, none⟩) hXlt).trans c0
  have K1 : Hid ((w2.alloc (.cells #[] 5)).drew.cell? ⟨X, 1, none⟩ = some (.int .i64 (k : Int))) := (bel0.cell (p := ⟨X, 1, none⟩) hXlt).trans c1
  have hXne : X ≠ w2.heap.size := by omega
  go_region_held3 (fun w' => w'.cell? ⟨X, 0, none⟩ = some (.slice (some ⟨b, off, none⟩) len cap) ∧ w'.cell? ⟨X, 1, none⟩ = some (.int .i64 (k : Int)))
    (first | go_keep | (exact ⟨(hgrow3.cell_far ⟨X, 0, none⟩ (by simp; omega) (by simpa [Value.ownBlock] using hXne)).trans K0.out, (hgrow3.cell_far ⟨X, 1, none⟩ (by simp; omega) (by simpa [Value.ownBlock] using hXne)).trans K1.out⟩))
    ((refine step_appS _ (by rfl) _ _ (by rfl) w2.heap.size _ [] (by rfl) ((OwnB.empty w2 w2.heap.size (Nat.le_refl _)).heap rfl) ⟨b, o2, none⟩ m (cap - p) (((l.drop k).drop 5).take m) (by rfl) (HB2.out.below bel0 rfl) (by simp; omega) (by simp) ?_; intro v3 w3 hown3 hgrow3))
  all_goals
    have bel3 : Below w2.heap.size w2 w3 := bel0.grown hgrow3 (by simp) (fun j hj => by simp [Value.ownBlock] at hj; omega)
    have H3 : Hid (IsX w3 X (some ⟨b, off, none⟩) len cap l k false) := ⟨H2.out.1.on bel3, H2.out.2.1.below bel3 rfl, H2.out.2.2.1, H2.out.2.2.2⟩
    have c1' := H3.out.1.cell 1
    have f1' := H3.out.1.frozen 1
    simp only [xcell, List.getElem?_cons_zero, List.getElem?_cons_succ] at c1'
    have HX : Hid (IsX (w3.setCell ⟨X, 1, none⟩ (.int .i64 ((k : Int) + 5 + (m : Int)))) X (some ⟨b, off, none⟩) len cap l (k + 5 + m) false) := by
      have := H3.out.at (k + 5 + m) (by omega)
      rw [show ((k + 5 + m : Nat) : Int) = (k : Int) + 5 + (m : Int) by omega] at this
      exact this
    have HOwn : Hid (OwnB (w3.setCell ⟨X, 1, none⟩ (.int .i64 ((k : Int) + 5 + (m : Int)))) w2.heap.size v3 (((l.drop k).drop 5).take m)) := by
      have h0 : OwnB w3 w2.heap.size v3 (((l.drop k).drop 5).take m) := hown3
      exact h0.setOther ⟨X, 1, none⟩ _ hXlt
    have G3 : w.grownBy w3 (some X) := gr_trans G2 (gr_bel bel3 rfl _)
    clear c0 c1 hw1 hw2 hw3 hown3
    go_wp2
    go_ret
    exact ⟨_, rfl, HOwn.out.base G2.size, HX.out, gr_trans G3 (gr_set _ _ _ _)⟩
end Go.Proofs.Ytooffagdbppmaaa
namespace Go.Proofs.Ytooffagdbppmaaa
open Go.RowKit
attribute [local go_sem ↓] Go.wp_at_zero Go.wp_at_succ

theorem xsome (X : Nat) (a : Option Addr) (len cap : Nat) (l : List UInt8) (k : Nat) (bad : Bool) (mark : UInt8) (w : World) (h : IsX w X a len cap l k bad) (hl : len ≤ 140737488351232) :
    Calls Try.prog 65 #[.pointer (some ⟨X, 0, none⟩), .int .u8 (mark.toNat : Int)] w fun e w' => ∃ v, e = .returned v ∧ OwnB w' w.heap.size v (rdSome mark (l.drop k) bad).1 ∧ (∃ k', IsX w' X a len cap l k' (rdSome mark (l.drop k) bad).2.2 ∧ (rdSome mark (l.drop k) bad).2.1 = l.drop k') ∧ w.grownBy w' (some X) := by
  cases hok : okB (l.drop k) bad mark
  · rw [rdSome_no hok]
    refine (xsomeNo X a len cap l k bad mark w h hok).mono ?_
    rintro e w' ⟨h1, h2, h3⟩
    exact ⟨_, h1, OwnB.nil _ _, ⟨k, h2, rfl⟩, h3⟩
  · rw [rdSome_ok hok]
    refine (xsomeOk X a len cap l k bad mark w h hl hok).mono ?_
    rintro e w' ⟨v, h1, h2, h3, h4⟩
    exact ⟨v, h1, h2, ⟨_, h3, by show (l.drop k).drop (5 + numTo (l.drop k) 4) = _; rw [List.drop_drop, Nat.add_assoc]⟩, h4⟩

set_option maxHeartbeats 1000000 in
theorem xBytes (X : Nat) (a : Option Addr) (len cap : Nat) (l : List UInt8) (k : Nat) (bad : Bool) (w : World) (h : IsX w X a len cap l k bad) (hl : len ≤ 140737488351232) :
    Calls Try.prog 46 #[.pointer (some ⟨X, 0, none⟩)] w fun e w' => ∃ v, e = .returned v ∧ OwnB w' w.heap.size v (rdSome 98 (l.drop k) bad).1 ∧ (∃ k', IsX w' X a len cap l k' (rdSome 98 (l.drop k) bad).2.2 ∧ (rdSome 98 (l.drop k) bad).2.1 = l.drop k') ∧ w.grownBy w' (some X) := by
  have H : Hid (IsX w X a len cap l k bad) := h
  clear h
  go_enter Try.func46, Try.ntmps46
  go_wp2_with fail
  refine (xsome X a len cap l k bad 98 w H.out hl).mono ?_
  rintro e w1 ⟨v, rfl, h1, h2, h3⟩
  go_wp2_with fail
  go_ret
  exact ⟨_, rfl, h1, h2, h3⟩

set_option maxHeartbeats 1000000 in
theorem xText (X : Nat) (a : Option Addr) (len cap : Nat) (l : List UInt8) (k : Nat) (bad : Bool) (w : World) (h : IsX w X a len cap l k bad) (hl : len ≤ 140737488351232) :
    Calls Try.prog 45 #[.pointer (some ⟨X, 0, none⟩)] w fun e w' => e = .returned (.string ⟨(rdSome 115 (l.drop k) bad).1.toArray⟩) ∧ (∃ k', IsX w' X a len cap l k' (rdSome 115 (l.drop k) bad).2.2 ∧ (rdSome 115 (l.drop k) bad).2.1 = l.drop k') ∧ w.grownBy w' (some X) := by
  have H : Hid (IsX w X a len cap l k bad) := h
  clear h
  obtain ⟨t, ht⟩ : ∃ t, (rdSome 115 (l.drop k) bad).1 = t := ⟨_, rfl⟩
  have HT : Hid ((rdSome 115 (l.drop k) bad).1 = t) := ht
  rw [ht]; clear ht
  go_enter Try.func45, Try.ntmps45
  go_wp2_with fail
  refine (xsome X a len cap l k bad 115 w H.out hl).mono ?_
  rintro e w1 ⟨v, rfl, h1, h2, h3⟩
  rw [HT.out] at h1
  obtain ⟨x, c, rfl, hi⟩ := h1.isB
  have hcv := conv_isB w1 _ _ _ _ hi
  clear h1 hi
  obtain ⟨k2, hx2, hd2⟩ := h2
  have HX2 : Hid (IsX w1 X a len cap l k2 (rdSome 115 (l.drop k) bad).2.2) := hx2
  have HD2 : Hid ((rdSome 115 (l.drop k) bad).2.1 = l.drop k2) := hd2
  clear hx2 hd2
  go_wp2_with fail
  go_ret
  exact ⟨rfl, ⟨k2, HX2.out, HD2.out⟩, h3⟩
end Go.Proofs.Ytooffagdbppmaaa
