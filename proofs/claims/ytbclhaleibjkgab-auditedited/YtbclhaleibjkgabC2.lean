/- The audit log, plain: a record that is shown is read as it was, bytes that are one are what is shown of it; of two logs with one head; a log that is edited. · AuditChains: the walk. · How a law of records stands on its way: one record's block. · A log that grows by the document's Next, and is edited. -/
import Derived.Test.YtbclhaleibjkgabB38
import Derived.Test.YtbclhaleibjkgabB36
import Derived.Test.YtbclhaleibjkgabAu20
import Derived.Test.YtbclhaleibjkgabAu12
import Derived.Test.YtbclhaleibjkgabC1
import Derived.Test.YtbclhaleibjkgabB43
namespace Go.Proofs.Ytbclhaleibjkgab
open Go.RowKit

theorem show_eq14 (r : Rc) : showRc r = uB14 r.seq ++ (uB14 r.clk ++ (sB14 115 (sL r.who) ++ (uB14 (max r.kind 0).toNat ++ (sB14 115 (sL r.bkt) ++ (sB14 115 (sL r.key) ++ (uB14 r.ver ++ (uB14 (max r.err 0).toNat ++ (sB14 98 r.sum ++ (sB14 98 r.prev ++ []))))))))) := by
  unfold showRc
  simp only [uintL_eq14, bytesL_eq14, textL_eq14, List.nil_append, List.append_assoc, List.append_nil]
theorem uB_back (n : Nat) (r : List UInt8) (h : n < 18446744073709551616) : rdUint (uB14 n ++ r) false = (n, r, false) := rdUint_back n r h
theorem sB_back (m : UInt8) (b r : List UInt8) (h : b.length < 4294967296) : rdSome m (sB14 m b ++ r) false = (b, r, false) := rdSome_back m b r h
theorem str_sL (s : ByteArray) : (⟨(sL s).toArray⟩ : ByteArray) = s := by unfold sL; rw [Array.toArray_toList]
/-- as it is read: what is too great is told as less -/
def toldRc (r : Rc) : Rc := { r with kind := toldN (max r.kind 0).toNat, err := toldN (max r.err 0).toNat }
theorem rec_show14 (r : Rc) (hn : RcN r) (hl : rcLen r ≤ 20000) : recR (showRc r) = toldRc r ∧ doneN (ra10 (showRc r)).2.1 (ra10 (showRc r)).2.2 = 0 := by
  have hk : (max r.kind 0).toNat < 18446744073709551616 := by have := hn.kind1; omega
  have he : (max r.err 0).toNat < 18446744073709551616 := by have := hn.err1; omega
  unfold rcLen at hl
  have l1 : (sL r.who).length < 4294967296 := by rw [sL_length]; omega
  have l2 : (sL r.bkt).length < 4294967296 := by rw [sL_length]; omega
  have l3 : (sL r.key).length < 4294967296 := by rw [sL_length]; omega
  have l4 : r.sum.length < 4294967296 := by omega
  have l5 : r.prev.length < 4294967296 := by omega
  have e1 := uB_back r.seq (uB14 r.clk ++ (sB14 115 (sL r.who) ++ (uB14 (max r.kind 0).toNat ++ (sB14 115 (sL r.bkt) ++ (sB14 115 (sL r.key) ++ (uB14 r.ver ++ (uB14 (max r.err 0).toNat ++ (sB14 98 r.sum ++ (sB14 98 r.prev ++ []))))))))) hn.seq
  rw [← show_eq14] at e1
  change ra1 (showRc r) = _ at e1
  have f2 : ra2 (showRc r) = rdUint (ra1 (showRc r)).2.1 (ra1 (showRc r)).2.2 := rfl
  rw [e1] at f2
  simp only [] at f2
  rw [uB_back _ _ hn.clk] at f2
  have f3 : ra3 (showRc r) = rdSome 115 (ra2 (showRc r)).2.1 (ra2 (showRc r)).2.2 := rfl
  rw [f2] at f3
  simp only [] at f3
  rw [sB_back 115 (sL r.who) _ l1] at f3
  have f4 : ra4 (showRc r) = rdUint (ra3 (showRc r)).2.1 (ra3 (showRc r)).2.2 := rfl
  rw [f3] at f4
  simp only [] at f4
  rw [uB_back _ _ hk] at f4
  have f5 : ra5 (showRc r) = rdSome 115 (ra4 (showRc r)).2.1 (ra4 (showRc r)).2.2 := rfl
  rw [f4] at f5
  simp only [] at f5
  rw [sB_back 115 (sL r.bkt) _ l2] at f5
  have f6 : ra6 (showRc r) = rdSome 115 (ra5 (showRc r)).2.1 (ra5 (showRc r)).2.2 := rfl
  rw [f5] at f6
  simp only [] at f6
  rw [sB_back 115 (sL r.key) _ l3] at f6
  have f7 : ra7 (showRc r) = rdUint (ra6 (showRc r)).2.1 (ra6 (showRc r)).2.2 := rfl
  rw [f6] at f7
  simp only [] at f7
  rw [uB_back _ _ hn.ver] at f7
  have f8 : ra8 (showRc r) = rdUint (ra7 (showRc r)).2.1 (ra7 (showRc r)).2.2 := rfl
  rw [f7] at f8
  simp only [] at f8
  rw [uB_back _ _ he] at f8
  have f9 : ra9 (showRc r) = rdSome 98 (ra8 (showRc r)).2.1 (ra8 (showRc r)).2.2 := rfl
  rw [f8] at f9
  simp only [] at f9
  rw [sB_back 98 r.sum _ l4] at f9
  have f10 : ra10 (showRc r) = rdSome 98 (ra9 (showRc r)).2.1 (ra9 (showRc r)).2.2 := rfl
  rw [f9] at f10
  simp only [] at f10
  rw [sB_back 98 r.prev _ l5] at f10
  constructor
  · unfold recR toldRc
    rw [e1, f2, f3, f4, f5, f6, f7, f8, f9, f10]
    simp only [str_sL]
  · rw [f10]; rfl
theorem told_right14 (r : Rc) (h0 : 0 ≤ r.kind) (h1 : 0 ≤ r.err) : rightRc (toldRc r) = rightRc r ∧ (rightRc r = true → toldRc r = r) := by
  obtain ⟨rseq, rclk, rwho, rkind, rbkt, rkey, rver, rerr, rsum, rprev⟩ := r
  simp only [] at h0 h1
  constructor
  · unfold rightRc toldRc toldN
    simp only []
    rw [decide_eq_decide]
    constructor
    · rintro ⟨a, b, c, d, e⟩; exact ⟨by omega, by omega, by omega, by omega, e⟩
    · rintro ⟨a, b, c, d, e⟩; exact ⟨by omega, by omega, by omega, by omega, e⟩
  · intro h
    have h := of_decide_eq_true h
    simp only [] at h
    unfold toldRc toldN
    simp only []
    rw [show ((min (max rkind 0).toNat 2147483647 : Nat) : Int) = rkind by omega, show ((min (max rerr 0).toNat 2147483647 : Nat) : Int) = rerr by omega]
theorem read_show14 (r : Rc) (hn : RcN r) (hl : rcLen r ≤ 20000) (h0 : 0 ≤ r.kind) (h1 : 0 ≤ r.err) : readRc (showRc r) = if rightRc r = true then some r else none := by
  obtain ⟨e, d⟩ := rec_show14 r hn hl
  obtain ⟨t1, t2⟩ := told_right14 r h0 h1
  unfold readRc
  rw [e, t1]
  by_cases h : rightRc r = true
  · rw [if_pos ⟨d, h⟩, if_pos h, t2 h]
  · rw [if_neg (fun x => h x.2), if_neg h]
theorem numTo_div (l : List UInt8) (a : Nat) : ∀ b, numTo l (a + b) / 256 ^ b = numTo l a
  | 0 => by rw [Nat.pow_zero, Nat.div_one, Nat.add_zero]
  | b + 1 => by
    rw [← Nat.add_assoc, numTo, Nat.pow_succ, Nat.mul_comm (256 ^ b), ← Nat.div_div_eq_div_mul]
    have := UInt8.toNat_lt (nth l (1 + (a + b)))
    rw [show (numTo l (a + b) * 256 + (nth l (1 + (a + b))).toNat) / 256 = numTo l (a + b) by omega]
    exact numTo_div l a b
theorem beAt_num (l : List UInt8) (size j : Nat) (hj : j < size) : beAt (numTo l size) size j = nth l (1 + j) := by
  unfold beAt
  have e : (2 : Nat) ^ (8 * (size - 1 - j)) = 256 ^ (size - 1 - j) := by rw [Nat.pow_mul]
  have := numTo_div l (j + 1) (size - 1 - j)
  rw [show j + 1 + (size - 1 - j) = size by omega] at this
  rw [e, this, numTo]
  apply UInt8.toNat_inj.1
  rw [UInt8.toNat_ofNat']
  have := UInt8.toNat_lt (nth l (1 + j))
  omega
theorem beL_num (l : List UInt8) (size : Nat) (h : 1 + size ≤ l.length) : beL (numTo l size) size size = (l.drop 1).take size := by
  apply List.ext_getElem
  · rw [beL_length, List.length_take, List.length_drop]; omega
  · intro i h1 h2
    rw [beL_length] at h1
    simp only [beL, List.getElem_map, List.getElem_range]
    rw [beAt_num l size i h1, List.getElem_take, List.getElem_drop, nth_eq]
theorem head_num (l : List UInt8) (m : UInt8) (size : Nat) (h : 1 + size ≤ l.length) (hm : nth l 0 = m) : l = behL [] m (numTo l size) size size ++ l.drop (1 + size) := by
  unfold behL
  rw [beL_num l size h, List.nil_append]
  cases l with
  | nil => simp at h
  | cons x t =>
    rw [nth_zero_cons] at hm
    rw [hm, List.drop_succ_cons, List.drop_zero, Nat.add_comm 1 size, List.drop_succ_cons, List.cons_append, List.take_append_drop]
theorem rdUint_it {l : List UInt8} {br : Bool} (h : (rdUint l br).2.2 = false) : br = false ∧ l = uB14 (rdUint l br).1 ++ (rdUint l br).2.1 ∧ (rdUint l br).1 < 18446744073709551616 := by
  unfold rdUint at h ⊢
  by_cases ho : okH l br 117 8 = true
  · rw [if_pos ho]
    obtain ⟨a, b, c⟩ := okH_of ho
    exact ⟨a, head_num l 117 8 b c, numTo_lt64 l 8 (by omega)⟩
  · rw [if_neg ho] at h; cases h
theorem rdSome_it {m : UInt8} {l : List UInt8} {br : Bool} (h : (rdSome m l br).2.2 = false) : br = false ∧ l = sB14 m (rdSome m l br).1 ++ (rdSome m l br).2.1 := by
  unfold rdSome at h ⊢
  by_cases ho : okB l br m = true
  · rw [if_pos ho]
    unfold okB at ho
    obtain ⟨o1, o2⟩ := Bool.and_eq_true_iff.1 ho
    have o3 := of_decide_eq_true o2
    obtain ⟨a, b, c⟩ := okH_of o1
    refine ⟨a, ?_⟩
    have e := head_num l m 4 b c
    show l = sB14 m ((l.drop 5).take (numTo l 4)) ++ l.drop (5 + numTo l 4)
    unfold sB14
    rw [List.length_take, List.length_drop, show min (numTo l 4) (l.length - 5) = numTo l 4 by omega, List.append_assoc, ← List.drop_drop, List.take_append_drop]
    exact e
  · rw [if_neg ho] at h; cases h
theorem doneN_zero14 {l : List UInt8} {br : Bool} : doneN l br = 0 ↔ br = false ∧ l = [] := by
  unfold doneN
  cases br <;> cases l <;> simp
theorem sL_mk14 (l : List UInt8) : sL ⟨l.toArray⟩ = l := by unfold sL; simp
theorem show_read14 {b : List UInt8} {r : Rc} (h : readRc b = some r) : showRc r = b ∧ RcN r ∧ rightRc r = true := by
  unfold readRc at h
  split at h
  · rename_i hc
    obtain ⟨hd, hr⟩ := hc
    have e := Option.some.inj h
    obtain ⟨d1, d2⟩ := doneN_zero14.1 hd
    obtain ⟨c9, e10⟩ := rdSome_it (l := (ra9 b).2.1) (br := (ra9 b).2.2) d1
    obtain ⟨c8, e9⟩ := rdSome_it (l := (ra8 b).2.1) (br := (ra8 b).2.2) c9
    obtain ⟨c7, e8, n8⟩ := rdUint_it (l := (ra7 b).2.1) (br := (ra7 b).2.2) c8
    obtain ⟨c6, e7, n7⟩ := rdUint_it (l := (ra6 b).2.1) (br := (ra6 b).2.2) c7
    obtain ⟨c5, e6⟩ := rdSome_it (l := (ra5 b).2.1) (br := (ra5 b).2.2) c6
    obtain ⟨c4, e5⟩ := rdSome_it (l := (ra4 b).2.1) (br := (ra4 b).2.2) c5
    obtain ⟨c3, e4, n4⟩ := rdUint_it (l := (ra3 b).2.1) (br := (ra3 b).2.2) c4
    obtain ⟨c2, e3⟩ := rdSome_it (l := (ra2 b).2.1) (br := (ra2 b).2.2) c3
    obtain ⟨c1, e2, n2⟩ := rdUint_it (l := (ra1 b).2.1) (br := (ra1 b).2.2) c2
    obtain ⟨_, e1, n1⟩ := rdUint_it (l := b) (br := false) c1
    have hrr := of_decide_eq_true hr
    have k1 : (recR b).kind ≤ 19 := hrr.2.1
    have k2 : (recR b).err ≤ 9999 := hrr.2.2.2.1
    have k3 : toldN (ra4 b).1 ≤ 19 := k1
    have k4 : toldN (ra8 b).1 ≤ 9999 := k2
    unfold toldN at k3 k4
    have t4 : (max (toldN (ra4 b).1) 0).toNat = (ra4 b).1 := by unfold toldN; omega
    have t8 : (max (toldN (ra8 b).1) 0).toNat = (ra8 b).1 := by unfold toldN; omega
    subst e
    refine ⟨?_, ⟨n1, n2, n7, ?_, ?_, ?_, ?_⟩, hr⟩
    · rw [show_eq14]
      show uB14 (ra1 b).1 ++ (uB14 (ra2 b).1 ++ (sB14 115 (sL ⟨(ra3 b).1.toArray⟩) ++ (uB14 (max (toldN (ra4 b).1) 0).toNat ++ (sB14 115 (sL ⟨(ra5 b).1.toArray⟩) ++ (sB14 115 (sL ⟨(ra6 b).1.toArray⟩) ++ (uB14 (ra7 b).1 ++ (uB14 (max (toldN (ra8 b).1) 0).toNat ++ (sB14 98 (ra9 b).1 ++ (sB14 98 (ra10 b).1 ++ []))))))))) = b
      rw [t4, t8, sL_mk14, sL_mk14, sL_mk14, ← d2]
      rw [show sB14 98 (ra10 b).1 ++ (ra10 b).2.1 = (ra9 b).2.1 from e10.symm, show sB14 98 (ra9 b).1 ++ (ra9 b).2.1 = (ra8 b).2.1 from e9.symm, show uB14 (ra8 b).1 ++ (ra8 b).2.1 = (ra7 b).2.1 from e8.symm, show uB14 (ra7 b).1 ++ (ra7 b).2.1 = (ra6 b).2.1 from e7.symm, show sB14 115 (ra6 b).1 ++ (ra6 b).2.1 = (ra5 b).2.1 from e6.symm, show sB14 115 (ra5 b).1 ++ (ra5 b).2.1 = (ra4 b).2.1 from e5.symm, show uB14 (ra4 b).1 ++ (ra4 b).2.1 = (ra3 b).2.1 from e4.symm, show sB14 115 (ra3 b).1 ++ (ra3 b).2.1 = (ra2 b).2.1 from e3.symm, show uB14 (ra2 b).1 ++ (ra2 b).2.1 = (ra1 b).2.1 from e2.symm]
      exact e1.symm
    · show -9223372036854775808 ≤ (recR b).kind; have := hrr.1; omega
    · omega
    · show -9223372036854775808 ≤ (recR b).err; have := hrr.2.2.1; omega
    · omega
  · cases h
theorem show_inj14 {r s : Rc} (hr : rightRc r = true) (hs : rightRc s = true) (nr : RcN r) (ns : RcN s) (lr : rcLen r ≤ 20000) (ls : rcLen s ≤ 20000) (e : showRc r = showRc s) : r = s := by
  have h1 := of_decide_eq_true hr
  have h2 := of_decide_eq_true hs
  have e1 := read_show14 r nr lr h1.1 h1.2.2.1
  have e2 := read_show14 s ns ls h2.1 h2.2.2.1
  rw [if_pos hr] at e1
  rw [if_pos hs, ← e, e1] at e2
  exact Option.some.inj e2
/-- two logs, turned about, with one head -/
theorem forged14 : ∀ (a b : List Rc) (h : List UInt8), verB a h = true → verB b h = true → (∀ r ∈ a, RcN r ∧ rcLen r ≤ 20000) → (∀ r ∈ b, RcN r ∧ rcLen r ≤ 20000) →
    (a = b ∧ colB a b = none) ∨ (a ≠ b ∧ ∃ r s, colB a b = some (r, s) ∧ r ∈ a ∧ s ∈ b ∧ showRc r ≠ showRc s ∧ digRc r = digRc s)
  | [], [], h, _, _, _, _ => .inl ⟨rfl, rfl⟩
  | [], s :: b, h, ha, hb, _, _ => by
    rw [verB, decide_eq_true_iff] at ha
    subst ha
    rw [verB, Bool.and_eq_true, Bool.and_eq_true, decide_eq_true_iff] at hb
    have := congrArg List.length hb.1.2
    rw [digRc_len] at this; cases this
  | r :: a, [], h, ha, hb, _, _ => by
    rw [verB, decide_eq_true_iff] at hb
    subst hb
    rw [verB, Bool.and_eq_true, Bool.and_eq_true, decide_eq_true_iff] at ha
    have := congrArg List.length ha.1.2
    rw [digRc_len] at this; cases this
  | r :: a, s :: b, h, ha, hb, na, nb => by
    rw [verB, Bool.and_eq_true, Bool.and_eq_true, Bool.and_eq_true, decide_eq_true_iff, decide_eq_true_iff] at ha hb
    rw [colB]
    by_cases e : r = s
    · subst e
      rw [if_pos ((sameRc_iff r r).2 rfl)]
      rcases forged14 a b r.prev ha.2 hb.2 (fun x hx => na x (List.mem_cons_of_mem _ hx)) (fun x hx => nb x (List.mem_cons_of_mem _ hx)) with ⟨e1, e2⟩ | ⟨e1, x, y, e2, e3, e4, e5⟩
      · exact .inl ⟨by rw [e1], e2⟩
      · exact .inr ⟨fun e => e1 (List.cons.inj e).2, x, y, e2, List.mem_cons_of_mem _ e3, List.mem_cons_of_mem _ e4, e5⟩
    · rw [if_neg (fun x => e ((sameRc_iff r s).1 x)), if_pos (ha.1.2.trans hb.1.2.symm)]
      have n1 := na r List.mem_cons_self
      have n2 := nb s List.mem_cons_self
      exact .inr ⟨fun x => e (List.cons.inj x).1, r, s, rfl, List.mem_cons_self, List.mem_cons_self, fun x => e (show_inj14 ha.1.1.1 hb.1.1.1 n1.1 n2.1 n1.2 n2.2 x), ha.1.2.trans hb.1.2.symm⟩
/-- a log that is edited at one place, turned about -/
theorem edited14 : ∀ (p : List Rc) (x y : Rc) (s : List Rc) (h : List UInt8), verB (p ++ x :: s) h = true → x ≠ y → colB (p ++ x :: s) (p ++ y :: s) = none → verB (p ++ y :: s) h = false
  | [], x, y, s, h, hv, hn, hc => by
    rw [List.nil_append, verB, Bool.and_eq_true, Bool.and_eq_true, Bool.and_eq_true, decide_eq_true_iff, decide_eq_true_iff] at hv
    rw [List.nil_append, List.nil_append, colB, if_neg (fun e => hn ((sameRc_iff x y).1 e))] at hc
    have : digRc x ≠ digRc y := fun e => by rw [if_pos e] at hc; cases hc
    rw [List.nil_append, verB, decide_eq_false (p := digRc y = h) (fun e => this (hv.1.2.trans e.symm)), Bool.and_false, Bool.false_and]
  | r :: p, x, y, s, h, hv, hn, hc => by
    rw [List.cons_append, verB, Bool.and_eq_true] at hv
    rw [List.cons_append, List.cons_append, colB, if_pos ((sameRc_iff r r).2 rfl)] at hc
    rw [List.cons_append, verB, edited14 p x y s r.prev hv.2 hn hc, Bool.and_false]
/-- a log that grows by Next -/
theorem grows14 {l : List Rc} {r : Rc} (hl : verL l ((l.getLast?.map digRc).getD []) = true) (hn : l.length < 1000000) (hs : ∀ x, l.getLast? = some x → x.seq = l.length) (hr : rightRc (nextRc l r) = true) :
    verL (l ++ [nextRc l r]) (digRc (nextRc l r)) = true ∧ (nextRc l r).seq = (l ++ [nextRc l r]).length := by
  have e : (nextRc l r).seq = l.length + 1 ∧ (nextRc l r).prev = (l.getLast?.map digRc).getD [] := by
    unfold nextRc
    cases hg : l.getLast? with
    | none =>
      have : l = [] := List.getLast?_eq_none_iff.1 hg
      subst this
      exact ⟨rfl, rfl⟩
    | some x =>
      have := hs x hg
      exact ⟨by show (x.seq + 1) % 18446744073709551616 = _; omega, rfl⟩
  rw [verL_snoc, e.1, e.2, hl, hr, List.length_append]
  exact ⟨by simp, rfl⟩
end Go.Proofs.Ytbclhaleibjkgab
namespace Go.Proofs.Ytbclhaleibjkgab
open Go.RowKit

theorem right_lenK14 {r : Rc} (h : rightRc r = true) : rcLen r ≤ 20000 := by
  have := of_decide_eq_true h
  unfold rcLen
  omega
/-- a log that has grown by Next -/
structure LogK14 (W : World) (base : Nat) (v : Value) (A : List Rq14) (k : Nat) : Prop where
  own : OwnRc W base v A
  all : ∀ x ∈ A, RecK14 W x.1 x.2 ∧ rightRc x.1 = true
  len : A.length ≤ k
  ver : verL (A.map Prod.fst) (((A.map Prod.fst).getLast?.map digRc).getD []) = true
  seq : ∀ x, (A.map Prod.fst).getLast? = some x → x.seq = (A.map Prod.fst).length
theorem LogK14.on {W W' : World} {base : Nat} {v : Value} {A : List Rq14} {k k' : Nat} (h : LogK14 W base v A k) (hb : Below W.heap.size W W') (hk : k ≤ k') : LogK14 W' base v A k' :=
  ⟨h.own.on hb, fun x hx => ⟨(h.all x hx).1.keep (KeepO.of_below hb), (h.all x hx).2⟩, Nat.le_trans h.len hk, h.ver, h.seq⟩
theorem LogK14.small {W : World} {base : Nat} {v : Value} {A : List Rq14} {k : Nat} (h : LogK14 W base v A k) : ∀ x ∈ A, rcLen x.1 ≤ 20000 := fun x hx => right_lenK14 (h.all x hx).2
theorem LogK14.add {W W' : World} {base : Nat} {v v' : Value} {A : List Rq14} {k : Nat} {r : Rc} {p : RcA} (h : LogK14 W base v A k) (hk : k < 1000) (ho : OwnRc W' base v' (A ++ [(nextRc (A.map Prod.fst) r, p)])) (hg : W.grownBy W' v.ownBlock) (hr : rightRc (nextRc (A.map Prod.fst) r) = true) (hp : RecK14 W (nextRc (A.map Prod.fst) r) p) :
    LogK14 W' base v' (A ++ [(nextRc (A.map Prod.fst) r, p)]) (k + 1) ∧ verL ((A ++ [(nextRc (A.map Prod.fst) r, p)]).map Prod.fst) (digRc (nextRc (A.map Prod.fst) r)) = true := by
  have hkeep : KeepO [5] W W' := KeepO.ofT (KeepT.grownRc h.own hg) (by decide)
  obtain ⟨g1, g2⟩ := grows14 (r := r) h.ver (by have := h.len; rw [List.length_map]; omega) h.seq hr
  have e : (A ++ [(nextRc (A.map Prod.fst) r, p)]).map Prod.fst = A.map Prod.fst ++ [nextRc (A.map Prod.fst) r] := by rw [List.map_append]; rfl
  refine ⟨⟨ho, fun x hx => ?_, by rw [List.length_append]; have := h.len; simp; omega, ?_, ?_⟩, ?_⟩
  · rcases List.mem_append.1 hx with hx | hx
    · exact ⟨(h.all x hx).1.keep hkeep, (h.all x hx).2⟩
    · obtain rfl := List.mem_singleton.1 hx; exact ⟨hp.keep hkeep, hr⟩
  · rw [e, List.getLast?_append]; exact g1
  · rw [e]; intro x hx
    rw [List.getLast?_append] at hx
    obtain rfl : nextRc (A.map Prod.fst) r = x := by simpa using hx
    exact g2
  · rw [e]; exact g1
theorem verN_yes14 {l : List Rc} {h : List UInt8} (e : verL l h = true) : verN l h = 0 := if_pos e
theorem verN_nil14 (l : List Rc) (r : Rc) : verN (l ++ [r]) [] = 53 := by
  unfold verN
  rw [verL_snoc, decide_eq_false (p := digRc r = []) (fun e => by have := congrArg List.length e; rw [digRc_len] at this; cases this)]
  simp
set_option maxRecDepth 20000 in
set_option maxHeartbeats 4000000 in
theorem chains14 (a : Option Addr) (n cap : Nat) (l : List Rq14) (w : World) (h : IsRl w a n l) (hz : ∀ x ∈ l, RcZ x.1) (hn : n ≤ 140737488351232) :
    Calls Try.prog 3 #[.slice a n cap] w fun e w' => e = .returned (.bool true) ∧ Below w.heap.size w w' := by
  have HLt := lawLight14 a n cap l w h hz hn
  have HL2 := @light_of14 l
  have HX := mkHid h
  have HLn := mkHid h.len
  clear h hz
  generalize lightR (l.map Prod.fst) = LT at *
  cases LT with
  | false =>
    clear HL2 HX HLn
    go_enter Try.func3, Try.ntmps3
    go_wp2_with fail
    refine HLt.mono ?_
    rintro e y1 ⟨rfl, hb1⟩
    have HB1 := mkHid hb1
    clear hb1 HLt
    go_wp2_with fail
    refine (lawAlive14 y1).mono ?_
    rintro e y2 ⟨rfl, hb2⟩
    have HB2 := mkHid (HB1.out.trans (hb2.mono HB1.out.size))
    clear hb2
    go_wp2_with fail
    go_ret
    exact ⟨rfl, HB2.out⟩
  | true =>
  obtain ⟨hs, hm⟩ := HL2 rfl
  rw [HLn.out] at hm
  have HSs := mkHid hs
  clear HL2 hs
  obtain ⟨B, off, hae, hrow⟩ : ∃ B off, (0 < n → a = some ⟨B, off, none⟩) ∧ ∀ (k : Nat) (x : Rq14), l[k]? = some x → w.rangeAt B (off + k * 10) (rcc x.1 x.2) := by
    rcases Nat.eq_zero_or_pos n with h0 | h0
    · have hl0 : l = [] := List.length_eq_zero_iff.1 (HLn.out.trans h0)
      subst hl0
      exact ⟨0, 0, fun x => absurd x (by omega), fun k x hx => by cases hx⟩
    · obtain ⟨B, off, e, hc⟩ := HX.out.cells h0
      exact ⟨B, off, fun _ => e, hc⟩
  have HRow := mkHid hrow
  have HVn := fun W => codVerify14 none 0 0 [] (.slice none 0 0) [] W ⟨rfl, fun h => absurd h (Nat.lt_irrefl 0), fun x hx => by cases hx⟩ (IsV.nil W) (fun x hx => by cases hx) (Nat.zero_le _)
  rw [show verN (([] : List Rq14).map Prod.fst) [] = 0 from by decide] at HVn
  clear hrow hn
  have hae2 : a = some ⟨B, off, none⟩ ∨ n = 0 := by rcases Nat.eq_zero_or_pos n with h0 | h0; exact .inr h0; exact .inl (hae h0)
  clear hae
  rcases hae2 with rfl | rfl
  rotate_left
  · go_enter Try.func3, Try.ntmps3
    go_wp2_with fail
    refine HLt.mono ?_
    rintro e y1 ⟨rfl, hb1⟩
    have HB1 := mkHid hb1
    clear hb1 HLt
    go_wp2
    go_loopw [3, 4] (fun v i wr => v = .slice none 0 0 ∧ i = .int .i64 0 ∧ wr = y1) (fun _ _ _ => 0)
    case atStart => exact ⟨rfl, rfl, rfl⟩
    case round =>
      obtain ⟨rfl, rfl, rfl⟩ := hrel
      go_wp2_with fail
      refine (HVn wr).mono ?_
      rintro e y2 ⟨rfl, hb2⟩
      have HB2 := mkHid (HB1.out.trans (hb2.mono HB1.out.size))
      clear hb2
      go_wp2_with fail
      refine (lawAlive14 y2).mono ?_
      rintro e y3 ⟨rfl, hb3⟩
      have HB3 := mkHid (HB2.out.trans (hb3.mono HB2.out.size))
      clear hb3
      go_wp2_with fail
      go_ret
      exact ⟨rfl, HB3.out⟩
  go_enter Try.func3, Try.ntmps3
  go_wp2_with fail
  refine HLt.mono ?_
  rintro e y1 ⟨rfl, hb1⟩
  have HB1 := mkHid hb1
  clear hb1 HLt
  go_wp2
  go_loopw [3, 4] (fun v i wr => ∃ (k : Nat) (A : List Rq14), k ≤ n ∧ i = .int .i64 (k : Int) ∧ Hid (LogK14 wr w.heap.size v A k) ∧ Hid (Below w.heap.size w wr)) (fun _ i _ => n - (Go.RowKit.intOf i).toNat)
  case atStart => exact ⟨0, [], Nat.zero_le _, rfl, ⟨OwnRc.nil _ _, (fun x hx => by cases hx), Nat.le_refl _, by decide, (fun x hx => by cases hx)⟩, HB1⟩
  case round =>
    clear HB1
    obtain ⟨k, A, hk, rfl, HA, HB⟩ := hrel
    by_cases hlt : k < n
    · obtain ⟨x, hx⟩ : ∃ x, l[k]? = some x := ⟨l[k]'(by have := HLn.out; omega), List.getElem?_eq_getElem _⟩
      have hC := range_below14 (HRow.out k x hx) HB.out
      have HI := info14 x.1 x.2
      obtain ⟨va, vc, hve, -⟩ := HA.out.own.form
      subst hve
      have HNx := codNextK14 va A.length vc A x.1 x.2 wr (HA.out.own.isRl (fun x hx => (HA.out.all x hx).1.is)) ((HX.out.recs x (List.mem_of_getElem? hx)).below HB.out) HA.out.small (HSs.out x (List.mem_of_getElem? hx)) (by have := HA.out.len; omega)
      unfold NxPostK at HNx
      have hlt0 : (0 : Int) ≤ (k : Int) := by omega
      have hlt' : (k : Int) < (n : Int) := by omega
      have HAl := mkHid HA.out.len
      have HOg : Hid (∀ g, (Value.slice va A.length vc).ownBlock = some g → g < wr.heap.size) := fun g e => (World.ownsRow.lt HA.out.own g e).2
      clear hx
      generalize rcc x.1 x.2 = rcx at *
      generalize A.length = an at *
      generalize hNN : nextRc (A.map Prod.fst) x.1 = NN at *
      have HNN := mkHid hNN
      clear hNN
      obtain ⟨nseq, nclk, nwho, nkind, nbkt, nkey, nver, nerr, nsum, nprev⟩ := NN
      go_wp2_with (first | (refine wpList_load_mid rfl 29 _ rfl B (off + k * 10) rfl _ _ hC Try.underlying29 rfl HI ?_))
      refine HNx.mono ?_
      rintro e y2 ⟨⟨pa, pc, pb, pd⟩, rfl, hrk, hb2⟩
      have hbA : Below y2.heap.size y2 (y2.alloc (.cells #[.int .u64 (nseq : Int), .int .u64 (nclk : Int), .string nwho, .int .i64 nkind, .string nbkt, .string nkey, .int .u64 (nver : Int), .int .i64 nerr, .slice pa nsum.length pc, .slice pb nprev.length pd] 29)) := (Below.refl _ y2).alloc (Nat.le_refl _) _
      have HP3 := mkHid (Blk.new y2 29 [.int .u64 (nseq : Int), .int .u64 (nclk : Int), .string nwho, .int .i64 nkind, .string nbkt, .string nkey, .int .u64 (nver : Int), .int .i64 nerr, .slice pa nsum.length pc, .slice pb nprev.length pd])
      have hb3 := hb2.trans (hbA.mono hb2.size)
      have HA3 := mkHid (HA.out.on hb3 (Nat.le_succ k))
      have HB3 := mkHid (HB.out.trans (hb3.mono HB.out.size))
      have HK3 : Hid (RecK14 (y2.alloc (.cells #[.int .u64 (nseq : Int), .int .u64 (nclk : Int), .string nwho, .int .i64 nkind, .string nbkt, .string nkey, .int .u64 (nver : Int), .int .i64 nerr, .slice pa nsum.length pc, .slice pb nprev.length pd] 29)) ⟨nseq, nclk, nwho, nkind, nbkt, nkey, nver, nerr, nsum, nprev⟩ ⟨pa, pc, pb, pd⟩) := hrk.keep (KeepO.of_below hbA)
      have HA4 : Hid (LogK14 (y2.alloc (.cells #[.int .u64 (nseq : Int), .int .u64 (nclk : Int), .string nwho, .int .i64 nkind, .string nbkt, .string nkey, .int .u64 (nver : Int), .int .i64 nerr, .slice pa nsum.length pc, .slice pb nprev.length pd] 29)) w.heap.size (.slice va an vc) A k) := HA.out.on hb3 (Nat.le_refl k)
      have HOg2 : Hid (∀ g, (Value.slice va an vc).ownBlock = some g → g ≠ y2.heap.size) := fun g e => by have := HOg.out g e; have := hb2.size; omega
      clear HA HB hb2 hbA hb3 hrk HNx hC HI HOg
      simp only [rcc]
      go_upto_region 8 with fail
      generalize y2.alloc (.cells #[.int .u64 (nseq : Int), .int .u64 (nclk : Int), .string nwho, .int .i64 nkind, .string nbkt, .string nkey, .int .u64 (nver : Int), .int .i64 nerr, .slice pa nsum.length pc, .slice pb nprev.length pd] 29) = Y3 at *
      generalize y2.heap.size = P at *
      have HRt := refRight14 ⟨nseq, nclk, nwho, nkind, nbkt, nkey, nver, nerr, nsum, nprev⟩ ⟨pa, pc, pb, pd⟩ Y3
      rw [show rcc ⟨nseq, nclk, nwho, nkind, nbkt, nkey, nver, nerr, nsum, nprev⟩ ⟨pa, pc, pb, pd⟩ = [.int .u64 (nseq : Int), .int .u64 (nclk : Int), .string nwho, .int .i64 nkind, .string nbkt, .string nkey, .int .u64 (nver : Int), .int .i64 nerr, .slice pa nsum.length pc, .slice pb nprev.length pd] from rfl] at HRt
      generalize hRG : rightRc ⟨nseq, nclk, nwho, nkind, nbkt, nkey, nver, nerr, nsum, nprev⟩ = RG at *
      have HRG := mkHid hRG
      clear hRG
      go_wp2_with (first | (refine wpList_load_row rfl 29 _ rfl _ rfl _ _ _ _ HP3.out Try.underlying29 rfl (by kernel_rfl) ?_))
      refine HRt.mono ?_
      rintro e y4 ⟨rfl, hb4⟩
      cases RG with
      | false =>
        have HA5 := mkHid (HA3.out.on hb4 (Nat.le_refl _))
        have HB5 := mkHid (HB3.out.trans (hb4.mono HB3.out.size))
        clear hb4 HA3 HA4 HB3 HP3 HRt HK3 HRG
        go_wp2_with fail
        go_roundw
        case rel => exact ⟨k + 1, A, by omega, by go_num, HA5, HB5⟩
        case measure => simp [Go.RowKit.intOf]; omega
      | true =>
        have HP5 := mkHid (HP3.out.on hb4)
        have HA5 := mkHid (HA4.out.on hb4 (Nat.le_refl _))
        have HB5 := mkHid (HB3.out.trans (hb4.mono HB3.out.size))
        have HK5 := mkHid (HK3.out.keep (KeepO.of_below hb4))
        clear hb4 HA3 HA4 HB3 HP3 HRt HK3
        go_upto_region 9 with fail
        have hbX : Below y4.heap.size y4 (y4.alloc (.cells #[.int .u64 (nseq : Int), .int .u64 (nclk : Int), .string nwho, .int .i64 nkind, .string nbkt, .string nkey, .int .u64 (nver : Int), .int .i64 nerr, .slice pa nsum.length pc, .slice pb nprev.length pd] 29)) := (Below.refl _ y4).alloc (Nat.le_refl _) _
        have HAx := mkHid (HA5.out.on hbX (Nat.le_refl _))
        have HBx := mkHid (HB5.out.trans (hbX.mono HB5.out.size))
        have HPx := mkHid (HP5.out.on hbX)
        have HXx := mkHid (Blk.new y4 29 [.int .u64 (nseq : Int), .int .u64 (nclk : Int), .string nwho, .int .i64 nkind, .string nbkt, .string nkey, .int .u64 (nver : Int), .int .i64 nerr, .slice pa nsum.length pc, .slice pb nprev.length pd])
        have HAdd := fun W' v' ho hg => LogK14.add (W' := W') (v' := v') (r := x.1) (p := ⟨pa, pc, pb, pd⟩) HAx.out (by omega) ho hg
        rw [HNN.out] at HAdd
        have HAd2 := mkHid (fun W' v' ho hg => HAdd W' v' ho hg HRG.out (HK5.out.keep (KeepO.of_below hbX)))
        have hsz := HBx.out.size
        clear HAdd hbX HK5 HB5 HA5
        go_upto_region 10 with (first | (refine wpList_load_row rfl 29 _ rfl _ rfl _ _ _ _ HP5.out Try.underlying29 rfl (by kernel_rfl) ?_) | (at_builtin; refine list_appRc _ rfl (.tmp 25) (.tmp 27) rfl w.heap.size _ A rfl HAx.out.own y4.heap.size (⟨nseq, nclk, nwho, nkind, nbkt, nkey, nver, nerr, nsum, nprev⟩, ⟨pa, pc, pb, pd⟩) rfl HXx.out (by have := HAx.out.len; omega) hsz ?_; intro v6 y6 ho6 hg6))
        obtain ⟨HL6, HV6⟩ := HAd2.out y6 v6 ho6 hg6
        have HP6 := mkHid ((hg6.block P HPx.out.lt (fun e => HOg2.out P e.symm rfl)).trans HPx.out : Blk y6 P 29 [.int .u64 (nseq : Int), .int .u64 (nclk : Int), .string nwho, .int .i64 nkind, .string nbkt, .string nkey, .int .u64 (nver : Int), .int .i64 nerr, .slice pa nsum.length pc, .slice pb nprev.length pd])
        have HB6 : Hid (Below w.heap.size w y6) := HBx.out.grown hg6 HBx.out.size (fun g e => (World.ownsRow.lt HAx.out.own g e).1)
        have HLg := mkHid HL6
        have HVr := mkHid (verN_yes14 HV6)
        have HVs : Hid (verN ((A ++ [((⟨nseq, nclk, nwho, nkind, nbkt, nkey, nver, nerr, nsum, nprev⟩ : Rc), (⟨pa, pc, pb, pd⟩ : RcA))]).map Prod.fst) [] = 53) := by unfold Hid; rw [List.map_append]; exact verN_nil14 _ _
        obtain ⟨va6, vc6, hve, -⟩ := HL6.own.form
        subst hve
        clear HAd2 ho6 hg6 HL6 HV6 HAx HBx HPx HXx HP5 HNN HOg2 HAl
        have HIr := mkHid (HLg.out.all _ (List.mem_append_right _ (List.mem_singleton.2 rfl))).1.is
        have HDg := codDigest14 ⟨nseq, nclk, nwho, nkind, nbkt, nkey, nver, nerr, nsum, nprev⟩ ⟨pa, pc, pb, pd⟩ y6 HIr.out (right_lenK14 HRG.out)
        have HVc := fun W v hd (hW : Below y6.heap.size y6 W) (hv : IsV W v hd) => codVerify14 va6 _ vc6 _ v hd W ((HLg.out.on hW (Nat.le_refl _)).own.isRl (fun x hx => ((HLg.out.on hW (Nat.le_refl _)).all x hx).1.is)) hv HLg.out.small (by have := HLg.out.len; omega)
        rw [show rcc ⟨nseq, nclk, nwho, nkind, nbkt, nkey, nver, nerr, nsum, nprev⟩ ⟨pa, pc, pb, pd⟩ = [.int .u64 (nseq : Int), .int .u64 (nclk : Int), .string nwho, .int .i64 nkind, .string nbkt, .string nkey, .int .u64 (nver : Int), .int .i64 nerr, .slice pa nsum.length pc, .slice pb nprev.length pd] from rfl] at HDg
        generalize digRc ⟨nseq, nclk, nwho, nkind, nbkt, nkey, nver, nerr, nsum, nprev⟩ = DG at *
        generalize A ++ [((⟨nseq, nclk, nwho, nkind, nbkt, nkey, nver, nerr, nsum, nprev⟩ : Rc), (⟨pa, pc, pb, pd⟩ : RcA))] = A2 at *
        generalize A2.length = an2 at *
        clear HIr HRG
        go_wp2_with (first | (refine wpList_load_row rfl 29 _ rfl _ rfl _ _ _ _ HP6.out Try.underlying29 rfl (by kernel_rfl) ?_))
        refine HDg.mono ?_
        rintro e y7 ⟨v7, rfl, ho7, hb7⟩
        have HV7 := mkHid ho7.isV
        have HB7 := mkHid hb7
        have hVc1 := HVc y7 v7 DG hb7 ho7.isV
        rw [HVr.out] at hVc1
        clear ho7 hb7 HDg HP6
        go_wp2_with fail
        refine hVc1.mono ?_
        rintro e y8 ⟨rfl, hb8⟩
        have HB8 := mkHid (HB7.out.trans (hb8.mono HB7.out.size))
        have hVc2 := HVc y8 (.slice none 0 0) [] HB8.out (IsV.nil _)
        rw [HVs.out] at hVc2
        clear hb8 hVc1 HVc
        go_wp2_with fail
        refine hVc2.mono ?_
        rintro e y9 ⟨rfl, hb9⟩
        have HB9 := mkHid (HB8.out.trans (hb9.mono HB8.out.size))
        have HL9 := mkHid (HLg.out.on HB9.out (Nat.le_refl _))
        have HBn := mkHid (HB6.out.trans (HB9.out.mono HB6.out.size))
        clear hb9 hVc2 HB7 HB8 HB9 HLg HB6 HVr HVs HV7
        go_wp2_with fail
        go_roundw
        case rel => exact ⟨k + 1, A2, by omega, by go_num, HL9, HBn⟩
        case measure => simp [Go.RowKit.intOf]; omega
    · have hkn : k = n := by omega
      subst hkn
      have hge : ¬ (k : Int) < (k : Int) := by omega
      go_wp2_with fail
      refine (HVn wr).mono ?_
      rintro e y2 ⟨rfl, hb2⟩
      have HB2 := mkHid (HB.out.trans (hb2.mono HB.out.size))
      clear hb2
      go_wp2_with fail
      refine (lawAlive14 y2).mono ?_
      rintro e y3 ⟨rfl, hb3⟩
      have HB3 := mkHid (HB2.out.trans (hb3.mono HB2.out.size))
      clear hb3
      go_wp2_with fail
      go_ret
      exact ⟨rfl, HB3.out⟩
end Go.Proofs.Ytbclhaleibjkgab
namespace Go.Proofs.Ytbclhaleibjkgab
open Go.RowKit

/-- how AuditNexts stands -/
structure NxAt (w W : World) (c1 : List Value) : Prop where
  s : Blk W w.heap.size 29 c1
  b : Below w.heap.size w W
theorem NxAt.on {w W W' : World} {c1 : List Value} (h : NxAt w W c1) (hb : Below W.heap.size W W') : NxAt w W' c1 := ⟨h.s.on hb, h.b.trans (hb.mono h.b.size)⟩
theorem NxAt.lt {w W : World} {c1 : List Value} (h : NxAt w W c1) : w.heap.size + 1 ≤ W.heap.size := h.s.lt
theorem blk_grown14 {W W' : World} {X t : Nat} {cs : List Value} {o : Option Nat} (h : Blk W X t cs) (hg : W.grownBy W' o) (hne : o ≠ some X) : Blk W' X t cs := (hg.block X h.lt (fun e => hne e.symm)).trans h
theorem NxAt.grown {w W W' : World} {c1 : List Value} {v : Value} {l : List Rq14} (h : NxAt w W c1) (ho : OwnRc W (w.heap.size + 1) v l) (hg : W.grownBy W' v.ownBlock) : NxAt w W' c1 :=
  ⟨blk_grown14 h.s hg (fun e => by have := (World.ownsRow.lt ho _ e).1; omega), h.b.grown hg h.b.size (fun k e => by have := (World.ownsRow.lt ho k e).1; omega)⟩
theorem own_drewRc14 {w : World} {base : Nat} {v : Value} {l : List Rq14} (h : OwnRc w base v l) : OwnRc w.drew base v l := h.on (bel_drewN (Below.refl _ w) 1)
theorem HO5lt14 {w : World} {base g n c : Nat} {l : List Rq14} (h : OwnRc w base (.slice (some ⟨g, 0, none⟩) n c) l) : g < w.heap.size := (World.ownsRow.lt h g rfl).2
end Go.Proofs.Ytbclhaleibjkgab
namespace Go.Proofs.Ytbclhaleibjkgab
open Go.RowKit

/-- a record that stays as long as what came in does, and rows of bytes do -/
def RecE14 (w W : World) (r : Rc) (p : RcA) : Prop := ∀ V, Below w.heap.size w V → KeepO [5] W V → IsRec V r p
theorem RecE14.keep {w W V : World} {r : Rc} {p : RcA} (h : RecE14 w W r p) (hk : KeepO [5] W V) : RecE14 w V r p := fun X hX hV => h X hX (hk.trans hV)
theorem RecE14.is {w W : World} {r : Rc} {p : RcA} (h : RecE14 w W r p) (hb : Below w.heap.size w W) : IsRec W r p := h W hb (KeepO.refl _ _)
/-- a log that has grown by Next -/
structure LogE14 (w W : World) (base : Nat) (v : Value) (A : List Rq14) (k : Nat) : Prop where
  own : OwnRc W base v A
  all : ∀ x ∈ A, RecE14 w W x.1 x.2 ∧ rightRc x.1 = true
  len : A.length ≤ k
  ver : verL (A.map Prod.fst) (((A.map Prod.fst).getLast?.map digRc).getD []) = true
  seq : ∀ x, (A.map Prod.fst).getLast? = some x → x.seq = (A.map Prod.fst).length
theorem LogE14.on {w W W' : World} {base : Nat} {v : Value} {A : List Rq14} {k k' : Nat} (h : LogE14 w W base v A k) (hb : Below W.heap.size W W') (hk : k ≤ k') : LogE14 w W' base v A k' :=
  ⟨h.own.on hb, fun x hx => ⟨(h.all x hx).1.keep (KeepO.of_below hb), (h.all x hx).2⟩, Nat.le_trans h.len hk, h.ver, h.seq⟩
theorem LogE14.small {w W : World} {base : Nat} {v : Value} {A : List Rq14} {k : Nat} (h : LogE14 w W base v A k) : ∀ x ∈ A, rcLen x.1 ≤ 20000 := fun x hx => right_lenK14 (h.all x hx).2
theorem LogE14.add {w W W' : World} {base : Nat} {v v' : Value} {A : List Rq14} {k : Nat} {r : Rc} {p : RcA} (h : LogE14 w W base v A k) (hk : k < 1000) (ho : OwnRc W' base v' (A ++ [(nextRc (A.map Prod.fst) r, p)])) (hg : W.grownBy W' v.ownBlock) (hr : rightRc (nextRc (A.map Prod.fst) r) = true) (hp : RecE14 w W (nextRc (A.map Prod.fst) r) p) :
    LogE14 w W' base v' (A ++ [(nextRc (A.map Prod.fst) r, p)]) (k + 1) ∧ verL ((A ++ [(nextRc (A.map Prod.fst) r, p)]).map Prod.fst) (digRc (nextRc (A.map Prod.fst) r)) = true := by
  have hkeep : KeepO [5] W W' := KeepO.ofT (KeepT.grownRc h.own hg) (by decide)
  obtain ⟨g1, g2⟩ := grows14 (r := r) h.ver (by have := h.len; rw [List.length_map]; omega) h.seq hr
  have e : (A ++ [(nextRc (A.map Prod.fst) r, p)]).map Prod.fst = A.map Prod.fst ++ [nextRc (A.map Prod.fst) r] := by rw [List.map_append]; rfl
  refine ⟨⟨ho, fun x hx => ?_, by rw [List.length_append]; have := h.len; simp; omega, ?_, ?_⟩, ?_⟩
  · rcases List.mem_append.1 hx with hx | hx
    · exact ⟨(h.all x hx).1.keep hkeep, (h.all x hx).2⟩
    · obtain rfl := List.mem_singleton.1 hx; exact ⟨hp.keep hkeep, hr⟩
  · rw [e, List.getLast?_append]; exact g1
  · rw [e]; intro x hx
    rw [List.getLast?_append] at hx
    obtain rfl : nextRc (A.map Prod.fst) r = x := by simpa using hx
    exact g2
  · rw [e]; exact g1
/-- a log of which one record is another one -/
theorem ed_same14 {α : Type} {L : List α} {k : Nat} {x : α} (hx : L[k]? = some x) : L.take k ++ [x] ++ L.drop (k + 1) = L := by
  obtain ⟨hk, e⟩ := List.getElem?_eq_some_iff.1 hx
  subst e
  rw [List.append_assoc, List.singleton_append, List.getElem_cons_drop, List.take_append_drop]
theorem ed_other14 {L : List Rc} {k : Nat} {x y : Rc} {h : List UInt8} (hx : L[k]? = some x) (hv : verL L h = true) (hn : x ≠ y) (hc : colL L (L.take k ++ [y] ++ L.drop (k + 1)) = none) : verL (L.take k ++ [y] ++ L.drop (k + 1)) h = false := by
  have e := ed_same14 hx
  have e2 : ∀ z : Rc, (L.take k ++ [z] ++ L.drop (k + 1)).reverse = (L.drop (k + 1)).reverse ++ z :: (L.take k).reverse := fun z => by simp
  have hv2 : verB (L.take k ++ [x] ++ L.drop (k + 1)).reverse h = true := by rw [e]; exact hv
  have hc2 : colB (L.take k ++ [x] ++ L.drop (k + 1)).reverse (L.take k ++ [y] ++ L.drop (k + 1)).reverse = none := by rw [e]; exact hc
  unfold verL
  rw [e2] at hv2
  rw [e2, e2] at hc2
  rw [e2]
  exact edited14 _ x y _ h hv2 hn hc2
/-- a record of which one field is another one's -/
def EdR14 (w W : World) (r : Rc) (p : RcA) : Prop := RecE14 w W r p ∧ rcLen r ≤ 20000
theorem ed_len14 {A : List Rq14} {k : Nat} {y : Rq14} (hk : k < A.length) : (A.take k ++ [y] ++ A.drop (k + 1)).length = A.length := by
  simp; omega
theorem ed_map14 {A : List Rq14} {k : Nat} {y : Rq14} : (A.take k ++ [y] ++ A.drop (k + 1)).map Prod.fst = (A.map Prod.fst).take k ++ [y.1] ++ (A.map Prod.fst).drop (k + 1) := by simp
theorem ed_mem14 {A : List Rq14} {k : Nat} {y x : Rq14} (h : x ∈ A.take k ++ [y] ++ A.drop (k + 1)) : x ∈ A ∨ x = y := by
  rcases List.mem_append.1 h with h | h
  · rcases List.mem_append.1 h with h | h
    · exact .inl (List.mem_of_mem_take h)
    · exact .inr (List.mem_singleton.1 h)
  · exact .inl (List.mem_of_mem_drop h)
theorem ed_at14 {A : List Rq14} {k : Nat} {x : Rq14} (h : A[k]? = some x) : (A.map Prod.fst)[k]? = some x.1 := by rw [List.getElem?_map, h]; rfl
end Go.Proofs.Ytbclhaleibjkgab
