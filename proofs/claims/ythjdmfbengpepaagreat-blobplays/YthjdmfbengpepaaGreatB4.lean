/- A disk, plain: how it stands, whatever holds it; the document's disk stands so. · How much the document's disk may hold. · sync/atomic's truths and numbers, at whatever cell. · The program's disk in a world. · The document's disk among other things: what its calls leave alone. -/
import Derived.Test.YthjdmfbengpepaaGreatDk7
import Derived.Test.YthjdmfbengpepaaGreatB0
import Derived.Laws.LoneSync
import Derived.RegionCalls
import Derived.Deep.MidRow
namespace Go.Proofs.YthjdmfbengpepaaGreat
open Go.RowKit

structure Pl where
  n : Nat
  st : Nat → List UInt8
  ca : List (Nat × List UInt8)
  off : Bool
  arm : Option Nat
  wr : Nat
  fl : Nat
namespace Pl
def new (n : Nat) : Pl := ⟨n, fun _ => zero512, [], false, none, 0, 0⟩
def put (st : Nat → List UInt8) (g : Nat × List UInt8) : Nat → List UInt8 := fun i => if g.1 = i then g.2 else st i
def kept : List (Nat × List UInt8) → List Bool → List (Nat × List UInt8)
  | g :: l, k :: ks => if k = true then g :: kept l ks else kept l ks
  | _, _ => []
def stE (p : Pl) (i : Int) : Int := if inR p.n i = true then 0 else 50
def stB (p : Pl) (i : Int) : List UInt8 := if inR p.n i = true then p.st i.toNat else []
def rdE (p : Pl) (i : Int) : Int := if p.off = true then 51 else p.stE i
def rdB (p : Pl) (i : Int) : List UInt8 := if p.off = true then [] else if inR p.n i = true then p.ca.foldl put p.st i.toNat else []
def wrE (p : Pl) (i : Int) (b : List UInt8) : Int := if p.off = true then 51 else if inR p.n i = false then 50 else if b.length ≠ 512 then 1 else if p.arm = some 0 then 51 else 0
def write (p : Pl) (i : Int) (b : List UInt8) : Pl :=
  if p.off = true then p else if inR p.n i = false then p else if b.length ≠ 512 then p else if p.arm = some 0 then { p with off := true } else { p with arm := p.arm.map (· - 1), wr := p.wr + 1, ca := p.ca ++ [(i.toNat, b)] }
def flE (p : Pl) : Int := if p.off = true then 51 else 0
def flush (p : Pl) : Pl := if p.off = true then p else { p with st := p.ca.foldl put p.st, ca := [], fl := p.fl + 1 }
def armed (p : Pl) (z : Int) : Pl := { p with arm := if 0 ≤ z then some z.toNat else none }
def crash (p : Pl) (ks : List Bool) : Pl := { p with st := (kept p.ca ks).foldl put p.st, ca := [], off := false, arm := none }
end Pl
def plW (g : Wg) : Nat × List UInt8 := (g.at_, g.b)
def plOf (r : Rd) : Pl := ⟨r.n, stableOf r.S, r.C.map plW, r.off, if r.armed = true then some r.left else none, r.wr, r.fl⟩

theorem put_fold (l : List Wg) (st : Nat → List UInt8) (i : Nat) : (l.map plW).foldl Pl.put st i = (lastW l i).getD (st i) := by
  induction l generalizing st with
  | nil => rfl
  | cons g l ih =>
    rw [List.map_cons, List.foldl_cons, ih, lastW]
    cases lastW l i with
    | some b => rfl
    | none =>
      by_cases h : g.at_ = i
      · simp [Pl.put, plW, h]
      · simp [Pl.put, plW, h]
theorem fold_stable (l S : List Wg) : stableOf (l.foldl settleW S) = (l.map plW).foldl Pl.put (stableOf S) := funext fun i => by rw [stable_foldl, put_fold]
theorem kept_map (l : List Wg) (ks : List Bool) : Pl.kept (l.map plW) ks = (keptW l ks).map plW := by
  induction l generalizing ks with
  | nil => simp [Pl.kept, keptW]
  | cons g l ih =>
    cases ks with
    | nil => simp [Pl.kept, keptW]
    | cons k ks =>
      rw [List.map_cons, Pl.kept, keptW, ih]
      cases k <;> simp
theorem pl_new (n : Nat) : plOf ⟨n, [], [], false, false, 0, 0, 0⟩ = Pl.new n := rfl
theorem pl_stE (r : Rd) (i : Int) : stE r i = (plOf r).stE i := rfl
theorem pl_stB (r : Rd) (i : Int) : stB r i = (plOf r).stB i := rfl
theorem pl_rdE (r : Rd) (i : Int) : rdE r i = (plOf r).rdE i := rfl
theorem pl_rdB (r : Rd) (i : Int) : rdB r i = (plOf r).rdB i := by
  unfold rdB Pl.rdB readOf plOf
  simp only [put_fold]
theorem pl_flE (r : Rd) : flE r = (plOf r).flE := rfl
theorem pl_flush (r : Rd) : plOf (flushR r) = (plOf r).flush := by
  cases r with
  | mk n S C off armed left wr fl =>
    cases off with
    | true => rfl
    | false => simp [flushR, Pl.flush, plOf, fold_stable]
theorem pl_arm (r : Rd) (z : Int) : plOf (armR r z) = (plOf r).armed z := by
  unfold armR Pl.armed plOf
  by_cases h : 0 ≤ z
  · have e : max z 0 = z := by omega
    simp [h, e]
  · simp [h]
theorem pl_crash (r : Rd) (ks : List Bool) : plOf (crashR r ks) = (plOf r).crash ks := by
  unfold crashR Pl.crash
  simp only [plOf, fold_stable, kept_map]
  rfl
theorem pl_wrE (r : Rd) (i : Int) (b : List UInt8) : wrE r i b = (plOf r).wrE i b := by
  unfold wrE Pl.wrE plOf
  cases r with
  | mk n S C off armed left wr fl => cases armed <;> simp
theorem pl_write {r r' : Rd} {i : Int} {b : List UInt8} (h : WrTo r i b r') : plOf r' = (plOf r).write i b := by
  cases r with
  | mk n S C off armed left wr fl =>
    unfold WrTo wrE at h
    unfold Pl.write
    cases off with
    | true =>
      rcases h with ⟨h1, _⟩ | ⟨_, h1, _⟩ | ⟨_, _, rfl⟩
      · simp at h1
      · cases h1
      · rfl
    | false =>
      cases hi : inR n i with
      | false =>
        rcases h with ⟨h1, _⟩ | ⟨h1, _, _⟩ | ⟨_, _, rfl⟩
        · simp [hi] at h1
        · simp [hi] at h1
        · simp [plOf, hi]
      | true =>
        by_cases hb : b.length = 512
        · cases armed with
          | false =>
            rcases h with ⟨_, g, e1, e2, rfl⟩ | ⟨h1, _, _⟩ | ⟨h1, _, _⟩
            · simp [plOf, hi, hb, plW, e1, e2]
            · simp [hi, hb] at h1
            · simp [hi, hb] at h1
          | true =>
            cases left with
            | zero =>
              rcases h with ⟨h1, _⟩ | ⟨_, _, rfl⟩ | ⟨_, h1, _⟩
              · simp [hi, hb] at h1
              · simp [plOf, hi, hb]
              · simp [hi, hb] at h1
            | succ k =>
              rcases h with ⟨_, g, e1, e2, rfl⟩ | ⟨h1, _, _⟩ | ⟨h1, _, _⟩
              · simp [plOf, hi, hb, plW, e1, e2, nextL]
              · simp [hi, hb] at h1
              · simp [hi, hb] at h1
        · rcases h with ⟨h1, _⟩ | ⟨h1, _, _⟩ | ⟨_, _, rfl⟩
          · simp [hi, hb] at h1
          · simp [hi, hb] at h1
          · simp [plOf, hi, hb]
/-- how much there may be -/
structure FewP (p : Pl) : Prop where
  n : p.n ≤ 4096
  ca : p.ca.length ≤ 1000000
  at_ : ∀ g ∈ p.ca, g.1 < p.n ∧ g.2.length = 512
  wr : p.wr ≤ 1000000
  fl : p.fl ≤ 1000000
end Go.Proofs.YthjdmfbengpepaaGreat
namespace Go.Proofs.YthjdmfbengpepaaGreat
open Go.RowKit

/-- how much there may be behind k calls -/
structure FewR (r : Rd) (k : Nat) : Prop where
  n : r.n ≤ 4096
  sc : r.S.length + r.C.length ≤ k
  at_ : ∀ g ∈ r.C, g.at_ < r.n ∧ g.b.length = 512
  wr : r.wr ≤ k
  fl : r.fl ≤ k
  left : r.left ≤ 9223372036854775807
theorem FewR.few {r : Rd} {k : Nat} (h : FewR r k) (hk : k ≤ 100000) : FewP (plOf r) := by
  obtain ⟨h1, h2, h3, h4, h5, _⟩ := h
  refine ⟨h1, ?_, ?_, ?_, ?_⟩
  · simp [plOf]; omega
  · intro g hg
    obtain ⟨x, hx, rfl⟩ := List.mem_map.1 hg
    exact h3 x hx
  · simp [plOf]; omega
  · simp [plOf]; omega
theorem FewR.more {r : Rd} {k : Nat} (h : FewR r k) : FewR r (k + 1) := by
  obtain ⟨h1, h2, h3, h4, h5, h6⟩ := h
  exact ⟨h1, by omega, h3, by omega, by omega, h6⟩
theorem FewR.flush {r : Rd} {k : Nat} (h : FewR r k) : FewR (flushR r) (k + 1) := by
  unfold flushR
  split
  · exact h.more
  · obtain ⟨h1, h2, h3, h4, h5, h6⟩ := h
    refine ⟨h1, ?_, fun g hg => (by cases hg), by show r.wr ≤ _; omega, by show r.fl + 1 ≤ _; omega, h6⟩
    have := fold_len r.C r.S
    show (List.foldl settleW r.S r.C).length + 0 ≤ _
    omega
theorem FewR.arm {r : Rd} {k : Nat} (h : FewR r k) (z : Int) (hz : z ≤ 9223372036854775807) : FewR (armR r z) (k + 1) := by
  obtain ⟨h1, h2, h3, h4, h5, h6⟩ := h
  refine ⟨h1, by show r.S.length + r.C.length ≤ _; omega, h3, by show r.wr ≤ _; omega, by show r.fl ≤ _; omega, by show (max z 0).toNat ≤ _; omega⟩
theorem FewR.crash {r : Rd} {k : Nat} (h : FewR r k) (ks : List Bool) : FewR (crashR r ks) (k + 1) := by
  obtain ⟨h1, h2, h3, h4, h5, h6⟩ := h
  refine ⟨h1, ?_, fun g hg => (by cases hg), by show r.wr ≤ _; omega, by show r.fl ≤ _; omega, by show 0 ≤ _; omega⟩
  have := fold_len (keptW r.C ks) r.S
  have := keptW_len r.C ks
  show (List.foldl settleW r.S (keptW r.C ks)).length + 0 ≤ _
  omega
theorem FewR.write {r r' : Rd} {i : Int} {b : List UInt8} {k : Nat} (h : FewR r k) (hw : WrTo r i b r') : FewR r' (k + 1) := by
  rcases hw with ⟨he, g, e1, e2, rfl⟩ | ⟨_, _, rfl⟩ | ⟨_, _, rfl⟩
  · obtain ⟨h1, h2, h3, h4, h5, h6⟩ := h
    refine ⟨h1, ?_, ?_, by show r.wr + 1 ≤ _; omega, by show r.fl ≤ _; omega, ?_⟩
    · show r.S.length + (r.C ++ [g]).length ≤ _
      rw [List.length_append]; simp only [List.length_cons, List.length_nil]; omega
    · intro x hx
      rcases List.mem_append.1 hx with hx | hx
      · exact h3 x hx
      · obtain rfl := List.mem_singleton.1 hx
        unfold wrE at he
        cases ho : r.off with
        | true => rw [ho] at he; simp at he
        | false =>
          cases hi : inR r.n i with
          | false => rw [ho, hi] at he; simp at he
          | true =>
            by_cases hb : b.length = 512
            · refine ⟨?_, by rw [e2]; exact hb⟩
              have := of_decide_eq_true hi
              show x.at_ < r.n
              omega
            · rw [ho, hi] at he; simp [hb] at he
    · show nextL r ≤ _
      unfold nextL; split <;> omega
  · obtain ⟨h1, h2, h3, h4, h5, h6⟩ := h
    exact ⟨h1, by show r.S.length + r.C.length ≤ _; omega, h3, by show r.wr ≤ _; omega, by show r.fl ≤ _; omega, h6⟩
  · exact h.more
end Go.Proofs.YthjdmfbengpepaaGreat
namespace Go.Proofs.YthjdmfbengpepaaGreat
open Go.RowKit
attribute [local go_sem ↓] Go.wp_at_zero Go.wp_at_succ

/-- a truth as the atomic's number -/
def flag (b : Bool) : Int := if b then 1 else 0

theorem b32 (b : Bool) (w : World) : Calls Tryz.prog 159 #[.bool b] w fun e w' => e = .returned (.int .u32 (flag b)) ∧ w' = w := by
  cases b
  all_goals
    go_enter Tryz.func159, Tryz.ntmps159
    go_wp2
    go_ret
    exact ⟨rfl, rfl⟩

theorem atLoadAt (B o : Nat) (f : Bool) (w : World) (h : w.cell? ⟨B, o, none⟩ = some (.int .u32 (flag f))) :
    Calls Tryz.prog 114 #[.pointer (some ⟨B, o, none⟩)] w fun e w' => e = .returned (.bool f) ∧ w' = w := by
  have hl := run_call_load (P := Tryz.prog) Tryz.func143 (by kernel_rfl) (by kernel_rfl) (by kernel_rfl) .u32 (by kernel_rfl) h
  cases f
  all_goals
    go_enter Tryz.func114, Tryz.ntmps114
    go_wp2
    go_ret
    exact ⟨rfl, rfl⟩

theorem atStoreAt (B o : Nat) (b : Bool) (v : Value) (w : World) (h : w.cell? ⟨B, o, none⟩ = some v) (hf : w.frozen? ⟨B, o, none⟩ = false) :
    Calls Tryz.prog 142 #[.pointer (some ⟨B, o, none⟩), .bool b] w fun e w' => e = .returned (.tuple #[]) ∧ w' = w.drew.setCell ⟨B, o, none⟩ (.int .u32 (flag b)) := by
  cases b
  · have hs := run_call_store (P := Tryz.prog) Tryz.func158 (by kernel_rfl) (by kernel_rfl) (by kernel_rfl) (by kernel_rfl) (k := .u32) (y := 0) (w := w.drew) (a := ⟨B, o, none⟩) (u := v) (by simpa using h) (by simpa using hf)
    go_enter Tryz.func142, Tryz.ntmps142
    go_wp2
    go_region_calls
    all_goals
      go_wp2
      go_end0
      exact ⟨rfl, rfl⟩
  · have hs := run_call_store (P := Tryz.prog) Tryz.func158 (by kernel_rfl) (by kernel_rfl) (by kernel_rfl) (by kernel_rfl) (k := .u32) (y := 1) (w := w.drew) (a := ⟨B, o, none⟩) (u := v) (by simpa using h) (by simpa using hf)
    go_enter Tryz.func142, Tryz.ntmps142
    go_wp2
    go_region_calls
    all_goals
      go_wp2
      go_end0
      exact ⟨rfl, rfl⟩

theorem at64Add (B o n : Nat) (w : World) (h : w.cell? ⟨B, o, none⟩ = some (.int .u64 (n : Int))) (hf : w.frozen? ⟨B, o, none⟩ = false) (hn : n ≤ 1000000000) :
    Calls Tryz.prog 152 #[.pointer (some ⟨B, o, none⟩), .int .u64 1] w fun e w' => e = .returned (.int .u64 ((n + 1 : Nat) : Int)) ∧ w' = w.setCell ⟨B, o, none⟩ (.int .u64 ((n + 1 : Nat) : Int)) := by
  have hs : (Op.intArith .add .u64 (n : Int) 1).run Tryz.prog w = .ok (.int .u64 ((n + 1 : Nat) : Int)) w := by
    have e : IntKind.u64.wrap ((n : Int) + 1) = ((n + 1 : Nat) : Int) := by
      have := wrap64_nat (n + 1) (by omega)
      rw [Int.natCast_add] at this ⊢
      exact this
    simp [Op.intArith, e]
  have hl := run_call_add (P := Tryz.prog) Tryz.func164 (by kernel_rfl) (by kernel_rfl) (by kernel_rfl) .u64 (by kernel_rfl) h hf hs
  generalize (n + 1 : Nat) = m at *
  clear hs hn
  go_enter Tryz.func152, Tryz.ntmps152
  go_wp2
  go_ret
  exact ⟨rfl, rfl⟩
end Go.Proofs.YthjdmfbengpepaaGreat
namespace Go.Proofs.YthjdmfbengpepaaGreat
open Go.RowKit

/-- the cells of one write -/
def wq (g : Nat × List UInt8) : List Value := .int .i64 (g.1 : Int) :: bv g.2
def wqs : List (Nat × List UInt8) → List Value
  | [] => []
  | g :: l => wq g ++ wqs l
def nthQ (l : List (Nat × List UInt8)) (i : Nat) : Nat × List UInt8 := l.getD i (0, [])
theorem nthQ_eq (l : List (Nat × List UInt8)) (i : Nat) (h : i < l.length) : nthQ l i = l[i] := by
  unfold nthQ; rw [List.getD_eq_getElem?_getD, List.getElem?_eq_getElem h]; rfl
theorem nthQ_mem (l : List (Nat × List UInt8)) (i : Nat) (h : i < l.length) : nthQ l i ∈ l := by rw [nthQ_eq l i h]; exact List.getElem_mem h
theorem wq_length {g : Nat × List UInt8} (h : g.2.length = 512) : (wq g).length = 513 := by simp only [wq, List.length_cons, bv_length, h]
theorem wqs_append (l m : List (Nat × List UInt8)) : wqs (l ++ m) = wqs l ++ wqs m := by
  induction l with
  | nil => rfl
  | cons p l ih => rw [List.cons_append, wqs, wqs, ih, List.append_assoc]
theorem wqs_length (l : List (Nat × List UInt8)) (h : ∀ g ∈ l, g.2.length = 512) : (wqs l).length = l.length * 513 := by
  induction l with
  | nil => rfl
  | cons p l ih =>
    rw [wqs, List.length_append, wq_length (h p (by simp)), ih (fun g hg => h g (by simp [hg])), List.length_cons]; omega
theorem wqs_at (l : List (Nat × List UInt8)) (h : ∀ g ∈ l, g.2.length = 512) (i j : Nat) (hi : i < l.length) (hj : j < 513) : (wqs l)[i * 513 + j]? = (wq (nthQ l i))[j]? := by
  induction l generalizing i with
  | nil => simp at hi
  | cons p l ih =>
    have hp := wq_length (h p (by simp))
    cases i with
    | zero =>
      rw [wqs, Nat.zero_mul, Nat.zero_add, List.getElem?_append_left (by omega)]
      rfl
    | succ i =>
      rw [wqs, List.getElem?_append_right (by omega), hp, show (i + 1) * 513 + j - 513 = i * 513 + j by omega]
      exact ih (fun g hg => h g (by simp [hg])) i (by simpa using hi)
theorem wq_one (g : Nat × List UInt8) : ∀ u ∈ wq g, u.oneCell' = true := by
  intro u hu
  rcases List.mem_cons.1 hu with rfl | hu
  · rfl
  · exact bv_one _ u hu

/-- the cells of the sectors -/
def stc (n : Nat) (st : Nat → List UInt8) : List Value := (List.range (n * 512)).map fun k => .int .u8 ((nth (st (k / 512)) (k % 512)).toNat : Int)
theorem stc_length (n : Nat) (st : Nat → List UInt8) : (stc n st).length = n * 512 := by simp [stc]
theorem stc_at (n : Nat) (st : Nat → List UInt8) (k : Nat) (h : k < n * 512) : (stc n st)[k]? = some (.int .u8 ((nth (st (k / 512)) (k % 512)).toNat : Int)) := by
  simp [stc, h]

/-- cells put in the place of others -/
def putL : List Value → Nat → List Value → List Value
  | cs, _, [] => cs
  | cs, o, v :: vs => putL (cs.set o v) (o + 1) vs
theorem putL_length (vs cs : List Value) (o : Nat) : (putL cs o vs).length = cs.length := by
  induction vs generalizing cs o with
  | nil => rfl
  | cons v vs ih => rw [putL, ih, List.length_set]
theorem putL_at (vs cs : List Value) (o k : Nat) (h : o + vs.length ≤ cs.length) : (putL cs o vs)[k]? = if o ≤ k ∧ k < o + vs.length then vs[k - o]? else cs[k]? := by
  induction vs generalizing cs o with
  | nil => rw [putL, if_neg (by simp <;> omega)]
  | cons v vs ih =>
    rw [List.length_cons] at h
    rw [putL, ih _ _ (by rw [List.length_set]; omega), List.length_cons]
    by_cases h1 : o + 1 ≤ k ∧ k < o + 1 + vs.length
    · rw [if_pos h1, if_pos (by omega), show k - o = (k - (o + 1)) + 1 by omega, List.getElem?_cons_succ]
    · rw [if_neg h1]
      by_cases h2 : k = o
      · subst h2
        rw [if_pos (by omega), Nat.sub_self, List.getElem?_cons_zero, List.getElem?_set_self (by omega)]
      · rw [if_neg (by omega), List.getElem?_set_ne (by omega)]
theorem Blk.setCells9 {B t : Nat} (vs : List Value) : ∀ {w : World} {cs : List Value} (o : Nat), Blk w B t cs → Blk (w.setCells B o vs) B t (putL cs o vs) := by
  induction vs with
  | nil => intro w cs o h; exact h
  | cons v vs ih => intro w cs o h; exact ih (o + 1) (h.set o v)
theorem gr_setCells (B : Nat) (vs : List Value) : ∀ (w : World) (o : Nat), w.grownBy (w.setCells B o vs) (some B) := by
  induction vs with
  | nil => intro w o; exact ⟨rfl, rfl, rfl, Nat.le_refl _, fun _ _ _ => rfl⟩
  | cons v vs ih =>
    intro w o
    have h1 : w.grownBy (w.setCell ⟨B, o, none⟩ v) (some B) := ⟨rfl, rfl, rfl, by simp [World.setCell], fun k _ hk => Below.heap_setCell _ _ _ _ (fun e => hk (by rw [e]))⟩
    exact h1.trans (ih (w.setCell ⟨B, o, none⟩ v) (o + 1))
theorem putL_stc (n : Nat) (st : Nat → List UInt8) (i : Nat) (b : List UInt8) (hi : i < n) (hb : b.length = 512) : putL (stc n st) (i * 512) (bv b) = stc n (Pl.put st (i, b)) := by
  apply List.ext_getElem?
  intro k
  have hfit : i * 512 + (bv b).length ≤ (stc n st).length := by
    rw [bv_length, hb, stc_length]
    have : (i + 1) * 512 ≤ n * 512 := Nat.mul_le_mul_right _ hi
    omega
  rw [putL_at _ _ _ _ hfit, bv_length, hb]
  by_cases hk : k < n * 512
  · rw [stc_at _ _ k hk, stc_at _ _ k hk]
    by_cases h1 : i * 512 ≤ k ∧ k < i * 512 + 512
    · have e1 : k / 512 = i := by omega
      have e2 : k - i * 512 = k % 512 := by omega
      rw [if_pos h1, e1, e2, bv_at _ _ (by rw [hb]; omega)]
      simp [Pl.put]
    · have e1 : ¬ i = k / 512 := by omega
      rw [if_neg h1]
      simp [Pl.put, e1]
  · have h2 : ¬ (i * 512 ≤ k ∧ k < i * 512 + 512) := by
      have : (i + 1) * 512 ≤ n * 512 := Nat.mul_le_mul_right _ hi
      omega
    have h3 : ∀ s2, (stc n s2)[k]? = none := fun s2 => List.getElem?_eq_none (by rw [stc_length]; exact Nat.le_of_not_lt hk)
    rw [if_neg h2, h3, h3]
theorem div512 (i j : Nat) (h : j < 512) : (i * 512 + j) / 512 = i := by omega
theorem mod512 (i j : Nat) (h : j < 512) : (i * 512 + j) % 512 = j := by omega
/-- a sector's cells in the block -/
theorem Blk.sector {w : World} {S t n : Nat} {st : Nat → List UInt8} (h : Blk w S t (stc n st)) (i : Nat) (hi : i < n) (hl : (st i).length = 512) : w.rangeAt S (i * 512) (bv (st i)) := by
  intro j v hv
  have hj : j < 512 := by
    have := (List.getElem?_eq_some_iff.1 hv).1
    rwa [bv_length, hl] at this
  have hk : i * 512 + j < n * 512 := by
    have : (i + 1) * 512 ≤ n * 512 := Nat.mul_le_mul_right _ hi
    omega
  rw [h.cell, stc_at _ _ _ hk, ← hv, div512 i j hj, mod512 i j hj, bv_at _ _ (by rw [hl]; exact hj)]
theorem Blk.there9 {w : World} {B t : Nat} {cs : List Value} (h : Blk w B t cs) (o m : Nat) (hm : o + m ≤ cs.length) : w.there B o m := fun j hj =>
  ⟨by rw [h.cell, List.getElem?_eq_getElem (by omega)]; rfl, h.frozen _⟩

/-- v owns the writes l -/
def OwnC (w : World) (base : Nat) (v : Value) (l : List (Nat × List UInt8)) : Prop := w.ownsRow base 208 513 v l.length (wqs l)
theorem OwnC.nil (w : World) (base : Nat) : OwnC w base (.slice none 0 0) [] := World.ownsRow_nil _ _ _ _
theorem OwnC.form {w : World} {base : Nat} {v : Value} {l : List (Nat × List UInt8)} (h : OwnC w base v l) (h5 : ∀ g ∈ l, g.2.length = 512) : ∃ a cap, v = .slice a l.length cap ∧ l.length ≤ cap ∧ cap ≤ maxLen ∧ (a = none → cap = 0) ∧
    (0 < l.length → ∃ g, a = some ⟨g, 0, none⟩ ∧ base ≤ g ∧ g < w.heap.size ∧ ∀ i, i < l.length → w.rangeAt g (i * 513) (wq (nthQ l i))) := by
  obtain ⟨h1, h2⟩ := h
  rcases h2 with ⟨rfl, h0⟩ | ⟨g, cap, cur, rfl, hb, hg, hle, hmax, hsz, htk⟩
  · have : l = [] := List.eq_nil_of_length_eq_zero h0
    subst this
    exact ⟨none, 0, rfl, Nat.le_refl _, Nat.zero_le _, fun _ => rfl, fun h => absurd h (Nat.lt_irrefl 0)⟩
  · refine ⟨_, cap, rfl, hle, hmax, fun e => (by cases e), fun hp => ⟨g, rfl, hb, (Array.getElem?_eq_some_iff.1 hg).1, fun i hi j u hu => ?_⟩⟩
    have hown : w.ownsRow base 208 513 (.slice (some ⟨g, 0, none⟩) l.length cap) l.length (wqs l) := ⟨h1, .inr ⟨g, cap, cur, rfl, hb, hg, hle, hmax, hsz, htk⟩⟩
    have hj : j < 513 := by
      have := (List.getElem?_eq_some_iff.1 hu).1
      rwa [wq_length (h5 _ (nthQ_mem l i hi))] at this
    have hk : i * 513 + j < l.length * 513 := by
      have : (i + 1) * 513 ≤ l.length * 513 := Nat.mul_le_mul_right _ hi
      omega
    rw [World.ownsRow.cellAt hown _ hk, wqs_at l h5 i j hi hj, hu]
/-- the disk's cells -/
def pdc (S : Nat) (vC : Value) (arm : Int) (p : Pl) : List Value := [.slice (some ⟨S, 0, none⟩) p.n p.n, vC, .int .i64 arm, .int .u32 (flag p.off), .int .u64 (p.wr : Int), .int .u64 (p.fl : Int)]
def armOf (arm : Int) : Option Nat := if 0 ≤ arm then some arm.toNat else none
/-- the disk at block P, its sectors in block S, its cache vC -/
structure IsPd (X : Nat → Prop) (w : World) (P base S : Nat) (vC : Value) (arm : Int) (p : Pl) : Prop where
  blk : Blk w P 133 (pdc S vC arm p)
  low : base ≤ P
  st : Blk w S 202 (stc p.n p.st)
  lowS : base ≤ S
  len : ∀ i, i < p.n → (p.st i).length = 512
  ca : OwnC w base vC p.ca
  armd : p.arm = armOf arm
  lo : -9223372036854775808 ≤ arm
  hi : arm ≤ 9223372036854775807
  pos : 0 < p.n
  xP : ¬ X P
  xS : ¬ X S
  xC : ∀ k, vC.ownBlock = some k → ¬ X k
  xlt : ∀ k, X k → k < w.heap.size
def IsD (X : Nat → Prop) (w : World) (P base : Nat) (p : Pl) : Prop := ∃ S vC arm, IsPd X w P base S vC arm p

theorem blk_ne {w : World} {B B' t t' : Nat} {cs cs' : List Value} (h : Blk w B t cs) (h' : Blk w B' t' cs') (ht : t ≠ t') : B ≠ B' := fun e => by
  subst e
  have := Option.some.inj (h.symm.trans h')
  injection this with _ e2 _
  exact ht e2
theorem own_ne {w : World} {B t : Nat} {cs : List Value} (h : Blk w B t cs) {e : TypeId} {base size n : Nat} {v : Value} {xs : List Value} (ho : w.ownsRow base e size v n xs) (ht : t ≠ e) : v.ownBlock = none ∨ v.ownBlock ≠ some B := by
  rcases ho.2 with ⟨rfl, _⟩ | ⟨g, cap, cur, rfl, _, hg, _⟩
  · exact .inl rfl
  · refine .inr fun e2 => ?_
    have e3 : g = B := by simpa [Value.ownBlock] using e2
    subst e3
    have := Option.some.inj (h.symm.trans hg)
    injection this with _ e4 _
    exact ht e4
theorem IsPd.keep {X : Nat → Prop} {w w' : World} {P base S : Nat} {vC : Value} {arm : Int} {p : Pl} (h : IsPd X w P base S vC arm p) {ts : List TypeId} (hk : KeepT ts w w') (h1 : 133 ∉ ts) (h2 : 202 ∉ ts) (h3 : 208 ∉ ts) : IsPd X w' P base S vC arm p :=
  { h with blk := hk.blk h.blk h1, st := hk.blk h.st h2, ca := own_keep hk h.ca h3, xlt := fun k hx => Nat.lt_of_lt_of_le (h.xlt k hx) hk.size }
theorem IsPd.on {X : Nat → Prop} {w w' : World} {P base S : Nat} {vC : Value} {arm : Int} {p : Pl} (h : IsPd X w P base S vC arm p) (hb : Below w.heap.size w w') : IsPd X w' P base S vC arm p := h.keep (ts := []) (KeepT.of_below hb) (by simp) (by simp) (by simp)
/-- another set of blocks that it leaves alone -/
theorem IsPd.more {X : Nat → Prop} {w : World} {P base S : Nat} {vC : Value} {arm : Int} {p : Pl} (h : IsPd X w P base S vC arm p) (Y : Nat → Prop) (hP : ¬ Y P) (hS : ¬ Y S) (hC : ∀ k, vC.ownBlock = some k → ¬ Y k) (hl : ∀ k, Y k → k < w.heap.size) : IsPd Y w P base S vC arm p :=
  { h with xP := hP, xS := hS, xC := hC, xlt := hl }
/-- the disk's own block is another one -/
theorem IsPd.turn {X : Nat → Prop} {w w' : World} {P base S : Nat} {vC : Value} {arm : Int} {p : Pl} (h : IsPd X w P base S vC arm p) (hg : w.grownBy w' (some P)) {vC' : Value} {arm' : Int} {p' : Pl} (hb : Blk w' P 133 (pdc S vC' arm' p')) (hn : p'.n = p.n) (hst : p'.st = p.st)
    (hca : OwnC w base vC' p'.ca) (hx : ∀ k, vC'.ownBlock = some k → ¬ X k) (ha : p'.arm = armOf arm') (hlo : -9223372036854775808 ≤ arm') (hhi : arm' ≤ 9223372036854775807) : IsPd X w' P base S vC' arm' p' :=
  { blk := hb, low := h.low, st := by rw [hn, hst]; exact (hg.block S h.st.lt (fun e => blk_ne h.blk h.st (by decide) (Option.some.inj e).symm)).trans h.st, lowS := h.lowS, len := by rw [hn, hst]; exact h.len
    ca := World.ownsRow.kept hca hg (own_ne h.blk hca (by decide)), armd := ha, lo := hlo, hi := hhi, pos := by rw [hn]; exact h.pos, xP := h.xP, xS := h.xS, xC := hx, xlt := fun k hk => Nat.lt_of_lt_of_le (h.xlt k hk) hg.size }
/-- one sector is another one -/
theorem IsPd.settle {X : Nat → Prop} {w : World} {P base S : Nat} {vC : Value} {arm : Int} {p : Pl} (h : IsPd X w P base S vC arm p) (g : Nat × List UInt8) (hi : g.1 < p.n) (hb : g.2.length = 512) : IsPd X (w.setCells S (g.1 * 512) (bv g.2)) P base S vC arm { p with st := Pl.put p.st g } :=
  { h with
    blk := ((gr_setCells S _ w _).block P h.blk.lt (fun e => blk_ne h.blk h.st (by decide) (Option.some.inj e))).trans h.blk
    st := by have := h.st.setCells9 (bv g.2) (g.1 * 512); rw [putL_stc p.n p.st g.1 g.2 hi hb] at this; exact this
    len := fun i hn => by
      show (Pl.put p.st g i).length = 512
      unfold Pl.put
      split
      · exact hb
      · exact h.len i hn
    ca := World.ownsRow.kept h.ca (gr_setCells S _ w _) (own_ne h.st h.ca (by decide))
    xlt := fun k hk => Nat.lt_of_lt_of_le (h.xlt k hk) (gr_setCells S _ w _).size }

/-- the blocks X stay -/
structure KeepB (X : Nat → Prop) (w w' : World) : Prop where
  size : w.heap.size ≤ w'.heap.size
  x : ∀ k, X k → k < w.heap.size → w'.heap[k]? = w.heap[k]?
theorem KeepB.of_below {X : Nat → Prop} {w w' : World} (h : Below w.heap.size w w') : KeepB X w w' := ⟨h.size, fun k _ hk => h.5 k hk⟩
theorem KeepB.refl (X : Nat → Prop) (w : World) : KeepB X w w := KeepB.of_below (Below.refl _ w)
theorem KeepB.trans {X : Nat → Prop} {a b c : World} (h : KeepB X a b) (k : KeepB X b c) : KeepB X a c := ⟨Nat.le_trans h.size k.size, fun i hi hl => (k.x i hi (Nat.lt_of_lt_of_le hl h.size)).trans (h.x i hi hl)⟩
theorem KeepB.less {X Y : Nat → Prop} {w w' : World} (h : KeepB X w w') (hy : ∀ k, Y k → X k) : KeepB Y w w' := ⟨h.size, fun k hk => h.x k (hy k hk)⟩
/-- what one block's turning keeps -/
theorem KeepB.one {X : Nat → Prop} {w w' : World} {B : Nat} (hg : w.grownBy w' (some B)) (hx : ¬ X B) : KeepB X w w' :=
  ⟨hg.size, fun k hk hl => hg.block k hl (fun e => hx ((Option.some.inj e) ▸ hk))⟩
theorem KeepB.none {X : Nat → Prop} {w w' : World} (hg : w.grownBy w' none) : KeepB X w w' := ⟨hg.size, fun k _ hl => hg.block k hl (by simp)⟩
theorem bel_one {w w' : World} {B base : Nat} (hg : w.grownBy w' (some B)) (hb : base ≤ B) (hl : B < w.heap.size) : Below base w w' :=
  (Below.refl _ w).grown hg (by omega) (fun k e => by have := Option.some.inj e; omega)
end Go.Proofs.YthjdmfbengpepaaGreat
namespace Go.Proofs.YthjdmfbengpepaaGreat
open Go.RowKit

abbrev RD : List TypeId := [81, 88]
/-- the document's disk, none of whose blocks that it turns is of X -/
def IsRk (X : Nat → Prop) (w : World) (D base m : Nat) (p : Pl) : Prop :=
  ∃ r vS vC, IsRD w D base r vS vC ∧ plOf r = p ∧ FewR r m ∧ ¬ X D ∧ (∀ k, vS.ownBlock = some k ∨ vC.ownBlock = some k → ¬ X k) ∧ (∀ k, X k → k < w.heap.size)
theorem IsRk.keep {X : Nat → Prop} {w w' : World} {D base m : Nat} {p : Pl} (h : IsRk X w D base m p) {ts : List TypeId} (hk : KeepT ts w w') (h1 : 81 ∉ ts) (h2 : 88 ∉ ts) (h3 : 5 ∉ ts) : IsRk X w' D base m p := by
  obtain ⟨r, vS, vC, a, b, c, d, e, f⟩ := h
  exact ⟨r, vS, vC, a.keep hk h1 h2 h3, b, c, d, e, fun k hx => Nat.lt_of_lt_of_le (f k hx) hk.size⟩
theorem IsRk.on {X : Nat → Prop} {w w' : World} {D base m : Nat} {p : Pl} (h : IsRk X w D base m p) (hb : Below w.heap.size w w') : IsRk X w' D base m p := h.keep (ts := []) (KeepT.of_below hb) (by simp) (by simp) (by simp)
theorem IsRk.thin {X Y : Nat → Prop} {w : World} {D base m : Nat} {p : Pl} (h : IsRk Y w D base m p) (hy : ∀ k, X k → Y k) : IsRk X w D base m p := by
  obtain ⟨r, vS, vC, a, b, c, d, e, f⟩ := h
  exact ⟨r, vS, vC, a, b, c, fun hx => d (hy _ hx), fun k hk hx => e k hk (hy _ hx), fun k hx => f k (hy _ hx)⟩
/-- blocks that came since are none of its -/
theorem IsRk.wider {X Y : Nat → Prop} {w w' : World} {D base m : Nat} {p : Pl} (h : IsRk X w D base m p) (hb : Below w.heap.size w w') (hy : ∀ k, Y k → (X k ∨ w.heap.size ≤ k) ∧ k < w'.heap.size) : IsRk Y w' D base m p := by
  obtain ⟨r, vS, vC, a, b, c, d, e, f⟩ := h
  refine ⟨r, vS, vC, a.on hb, b, c, fun hx => ?_, fun k hk hx => ?_, fun k hx => (hy k hx).2⟩
  · rcases (hy _ hx).1 with h1 | h1
    · exact d h1
    · have := a.blk.lt; omega
  · rcases (hy _ hx).1 with h1 | h1
    · exact e k hk h1
    · rcases hk with hk | hk
      · have := (a.ownS.blk k hk).2; omega
      · have := (a.ownC.blk k hk).2; omega
theorem IsRk.more {X : Nat → Prop} {w : World} {D base m n : Nat} {p : Pl} (h : IsRk X w D base m p) (hn : m ≤ n) : IsRk X w D base n p := by
  obtain ⟨r, vS, vC, a, b, ⟨c1, c2, c3, c4, c5, c6⟩, d⟩ := h
  exact ⟨r, vS, vC, a, b, ⟨c1, by omega, c3, by omega, by omega, c6⟩, d⟩
theorem IsRk.few {X : Nat → Prop} {w : World} {D base m : Nat} {p : Pl} (h : IsRk X w D base m p) (hm : m ≤ 100000) : FewP p := by
  obtain ⟨r, vS, vC, a, b, c, d⟩ := h
  rw [← b]; exact c.few hm
theorem IsRk.low {X : Nat → Prop} {w : World} {D base m : Nat} {p : Pl} (h : IsRk X w D base m p) : base ≤ w.heap.size := by
  obtain ⟨r, vS, vC, a, _⟩ := h
  have := a.low
  have := a.blk.lt
  omega
theorem IsRk.cellN {X : Nat → Prop} {w : World} {D base m : Nat} {p : Pl} (h : IsRk X w D base m p) : w.cell? ⟨D, 0, none⟩ = some (.int .i64 (p.n : Int)) := by
  obtain ⟨r, vS, vC, a, b, _⟩ := h
  rw [← b]; exact a.blk.cell 0

theorem rkRead {X : Nat → Prop} (D base m : Nat) (p : Pl) (i : Int) (w : World) (h : IsRk X w D base m p) (hm : m ≤ 100000) :
    Calls Tryz.prog 36 #[.pointer (some ⟨D, 0, none⟩), .int .i64 i] w fun e w' => ∃ v, e = .returned (.tuple #[v, .int .i64 (p.rdE i)]) ∧ OwnB w' w.heap.size v (p.rdB i) ∧ Below w.heap.size w w' := by
  obtain ⟨r, vS, vC, a, rfl, c, _⟩ := h
  rw [← pl_rdE, ← pl_rdB]
  exact refRead9 D base r vS vC i w a (by have := c.sc; unfold Few; omega)
theorem rkStable {X : Nat → Prop} (D base m : Nat) (p : Pl) (i : Int) (w : World) (h : IsRk X w D base m p) (hm : m ≤ 100000) :
    Calls Tryz.prog 86 #[.pointer (some ⟨D, 0, none⟩), .int .i64 i] w fun e w' => ∃ v, e = .returned (.tuple #[v, .int .i64 (p.stE i)]) ∧ OwnB w' w.heap.size v (p.stB i) ∧ Below w.heap.size w w' := by
  obtain ⟨r, vS, vC, a, rfl, c, _⟩ := h
  rw [← pl_stE, ← pl_stB]
  exact refStable9 D base r vS vC i w a (by have := c.sc; unfold Few; omega)
theorem rkWrite {X : Nat → Prop} (D base m : Nat) (p : Pl) (i : Int) (ba : Option Addr) (bc : Nat) (b : List UInt8) (w : World) (h : IsRk X w D base m p) (hm : m ≤ 100000) (hl : b.length ≤ 140737488351232)
    (hB : ∀ W, KeepT RD w W → Below base w W → IsB W ba b.length bc b) :
    Calls Tryz.prog 38 #[.pointer (some ⟨D, 0, none⟩), .int .i64 i, .slice ba b.length bc] w fun e w' => e = .returned (.int .i64 (p.wrE i b)) ∧ IsRk X w' D base (m + 1) (p.write i b) ∧ KeepT RD w w' ∧ KeepB X w w' ∧ Below base w w' := by
  obtain ⟨r, vS, vC, a, rfl, c, d, e, f⟩ := h
  have H := refWrite9E D base r vS vC i ba bc b w a (by have := c.sc; omega) (by have := c.wr; omega) c.left (fun W hW => hB W (hW.toT a.eC)) hl
  rw [pl_wrE] at H
  refine H.mono ?_
  rintro e2 w' ⟨h1, ⟨r', vC', h2, h3, h6⟩, h4, h5⟩
  have hx : KeepB X w w' := ⟨h4.size, fun k hk hl2 => h4.same k hl2 (fun e3 => e3.elim (fun e3 => d (e3 ▸ hk)) (fun e3 => e k (.inr e3) hk))⟩
  refine ⟨h1, ⟨r', vS, vC', h2, pl_write h3, c.write h3, d, fun k hk hx2 => ?_, fun k hx2 => Nat.lt_of_lt_of_le (f k hx2) h4.size⟩, h4.toT a.eC, hx, h5⟩
  rcases hk with hk | hk
  · exact e k (.inl hk) hx2
  · rcases h6 k hk with h7 | h7
    · exact e k (.inr h7) hx2
    · have := f k hx2; omega
theorem rkFlush {X : Nat → Prop} (D base m : Nat) (p : Pl) (w : World) (h : IsRk X w D base m p) (hm : m ≤ 100000) :
    Calls Tryz.prog 39 #[.pointer (some ⟨D, 0, none⟩)] w fun e w' => e = .returned (.int .i64 p.flE) ∧ IsRk X w' D base (m + 1) p.flush ∧ KeepT RD w w' ∧ KeepB X w w' ∧ Below base w w' := by
  obtain ⟨r, vS, vC, a, rfl, c, d, e, f⟩ := h
  have H := refFlush9E D base r vS vC w a (by have := c.sc; omega) (by have := c.fl; omega)
  rw [pl_flE] at H
  refine H.mono ?_
  rintro e2 w' ⟨h1, ⟨vS', h2, h6⟩, h4, h5⟩
  have hx : KeepB X w w' := ⟨h4.size, fun k hk hl2 => h4.same k hl2 (fun e3 => d (e3 ▸ hk))⟩
  refine ⟨h1, ⟨flushR r, vS', _, h2, pl_flush r, c.flush, d, fun k hk hx2 => ?_, fun k hx2 => Nat.lt_of_lt_of_le (f k hx2) h4.size⟩, h4.toT a.eD, hx, h5⟩
  rcases hk with hk | hk
  · rcases h6 k hk with h7 | h7
    · exact e k (.inl h7) hx2
    · have := f k hx2; omega
  · unfold fluC at hk
    split at hk
    · exact e k (.inr hk) hx2
    · cases hk
end Go.Proofs.YthjdmfbengpepaaGreat
