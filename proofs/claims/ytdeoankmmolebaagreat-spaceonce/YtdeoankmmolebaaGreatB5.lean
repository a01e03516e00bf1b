/- A disk, plain: how it stands, whatever holds it; the document's disk stands so. · How much the document's disk may hold. · sync/atomic's truths and numbers, at whatever cell. -/
import Derived.Test.YtdeoankmmolebaaGreatDk7
import Derived.Test.YtdeoankmmolebaaGreatB0
import Derived.Laws.LoneSync
import Derived.RegionCalls
namespace Go.Proofs.YtdeoankmmolebaaGreat
open Go.RowKit

structure Pl where
  n : Nat
  st : Nat → List UInt8
  ca : List (Nat × List UInt8)
  off : Bool
  arm : Option Nat
  wr : Nat
  fl : Nat
namespace Pl
def new (n : Nat) : Pl := ⟨n, fun _ => zero512, [], false, none, 0, 0⟩
def put (st : Nat → List UInt8) (g : Nat × List UInt8) : Nat → List UInt8 := fun i => if g.1 = i then g.2 else st i
def kept : List (Nat × List UInt8) → List Bool → List (Nat × List UInt8)
  | g :: l, k :: ks => if k = true then g :: kept l ks else kept l ks
  | _, _ => []
def stE (p : Pl) (i : Int) : Int := if inR p.n i = true then 0 else 50
def stB (p : Pl) (i : Int) : List UInt8 := if inR p.n i = true then p.st i.toNat else []
def rdE (p : Pl) (i : Int) : Int := if p.off = true then 51 else p.stE i
def rdB (p : Pl) (i : Int) : List UInt8 := if p.off = true then [] else if inR p.n i = true then p.ca.foldl put p.st i.toNat else []
def wrE (p : Pl) (i : Int) (b : List UInt8) : Int := if p.off = true then 51 else if inR p.n i = false then 50 else if b.length ≠ 512 then 1 else if p.arm = some 0 then 51 else 0
def write (p : Pl) (i : Int) (b : List UInt8) : Pl :=
  if p.off = true then p else if inR p.n i = false then p else if b.length ≠ 512 then p else if p.arm = some 0 then { p with off := true } else { p with arm := p.arm.map (· - 1), wr := p.wr + 1, ca := p.ca ++ [(i.toNat, b)] }
def flE (p : Pl) : Int := if p.off = true then 51 else 0
def flush (p : Pl) : Pl := if p.off = true then p else { p with st := p.ca.foldl put p.st, ca := [], fl := p.fl + 1 }
def armed (p : Pl) (z : Int) : Pl := { p with arm := if 0 ≤ z then some z.toNat else none }
def crash (p : Pl) (ks : List Bool) : Pl := { p with st := (kept p.ca ks).foldl put p.st, ca := [], off := false, arm := none }
end Pl
def plW (g : Wg) : Nat × List UInt8 := (g.at_, g.b)
def plOf (r : Rd) : Pl := ⟨r.n, stableOf r.S, r.C.map plW, r.off, if r.armed = true then some r.left else none, r.wr, r.fl⟩

theorem put_fold (l : List Wg) (st : Nat → List UInt8) (i : Nat) : (l.map plW).foldl Pl.put st i = (lastW l i).getD (st i) := by
  induction l generalizing st with
  | nil => rfl
  | cons g l ih =>
    rw [List.map_cons, List.foldl_cons, ih, lastW]
    cases lastW l i with
    | some b => rfl
    | none =>
      by_cases h : g.at_ = i
      · simp [Pl.put, plW, h]
      · simp [Pl.put, plW, h]
theorem fold_stable (l S : List Wg) : stableOf (l.foldl settleW S) = (l.map plW).foldl Pl.put (stableOf S) := funext fun i => by rw [stable_foldl, put_fold]
theorem kept_map (l : List Wg) (ks : List Bool) : Pl.kept (l.map plW) ks = (keptW l ks).map plW := by
  induction l generalizing ks with
  | nil => simp [Pl.kept, keptW]
  | cons g l ih =>
    cases ks with
    | nil => simp [Pl.kept, keptW]
    | cons k ks =>
      rw [List.map_cons, Pl.kept, keptW, ih]
      cases k <;> simp
theorem pl_new (n : Nat) : plOf ⟨n, [], [], false, false, 0, 0, 0⟩ = Pl.new n := rfl
theorem pl_stE (r : Rd) (i : Int) : stE r i = (plOf r).stE i := rfl
theorem pl_stB (r : Rd) (i : Int) : stB r i = (plOf r).stB i := rfl
theorem pl_rdE (r : Rd) (i : Int) : rdE r i = (plOf r).rdE i := rfl
theorem pl_rdB (r : Rd) (i : Int) : rdB r i = (plOf r).rdB i := by
  unfold rdB Pl.rdB readOf plOf
  simp only [put_fold]
theorem pl_flE (r : Rd) : flE r = (plOf r).flE := rfl
theorem pl_flush (r : Rd) : plOf (flushR r) = (plOf r).flush := by
  cases r with
  | mk n S C off armed left wr fl =>
    cases off with
    | true => rfl
    | false => simp [flushR, Pl.flush, plOf, fold_stable]
theorem pl_arm (r : Rd) (z : Int) : plOf (armR r z) = (plOf r).armed z := by
  unfold armR Pl.armed plOf
  by_cases h : 0 ≤ z
  · have e : max z 0 = z := by omega
    simp [h, e]
  · simp [h]
theorem pl_crash (r : Rd) (ks : List Bool) : plOf (crashR r ks) = (plOf r).crash ks := by
  unfold crashR Pl.crash
  simp only [plOf, fold_stable, kept_map]
  rfl
theorem pl_wrE (r : Rd) (i : Int) (b : List UInt8) : wrE r i b = (plOf r).wrE i b := by
  unfold wrE Pl.wrE plOf
  cases r with
  | mk n S C off armed left wr fl => cases armed <;> simp
theorem pl_write {r r' : Rd} {i : Int} {b : List UInt8} (h : WrTo r i b r') : plOf r' = (plOf r).write i b := by
  cases r with
  | mk n S C off armed left wr fl =>
    unfold WrTo wrE at h
    unfold Pl.write
    cases off with
    | true =>
      rcases h with ⟨h1, _⟩ | ⟨_, h1, _⟩ | ⟨_, _, rfl⟩
      · simp at h1
      · cases h1
      · rfl
    | false =>
      cases hi : inR n i with
      | false =>
        rcases h with ⟨h1, _⟩ | ⟨h1, _, _⟩ | ⟨_, _, rfl⟩
        · simp [hi] at h1
        · simp [hi] at h1
        · simp [plOf, hi]
      | true =>
        by_cases hb : b.length = 512
        · cases armed with
          | false =>
            rcases h with ⟨_, g, e1, e2, rfl⟩ | ⟨h1, _, _⟩ | ⟨h1, _, _⟩
            · simp [plOf, hi, hb, plW, e1, e2]
            · simp [hi, hb] at h1
            · simp [hi, hb] at h1
          | true =>
            cases left with
            | zero =>
              rcases h with ⟨h1, _⟩ | ⟨_, _, rfl⟩ | ⟨_, h1, _⟩
              · simp [hi, hb] at h1
              · simp [plOf, hi, hb]
              · simp [hi, hb] at h1
            | succ k =>
              rcases h with ⟨_, g, e1, e2, rfl⟩ | ⟨h1, _, _⟩ | ⟨h1, _, _⟩
              · simp [plOf, hi, hb, plW, e1, e2, nextL]
              · simp [hi, hb] at h1
              · simp [hi, hb] at h1
        · rcases h with ⟨h1, _⟩ | ⟨h1, _, _⟩ | ⟨_, _, rfl⟩
          · simp [hi, hb] at h1
          · simp [hi, hb] at h1
          · simp [plOf, hi, hb]
/-- how much there may be -/
structure FewP (p : Pl) : Prop where
  n : p.n ≤ 4096
  ca : p.ca.length ≤ 1000000
  at_ : ∀ g ∈ p.ca, g.1 < p.n ∧ g.2.length = 512
  wr : p.wr ≤ 1000000
  fl : p.fl ≤ 1000000
end Go.Proofs.YtdeoankmmolebaaGreat
namespace Go.Proofs.YtdeoankmmolebaaGreat
open Go.RowKit

/-- how much there may be behind k calls -/
structure FewR (r : Rd) (k : Nat) : Prop where
  n : r.n ≤ 4096
  sc : r.S.length + r.C.length ≤ k
  at_ : ∀ g ∈ r.C, g.at_ < r.n ∧ g.b.length = 512
  wr : r.wr ≤ k
  fl : r.fl ≤ k
  left : r.left ≤ 9223372036854775807
theorem FewR.few {r : Rd} {k : Nat} (h : FewR r k) (hk : k ≤ 100000) : FewP (plOf r) := by
  obtain ⟨h1, h2, h3, h4, h5, _⟩ := h
  refine ⟨h1, ?_, ?_, ?_, ?_⟩
  · simp [plOf]; omega
  · intro g hg
    obtain ⟨x, hx, rfl⟩ := List.mem_map.1 hg
    exact h3 x hx
  · simp [plOf]; omega
  · simp [plOf]; omega
theorem FewR.more {r : Rd} {k : Nat} (h : FewR r k) : FewR r (k + 1) := by
  obtain ⟨h1, h2, h3, h4, h5, h6⟩ := h
  exact ⟨h1, by omega, h3, by omega, by omega, h6⟩
theorem FewR.flush {r : Rd} {k : Nat} (h : FewR r k) : FewR (flushR r) (k + 1) := by
  unfold flushR
  split
  · exact h.more
  · obtain ⟨h1, h2, h3, h4, h5, h6⟩ := h
    refine ⟨h1, ?_, fun g hg => (by cases hg), by show r.wr ≤ _; omega, by show r.fl + 1 ≤ _; omega, h6⟩
    have := fold_len r.C r.S
    show (List.foldl settleW r.S r.C).length + 0 ≤ _
    omega
theorem FewR.arm {r : Rd} {k : Nat} (h : FewR r k) (z : Int) (hz : z ≤ 9223372036854775807) : FewR (armR r z) (k + 1) := by
  obtain ⟨h1, h2, h3, h4, h5, h6⟩ := h
  refine ⟨h1, by show r.S.length + r.C.length ≤ _; omega, h3, by show r.wr ≤ _; omega, by show r.fl ≤ _; omega, by show (max z 0).toNat ≤ _; omega⟩
theorem FewR.crash {r : Rd} {k : Nat} (h : FewR r k) (ks : List Bool) : FewR (crashR r ks) (k + 1) := by
  obtain ⟨h1, h2, h3, h4, h5, h6⟩ := h
  refine ⟨h1, ?_, fun g hg => (by cases hg), by show r.wr ≤ _; omega, by show r.fl ≤ _; omega, by show 0 ≤ _; omega⟩
  have := fold_len (keptW r.C ks) r.S
  have := keptW_len r.C ks
  show (List.foldl settleW r.S (keptW r.C ks)).length + 0 ≤ _
  omega
theorem FewR.write {r r' : Rd} {i : Int} {b : List UInt8} {k : Nat} (h : FewR r k) (hw : WrTo r i b r') : FewR r' (k + 1) := by
  rcases hw with ⟨he, g, e1, e2, rfl⟩ | ⟨_, _, rfl⟩ | ⟨_, _, rfl⟩
  · obtain ⟨h1, h2, h3, h4, h5, h6⟩ := h
    refine ⟨h1, ?_, ?_, by show r.wr + 1 ≤ _; omega, by show r.fl ≤ _; omega, ?_⟩
    · show r.S.length + (r.C ++ [g]).length ≤ _
      rw [List.length_append]; simp only [List.length_cons, List.length_nil]; omega
    · intro x hx
      rcases List.mem_append.1 hx with hx | hx
      · exact h3 x hx
      · obtain rfl := List.mem_singleton.1 hx
        unfold wrE at he
        cases ho : r.off with
        | true => rw [ho] at he; simp at he
        | false =>
          cases hi : inR r.n i with
          | false => rw [ho, hi] at he; simp at he
          | true =>
            by_cases hb : b.length = 512
            · refine ⟨?_, by rw [e2]; exact hb⟩
              have := of_decide_eq_true hi
              show x.at_ < r.n
              omega
            · rw [ho, hi] at he; simp [hb] at he
    · show nextL r ≤ _
      unfold nextL; split <;> omega
  · obtain ⟨h1, h2, h3, h4, h5, h6⟩ := h
    exact ⟨h1, by show r.S.length + r.C.length ≤ _; omega, h3, by show r.wr ≤ _; omega, by show r.fl ≤ _; omega, h6⟩
  · exact h.more
end Go.Proofs.YtdeoankmmolebaaGreat
namespace Go.Proofs.YtdeoankmmolebaaGreat
open Go.RowKit
attribute [local go_sem ↓] Go.wp_at_zero Go.wp_at_succ

/-- a truth as the atomic's number -/
def flag (b : Bool) : Int := if b then 1 else 0

theorem b32 (b : Bool) (w : World) : Calls Tryz.prog 125 #[.bool b] w fun e w' => e = .returned (.int .u32 (flag b)) ∧ w' = w := by
  cases b
  all_goals
    go_enter Tryz.func125, Tryz.ntmps125
    go_wp2
    go_ret
    exact ⟨rfl, rfl⟩

theorem atLoadAt (B o : Nat) (f : Bool) (w : World) (h : w.cell? ⟨B, o, none⟩ = some (.int .u32 (flag f))) :
    Calls Tryz.prog 86 #[.pointer (some ⟨B, o, none⟩)] w fun e w' => e = .returned (.bool f) ∧ w' = w := by
  have hl := run_call_load (P := Tryz.prog) Tryz.func112 (by kernel_rfl) (by kernel_rfl) (by kernel_rfl) .u32 (by kernel_rfl) h
  cases f
  all_goals
    go_enter Tryz.func86, Tryz.ntmps86
    go_wp2
    go_ret
    exact ⟨rfl, rfl⟩

theorem atStoreAt (B o : Nat) (b : Bool) (v : Value) (w : World) (h : w.cell? ⟨B, o, none⟩ = some v) (hf : w.frozen? ⟨B, o, none⟩ = false) :
    Calls Tryz.prog 103 #[.pointer (some ⟨B, o, none⟩), .bool b] w fun e w' => e = .returned (.tuple #[]) ∧ w' = w.drew.setCell ⟨B, o, none⟩ (.int .u32 (flag b)) := by
  cases b
  · have hs := run_call_store (P := Tryz.prog) Tryz.func124 (by kernel_rfl) (by kernel_rfl) (by kernel_rfl) (by kernel_rfl) (k := .u32) (y := 0) (w := w.drew) (a := ⟨B, o, none⟩) (u := v) (by simpa using h) (by simpa using hf)
    go_enter Tryz.func103, Tryz.ntmps103
    go_wp2
    go_region_calls
    all_goals
      go_wp2
      go_end0
      exact ⟨rfl, rfl⟩
  · have hs := run_call_store (P := Tryz.prog) Tryz.func124 (by kernel_rfl) (by kernel_rfl) (by kernel_rfl) (by kernel_rfl) (k := .u32) (y := 1) (w := w.drew) (a := ⟨B, o, none⟩) (u := v) (by simpa using h) (by simpa using hf)
    go_enter Tryz.func103, Tryz.ntmps103
    go_wp2
    go_region_calls
    all_goals
      go_wp2
      go_end0
      exact ⟨rfl, rfl⟩

theorem at64Add (B o n : Nat) (w : World) (h : w.cell? ⟨B, o, none⟩ = some (.int .u64 (n : Int))) (hf : w.frozen? ⟨B, o, none⟩ = false) (hn : n ≤ 1000000000) :
    Calls Tryz.prog 104 #[.pointer (some ⟨B, o, none⟩), .int .u64 1] w fun e w' => e = .returned (.int .u64 ((n + 1 : Nat) : Int)) ∧ w' = w.setCell ⟨B, o, none⟩ (.int .u64 ((n + 1 : Nat) : Int)) := by
  have hs : (Op.intArith .add .u64 (n : Int) 1).run Tryz.prog w = .ok (.int .u64 ((n + 1 : Nat) : Int)) w := by
    have e : IntKind.u64.wrap ((n : Int) + 1) = ((n + 1 : Nat) : Int) := by
      have := wrap64_nat (n + 1) (by omega)
      rw [Int.natCast_add] at this ⊢
      exact this
    simp [Op.intArith, e]
  have hl := run_call_add (P := Tryz.prog) Tryz.func126 (by kernel_rfl) (by kernel_rfl) (by kernel_rfl) .u64 (by kernel_rfl) h hf hs
  generalize (n + 1 : Nat) = m at *
  clear hs hn
  go_enter Tryz.func104, Tryz.ntmps104
  go_wp2
  go_ret
  exact ⟨rfl, rfl⟩
end Go.Proofs.YtdeoankmmolebaaGreat
