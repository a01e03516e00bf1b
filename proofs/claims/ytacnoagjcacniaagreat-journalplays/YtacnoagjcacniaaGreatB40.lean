/- sync.Once and its lock, in one goroutine. · The program's transaction: commit, the first time. -/
import Derived.Test.YtacnoagjcacniaaGreatB31
import Derived.Defers
import Derived.Laws.Pointers
import Derived.Laws.NewBlocks
import Derived.ChangeAlike
import Derived.Test.YtacnoagjcacniaaGreatB39
import Derived.Test.YtacnoagjcacniaaGreatB35
namespace Go.Proofs.YtacnoagjcacniaaGreat
open Go.RowKit

theorem rcDisable (w : World) : (callFunc 133 #[]).run Tryz.prog w = .ok (.value (.tuple #[])) w := run_call_mark0 Tryz.func133 (by kernel_rfl) (by kernel_rfl) (by kernel_rfl) .disable (by kernel_rfl) w
theorem rcEnable (w : World) : (callFunc 135 #[]).run Tryz.prog w = .ok (.value (.tuple #[])) w := run_call_mark0 Tryz.func135 (by kernel_rfl) (by kernel_rfl) (by kernel_rfl) .enable (by kernel_rfl) w
theorem rcAcquire (a : Addr) (w : World) : (callFunc 136 #[.pointer (some a)]).run Tryz.prog w = .ok (.value (.tuple #[])) w := run_call_marked Tryz.func136 (by kernel_rfl) (by kernel_rfl) (by kernel_rfl) .acquire (by kernel_rfl) a w
theorem rcMerge (a : Addr) (w : World) : (callFunc 138 #[.pointer (some a)]).run Tryz.prog w = .ok (.value (.tuple #[])) w := run_call_marked Tryz.func138 (by kernel_rfl) (by kernel_rfl) (by kernel_rfl) .releaseMerge (by kernel_rfl) a w

set_option maxRecDepth 100000 in
theorem mxLock (a : Addr) (w : World) (hc : w.cell? a = some (.int .i32 0)) (hz : w.frozen? a = false) :
    Calls Tryz.prog 88 #[.pointer (some a)] w fun e w' => e = .returned (.tuple #[]) ∧ w' = w.setCell a (.int .i32 1) := by
  have hd := rcDisable
  have he := rcEnable
  have ha := rcAcquire
  have hcas := run_call_cas_hit (P := Tryz.prog) Tryz.func134 (by kernel_rfl) (by kernel_rfl) (by kernel_rfl) .i32 (by kernel_rfl) (y := 1) hc hz
  have hc' : (w.setCell a (.int .i32 1)).cell? a = some (.int .i32 1) := World.cell?_setCell_same w a _ hc
  have hcv := run_convert_to_unsafe (P := Tryz.prog) (src := 191) (dst := 195) Tryz.underlying191 Tryz.underlying195 (by kernel_rfl) hc'
  go_enter Tryz.func88, Tryz.ntmps88
  go_wp2
  first | go_end0 | (simp only [Exit.inBlock, Exit.then]; refine bodyPost_ret (results_none rfl _ _ _) rfl ?_) | refine bodyPost_ret (results_none rfl _ _ _) rfl ?_
  go_wp2
  go_end0
  exact ⟨rfl, rfl⟩

set_option maxRecDepth 100000 in
theorem mxUnlock (a : Addr) (u : FrameMode) (w : World) (hc : w.cell? a = some (.int .i32 1)) (hz : w.frozen? a = false) :
    CallsD Tryz.prog 89 #[.pointer (some a)] u w fun e u' w' => u' = u ∧ (e = .returned (.tuple #[]) ∧ w' = w.setCell a (.int .i32 0)) := by
  have hd := rcDisable
  have he := rcEnable
  have hr := rcMerge
  have hadd := run_call_add (P := Tryz.prog) Tryz.func139 (by kernel_rfl) (by kernel_rfl) (by kernel_rfl) .i32 (by kernel_rfl) (y := -1) (s := 0) hc hz (by simp [go_sem]; rfl)
  have hcv := run_convert_to_unsafe (P := Tryz.prog) (src := 191) (dst := 195) Tryz.underlying191 Tryz.underlying195 (by kernel_rfl) hc
  go_enter_d Tryz.func89, Tryz.ntmps89
  go_wp2
  go_end0
  go_wp2
  go_end0
  exact ⟨rfl, rfl⟩

theorem doneStore (a : Addr) (x : Value) (u : FrameMode) (w : World) (hc : w.cell? a = some x) (hz : w.frozen? a = false) :
    CallsD Tryz.prog 48 #[.pointer (some a), .bool true] u w fun e u' w' => u' = u ∧ (e = .returned (.tuple #[]) ∧ w' = w.drew.setCell a (.int .u32 1)) := by
  have hc' : w.drew.cell? a = some x := by go_simp
  have hz' : w.drew.frozen? a = false := by go_simp
  have hst := run_call_store (P := Tryz.prog) Tryz.func73 (by kernel_rfl) (by kernel_rfl) (by kernel_rfl) (by kernel_rfl) (k := .u32) (y := 1) hc' hz'
  go_enter_d Tryz.func48, Tryz.ntmps48
  go_wp2
  go_region_calls
  all_goals (go_end0; exact ⟨rfl, rfl⟩)

/-- a transaction's cells -/
def txC (J M : Nat) (done : Int) (lock : Int) (tried : Bool) : List Value := [.pointer (some ⟨J, 0, none⟩), .map (some M), .int .u32 done, .int .i32 lock, .int .u32 0, .bool tried]

set_option maxRecDepth 100000 in
set_option maxHeartbeats 1600000 in
theorem onceSlow (T J M : Nat) (tr : Bool) (a1 a2 : Addr) (Q : World → Prop) (w : World) (hb : Blk w T 93 (txC J M 0 0 tr))
    (hF : Calls Tryz.prog 41 #[.pointer (some a1), .pointer (some a2)] (w.setCell ⟨T, 3, none⟩ (.int .i32 1)) fun e w' => e = .returned (.tuple #[]) ∧ Q w' ∧ Blk w' T 93 (txC J M 0 1 true)) :
    Calls Tryz.prog 61 #[.pointer (some ⟨T, 2, none⟩), .func (.func 41) #[] #[.pointer (some a1), .pointer (some a2)]] w fun e w' => e = .returned (.tuple #[]) ∧ ∃ w2, Q w2 ∧ Blk w2 T 93 (txC J M 0 1 true) ∧ w' = (w2.drew.setCell ⟨T, 2, none⟩ (.int .u32 1)).setCell ⟨T, 3, none⟩ (.int .i32 0) := by
  have HL := mxLock ⟨T, 3, none⟩ w (hb.cell 3) (hb.frozen 3)
  have hb1 := hb.set 3 (.int .i32 1)
  have hl := atLoadAt T 2 false (w.setCell ⟨T, 3, none⟩ (.int .i32 1)) (hb1.cell 2)
  have HF := mkHid hF
  clear hF hb hb1
  go_enter_defers Tryz.func61, Tryz.ntmps61
  go_wp2_with fail
  refine HL.mono ?_
  rintro e w1 ⟨rfl, rfl⟩
  go_wp2_with fail
  refine hl.mono ?_
  rintro e w1 ⟨rfl, rfl⟩
  go_wp2_with fail
  refine HF.out.mono ?_
  rintro e w2 ⟨rfl, hQ, hB⟩
  have HQ := mkHid (And.intro hQ hB)
  clear hQ hB HF HL hl
  go_wp2_with fail
  have h2 : w2.cell? ⟨T, 2, none⟩ = some (.int .u32 0) := HQ.out.2.cell 2
  have f2 := HQ.out.2.frozen 2
  have hB3 : Blk (w2.drew.setCell ⟨T, 2, none⟩ (.int .u32 1)) T 93 ((txC J M 0 1 true).set 2 (.int .u32 1)) := Blk.set (w := w2.drew) HQ.out.2 2 _
  have h3 : (w2.drew.setCell ⟨T, 2, none⟩ (.int .u32 1)).cell? ⟨T, 3, none⟩ = some (.int .i32 1) := hB3.cell 3
  have f3 := hB3.frozen 3
  refine leaves_cons (f := 48) (args := #[.pointer (some ⟨T, 2, none⟩), .bool true]) (by simp) (by simp [go_sem]) ?_
  refine (doneStore ⟨T, 2, none⟩ (.int .u32 0) .returning _ h2 f2).mono ?_
  rintro e u' w3 ⟨rfl, rfl, rfl⟩
  refine leaves_cons (f := 89) (args := #[.pointer (some ⟨T, 3, none⟩)]) (by simp [settle]) (by simp [go_sem]) ?_
  refine (mxUnlock ⟨T, 3, none⟩ _ _ h3 f3).mono ?_
  rintro e u' w4 ⟨rfl, rfl, rfl⟩
  have HR : ∃ w2', Q w2' ∧ Blk w2' T 93 (txC J M 0 1 true) ∧ (w2.drew.setCell ⟨T, 2, none⟩ (.int .u32 1)).setCell ⟨T, 3, none⟩ (.int .i32 0) = (w2'.drew.setCell ⟨T, 2, none⟩ (.int .u32 1)).setCell ⟨T, 3, none⟩ (.int .i32 0) := ⟨w2, HQ.out.1, HQ.out.2, rfl⟩
  simp [Leaves, settle, results, Tryz.results61]
  exact HR
/-- Do, the first time -/
theorem onceFirst (T J M : Nat) (tr : Bool) (a1 a2 : Addr) (Q : World → Prop) (w : World) (hb : Blk w T 93 (txC J M 0 0 tr))
    (hF : Calls Tryz.prog 41 #[.pointer (some a1), .pointer (some a2)] (w.setCell ⟨T, 3, none⟩ (.int .i32 1)) fun e w' => e = .returned (.tuple #[]) ∧ Q w' ∧ Blk w' T 93 (txC J M 0 1 true)) :
    Calls Tryz.prog 40 #[.pointer (some ⟨T, 2, none⟩), .func (.func 41) #[] #[.pointer (some a1), .pointer (some a2)]] w fun e w' => e = .returned (.tuple #[]) ∧ ∃ w2, Q w2 ∧ Blk w2 T 93 (txC J M 0 1 true) ∧ w' = (w2.drew.setCell ⟨T, 2, none⟩ (.int .u32 1)).setCell ⟨T, 3, none⟩ (.int .i32 0) := by
  have hl := atLoadAt T 2 false w (hb.cell 2)
  have HS := onceSlow T J M tr a1 a2 Q w hb hF
  clear hF hb
  go_enter Tryz.func40, Tryz.ntmps40
  go_wp2_with fail
  refine hl.mono ?_
  rintro e w1 ⟨rfl, rfl⟩
  go_wp2_with fail
  refine HS.mono ?_
  rintro e w2 ⟨rfl, hR⟩
  go_wp2_with fail
  go_end0
  exact ⟨rfl, hR⟩
/-- Do, done already -/
theorem onceDone (T J M : Nat) (lk : Int) (tr : Bool) (fv : Value) (w : World) (hb : Blk w T 93 (txC J M 1 lk tr)) :
    Calls Tryz.prog 40 #[.pointer (some ⟨T, 2, none⟩), fv] w fun e w' => e = .returned (.tuple #[]) ∧ w' = w := by
  have hl := atLoadAt T 2 true w (hb.cell 2)
  clear hb
  go_enter Tryz.func40, Tryz.ntmps40
  go_wp2_with fail
  refine hl.mono ?_
  rintro e w1 ⟨rfl, rfl⟩
  go_wp2_with fail
  go_end0
  exact ⟨rfl, rfl⟩
end Go.Proofs.YtacnoagjcacniaaGreat
namespace Go.Proofs.YtacnoagjcacniaaGreat
open Go.RowKit

/-- what the inner commit answers, and how the journal stands -/
def inE (t : Tl) (j : Jl) : Int := if j.dead = true then 51 else if t.l = [] then 0 else (cmC t j).2
def inJ (t : Tl) (j : Jl) : Jl := if j.dead = true then j else if t.l = [] then j else jCm t j

set_option maxRecDepth 20000 in
set_option maxHeartbeats 4000000 in
theorem codInner (w : World) (T J P base m : Nat) (t : Tl) (j : Jl) (M : Nat) (rest : List Value) (h : TIn w T J M t.l rest) (hj : JAt w J P base j) (hf : FewM j.p m) (hm : m ≤ 80000) (h48 : t.l.length ≤ 48) :
    Calls Tryz.prog 42 #[.pointer (some ⟨T, 0, none⟩)] w fun e w' => e = .returned (.int .i64 (inE t j)) ∧ JAt w' J P base (inJ t j) ∧ KeepT JD w w' ∧ Below base w w' := by
  have c0 : w.cell? ⟨T, 0, none⟩ = some (.pointer (some ⟨J, 0, none⟩)) := h.blk.cell 0
  have c1 : w.cell? ⟨T, 1, none⟩ = some (.map (some M)) := h.blk.cell 1
  have HLo := atLoadAt J 2 j.dead w (hj.blk.cell 2)
  have HT := mkHid h
  have HJ := mkHid hj
  have HF := mkHid hf
  have HLow : Hid (base ≤ w.heap.size) := hj.d.low
  have hln : (Builtin.len_ #[84] 3 #[.map (some M)]).run Tryz.prog w = .ok (.int .i64 (t.l.length : Int)) w := by
    have := h.own.len Tryz.underlying84 3
    rwa [mapD_size] at this
  clear h hj hf
  cases hd : j.dead with
  | true =>
    have HE : Hid (inE t j = 51 ∧ inJ t j = j) := by unfold Hid inE inJ; rw [if_pos hd, if_pos hd]; exact ⟨rfl, rfl⟩
    rw [hd] at HLo
    clear hd hln
    go_enter Tryz.func42, Tryz.ntmps42
    go_wp2_with fail
    refine HLo.mono ?_
    rintro e w1 ⟨rfl, rfl⟩
    go_wp2_with fail
    go_ret
    exact ⟨by rw [HE.out.1]; rfl, by rw [HE.out.2]; exact HJ.out, KeepT.refl _ _, Below.refl _ _⟩
  | false =>
  rw [hd] at HLo
  by_cases hl0 : t.l = []
  · have HE : Hid (inE t j = 0 ∧ inJ t j = j) := by unfold Hid inE inJ; rw [if_neg (by simp [hd]), if_pos hl0, if_neg (by simp [hd]), if_pos hl0]; exact ⟨rfl, rfl⟩
    have hz : (t.l.length : Int) = 0 := by rw [hl0]; rfl
    rw [hz] at hln
    clear hd hl0 hz
    go_enter Tryz.func42, Tryz.ntmps42
    go_wp2_with fail
    refine HLo.mono ?_
    rintro e w1 ⟨rfl, hw1⟩
    obtain rfl := hw1.symm
    go_wp2_with fail
    go_ret
    exact ⟨by rw [HE.out.1]; rfl, by rw [HE.out.2]; exact HJ.out, KeepT.refl _ _, Below.refl _ _⟩
  · have HE : Hid (inE t j = (cmC t j).2 ∧ inJ t j = jCm t j) := by unfold Hid inE inJ; rw [if_neg (by simp [hd]), if_neg hl0, if_neg (by simp [hd]), if_neg hl0]; exact ⟨rfl, rfl⟩
    have hlp : 0 < t.l.length := List.length_pos_iff.2 hl0
    have hz : ¬ (t.l.length : Int) = 0 := by omega
    have hKy := codKeys (some M) w
    have hSo := codSorted w M t.l HT.out.own HT.out.sort h48
    have HIJ := fun W (hW : Below w.heap.size w W) (pa da : Option Addr) (pc dc : Nat) (hp : IsIs W pa t.l.length pc t.l) (hdt : IsDt W da t.l.length dc t.l) => codJCommit W J P base m t j pa da t.l.length pc dc (HJ.out.on hW) HF.out hm h48 hp hdt (fun g hg => by have := (HT.out.ok g hg).2.2; omega)
    have HDa := fun W (hW : Below w.heap.size w W) (pa : Option Addr) (pc : Nat) (hp : IsIs W pa t.l.length pc t.l) => codData W T J M t.l rest (HT.out.on hW) t.l.length pc pa rfl h48 hp
    generalize (cmC t j).2 = eC at *
    generalize jCm t j = jC at *
    obtain ⟨n, hn⟩ : ∃ n, n = t.l.length := ⟨_, rfl⟩
    rw [← hn] at hln hz hSo HIJ HDa h48
    clear hd hl0 hlp hn
    go_enter Tryz.func42, Tryz.ntmps42
    go_wp2_with fail
    refine HLo.mono ?_
    rintro e w1 ⟨rfl, hw1⟩
    obtain rfl := hw1.symm
    go_wp2_with fail
    refine hKy.mono ?_
    rintro e w2 ⟨rfl, rfl⟩
    go_wp2_with fail
    refine hSo.mono ?_
    rintro e w3 ⟨pa, pc, rfl, hI3, hb3⟩
    have HI3 := mkHid hI3
    have HB3 := mkHid hb3
    clear hI3 hb3 hSo hKy HLo hln c0 c1
    go_wp2_with fail
    have HKP : ∀ w', Hid (KeepT JD w3 w' ∧ Below base w3 w') → Hid (KeepT JD w3 w' ∧ Below base w3 w') ∧ w'.cell? ⟨T, 0, none⟩ = some (.pointer (some ⟨J, 0, none⟩)) := fun w' h => ⟨h, (h.out.1.blk (HT.out.on HB3.out).blk (by decide)).cell 0⟩
    have HLow3 : Hid (base ≤ w3.heap.size) := Nat.le_trans HLow.out HB3.out.size
    have HK0 := mkHid (HKP _ (mkHid ⟨KeepT.of_below ((Below.refl _ w3).drew), ((Below.refl _ w3).drew).mono HLow3.out⟩))
    have HDa2 : ∀ W, Below w3.heap.size w3 W → Calls Tryz.prog 65 #[.pointer (some ⟨T, 0, none⟩), .slice pa n pc] W fun e w' => ∃ O, e = .returned (.slice (some ⟨O, 0, none⟩) n n) ∧ Hid (IsDt w' (some ⟨O, 0, none⟩) n n t.l) ∧ Hid (Below W.heap.size W w') := fun W hW => HDa W (HB3.out.trans (hW.mono HB3.out.size)) pa pc (HI3.out.on hW)
    have HIJ2 : ∀ W O, Below w3.heap.size w3 W → IsDt W (some ⟨O, 0, none⟩) n n t.l → Calls Tryz.prog 64 #[.pointer (some ⟨J, 0, none⟩), .slice pa n pc, .slice (some ⟨O, 0, none⟩) n n] W fun e w' => e = .returned (.int .i64 eC) ∧ Hid (JAt w' J P base jC) ∧ Hid (KeepT JD W w') ∧ Hid (Below base W w') := fun W O hW hO => HIJ W (HB3.out.trans (hW.mono HB3.out.size)) pa (some ⟨O, 0, none⟩) pc n (HI3.out.on hW) hO
    clear HDa HIJ
    go_region_held3 (fun w' => Hid (KeepT JD w3 w' ∧ Below base w3 w') ∧ w'.cell? ⟨T, 0, none⟩ = some (.pointer (some ⟨J, 0, none⟩)))
      (first | exact HK0.out | assumption | (have hq0 := ‹Hid (KeepT _ _ _ ∧ _) ∧ _›; exact HKP _ (mkHid ⟨hq0.1.out.1.trans hkx.out.1, hq0.1.out.2.trans hkx.out.2⟩)))
      (first
        | (go_at_call 65; have hq0 := ‹Hid (KeepT _ _ _ ∧ _) ∧ _›; refine (HDa2 _ ((Below.refl _ w3).drew)).mono ?_; rintro e y1 ⟨O, rfl, hO, hb1⟩; have hkx := mkHid (And.intro (KeepT.of_below (ts := JD) hb1.out) (hb1.out.mono (Nat.le_trans HLow3.out hq0.1.out.1.size))); have hw1 : Hid (Below w3.heap.size w3 y1) := mkHid (((Below.refl _ w3).drew).trans hb1.out); clear hq0 hb1)
        | (go_at_call 64; refine (HIJ2 _ O hw1.out hO.out).mono ?_; rintro e y2 ⟨rfl, hJ2, hT2, hb2⟩; have hkx := mkHid (And.intro hT2.out hb2.out); clear hT2 hb2))
    all_goals
      have hq9 := ‹Hid (KeepT _ _ _ ∧ _) ∧ _›
      go_wp2_with fail
      go_ret
      exact ⟨by rw [HE.out.1]; rfl, by rw [HE.out.2]; exact hJ2.out, (KeepT.of_below HB3.out).trans hq9.1.out.1, (HB3.out.mono HLow.out).trans hq9.1.out.2⟩
end Go.Proofs.YtacnoagjcacniaaGreat
