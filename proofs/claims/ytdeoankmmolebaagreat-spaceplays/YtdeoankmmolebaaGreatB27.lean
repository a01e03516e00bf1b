/- The program's journal in a world: its map of sectors, plain. · The program's journal: places and data in a world; put. -/
import Derived.Test.YtdeoankmmolebaaGreatB26
import Derived.Maps.OwnSet
import Derived.Lib.SlKeysI
import Derived.Test.YtdeoankmmolebaaGreatB17
namespace Go.Proofs.YtdeoankmmolebaaGreat
open Go.RowKit Go.Maps

/-- a sector as a value -/
def secV (b : List UInt8) : Value := .agg (bv b).toArray
/-- how a map's sector is read: as it is -/
def secR (v : Value) : Option (DataW Value × List MemPlace) := some (.held v, [])
def keyQ (i : Nat) : Lit := .int .i64 (i : Int)
def entQ (g : Nat × List UInt8) : Lit × DataW Value := (keyQ g.1, .held (secV g.2))
/-- a transaction's sectors as a map -/
def mapD (l : Qs) : DataW Value := .map (l.map entQ)
/-- in order of their numbers -/
def SortQ (l : Qs) : Prop := l.Pairwise fun a b => a.1 < b.1

theorem key_same (i : Nat) (z : Int) : (keyQ i).sameKey (.int .i64 z) = decide ((i : Int) = z) := by
  show decide (IntKind.i64 = IntKind.i64 ∧ (i : Int) = z) = _
  congr 1
  exact propext ⟨fun h => h.2, fun h => ⟨rfl, h⟩⟩
theorem key_before (i k : Nat) : (keyQ i).before (keyQ k) = decide (i < k) := by
  show decide ((i : Int) < (k : Int)) = _
  congr 1
  exact propext ⟨fun h => by omega, fun h => by omega⟩
theorem mapD_size (l : Qs) : Maps.size (mapD l) = l.length := by unfold mapD; rw [Maps.size_eq, List.length_map]
theorem find_map (l : Qs) (z : Int) : (l.map entQ).find? (fun p => p.1.sameKey (.int .i64 z)) = (l.find? fun g => ((g.1 : Int) == z)).map entQ := by
  induction l with
  | nil => rfl
  | cons g l ih =>
    rw [List.map_cons, List.find?_cons, List.find?_cons]
    have e : (entQ g).1.sameKey (.int .i64 z) = ((g.1 : Int) == z) := by
      show (keyQ g.1).sameKey _ = _
      rw [key_same]
      cases h : ((g.1 : Int) == z) with
      | true => exact decide_eq_true (by simpa using h)
      | false => exact decide_eq_false (by simpa using h)
    rw [e, ih]
    cases ((g.1 : Int) == z) <;> rfl
theorem mapD_at (l : Qs) (z : Int) (v : Value) : (mapD l).atKey (.int .i64 z) (.held v) = .held ((Tl.find l z).elim v secV) := by
  unfold mapD DataW.atKey Tl.find
  dsimp only
  rw [find_map]
  cases l.find? (fun g => ((g.1 : Int) == z)) <;> rfl
theorem mapD_has (l : Qs) (z : Int) : Maps.has (mapD l) (.int .i64 z) = (Tl.find l z).isSome := by
  unfold mapD Tl.find
  rw [Maps.has_eq]
  induction l with
  | nil => rfl
  | cons g l ih =>
    rw [List.map_cons, List.any_cons, ih, List.find?_cons]
    have e : (entQ g).1.sameKey (.int .i64 z) = ((g.1 : Int) == z) := by
      show (keyQ g.1).sameKey _ = _
      rw [key_same]
      cases h : ((g.1 : Int) == z) with
      | true => exact decide_eq_true (by simpa using h)
      | false => exact decide_eq_false (by simpa using h)
    rw [e]
    cases ((g.1 : Int) == z) <;> simp
theorem filter_keep (l : Qs) (i : Nat) (h : ∀ g ∈ l, g.1 ≠ i) : (l.map entQ).filter (fun p => !p.1.sameKey (keyQ i)) = l.map entQ := by
  rw [List.filter_eq_self]
  intro p hp
  obtain ⟨g, hg, rfl⟩ := List.mem_map.1 hp
  have : (entQ g).1.sameKey (keyQ i) = false := by
    show (keyQ g.1).sameKey (.int .i64 (i : Int)) = false
    rw [key_same]
    exact decide_eq_false (fun e => h g hg (by omega))
  rw [this]; rfl
theorem insert_front (l : Qs) (x : Nat × List UInt8) (h : ∀ g ∈ l, x.1 < g.1) : DataW.insert (entQ x) (l.map entQ) = entQ x :: l.map entQ := by
  cases l with
  | nil => rfl
  | cons g l =>
    rw [List.map_cons, DataW.insert]
    have : (entQ x).1.before (entQ g).1 = true := by
      show (keyQ x.1).before (keyQ g.1) = true
      rw [key_before]
      exact decide_eq_true (h g (by simp))
    rw [if_pos this]
theorem mapD_put (l : Qs) (i : Nat) (b : List UInt8) (hs : SortQ l) : (mapD l).put (keyQ i) (.held (secV b)) = mapD (putQ l i b) := by
  unfold mapD DataW.put
  dsimp only
  congr 1
  show DataW.insert (entQ (i, b)) _ = _
  induction l with
  | nil => rfl
  | cons g l ih =>
    obtain ⟨h1, h2⟩ := List.pairwise_cons.1 hs
    rw [putQ]
    have ek : (entQ g).1.sameKey (keyQ i) = decide ((g.1 : Int) = (i : Int)) := key_same g.1 (i : Int)
    by_cases ha : g.1 < i
    · rw [if_pos ha, List.map_cons, List.map_cons, List.filter_cons, ek, decide_eq_false (by omega), Bool.not_false, if_pos rfl, DataW.insert]
      have : (entQ (i, b)).1.before (entQ g).1 = false := by
        show (keyQ i).before (keyQ g.1) = false
        rw [key_before]
        exact decide_eq_false (by omega)
      rw [if_neg (by rw [this]; decide), ih h2]
    · by_cases hb : g.1 = i
      · rw [if_neg ha, if_pos hb, List.map_cons, List.map_cons, List.filter_cons, ek, decide_eq_true (by omega), Bool.not_true, if_neg (by decide), filter_keep l i (fun x hx => by have := h1 x hx; omega)]
        exact insert_front l (i, b) (fun x hx => by have := h1 x hx; show i < x.1; omega)
      · rw [if_neg ha, if_neg hb, filter_keep (g :: l) i (fun x hx => by
          rcases List.mem_cons.1 hx with rfl | hx
          · exact hb
          · have := h1 x hx; omega)]
        exact insert_front (g :: l) (i, b) (fun x hx => by
          rcases List.mem_cons.1 hx with rfl | hx
          · show i < x.1; omega
          · have := h1 x hx; show i < x.1; omega)
theorem putQ_sort (l : Qs) (i : Nat) (b : List UInt8) (hs : SortQ l) : SortQ (putQ l i b) := by
  induction l with
  | nil => exact List.pairwise_cons.2 ⟨fun _ h => (by cases h), List.Pairwise.nil⟩
  | cons g l ih =>
    obtain ⟨h1, h2⟩ := List.pairwise_cons.1 hs
    rw [putQ]
    by_cases ha : g.1 < i
    · rw [if_pos ha]
      refine List.pairwise_cons.2 ⟨fun x hx => ?_, ih h2⟩
      have : x ∈ l ∨ x = (i, b) := by
        clear ih hs h1 ha
        induction l with
        | nil => exact .inr (List.mem_singleton.1 hx)
        | cons y l ih2 =>
          rw [putQ] at hx
          split at hx
          · rcases List.mem_cons.1 hx with e | e
            · exact .inl (by rw [e]; simp)
            · rcases ih2 (List.pairwise_cons.1 h2).2 e with e | e
              · exact .inl (List.mem_cons_of_mem _ e)
              · exact .inr e
          · split at hx
            · rcases List.mem_cons.1 hx with e | e
              · exact .inr e
              · exact .inl (List.mem_cons_of_mem _ e)
            · rcases List.mem_cons.1 hx with e | e
              · exact .inr e
              · exact .inl e
      rcases this with h | h
      · exact h1 x h
      · rw [h]; exact ha
    · by_cases hb : g.1 = i
      · rw [if_neg ha, if_pos hb]
        exact List.pairwise_cons.2 ⟨fun x hx => by have := h1 x hx; show i < x.1; omega, h2⟩
      · rw [if_neg ha, if_neg hb]
        refine List.pairwise_cons.2 ⟨fun x hx => ?_, hs⟩
        rcases List.mem_cons.1 hx with rfl | hx
        · show i < x.1; omega
        · have := h1 x hx; show i < x.1; omega
theorem hit_find (l : Qs) (i : Nat) (hs : SortQ l) : hitQ l i = (Tl.find l (i : Int)).isSome := by
  unfold Tl.find
  induction l with
  | nil => rfl
  | cons g l ih =>
    obtain ⟨h1, h2⟩ := List.pairwise_cons.1 hs
    rw [hitQ, List.find?_cons]
    by_cases ha : g.1 < i
    · rw [if_pos ha, ih h2]
      have : ((g.1 : Int) == (i : Int)) = false := by simp; omega
      rw [this]
    · rw [if_neg ha]
      by_cases hb : g.1 = i
      · have : ((g.1 : Int) == (i : Int)) = true := by simp; omega
        rw [this]
        simp [hb]
      · have : ((g.1 : Int) == (i : Int)) = false := by simp; omega
        rw [this]
        have hn : l.find? (fun g => ((g.1 : Int) == (i : Int))) = none := List.find?_eq_none.2 (fun x hx => by have := h1 x hx; simp; omega)
        rw [hn]
        simp [hb]
theorem mapD_keys (l : Qs) : intKeys (mapD l) = l.map fun g => (g.1 : Int) := by
  unfold mapD intKeys
  dsimp only
  rw [List.map_map]
  rfl
theorem sorted_keys (l : Qs) (hs : SortQ l) (ss : List Int) (hp : ss.Perm (intKeys (mapD l))) : ss.mergeSort (fun x y => decide (x ≤ y)) = l.map fun g => (g.1 : Int) := by
  have hS : (l.map fun g => (g.1 : Int)).Pairwise (fun a b => decide (a ≤ b) = true) := List.pairwise_map.2 (hs.imp (fun h => decide_eq_true (by omega)))
  rw [mapD_keys] at hp
  have h1 : (ss.mergeSort (fun x y => decide (x ≤ y))).Pairwise (fun a b => decide (a ≤ b) = true) := List.pairwise_mergeSort (by intro a b c h1 h2; simp at *; omega) (by intro a b; simp; omega) ss
  refine List.Perm.eq_of_pairwise (le := fun a b => decide (a ≤ b) = true) (fun a b _ _ h1 h2 => ?_) h1 hS ((List.mergeSort_perm _ _).trans hp)
  have a1 := of_decide_eq_true h1
  have a2 := of_decide_eq_true h2
  omega

/-- the program's journal -/
structure JAt (w : World) (J P base : Nat) (j : Jl) : Prop where
  blk : Blk w J 91 [.pointer (some ⟨P, 0, none⟩), .int .u64 (j.seq : Int), .int .u32 (flag j.dead)]
  low : base ≤ J
  d : IsD0 w P base j.p
  seq : j.seq < 18446744073709551616
abbrev OwnM (w : World) (M : Nat) (l : Qs) : Prop := w.ownsMap Tryz.prog 3 secR M l.length (mapD l)
/-- its transaction -/
structure TAt (w : World) (T J P base : Nat) (t : Tl) (j : Jl) (M : Nat) (tried : Bool) : Prop where
  ja : JAt w J P base j
  blk : Blk w T 138 [.pointer (some ⟨J, 0, none⟩), .map (some M), .int .u32 (flag tried), .int .i32 0, .int .u32 0, .bool tried]
  low : base ≤ T
  lowM : base ≤ M
  own : OwnM w M t.l
  sort : SortQ t.l
  ok : ∀ g ∈ t.l, g.2.length = 512 ∧ 49 ≤ g.1 ∧ g.1 < 4096
  over : j.dead = false → tried = t.over
def TAx (w : World) (T J P base : Nat) (t : Tl) (j : Jl) : Prop := ∃ M tried, TAt w T J P base t j M tried

theorem own_tight {w : World} {M n : Nat} {l : Qs} (h : w.ownsMap Tryz.prog 3 secR M n (mapD l)) : OwnM w M l := by
  obtain ⟨es, clock, hb, F, hs, hD⟩ := h
  refine ⟨es, clock, hb, F, ?_, hD⟩
  have e1 := congrArg Maps.size hD
  rw [mapD_size] at e1
  rw [e1, Maps.size_eq, length_sorted]
  simp
theorem ownM_obj {w : World} {M : Nat} {l : Qs} (h : OwnM w M l) : ∃ es clock, w.heap[M]? = some (.map es clock) := by
  obtain ⟨es, clock, hb, _⟩ := h
  exact ⟨es, clock, hb⟩
theorem ownM_same {w w' : World} {M : Nat} {l : Qs} (h : OwnM w M l) (e : w'.heap[M]? = w.heap[M]?) : OwnM w' M l := by
  obtain ⟨es, clock, hb, r⟩ := h
  exact ⟨es, clock, e.trans hb, r⟩
theorem ownM_keep {w w' : World} {M : Nat} {l : Qs} (h : OwnM w M l) {ts : List TypeId} (hk : KeepT ts w w') : OwnM w' M l := by
  obtain ⟨es, clock, hb, r⟩ := h
  exact ⟨es, clock, hk.same M _ hb (fun c t fz e => by cases e), r⟩
theorem ownM_on {w w' : World} {M : Nat} {l : Qs} (h : OwnM w M l) (hb : Below w.heap.size w w') : OwnM w' M l := ownM_keep (ts := []) h (KeepT.of_below hb)
theorem blk_map {w : World} {B t M : Nat} {cs : List Value} {l : Qs} (h : Blk w B t cs) (hm : OwnM w M l) : B ≠ M := fun e => by
  subst e
  obtain ⟨es, clock, hb⟩ := ownM_obj hm
  have := hb.symm.trans h
  cases this
theorem JAt.on {w w' : World} {J P base : Nat} {j : Jl} (h : JAt w J P base j) (hb : Below w.heap.size w w') : JAt w' J P base j := ⟨h.blk.on hb, h.low, h.d.on hb, h.seq⟩
theorem JAt.keep {w w' : World} {J P base : Nat} {j : Jl} (h : JAt w J P base j) (hk : KeepT CT w w') : JAt w' J P base j := ⟨hk.blk h.blk (by decide), h.low, h.d.keep hk (by decide) (by decide) (by decide), h.seq⟩
theorem JAt.turn {w w' : World} {J P base : Nat} {j : Jl} {p' : Pl} (h : JAt w J P base j) (hk : KeepT PD w w') (hd : IsD0 w' P base p') : JAt w' J P base ⟨p', j.seq, j.dead⟩ := ⟨hk.blk h.blk (by decide), h.low, hd, h.seq⟩
theorem TAt.on {w w' : World} {T J P base : Nat} {t : Tl} {j : Jl} {M : Nat} {tr : Bool} (h : TAt w T J P base t j M tr) (hb : Below w.heap.size w w') : TAt w' T J P base t j M tr := ⟨h.ja.on hb, h.blk.on hb, h.low, h.lowM, ownM_on h.own hb, h.sort, h.ok, h.over⟩
theorem TAt.keep {w w' : World} {T J P base : Nat} {t : Tl} {j : Jl} {M : Nat} {tr : Bool} (h : TAt w T J P base t j M tr) (hk : KeepT CT w w') : TAt w' T J P base t j M tr := ⟨h.ja.keep hk, hk.blk h.blk (by decide), h.low, h.lowM, ownM_keep h.own hk, h.sort, h.ok, h.over⟩
/-- what a commit needs of a transaction: its cells ahead, its map -/
structure TIn (w : World) (T J M : Nat) (l : Qs) (rest : List Value) : Prop where
  blk : Blk w T 138 (.pointer (some ⟨J, 0, none⟩) :: .map (some M) :: rest)
  own : OwnM w M l
  sort : SortQ l
  ok : ∀ g ∈ l, g.2.length = 512 ∧ 49 ≤ g.1 ∧ g.1 < 4096
theorem TIn.on {w w' : World} {T J M : Nat} {l : Qs} {rest : List Value} (h : TIn w T J M l rest) (hb : Below w.heap.size w w') : TIn w' T J M l rest := ⟨h.blk.on hb, ownM_on h.own hb, h.sort, h.ok⟩
theorem TIn.keep {w w' : World} {T J M : Nat} {l : Qs} {rest : List Value} (h : TIn w T J M l rest) {ts : List TypeId} (hk : KeepT ts w w') (ht : 138 ∉ ts) : TIn w' T J M l rest := ⟨hk.blk h.blk ht, ownM_keep h.own hk, h.sort, h.ok⟩
end Go.Proofs.YtdeoankmmolebaaGreat
namespace Go.Proofs.YtdeoankmmolebaaGreat
open Go.RowKit

def nthL (l : Qs) (i : Nat) : Nat × List UInt8 := l.getD i (0, [])
/-- places in a world -/
structure IsIs (w : World) (a : Option Addr) (len cap : Nat) (l : Qs) : Prop where
  len_eq : l.length = len
  cells : 0 < len → ∃ B off, a = some ⟨B, off, none⟩ ∧ (∃ c fz, w.heap[B]? = some (.cells c 3 fz)) ∧ ∀ i, i < len → w.cell? ⟨B, off + i, none⟩ = some (.int .i64 ((nthL l i).1 : Int))
/-- their data -/
structure IsDt (w : World) (a : Option Addr) (len cap : Nat) (l : Qs) : Prop where
  len_eq : l.length = len
  cells : 0 < len → ∃ B off, a = some ⟨B, off, none⟩ ∧ (∃ c fz, w.heap[B]? = some (.cells c 22 fz)) ∧ ∀ i, i < len → (nthL l i).2.length = 512 ∧ ∃ g t, w.cell? ⟨B, off + i, none⟩ = some (.slice (some ⟨g, 0, none⟩) 512 512) ∧ Blk w g t (bv (nthL l i).2) ∧ t ∈ [5, 139]
abbrev DT : List TypeId := [3, 22, 5, 139]
theorem cell_keep {w w' : World} {B t o : Nat} {c : Array Value} {fz : Nat × Nat} (hb : w.heap[B]? = some (.cells c t fz)) {ts : List TypeId} (hk : KeepT ts w w') (ht : t ∉ ts) : w'.cell? ⟨B, o, none⟩ = w.cell? ⟨B, o, none⟩ ∧ w'.heap[B]? = some (.cells c t fz) := by
  have := hk.same B _ hb (fun c' t' fz' e => by injection e with _ h2 _; rw [← h2]; exact ht)
  refine ⟨?_, this⟩
  unfold World.cell?
  rw [this, hb]
theorem IsIs.keep {w w' : World} {a : Option Addr} {len cap : Nat} {l : Qs} (h : IsIs w a len cap l) {ts : List TypeId} (hk : KeepT ts w w') (ht : ∀ t ∈ DT, t ∉ ts) : IsIs w' a len cap l :=
  ⟨h.len_eq, fun hp => by
    obtain ⟨B, off, e, ⟨c, fz, hb⟩, hc⟩ := h.cells hp
    have h1 := ht 3 (by simp)
    exact ⟨B, off, e, ⟨c, fz, (cell_keep (o := 0) hb hk h1).2⟩, fun i hi => (cell_keep hb hk h1).1.trans (hc i hi)⟩⟩
theorem IsDt.keep {w w' : World} {a : Option Addr} {len cap : Nat} {l : Qs} (h : IsDt w a len cap l) {ts : List TypeId} (hk : KeepT ts w w') (ht : ∀ t ∈ DT, t ∉ ts) : IsDt w' a len cap l :=
  ⟨h.len_eq, fun hp => by
    obtain ⟨B, off, e, ⟨c, fz, hb⟩, hc⟩ := h.cells hp
    have h1 := ht 22 (by simp)
    refine ⟨B, off, e, ⟨c, fz, (cell_keep (o := 0) hb hk h1).2⟩, fun i hi => ?_⟩
    obtain ⟨h5, g, t, h6, h7, h8⟩ := hc i hi
    refine ⟨h5, g, t, (cell_keep hb hk h1).1.trans h6, hk.blk h7 (ht t ?_), h8⟩
    rcases List.mem_cons.1 h8 with rfl | h9
    · simp
    · rw [List.mem_singleton.1 h9]; simp⟩
theorem IsIs.on {w w' : World} {a : Option Addr} {len cap : Nat} {l : Qs} (h : IsIs w a len cap l) (hb : Below w.heap.size w w') : IsIs w' a len cap l := h.keep (ts := []) (KeepT.of_below hb) (by simp)
theorem IsDt.on {w w' : World} {a : Option Addr} {len cap : Nat} {l : Qs} (h : IsDt w a len cap l) (hb : Below w.heap.size w w') : IsDt w' a len cap l := h.keep (ts := []) (KeepT.of_below hb) (by simp)
/-- one of the data -/
theorem blk_isB {w : World} {g t : Nat} {b : List UInt8} (h : Blk w g t (bv b)) (hb : b.length = 512) : IsB w (some ⟨g, 0, none⟩) 512 512 b :=
  ⟨hb, Nat.le_refl _, by decide, fun e => (by cases e), fun _ => ⟨g, 0, rfl, fun i hi => by rw [h.cell, Nat.zero_add, bv_at b i (by omega)]⟩⟩

set_option maxRecDepth 20000 in
set_option maxHeartbeats 4000000 in
theorem codPut (P base m : Nat) (p : Pl) (l : Qs) (pa da : Option Addr) (n pc dc : Nat) (w : World) (h : IsD0 w P base p) (hf : FewM p m) (hm : m + n ≤ 90000) (hp : IsIs w pa n pc l) (hd : IsDt w da n dc l) :
    Calls Tryz.prog 39 #[.pointer (some ⟨P, 0, none⟩), .slice pa n pc, .slice da n dc] w fun e w' => e = .returned (.int .i64 (stepsE p l)) ∧ IsD0 w' P base (stepsP p l) ∧ KeepT PD w w' ∧ Below base w w' := by
  have HI0 := mkHid h
  have HF0 := mkHid hf
  have HP := mkHid hp
  have HD := mkHid hd
  have HN := mkHid hp.len_eq
  clear h hf hp hd
  go_enter Tryz.func39, Tryz.ntmps39
  go_wp2_with fail
  go_loopw [12] (fun i wr => ∃ (k : Nat) (pk : Pl), k ≤ n ∧ i = .int .i64 (k : Int) ∧ Hid (IsD0 wr P base pk) ∧ Hid (FewM pk (m + k)) ∧ Hid (stepsP p l = stepsP pk (l.drop k) ∧ stepsE p l = stepsE pk (l.drop k)) ∧ Hid (KeepT PD w wr) ∧ Hid (Below base w wr)) (fun i _ => n - (Go.RowKit.intOf i).toNat)
  case atStart => exact ⟨0, p, Nat.zero_le _, rfl, HI0, HF0, ⟨by rw [List.drop_zero], by rw [List.drop_zero]⟩, KeepT.refl _ _, Below.refl _ _⟩
  case round =>
    obtain ⟨k, pk, hk, rfl, HI, HF, HS, HT, HB⟩ := hrel
    by_cases hlt : k < n
    · obtain ⟨B1, o1, rfl, ⟨_, _, _⟩, hc1⟩ := (HP.out.keep HT.out (by decide)).cells (by omega)
      obtain ⟨B2, o2, rfl, ⟨_, _, _⟩, hc2⟩ := (HD.out.keep HT.out (by decide)).cells (by omega)
      have c1 := hc1 k hlt
      obtain ⟨h512, g, ty, c2, hbk, hty⟩ := hc2 k hlt
      have hlt' : (k : Int) < (n : Int) := by omega
      have hk0 : (0 : Int) ≤ (k : Int) := by omega
      have HDr : Hid (l.drop k = nthL l k :: l.drop (k + 1)) := drop_cons _ k (by rw [HN.out]; exact hlt)
      rw [HDr.out] at HS
      have HTy : Hid (ty ∉ PD) := by
        unfold Hid
        rcases List.mem_cons.1 hty with rfl | h9
        · decide
        · rw [List.mem_singleton.1 h9]; decide
      have HWr := writeT (fun _ => False) wr P base pk ((nthL l k).1 : Int) (some ⟨g, 0, none⟩) 512 (nthL l k).2 HI.out (HF.out.few (by omega)) (fun W hW _ => by rw [h512]; exact blk_isB (hW.blk hbk HTy.out) h512)
      rw [h512] at HWr
      have HFn : Hid (FewM (pk.write ((nthL l k).1 : Int) (nthL l k).2) (m + (k + 1))) := HF.out.write _ _
      have HSy : Hid (pk.wrE ((nthL l k).1 : Int) (nthL l k).2 = 0 → stepsP p l = stepsP (pk.write ((nthL l k).1 : Int) (nthL l k).2) (l.drop (k + 1)) ∧ stepsE p l = stepsE (pk.write ((nthL l k).1 : Int) (nthL l k).2) (l.drop (k + 1))) := fun hz0 => by
        have := HS.out
        simp only [stepsP, stepsE, hz0, if_true] at this
        exact this
      have HSn : Hid (¬ pk.wrE ((nthL l k).1 : Int) (nthL l k).2 = 0 → stepsP p l = pk.write ((nthL l k).1 : Int) (nthL l k).2 ∧ stepsE p l = pk.wrE ((nthL l k).1 : Int) (nthL l k).2) := fun hz0 => by
        have := HS.out
        simp only [stepsP, stepsE, hz0, if_false] at this
        exact this
      clear hc1 hc2 hbk hty h512 HTy HDr HS
      generalize (nthL l k).1 = ak at *
      generalize (nthL l k).2 = bb at *
      cases hz : decide (pk.wrE (ak : Int) bb = 0) with
      | true =>
        have hz0 : pk.wrE (ak : Int) bb = 0 := of_decide_eq_true hz
        have HS2 : Hid (stepsP p l = stepsP (pk.write (ak : Int) bb) (l.drop (k + 1)) ∧ stepsE p l = stepsE (pk.write (ak : Int) bb) (l.drop (k + 1))) := HSy.out hz0
        rw [hz0] at HWr
        clear HSy HSn hz hz0
        go_wp2_with fail
        refine HWr.mono ?_
        rintro e x1 ⟨rfl, hi1, ht1, _, hb1⟩
        have HI1 := mkHid hi1
        have HT1 := mkHid (HT.out.trans ht1)
        have HB1 := mkHid (HB.out.trans hb1)
        clear hi1 ht1 hb1
        go_wp2_with fail
        go_roundw
        case rel => exact ⟨k + 1, pk.write (ak : Int) bb, by omega, by go_num, HI1, HFn, HS2, HT1, HB1⟩
        case measure => simp [Go.RowKit.intOf]; omega
      | false =>
        have hz0 : ¬ pk.wrE (ak : Int) bb = 0 := of_decide_eq_false hz
        have HS2 : Hid (stepsP p l = pk.write (ak : Int) bb ∧ stepsE p l = pk.wrE (ak : Int) bb) := HSn.out hz0
        clear HSy HSn hz
        generalize pk.wrE (ak : Int) bb = z at *
        have hzb : (z == 0) = false := by rw [beq_eq_false_iff_ne]; exact hz0
        go_wp2_with fail
        refine HWr.mono ?_
        rintro e x1 ⟨rfl, hi1, ht1, _, hb1⟩
        have HI1 := mkHid hi1
        have HT1 := mkHid (HT.out.trans ht1)
        have HB1 := mkHid (HB.out.trans hb1)
        clear hi1 ht1 hb1
        go_wp2_with fail
        go_ret
        refine ⟨by rw [HS2.out.2]; rfl, by rw [HS2.out.1]; exact HI1.out, HT1.out, HB1.out⟩
    · have hge : ¬ (k : Int) < (n : Int) := by omega
      have hkn : k = n := by omega
      subst hkn
      have HS2 : Hid (stepsP p l = pk.flush ∧ stepsE p l = pk.flE) := by
        have := HS.out
        rw [List.drop_of_length_le (by rw [HN.out]; exact Nat.le_refl _)] at this
        exact this
      have HFl := flushT (fun _ => False) wr P base pk HI.out (HF.out.few (by omega))
      clear HS
      go_wp2_with fail
      refine HFl.mono ?_
      rintro e x1 ⟨rfl, hi1, ht1, _, hb1⟩
      have HI1 := mkHid hi1
      have HT1 := mkHid (HT.out.trans ht1)
      have HB1 := mkHid (HB.out.trans hb1)
      clear hi1 ht1 hb1
      go_wp2_with fail
      go_ret
      exact ⟨by rw [HS2.out.2]; rfl, by rw [HS2.out.1]; exact HI1.out, HT1.out, HB1.out⟩
end Go.Proofs.YtdeoankmmolebaaGreat
