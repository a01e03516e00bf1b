/- Plain facts: bytes that are taken into blocks of 64, and a run's cells. -/
import Derived.Test.YtbclhaleibjkgaaWords
import Derived.Deep.MidRow
namespace Go.Proofs.Ytbclhaleibjkgaa

/-- the state behind the first j whole blocks -/
def ab (mix : List UInt32 → List UInt8 → List UInt32) (start : List UInt32) (A : List UInt8) : Nat → List UInt32
  | 0 => start
  | j + 1 => mix (ab mix start A j) ((A.drop (64 * j)).take 64)

theorem ab_length (mix : List UInt32 → List UInt8 → List UInt32) (start : List UInt32) (A : List UInt8) (h : start.length = 8) (hm : ∀ ws bl, (mix ws bl).length = 8) : ∀ j, (ab mix start A j).length = 8
  | 0 => h
  | _ + 1 => hm _ _

theorem nth_take (l : List UInt8) (k i : Nat) (h : i < k) : nth (l.take k) i = nth l i := by
  unfold nth; rw [List.getD_eq_getElem?_getD, List.getD_eq_getElem?_getD, List.getElem?_take, if_pos h]
theorem nth_append_left (l m : List UInt8) (i : Nat) (h : i < l.length) : nth (l ++ m) i = nth l i := by
  unfold nth; rw [List.getD_eq_getElem?_getD, List.getD_eq_getElem?_getD, List.getElem?_append_left h]
theorem nth_append_right (l m : List UInt8) (i : Nat) (h : l.length ≤ i) : nth (l ++ m) i = nth m (i - l.length) := by
  unfold nth; rw [List.getD_eq_getElem?_getD, List.getD_eq_getElem?_getD, List.getElem?_append_right h]
theorem extNth (l m : List UInt8) (h : l.length = m.length) (hn : ∀ k, k < l.length → nth l k = nth m k) : l = m := by
  apply List.ext_getElem h
  intro i h1 h2
  have := hn i h1
  rwa [nth_eq l i h1, nth_eq m i h2] at this

/-- only the first 64·j bytes count -/
theorem ab_prefix (mix : List UInt32 → List UInt8 → List UInt32) (start : List UInt32) (A B : List UInt8) : ∀ j, 64 * j ≤ A.length → ab mix start (A ++ B) j = ab mix start A j
  | 0, _ => rfl
  | j + 1, h => by
    rw [ab, ab, ab_prefix mix start A B j (by omega)]
    congr 1
    rw [List.drop_append_of_le_length (by omega), List.take_append_of_le_length (by rw [List.length_drop]; omega)]

/-- bytes laid over others -/
def spl (buf : List UInt8) (at_ : Nat) (x : List UInt8) : List UInt8 := buf.take at_ ++ (x ++ buf.drop (at_ + x.length))
theorem spl_length (buf : List UInt8) (at_ : Nat) (x : List UInt8) (h : at_ + x.length ≤ buf.length) : (spl buf at_ x).length = buf.length := by
  simp [spl]; omega
theorem spl_low (buf : List UInt8) (at_ : Nat) (x : List UInt8) (i : Nat) (h : i < at_) (hb : at_ ≤ buf.length) : nth (spl buf at_ x) i = nth buf i := by
  unfold spl; rw [nth_append_left _ _ _ (by rw [List.length_take]; omega), nth_take _ _ _ h]
theorem spl_mid (buf : List UInt8) (at_ : Nat) (x : List UInt8) (i : Nat) (h : at_ ≤ i) (h' : i < at_ + x.length) (hb : at_ ≤ buf.length) : nth (spl buf at_ x) i = nth x (i - at_) := by
  have e : (buf.take at_).length = at_ := by rw [List.length_take]; omega
  unfold spl; rw [nth_append_right _ _ _ (by omega), e, nth_append_left _ _ _ (by omega)]

/-- the state of a run that has taken the first q bytes of A -/
structure Inv (mix : List UInt32 → List UInt8 → List UInt32) (start : List UInt32) (A : List UInt8) (q : Nat) (ws : List UInt32) (buf : List UInt8) : Prop where
  words : ws = ab mix start A (q / 64)
  size : buf.length = 64
  bytes : ∀ i, i < q % 64 → nth buf i = nth A (64 * (q / 64) + i)

theorem Inv.start_ (mix : List UInt32 → List UInt8 → List UInt32) (start : List UInt32) (A buf : List UInt8) (h : buf.length = 64) : Inv mix start A 0 start buf :=
  ⟨rfl, h, fun i hi => absurd hi (by simp)⟩

/-- more bytes, the block not yet full -/
theorem Inv.part {mix : List UInt32 → List UInt8 → List UInt32} {start : List UInt32} {A : List UInt8} {q m : Nat} {ws : List UInt32} {buf : List UInt8} (h : Inv mix start A q ws buf)
    (hq : q + m ≤ A.length) (hm : q % 64 + m < 64) : Inv mix start A (q + m) ws (spl buf (q % 64) ((A.drop q).take m)) := by
  have hl : ((A.drop q).take m).length = m := by rw [List.length_take, List.length_drop]; omega
  have e1 : (q + m) / 64 = q / 64 := by omega
  have e2 : (q + m) % 64 = q % 64 + m := by omega
  refine ⟨by rw [e1]; exact h.words, by rw [spl_length _ _ _ (by rw [hl, h.size]; omega)]; exact h.size, fun i hi => ?_⟩
  rw [e1]; rw [e2] at hi
  by_cases hlt : i < q % 64
  · rw [spl_low _ _ _ _ hlt (by rw [h.size]; omega)]; exact h.bytes i hlt
  · rw [spl_mid _ _ _ _ (by omega) (by rw [hl]; exact hi) (by rw [h.size]; omega), nth_take _ _ _ (by omega), nth_drop]
    congr 1; omega

/-- the block is full -/
theorem Inv.full {mix : List UInt32 → List UInt8 → List UInt32} {start : List UInt32} {A : List UInt8} {q m : Nat} {ws : List UInt32} {buf : List UInt8} (h : Inv mix start A q ws buf)
    (hq : q + m ≤ A.length) (hm : q % 64 + m = 64) : Inv mix start A (q + m) (mix ws (spl buf (q % 64) ((A.drop q).take m))) (spl buf (q % 64) ((A.drop q).take m)) := by
  have hl : ((A.drop q).take m).length = m := by rw [List.length_take, List.length_drop]; omega
  have e1 : (q + m) / 64 = q / 64 + 1 := by omega
  have e2 : (q + m) % 64 = 0 := by omega
  have hsz : (spl buf (q % 64) ((A.drop q).take m)).length = 64 := by rw [spl_length _ _ _ (by rw [hl, h.size]; omega)]; exact h.size
  have eb : spl buf (q % 64) ((A.drop q).take m) = (A.drop (64 * (q / 64))).take 64 := by
    refine extNth _ _ (by rw [hsz, List.length_take, List.length_drop]; omega) fun i hi => ?_
    rw [hsz] at hi
    rw [nth_take _ _ _ hi, nth_drop]
    by_cases hlt : i < q % 64
    · rw [spl_low _ _ _ _ hlt (by rw [h.size]; omega)]; exact h.bytes i hlt
    · rw [spl_mid _ _ _ _ (by omega) (by rw [hl]; omega) (by rw [h.size]; omega), nth_take _ _ _ (by omega), nth_drop]
      congr 1; omega
  refine ⟨by rw [e1, ab, h.words, ← eb], hsz, fun i hi => absurd hi (by omega)⟩

theorem Inv.more {mix : List UInt32 → List UInt8 → List UInt32} {start : List UInt32} {A : List UInt8} {q : Nat} {ws : List UInt32} {buf : List UInt8} (h : Inv mix start A q ws buf) (hq : q ≤ A.length) (B : List UInt8) : Inv mix start (A ++ B) q ws buf :=
  ⟨by rw [ab_prefix mix start A B (q / 64) (by omega)]; exact h.words, h.size, fun i hi => by rw [nth_append_left _ _ _ (by omega)]; exact h.bytes i hi⟩

/-- a run's cells -/
def rc (kc : List Value) (ws : List UInt32) (buf : List UInt8) (n : Nat) : List Value := kc ++ (wv ws ++ (bv buf ++ [.int .u64 (n : Int)]))

theorem rc_length (kc : List Value) (ws : List UInt32) (buf : List UInt8) (n : Nat) (h1 : kc.length = 10) (h2 : ws.length = 8) (h3 : buf.length = 64) : (rc kc ws buf n).length = 83 := by
  simp [rc, wv_length, bv_length, h1, h2, h3]
theorem rc_kind (kc : List Value) (ws : List UInt32) (buf : List UInt8) (n i : Nat) (h1 : kc.length = 10) (hi : i < 10) : (rc kc ws buf n)[i]? = kc[i]? := by
  unfold rc; rw [List.getElem?_append_left (by omega)]
theorem rc_word (kc : List Value) (ws : List UInt32) (buf : List UInt8) (n i : Nat) (h1 : kc.length = 10) (h2 : ws.length = 8) (hi : i < 8) : (rc kc ws buf n)[10 + i]? = some (.int .u32 ((nthW ws i).toNat : Int)) := by
  unfold rc
  rw [List.getElem?_append_right (by omega), List.getElem?_append_left (by rw [wv_length]; omega)]
  have : 10 + i - kc.length = i := by omega
  rw [this, wv_at ws i (by omega)]
theorem rc_byte (kc : List Value) (ws : List UInt32) (buf : List UInt8) (n i : Nat) (h1 : kc.length = 10) (h2 : ws.length = 8) (h3 : buf.length = 64) (hi : i < 64) : (rc kc ws buf n)[18 + i]? = some (.int .u8 ((nth buf i).toNat : Int)) := by
  unfold rc
  rw [List.getElem?_append_right (by omega), List.getElem?_append_right (by rw [wv_length]; omega), List.getElem?_append_left (by rw [wv_length, bv_length]; omega)]
  have : 18 + i - kc.length - (wv ws).length = i := by rw [wv_length]; omega
  rw [this, bv_at buf i (by omega)]
theorem rc_taken (kc : List Value) (ws : List UInt32) (buf : List UInt8) (n : Nat) (h1 : kc.length = 10) (h2 : ws.length = 8) (h3 : buf.length = 64) : (rc kc ws buf n)[82]? = some (.int .u64 (n : Int)) := by
  unfold rc
  rw [List.getElem?_append_right (by omega), List.getElem?_append_right (by rw [wv_length]; omega), List.getElem?_append_right (by rw [wv_length, bv_length]; omega)]
  have : 82 - kc.length - (wv ws).length - (bv buf).length = 0 := by rw [wv_length, bv_length]; omega
  rw [this]; rfl
theorem rc_setTaken (kc : List Value) (ws : List UInt32) (buf : List UInt8) (n m : Nat) (h1 : kc.length = 10) (h2 : ws.length = 8) (h3 : buf.length = 64) : (rc kc ws buf n).set 82 (.int .u64 (m : Int)) = rc kc ws buf m := by
  unfold rc
  rw [List.set_append_right _ _ (by omega), List.set_append_right _ _ (by rw [wv_length]; omega), List.set_append_right _ _ (by rw [wv_length, bv_length]; omega)]
  have : 82 - kc.length - (wv ws).length - (bv buf).length = 0 := by rw [wv_length, bv_length]; omega
  rw [this]; rfl
/-- bytes are copied into the block -/
theorem rc_copy (kc : List Value) (ws : List UInt32) (buf : List UInt8) (n at_ : Nat) (x : List UInt8) (h1 : kc.length = 10) (h2 : ws.length = 8) (h3 : buf.length = 64) (hx : at_ + x.length ≤ 64) :
    (rc kc ws buf n).take (18 + at_) ++ (bv x ++ (rc kc ws buf n).drop (18 + at_ + (bv x).length)) = rc kc ws (spl buf at_ x) n := by
  have e1 : (rc kc ws buf n).take (18 + at_) = kc ++ (wv ws ++ bv (buf.take at_)) := by
    unfold rc
    rw [List.take_append, List.take_append, List.take_append, wv_length, bv_length, h1, h2, h3]
    have a1 : 18 + at_ - 10 - 8 = at_ := by omega
    have a2 : 18 + at_ - 10 - 8 - 64 = 0 := by omega
    rw [List.take_of_length_le (by omega), List.take_of_length_le (by rw [wv_length]; omega), a2, a1]
    unfold bv; rw [List.map_take]; simp
  have e2 : (rc kc ws buf n).drop (18 + at_ + (bv x).length) = bv (buf.drop (at_ + x.length)) ++ [.int .u64 (n : Int)] := by
    unfold rc
    rw [bv_length, List.drop_append, List.drop_append, List.drop_append, wv_length, bv_length, h1, h2, h3]
    have a1 : 18 + at_ + x.length - 10 - 8 = at_ + x.length := by omega
    have a2 : 18 + at_ + x.length - 10 - 8 - 64 = 0 := by omega
    rw [List.drop_eq_nil_of_le (by omega), List.drop_eq_nil_of_le (by rw [wv_length]; omega), a2, a1]
    unfold bv; rw [List.map_drop]; simp
  rw [e1, e2]
  unfold rc spl
  simp [bv_append, List.append_assoc]
/-- the words are stored anew -/
theorem rc_words (kc : List Value) (ws vs : List UInt32) (buf : List UInt8) (n : Nat) (h1 : kc.length = 10) (h2 : ws.length = 8) :
    (rc kc ws buf n).take 10 ++ (wv vs ++ (rc kc ws buf n).drop 18) = rc kc vs buf n := by
  unfold rc
  rw [List.take_append, List.drop_append, List.drop_append, wv_length, h1, h2]
  simp [List.take_of_length_le, List.drop_eq_nil_of_le, h1, wv_length, h2]

open Go.RowKit
theorem Blk.setCells {B t : Nat} : ∀ (vs : List Value) (o : Nat) (w : World) (cs : List Value), o + vs.length ≤ cs.length → Blk w B t cs → Blk (w.setCells B o vs) B t (cs.take o ++ (vs ++ cs.drop (o + vs.length)))
  | [], o, w, cs, _, h => by simpa [World.setCells] using h
  | v :: vs, o, w, cs, hl, h => by
    rw [World.setCells]
    have ih := Blk.setCells vs (o + 1) (w.setCell ⟨B, o, none⟩ v) (cs.set o v) (by simp at hl ⊢; omega) (h.set o v)
    have ho : o < cs.length := by simp at hl; omega
    have e1 : (cs.set o v).take (o + 1) = cs.take o ++ [v] := by
      rw [List.take_set, List.take_succ_eq_append_getElem ho, List.set_append_right _ _ (by simp; omega)]
      have : o - (cs.take o).length = 0 := by simp; omega
      rw [this]; rfl
    have e2 : (cs.set o v).drop (o + 1 + vs.length) = cs.drop (o + (v :: vs).length) := by
      rw [List.drop_set_of_lt (by omega)]; congr 1; simp; omega
    rw [e1, e2] at ih
    simpa using ih
theorem setCells_size (B : Nat) : ∀ (vs : List Value) (o : Nat) (w : World), (w.setCells B o vs).heap.size = w.heap.size
  | [], _, _ => rfl
  | v :: vs, o, w => by rw [World.setCells, setCells_size B vs (o + 1) _]; simp [World.setCell]
theorem setCells_os (B : Nat) : ∀ (vs : List Value) (o : Nat) (w : World), (w.setCells B o vs).os = w.os ∧ (w.setCells B o vs).tape = w.tape ∧ (w.setCells B o vs).output = w.output
  | [], _, _ => ⟨rfl, rfl, rfl⟩
  | v :: vs, o, w => by rw [World.setCells]; exact setCells_os B vs (o + 1) (w.setCell ⟨B, o, none⟩ v)
theorem setCells_other (B k : Nat) (hk : k ≠ B) : ∀ (vs : List Value) (o : Nat) (w : World), (w.setCells B o vs).heap[k]? = w.heap[k]?
  | [], _, _ => rfl
  | v :: vs, o, w => by rw [World.setCells, setCells_other B k hk vs (o + 1) _]; exact Below.heap_setCell _ _ _ _ hk
/-- what stands beside block G stands -/
theorem gb_below {w a b : World} {G : Nat} (h : w.grownBy a (some G)) (k : Below a.heap.size a b) : w.grownBy b (some G) :=
  ⟨k.os.trans h.os, k.tape.trans h.tape, k.output.trans h.output, Nat.le_trans h.size k.size, fun i hi hne => (k.block i (Nat.lt_of_lt_of_le hi h.size)).trans (h.block i hi hne)⟩
theorem gb_setCells {w a : World} {G : Nat} (h : w.grownBy a (some G)) (o : Nat) (vs : List Value) : w.grownBy (a.setCells G o vs) (some G) :=
  ⟨(setCells_os G vs o a).1.trans h.os, (setCells_os G vs o a).2.1.trans h.tape, (setCells_os G vs o a).2.2.trans h.output, by rw [setCells_size]; exact h.size,
    fun i hi hne => (setCells_other G i (fun e => hne (by rw [e])) vs o a).trans (h.block i hi hne)⟩
theorem gb_drew {w a : World} {r : Option Nat} (h : w.grownBy a r) : w.grownBy a.drew r := ⟨h.os, h.tape, h.output, h.size, h.block⟩
theorem IsB.setCells {w : World} {a : Option Addr} {len cap : Nat} {l : List UInt8} (h : IsB w a len cap l) (G o : Nat) (vs : List Value) (hG : 0 < len → ∀ b off, a = some ⟨b, off, none⟩ → b ≠ G) : IsB (w.setCells G o vs) a len cap l :=
  ⟨h.len_eq, h.le, h.max, h.nil, fun hp => by
    obtain ⟨b, off, e, hc⟩ := h.cells hp
    exact ⟨b, off, e, fun i hi => by rw [World.cell?_of_block (setCells_other G b (hG hp b off e) vs o w)]; exact hc i hi⟩⟩
theorem Blk.range {w : World} {B t : Nat} {cs : List Value} (h : Blk w B t cs) (o : Nat) (vs : List Value) (hv : ∀ j v, vs[j]? = some v → cs[o + j]? = some v) : w.rangeAt B o vs :=
  fun j v hj => by rw [h.cell]; exact hv j v hj
theorem Blk.there {w : World} {B t : Nat} {cs : List Value} (h : Blk w B t cs) (o n : Nat) (hn : o + n ≤ cs.length) : w.there B o n :=
  fun j hj => ⟨by rw [h.cell, List.getElem?_eq_getElem (by omega)]; rfl, h.frozen _⟩
end Go.Proofs.Ytbclhaleibjkgaa
