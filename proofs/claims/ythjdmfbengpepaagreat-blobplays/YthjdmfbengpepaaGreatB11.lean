/- What a kind's digest answers, of any parts; and sha256. · What digest.Sha256 answers. · The journal, plain: the seal's bytes, what a seal holds, a mount, transactions. · What the document's long, join, Uint, Bytes, Text, Bool, List answer. -/
import Derived.Test.YthjdmfbengpepaaGreatB10
import Derived.Test.YthjdmfbengpepaaGreatB4
import Derived.Test.YthjdmfbengpepaaGreatB5
import Derived.Test.YthjdmfbengpepaaGreatB6
namespace Go.Proofs.YthjdmfbengpepaaGreat
open Go.RowKit

/-- a slice of slices of bytes -/
structure IsPs (w : World) (a : Option Addr) (n cap : Nat) (ls : List (List UInt8)) : Prop where
  len_eq : ls.length = n
  max : n ≤ cap ∧ cap ≤ maxLen
  cells : 0 < n → ∃ b off, a = some ⟨b, off, none⟩ ∧ ∀ i, i < n → ∃ ai ci, w.cell? ⟨b, off + i, none⟩ = some (.slice ai (ls.getD i []).length ci) ∧ IsB w ai (ls.getD i []).length ci (ls.getD i [])

theorem take_flat (ls : List (List UInt8)) (k : Nat) (h : k < ls.length) : (ls.take (k + 1)).flatten = (ls.take k).flatten ++ ls.getD k [] := by
  rw [List.take_succ_eq_append_getElem h, List.flatten_append]
  simp [List.getElem?_eq_getElem h]
theorem flat_le (ls : List (List UInt8)) (k : Nat) : (ls.take k).flatten.length ≤ ls.flatten.length := by
  have : ls.flatten = (ls.take k).flatten ++ (ls.drop k).flatten := by rw [← List.flatten_append, List.take_append_drop]
  rw [this, List.length_append]; omega

attribute [local go_sem ↓] zv83

set_option maxRecDepth 20000 in
set_option maxHeartbeats 400000 in
theorem digDigest (mf : Nat) (mix : List UInt32 → List UInt8 → List UInt32) (s : S8) (hok : MixOK mf mix) (size : Nat) (hsz : size ≤ 32)
    (a : Option Addr) (n cap : Nat) (ls : List (List UInt8)) (w : World) (hp : IsPs w a n cap ls) (hn : ls.flatten.length < 4294967296) :
    Calls Tryz.prog 99 #[.agg (kcOf size s mf).toArray, .slice a n cap] w fun e w' => ∃ v, e = .returned v ∧ OwnB w' w.heap.size v (hashL mix s.list size ls.flatten) ∧ Below w.heap.size w w' := by
  have HP : Hid (IsPs w a n cap ls) := hp
  have hm1 := hp.max.1
  have hm2 := hp.max.2
  unfold maxLen at hm2
  clear hp
  have Bk : Blk (w.alloc (.cells (kcOf size s mf).toArray 158)) w.heap.size 158 (kcOf size s mf) := Blk.new w _ _
  go_enter Tryz.func99, Tryz.ntmps99
  go_wp2_with (refine wpList_load_row rfl 158 _ rfl _ rfl _ _ _ _ Bk Tryz.underlying158 rfl info10 ?_)
  refine (digBegin size s mf _).mono ?_
  rintro e w1 ⟨rfl, bel1⟩
  have hbel1 : Below w.heap.size w w1 := ((Below.refl _ _).alloc (Nat.le_refl _) _).trans (bel1.mono (by simp))
  clear bel1 Bk
  have Bz : Blk (w1.alloc (.cells zeros83.toArray 192)) w1.heap.size 192 zeros83 := Blk.new w1 _ _
  go_wp2_with (refine wpList_store_row rfl 192 _ _ rfl w1.heap.size (rc (kcOf size s mf) s.list (List.replicate 64 0) 0).toArray rfl rfl _ _ Bz info83 rfl (all_oneCell_toArray (oneCells83 size s mf)) ?_)
  have hg1 : w.heap.size ≤ w1.heap.size := hbel1.size
  refine wp_named (fun w2 => Blk w2 w1.heap.size 192 (rc (kcOf size s mf) s.list (List.replicate 64 0) 0) ∧ Below w.heap.size w w2) ⟨Bz.row _, bel_row (hbel1.alloc hbel1.size _) hg1 _⟩ ?_
  clear Bz hbel1
  rintro w2 ⟨B2, hbel2⟩
  generalize w1.heap.size = R at *
  go_wp2
  go_loopw [12] (fun c wr => ∃ (k : Nat) (ws : List UInt32) (buf : List UInt8), k ≤ n ∧ c = .int .i64 k ∧ Hid (ws.length = 8) ∧ Blk wr R 192 (rc (kcOf size s mf) ws buf (ls.take k).flatten.length) ∧ Hid (Inv mix s.list (ls.take k).flatten (ls.take k).flatten.length ws buf) ∧ Below w.heap.size w wr) (fun c _ => n - (intOf c).toNat)
  case atStart => exact ⟨0, s.list, List.replicate 64 0, Nat.zero_le _, rfl, rfl, by simpa using B2, Inv.start_ mix s.list _ _ rfl, hbel2⟩
  case round =>
    clear B2 hbel2
    obtain ⟨k, ws, buf, hk, rfl, hw8, hB, hI, hbel⟩ := hrel
    by_cases hlt : k < n
    · obtain ⟨b, off, rfl, hcell⟩ := HP.out.cells (by omega)
      obtain ⟨ai, ci, hc, hB1⟩ := hcell k hlt
      have hlt' : (k : Int) < (n : Int) := by omega
      have hb : b < w.heap.size := cell_lt hc
      have hc' := (hbel.cell (p := ⟨b, off + k, none⟩) hb).trans hc
      have HB1 : Hid (IsB wr ai (ls.getD k []).length ci (ls.getD k [])) := hB1.below hbel rfl
      have HG : Hid (0 < (ls.getD k []).length → ∀ b' off', ai = some ⟨b', off', none⟩ → b' ≠ R) := by
        intro h b' off' e
        obtain ⟨b2, o2, e2, hc2⟩ := hB1.cells h
        have := cell_lt (hc2 0 h)
        rw [e] at e2
        injection e2 with e2
        injection e2 with e3 _
        rw [e3]
        show b2 ≠ R
        have h3 : b2 < w.heap.size := this
        omega
      have HF : Hid ((ls.take (k + 1)).flatten = (ls.take k).flatten ++ ls.getD k []) := take_flat ls k (by rw [HP.out.len_eq]; exact hlt)
      have HFL : Hid ((ls.take (k + 1)).flatten.length ≤ ls.flatten.length) := flat_le ls (k + 1)
      have HBk : Hid (Blk wr R 192 (rc (kcOf size s mf) ws buf (ls.take k).flatten.length)) := hB
      clear hcell hc hB1 hB
      generalize ls.getD k [] = l at *
      go_wp2_with fail
      have hadd := digAdd mf mix s.list hok (kcOf size s mf) rfl rfl R 192 ws buf (ls.take k).flatten l ai l.length ci wr hw8.out HBk.out hI.out HB1.out HG.out (by have := HFL.out; rw [HF.out, List.length_append] at this; omega)
      refine hadd.mono ?_
      rintro e w3 ⟨rfl, ws', buf', hw8', b3, hI3, hg3⟩
      have hbel3 : Below w.heap.size w w3 := hbel.grown hg3 hbel.size (fun j hj => by injection hj with hj; omega)
      clear hadd hg3 hbel HBk HB1 HG hc'
      have HL : Hid ((ls.take k).flatten.length + l.length = (ls.take (k + 1)).flatten.length) := by unfold Hid; rw [HF.out, List.length_append]
      have H3 : Hid (Blk w3 R 192 (rc (kcOf size s mf) ws' buf' (ls.take (k + 1)).flatten.length)) := by unfold Hid; rw [← HL.out]; exact b3
      have H4 : Hid (Inv mix s.list (ls.take (k + 1)).flatten (ls.take (k + 1)).flatten.length ws' buf') := by unfold Hid; rw [← HL.out, HF.out]; exact hI3
      clear b3 hI3
      go_wp2
      go_roundw
      case rel => exact ⟨k + 1, ws', buf', by omega, by go_num, hw8', H3.out, H4.out, hbel3⟩
      case measure => simp [intOf]; omega
    · have HA : Hid ((ls.take k).flatten = ls.flatten) := by unfold Hid; rw [List.take_of_length_le (by rw [HP.out.len_eq]; omega)]
      rw [HA.out] at hB hI
      obtain ⟨A, hA⟩ : ∃ A, A = ls.flatten := ⟨_, rfl⟩
      have HAA : Hid (A = ls.flatten) := hA
      rw [← hA] at hB hI hn
      clear hA
      have hsz83 : Hid ((Tryz.prog.info? 192).map (·.size) = some (rc (kcOf size s mf) ws buf A.length).toArray.size) := by
        unfold Hid; rw [info83, List.size_toArray, rc_length _ _ _ _ rfl hw8.out hI.out.size]
      go_wp2_with (refine wpList_load_row rfl 192 _ rfl _ rfl _ _ _ _ hB Tryz.underlying192 rfl hsz83.out ?_)
      refine (digSum mf mix s.list hok size hsz (kcOf size s mf) rfl rfl rfl ws buf A wr hw8.out hI.out hn).mono ?_
      rintro e w3 ⟨v, rfl, hown, hbel3⟩
      have hbel4 : Below w.heap.size w w3 := hbel.trans (hbel3.mono hbel.size)
      have hsz1 : w.heap.size ≤ wr.heap.size := hbel.size
      clear hB
      go_wp2
      go_ret
      rw [HAA.out] at hown
      exact ⟨_, rfl, hown.base hsz1, hbel4⟩
end Go.Proofs.YthjdmfbengpepaaGreat
namespace Go.Proofs.YthjdmfbengpepaaGreat
open Go.RowKit

def s256 : S8 := ⟨0x6a09e667, 0xbb67ae85, 0x3c6ef372, 0xa54ff53a, 0x510e527f, 0x9b05688c, 0x1f83d9ab, 0x5be0cd19⟩
def mix256L (ws : List UInt32) (bl : List UInt8) : List UInt32 := (mixS (S8.of ws) bl).list

theorem list8 (ws : List UInt32) (h : ws.length = 8) : (S8.of ws).list = ws := by
  match ws, h with
  | [_, _, _, _, _, _, _, _], _ => rfl

theorem callf {f : Nat} {fn : Func} (hf : Tryz.prog.funcs[f]? = some fn) (hn : (fn.name == "runtime.NumGoroutine") = false) (hb : fn.body.isNone = false) (args : Array Value) (w : World) : (callFunc f args).run Tryz.prog w = .ok (.enter f args) w := by
  have h1 : fn.name ≠ "runtime.NumGoroutine" := by simpa using hn
  have h2 : fn.body ≠ none := by intro e; rw [e] at hb; cases hb
  simp [callFunc, hf, h1, h2]

theorem mixOK256 : MixOK 135 mix256L := by
  refine ⟨fun _ _ => rfl, fun args w => ?_, fun ws bl w h8 h64 => ?_⟩
  · exact callf Tryz.func135 (by kernel_rfl) (by kernel_rfl) args w
  · have := digMix256 (S8.of ws) bl h64 w
    rw [list8 ws h8] at this
    exact this

/-- SHA-256 of bytes -/
def sha256L (A : List UInt8) : List UInt8 := hashL mix256L s256.list 32 A
theorem sha256L_length (l : List UInt8) : (sha256L l).length = 32 := by unfold sha256L hashL; rw [outB_length]

theorem zero10 : (Tryz.prog.info? 158).map (·.zero) = some (some (.agg (.int .i64 0 :: (wv (List.replicate 8 0) ++ [.nilFunc])).toArray)) := by kernel_rfl

theorem oneKc (size : Int) (s : S8) (mf : Nat) : ∀ u ∈ kcOf size s mf, u.oneCell' = true := by
  intro u h
  unfold kcOf at h
  rcases List.mem_cons.1 h with rfl | h
  · rfl
  · rcases List.mem_append.1 h with h | h
    · exact wv_one _ u h
    · rcases List.mem_cons.1 h with rfl | h
      · rfl
      · cases h

set_option maxRecDepth 20000 in
set_option maxHeartbeats 400000 in
theorem digKind256 (w : World) :
    Calls Tryz.prog 98 #[] w fun e w' => e = .returned (.agg (kcOf (32 : Nat) s256 135).toArray) ∧ Below w.heap.size w w' := by
  have Bz : Blk (w.alloc (.cells (.int .i64 0 :: (wv (List.replicate 8 0) ++ [.nilFunc])).toArray 158)) w.heap.size 158 (.int .i64 0 :: (wv (List.replicate 8 0) ++ [.nilFunc])) := Blk.new w _ _
  go_enter Tryz.func98, Tryz.ntmps98
  go_wp2_with (refine wpList_store_row rfl 158 _ _ rfl w.heap.size (kcOf (32 : Nat) s256 135).toArray rfl rfl _ _ Bz info10 rfl (all_oneCell_toArray (oneKc _ _ _)) ?_)
  refine bodyPost_ret (v := .agg (kcOf (32 : Nat) s256 135).toArray) ?_ rfl ⟨rfl, bel_row ((Below.refl _ _).alloc (Nat.le_refl _) _) (Nat.le_refl _) _⟩
  exact results_cell_row Tryz.results98 _ _ _ _ _ _ _ rfl (Bz.row (kcOf (32 : Nat) s256 135)) Tryz.underlying158 rfl info10

theorem IsPs.one {w : World} (B : Nat) (a : Option Addr) (len cap : Nat) (l : List UInt8) (hb : w.cell? ⟨B, 0, none⟩ = some (.slice a len cap)) (h : IsB w a len cap l) : IsPs w (some ⟨B, 0, none⟩) 1 1 [l] := by
  refine ⟨rfl, ⟨Nat.le_refl _, by decide⟩, fun _ => ⟨B, 0, rfl, fun i hi => ?_⟩⟩
  have : i = 0 := by omega
  subst this
  have e : ([l] : List (List UInt8)).getD 0 [] = l := rfl
  rw [e, h.len_eq]
  exact ⟨a, cap, hb, h⟩

set_option maxRecDepth 20000 in
set_option maxHeartbeats 400000 in
theorem digSha256 (a : Option Addr) (len cap : Nat) (l : List UInt8) (w : World) (h : IsB w a len cap l) (hn : len < 4294967296) :
    Calls Tryz.prog 48 #[.slice a len cap] w fun e w' => ∃ v, e = .returned v ∧ OwnB w' w.heap.size v (sha256L l) ∧ Below w.heap.size w w' := by
  have H : Hid (IsB w a len cap l) := h
  clear h
  go_enter Tryz.func48, Tryz.ntmps48
  go_wp2_with fail
  refine (digKind256 _).mono ?_
  rintro e w1 ⟨rfl, bel1⟩
  have H1 : Hid (IsB w1 a len cap l) := H.out.below bel1 rfl
  go_wp2_with fail
  refine (digDigest 135 mix256L s256 mixOK256 32 (by omega) _ _ _ [l] _ (by exact IsPs.one _ _ _ _ _ (by simp) (H1.out.below ((Below.refl _ _).alloc (Nat.le_refl _) _) rfl)) (by simp [H1.out.len_eq]; omega)).mono ?_
  rintro e w2 ⟨v, rfl, hown, bel2⟩
  have e1 : ([l] : List (List UInt8)).flatten = l := by simp
  rw [e1] at hown
  have hb : Below w.heap.size w w2 := (bel1.alloc bel1.size _).trans (bel2.mono (by have := bel1.size; simp; omega))
  have ho : OwnB w2 w.heap.size v (sha256L l) := hown.base (by have := bel1.size; simp; omega)
  clear hown bel1 bel2
  go_wp2
  go_ret
  exact ⟨_, rfl, ho, hb⟩
end Go.Proofs.YthjdmfbengpepaaGreat
namespace Go.Proofs.YthjdmfbengpepaaGreat
open Go.RowKit

abbrev Qs := List (Nat × List UInt8)
/-- the text stele -/
def steleB : List UInt8 := [115, 116, 101, 108, 101]
def headTo (seq : Nat) (l : Qs) (k : Nat) : List UInt8 := (l.take k).foldl (fun b g => uintL b g.1) (listL (uintL (textL [] steleB) seq) (l.length : Int))
def headJ (seq : Nat) (l : Qs) : List UInt8 := headTo seq l l.length
def bodyTo (l : Qs) (k : Nat) : List UInt8 := (l.take k).foldl (fun b g => b ++ g.2) []
def sumJ (seq : Nat) (l : Qs) : List UInt8 := sha256L (l.foldl (fun b g => b ++ g.2) (headJ seq l))
def preJ (seq : Nat) (l : Qs) : List UInt8 := bytesL (headJ seq l) (sumJ seq l)
def sealJ (seq : Nat) (l : Qs) : List UInt8 := preJ seq l ++ List.replicate (512 - (preJ seq l).length) 0

theorem takeQs (l : Qs) (k : Nat) (h : k < l.length) : l.take (k + 1) = l.take k ++ [l.getD k (0, [])] := by
  rw [List.getD_eq_getElem?_getD, List.getElem?_eq_getElem h, ← List.take_append_getElem h]; rfl
theorem headTo_zero (seq : Nat) (l : Qs) : headTo seq l 0 = listL (uintL (textL [] steleB) seq) (l.length : Int) := rfl
theorem headTo_succ (seq : Nat) (l : Qs) (k : Nat) (h : k < l.length) : headTo seq l (k + 1) = uintL (headTo seq l k) (l.getD k (0, [])).1 := by
  unfold headTo; rw [takeQs l k h, List.foldl_append]; rfl
theorem uintL_length (l : List UInt8) (n : Nat) : (uintL l n).length = l.length + 9 := by
  unfold uintL behL; rw [List.length_append, List.length_cons, beL_length]
theorem headTo_length (seq : Nat) (l : Qs) (k : Nat) (hk : k ≤ l.length) : (headTo seq l k).length = 24 + 9 * k := by
  induction k with
  | zero =>
    rw [headTo_zero]
    unfold listL behL
    rw [List.length_append, List.length_cons, beL_length, uintL_length]
    unfold textL behL
    simp [beL_length, steleB]
  | succ k ih => rw [headTo_succ _ _ _ (by omega), uintL_length, ih (by omega)]; omega
theorem headJ_length (seq : Nat) (l : Qs) : (headJ seq l).length = 24 + 9 * l.length := headTo_length seq l _ (Nat.le_refl _)
theorem sealJ_length (seq : Nat) (l : Qs) (h : (preJ seq l).length ≤ 512) : (sealJ seq l).length = 512 := by
  unfold sealJ; rw [List.length_append, List.length_replicate]; omega

/-- what the numbers behind a seal's head say, with the slots -/
def heldGo (p : Pl) : Nat → Nat → List UInt8 → Bool → Qs → Option (Qs × Bool)
  | 0, _, _, bad, l => some (l, bad)
  | k + 1, i, r, bad, l =>
    if (rdUint r bad).2.2 = true ∨ (rdUint r bad).1 < 49 ∨ p.n ≤ (rdUint r bad).1 then none
    else heldGo p k (i + 1) (rdUint r bad).2.1 (rdUint r bad).2.2 (l ++ [((rdUint r bad).1, p.rdB ((1 + i : Nat) : Int))])
def hdName (b : List UInt8) : List UInt8 × List UInt8 × Bool := rdSome 115 b false
def hdSeq (b : List UInt8) : Nat × List UInt8 × Bool := rdUint (hdName b).2.1 (hdName b).2.2
def hdN (b : List UInt8) : Nat × List UInt8 × Bool := rdList (hdSeq b).2.1 (hdSeq b).2.2 48
def heldEnd (b : List UInt8) : Option (Qs × Bool) → Option (Nat × Qs)
  | none => none
  | some (l, bad) => if bad = true ∨ (hdName b).1 ≠ steleB ∨ sealJ (hdSeq b).1 l ≠ b then none else some ((hdSeq b).1, l)
def heldB (p : Pl) (b : List UInt8) : Option (Nat × Qs) := heldEnd b (heldGo p (hdN b).1 0 (hdN b).2.1 (hdN b).2.2 [])
/-- what the seal says, if it holds -/
def heldJ (p : Pl) : Option (Nat × Qs) := if p.rdE 0 ≠ 0 then none else heldB p (p.rdB 0)
/-- writes, then a flush -/
def stepsP : Pl → Qs → Pl
  | p, [] => p.flush
  | p, g :: l => if p.wrE (g.1 : Int) g.2 = 0 then stepsP (p.write (g.1 : Int) g.2) l else p.write (g.1 : Int) g.2
def stepsE : Pl → Qs → Int
  | p, [] => p.flE
  | p, g :: l => if p.wrE (g.1 : Int) g.2 = 0 then stepsE (p.write (g.1 : Int) g.2) l else p.wrE (g.1 : Int) g.2
/-- a mount: the disk behind it, the error, the number -/
def mountP (p : Pl) : Pl := if p.rdE 0 ≠ 0 then p else match heldJ p with | none => p | some (_, l) => stepsP p l
def mountE (p : Pl) : Int := if p.rdE 0 ≠ 0 then p.rdE 0 else match heldJ p with | none => 0 | some (_, l) => stepsE p l
def mountS (p : Pl) : Nat := match heldJ p with | none => 0 | some (s, _) => s

/-- is it a sector of the area? -/
def areaI (n : Nat) (i : Int) : Bool := decide (49 ≤ i ∧ i < n)
/-- a journal, plain -/
structure Jl where
  p : Pl
  seq : Nat
  dead : Bool
/-- a transaction, plain -/
structure Tl where
  l : Qs
  over : Bool
/-- a sector put among others, in order of their numbers -/
def putQ : Qs → Nat → List UInt8 → Qs
  | [], i, b => [(i, b)]
  | g :: l, i, b => if g.1 < i then g :: putQ l i b else if g.1 = i then (i, b) :: l else (i, b) :: g :: l
/-- is there a write to that sector, behind the lesser ones? -/
def hitQ : Qs → Nat → Bool
  | [], _ => false
  | g :: l, i => if g.1 < i then hitQ l i else g.1 == i
namespace Tl
def wrE (t : Tl) (j : Jl) (i : Int) (b : List UInt8) : Int :=
  if t.over = true ∨ j.dead = true then 51 else if areaI j.p.n i = false then 50 else if b.length ≠ 512 then 1 else if hitQ t.l i.toNat = false ∧ 48 ≤ t.l.length then 44 else 0
def write (t : Tl) (j : Jl) (i : Int) (b : List UInt8) : Tl := if t.wrE j i b = 0 then { t with l := putQ t.l i.toNat b } else t
def find (l : Qs) (i : Int) : Option (List UInt8) := (l.find? fun g => ((g.1 : Int) == i)).map (·.2)
def rdE (t : Tl) (j : Jl) (i : Int) : Int := match find t.l i with | some _ => 0 | none => if areaI j.p.n i = false then 50 else j.p.rdE i
def rdB (t : Tl) (j : Jl) (i : Int) : List UInt8 := match find t.l i with | some b => b | none => if areaI j.p.n i = false then [] else j.p.rdB i
def slots (l : Qs) : Nat → Qs
  | _ => (l.zipIdx 1).map fun x => (x.2, x.1.2)
def slotsOf (l : Qs) : Qs := (l.zipIdx 1).map fun x => (x.2, x.1.2)
/-- the three steps of a commit -/
def goP (t : Tl) (j : Jl) : Pl :=
  if stepsE j.p (slotsOf t.l) ≠ 0 then stepsP j.p (slotsOf t.l)
  else if stepsE (stepsP j.p (slotsOf t.l)) [(0, sealJ (j.seq + 1) t.l)] ≠ 0 then stepsP (stepsP j.p (slotsOf t.l)) [(0, sealJ (j.seq + 1) t.l)]
  else stepsP (stepsP (stepsP j.p (slotsOf t.l)) [(0, sealJ (j.seq + 1) t.l)]) t.l
def goE (t : Tl) (j : Jl) : Int :=
  if stepsE j.p (slotsOf t.l) ≠ 0 then stepsE j.p (slotsOf t.l)
  else if stepsE (stepsP j.p (slotsOf t.l)) [(0, sealJ (j.seq + 1) t.l)] ≠ 0 then stepsE (stepsP j.p (slotsOf t.l)) [(0, sealJ (j.seq + 1) t.l)]
  else stepsE (stepsP (stepsP j.p (slotsOf t.l)) [(0, sealJ (j.seq + 1) t.l)]) t.l
def coE (t : Tl) (j : Jl) : Int := if t.over = true ∨ j.dead = true then 51 else if t.l = [] then 0 else t.goE j
def coJ (t : Tl) (j : Jl) : Jl :=
  if t.over = true ∨ j.dead = true then j else if t.l = [] then j else if t.goE j = 0 then ⟨t.goP j, j.seq + 1, j.dead⟩ else ⟨t.goP j, j.seq, true⟩
def coT (t : Tl) (j : Jl) : Tl := if t.over = true ∨ j.dead = true then t else { t with over := true }
end Tl
end Go.Proofs.YthjdmfbengpepaaGreat
namespace Go.Proofs.YthjdmfbengpepaaGreat
open Go.RowKit
attribute [local go_sem ↓] Go.wp_at_zero Go.wp_at_succ

set_option maxRecDepth 20000 in
set_option maxHeartbeats 1000000 in
theorem refLong (n size : Nat) (w : World) (hs : size ≤ 8) :
    Calls Tryz.prog 119 #[.int .u64 (n : Int), .int .i64 (size : Int)] w fun e w' => ∃ v, e = .returned v ∧ OwnB w' w.heap.size v (beL n size size) ∧ Below w.heap.size w w' := by
  go_enter Tryz.func119, Tryz.ntmps119
  go_wp2
  go_loopw [5, 6] (fun v i wr => ∃ j : Nat, j ≤ size ∧ i = .int .i64 ((size : Int) - 1 - (j : Int)) ∧ OwnB wr w.heap.size v (beL n size j) ∧ Below w.heap.size w wr) (fun _ i _ => (intOf i + 1).toNat)
  case atStart => exact ⟨0, Nat.zero_le _, by go_num, OwnB.nil _ _, Below.refl _ _⟩
  case round =>
    obtain ⟨j, hj, rfl, hown, hbel⟩ := hrel
    have HL4 : Hid ((beL n size j).length = j) := beL_length n size j
    by_cases hlt : j < size
    · obtain ⟨t, ht⟩ : ∃ t : Nat, (size : Int) - 1 - (j : Int) = (t : Int) := ⟨size - 1 - j, by omega⟩
      have HT : Hid ((size : Int) - 1 - (j : Int) = (t : Int)) := ht
      have ht8 : t < 8 := by omega
      have htj : size - 1 - j = t := by omega
      have HV : Hid ((n : Int) / 2 ^ (8 * t) % 256 = ((beAt n size j).toNat : Int)) := by
        have := beAt_val n size j
        unfold Hid; rw [← this, htj]
      have HVw : IntKind.u8.wrap ((n : Int) / 2 ^ (8 * t)) = ((beAt n size j).toNat : Int) := by rw [wrap8_mod]; exact HV.out
      have HO : Hid (beL n size (j + 1) = beL n size j ++ [beAt n size j]) := beL_succ n size j
      have HB := hown.blk
      clear htj
      rw [ht]
      clear ht
      have h8 : (8 * (t : Int)).toNat = 8 * t := by omega
      go_wp2_with (at_builtin; refine list_app8 _ rfl (.tmp 13) (.tmp 20) rfl w.heap.size _ (beL n size j) rfl (hown.alloc _) wr.heap.size 1 1 [beAt n size j] rfl rfl (heap_alloc_new wr _) (by omega) (by rw [HL4.out]; omega) (by have := hbel.size; simp; omega) _ rfl ?_; intro g4 cap4 w4 hown4 hgrow4 hat4 hlt4)
      go_roundw
      case rel => exact ⟨j + 1, by omega, by have := HT.out; go_num, by rw [HO.out]; exact hown4, (hbel.alloc hbel.size _).grown hgrow4 (by have := hbel.size; simp; omega) (fun q hq => (HB q hq).1)⟩
      case measure => simp [intOf]
    · have e : j = size := by omega
      have hge : ¬ ((0 : Int) ≤ (size : Int) - 1 - (j : Int)) := by omega
      have HO : Hid (OwnB wr w.heap.size u5 (beL n size size)) := by
        have := hown
        rw [e] at this; exact this
      clear hown e
      go_wp2
      go_ret
      exact ⟨_, rfl, HO.out, hbel⟩

set_option maxHeartbeats 1000000 in
theorem refJoin (a : Option Addr) (len cap : Nat) (l : List UInt8) (a1 : Option Addr) (len1 cap1 : Nat) (b : List UInt8) (w : World) (h : IsB w a len cap l) (h1 : IsB w a1 len1 cap1 b) (hl : len + len1 ≤ 140737488355328) :
    Calls Tryz.prog 118 #[.slice a len cap, .slice a1 len1 cap1] w fun e w' => ∃ v, e = .returned v ∧ OwnB w' w.heap.size v (l ++ b) ∧ Below w.heap.size w w' := by
  have H : Hid (IsB w a len cap l) := h
  have H1 : Hid (IsB w a1 len1 cap1 b) := h1
  have HE : Hid (l.length = len) := h.len_eq
  clear h h1
  go_enter Tryz.func118, Tryz.ntmps118
  have hbel0 : Below w.heap.size w (w.alloc (.cells #[] 5)) := (Below.refl _ _).alloc (Nat.le_refl _) _
  have hemp : OwnB (w.alloc (.cells #[] 5)) w.heap.size (.slice (some ⟨w.heap.size, 0, none⟩) 0 0) [] := OwnB.empty w _ (Nat.le_refl _)
  go_wp2_with (first
    | (at_builtin; refine list_appS _ rfl (.tmp 5) (.tmp 6) rfl w.heap.size _ [] rfl hemp a len cap l rfl (H.out.below hbel0 rfl) (by simp; omega) (by simp) ?_; intro v1 w1 hown1 hgrow1; have hbel1 : Below w.heap.size w w1 := grow_bel hbel0 hemp hgrow1)
    | (at_builtin; refine list_appS _ rfl (.tmp 7) (.tmp 8) rfl w.heap.size v1 ([] ++ l) rfl hown1 a1 len1 cap1 b rfl (H1.out.below hbel1 rfl) (by have := HE.out; simp; omega) hbel1.size ?_; intro v2 w2 hown2 hgrow2))
  go_ret
  exact ⟨_, rfl, hown2, grow_bel hbel1 hown1 hgrow2⟩

theorem refJoinV (v1 v2 : Value) (l b : List UInt8) (w : World) (h : IsV w v1 l) (h1 : IsV w v2 b) (hl : l.length + b.length ≤ 140737488355328) :
    Calls Tryz.prog 118 #[v1, v2] w fun e w' => ∃ v, e = .returned v ∧ OwnB w' w.heap.size v (l ++ b) ∧ Below w.heap.size w w' := by
  obtain ⟨a, cap, rfl, i1⟩ := h
  obtain ⟨a1, cap1, rfl, i2⟩ := h1
  exact refJoin a _ cap l a1 _ cap1 b w i1 i2 hl

theorem uintL_eq (l : List UInt8) (n : Nat) : l ++ [] ++ [117] ++ beL n 8 8 = uintL l n := by simp [uintL, behL]
theorem listL_eq (l : List UInt8) (n : Nat) : l ++ [] ++ [108] ++ beL n 4 4 = behL l 108 n 4 4 := by simp [behL]
theorem bytesL_eq (l b : List UInt8) (n : Nat) (h : b.length = n) : l ++ [] ++ [98] ++ beL n 4 4 ++ b = bytesL l b := by simp [bytesL, behL, h]
theorem textL_eq (l b : List UInt8) (n : Nat) (h : b.length = n) : l ++ [] ++ [115] ++ beL n 4 4 ++ b = textL l b := by simp [textL, behL, h]

set_option maxRecDepth 20000 in
set_option maxHeartbeats 1000000 in
theorem refUint (a : Option Addr) (len cap : Nat) (l : List UInt8) (n : Nat) (w : World) (h : IsB w a len cap l) (hl : len ≤ 140737488351232) :
    Calls Tryz.prog 71 #[.slice a len cap, .int .u64 (n : Int)] w fun e w' => ∃ v, e = .returned v ∧ OwnB w' w.heap.size v (uintL l n) ∧ Below w.heap.size w w' := by
  have H : Hid (IsB w a len cap l) := h
  have HE : Hid (l.length = len) := h.len_eq
  clear h
  go_enter Tryz.func71, Tryz.ntmps71
  go_wp2_with fail
  refine (refJoin a len cap l none 0 0 [] w H.out (isB_none w) (by omega)).mono ?_
  rintro e w1 ⟨v1, rfl, o1, b1⟩
  go_wp2_with (at_builtin; refine list_app1 _ rfl (.tmp 6) (.tmp 7) rfl w.heap.size v1 (l ++ []) rfl (o1.alloc _) w1.heap.size 1 [117] rfl rfl (heap_alloc_new w1 _) (by have := HE.out; simp; omega) (by have := b1.size; simp; omega) ?_; intro v3 w3 o3 hg3; have b3 : Below w.heap.size w w3 := grow_bel1 b1 o1 hg3)
  refine (refLong n 8 w3 (by omega)).mono ?_
  rintro e w4 ⟨v4, rfl, o4, b4⟩
  have b4' : Below w.heap.size w w4 := b3.trans (b4.mono b3.size)
  go_wp2_with fail
  refine (refJoinV v3 v4 _ _ w4 (o3.isV.below b4 rfl) o4.isV (by have := HE.out; simp [beL_length]; omega)).mono ?_
  rintro e w5 ⟨v5, rfl, o5, b5⟩
  rw [uintL_eq] at o5
  go_wp2_with fail
  go_ret
  exact ⟨_, rfl, o5.base b4'.size, b4'.trans (b5.mono b4'.size)⟩

set_option maxRecDepth 20000 in
set_option maxHeartbeats 1000000 in
theorem refList (a : Option Addr) (len cap : Nat) (l : List UInt8) (n : Int) (w : World) (h : IsB w a len cap l) (hl : len ≤ 140737488351232) :
    Calls Tryz.prog 73 #[.slice a len cap, .int .i64 n] w fun e w' => ∃ v, e = .returned v ∧ OwnB w' w.heap.size v (listL l n) ∧ Below w.heap.size w w' := by
  have H : Hid (IsB w a len cap l) := h
  have HE : Hid (l.length = len) := h.len_eq
  clear h
  obtain ⟨m, hm0⟩ : ∃ m : Nat, (n < 0 ∧ m = 0) ∨ (¬ n < 0 ∧ 2147483647 < n ∧ m = 0) ∨ (n = (m : Int) ∧ m ≤ 2147483647) := by
    by_cases h0 : n < 0
    · exact ⟨0, .inl ⟨h0, rfl⟩⟩
    · by_cases h1 : 2147483647 < n
      · exact ⟨0, .inr (.inl ⟨h0, h1, rfl⟩)⟩
      · exact ⟨n.toNat, .inr (.inr ⟨by omega, by omega⟩)⟩
  have HM : Hid (listL l n = behL l 108 m 4 4) := by
    unfold Hid listL
    rcases hm0 with ⟨h0, rfl⟩ | ⟨_, h0, rfl⟩ | ⟨rfl, h0⟩
    · rw [if_pos (.inl h0)]
    · rw [if_pos (.inr h0)]
    · rw [if_neg (by omega)]; rfl
  rcases hm0 with ⟨h0, rfl⟩ | ⟨hnn, h0, rfl⟩ | ⟨rfl, h0⟩
  all_goals
    go_enter Tryz.func73, Tryz.ntmps73
    go_wp2_with fail
    refine (refJoin a len cap l none 0 0 [] w H.out (isB_none w) (by omega)).mono ?_
    rintro e w1 ⟨v1, rfl, o1, b1⟩
    go_wp2_with (at_builtin; refine list_app1 _ rfl (.tmp 12) (.tmp 13) rfl w.heap.size v1 (l ++ []) rfl (o1.alloc _) w1.heap.size 1 [108] rfl rfl (heap_alloc_new w1 _) (by have := HE.out; simp; omega) (by have := b1.size; simp; omega) ?_; intro v3 w3 o3 hg3; have b3 : Below w.heap.size w w3 := grow_bel1 b1 o1 hg3)
    refine (refLong _ 4 w3 (by omega)).mono ?_
    rintro e w4 ⟨v4, rfl, o4, b4⟩
    have b4' : Below w.heap.size w w4 := b3.trans (b4.mono b3.size)
    go_wp2_with fail
    refine (refJoinV v3 v4 _ _ w4 (o3.isV.below b4 rfl) o4.isV (by have := HE.out; simp [beL_length]; omega)).mono ?_
    rintro e w5 ⟨v5, rfl, o5, b5⟩
    rw [listL_eq] at o5
    go_wp2_with fail
    go_ret
    exact ⟨_, rfl, by rw [HM.out]; exact o5.base b4'.size, b4'.trans (b5.mono b4'.size)⟩

set_option maxRecDepth 20000 in
set_option maxHeartbeats 1000000 in
theorem refBytes2 (a : Option Addr) (len cap : Nat) (l : List UInt8) (a1 : Option Addr) (len1 cap1 : Nat) (b : List UInt8) (w : World) (h : IsB w a len cap l) (h1 : IsB w a1 len1 cap1 b) (hl : len ≤ 1099511627776) (hl1 : len1 ≤ 1099511627776) :
    Calls Tryz.prog 72 #[.slice a len cap, .slice a1 len1 cap1] w fun e w' => ∃ v, e = .returned v ∧ OwnB w' w.heap.size v (bytesL l b) ∧ Below w.heap.size w w' := by
  have H : Hid (IsB w a len cap l) := h
  have H1 : Hid (IsB w a1 len1 cap1 b) := h1
  have HE : Hid (l.length = len) := h.len_eq
  have HE1 : Hid (b.length = len1) := h1.len_eq
  clear h h1
  go_enter Tryz.func72, Tryz.ntmps72
  go_wp2_with fail
  refine (refJoin a len cap l none 0 0 [] w H.out (isB_none w) (by omega)).mono ?_
  rintro e w1 ⟨v1, rfl, o1, b1⟩
  go_wp2_with (at_builtin; refine list_app1 _ rfl (.tmp 6) (.tmp 7) rfl w.heap.size v1 (l ++ []) rfl (o1.alloc _) w1.heap.size 1 [98] rfl rfl (heap_alloc_new w1 _) (by have := HE.out; simp; omega) (by have := b1.size; simp; omega) ?_; intro v3 w3 o3 hg3; have b3 : Below w.heap.size w w3 := grow_bel1 b1 o1 hg3)
  refine (refLong len1 4 w3 (by omega)).mono ?_
  rintro e w4 ⟨v4, rfl, o4, b4⟩
  have b4' : Below w.heap.size w w4 := b3.trans (b4.mono b3.size)
  go_wp2_with fail
  refine (refJoinV v3 v4 _ _ w4 (o3.isV.below b4 rfl) o4.isV (by have := HE.out; simp [beL_length]; omega)).mono ?_
  rintro e w5 ⟨v5, rfl, o5, b5⟩
  have b5' : Below w.heap.size w w5 := b4'.trans (b5.mono b4'.size)
  go_wp2_with fail
  refine (refJoinV v5 (.slice a1 len1 cap1) _ b w5 o5.isV ((H1.out.below b5' rfl).isV) (by have := HE.out; have := HE1.out; simp [beL_length]; omega)).mono ?_
  rintro e w6 ⟨v6, rfl, o6, b6⟩
  rw [bytesL_eq l b len1 HE1.out] at o6
  go_wp2_with fail
  go_ret
  exact ⟨_, rfl, o6.base b5'.size, b5'.trans (b6.mono b5'.size)⟩

set_option maxRecDepth 20000 in
set_option maxHeartbeats 1000000 in
theorem refText (a : Option Addr) (len cap : Nat) (l : List UInt8) (s : ByteArray) (w : World) (h : IsB w a len cap l) (hl : len ≤ 1099511627776) (hl1 : s.size ≤ 1099511627776) :
    Calls Tryz.prog 154 #[.slice a len cap, .string s] w fun e w' => ∃ v, e = .returned v ∧ OwnB w' w.heap.size v (textL l (sL s)) ∧ Below w.heap.size w w' := by
  have H : Hid (IsB w a len cap l) := h
  have HE : Hid (l.length = len) := h.len_eq
  have HE1 : Hid ((sL s).length = s.size) := sL_length s
  clear h
  go_enter Tryz.func154, Tryz.ntmps154
  go_wp2_with fail
  refine (refJoin a len cap l none 0 0 [] w H.out (isB_none w) (by omega)).mono ?_
  rintro e w1 ⟨v1, rfl, o1, b1⟩
  go_wp2_with (at_builtin; refine list_app1 _ rfl (.tmp 6) (.tmp 7) rfl w.heap.size v1 (l ++ []) rfl (o1.alloc _) w1.heap.size 1 [115] rfl rfl (heap_alloc_new w1 _) (by have := HE.out; simp; omega) (by have := b1.size; simp; omega) ?_; intro v3 w3 o3 hg3; have b3 : Below w.heap.size w w3 := grow_bel1 b1 o1 hg3)
  refine (refLong s.size 4 w3 (by omega)).mono ?_
  rintro e w4 ⟨v4, rfl, o4, b4⟩
  have b4' : Below w.heap.size w w4 := b3.trans (b4.mono b3.size)
  go_wp2_with fail
  refine (refJoinV v3 v4 _ _ w4 (o3.isV.below b4 rfl) o4.isV (by have := HE.out; simp [beL_length]; omega)).mono ?_
  rintro e w5 ⟨v5, rfl, o5, b5⟩
  have b5' : Below w.heap.size w w5 := b4'.trans (b5.mono b4'.size)
  have hcv := conv_str w5 s
  have b6 := conv_str_bel w5 s
  have i6 := conv_str_isB w5 s (by unfold maxLen; omega)
  have b6' : Below w.heap.size w _ := b5'.trans (b6.mono b5'.size)
  have i5 := o5.isV.below b6 rfl
  generalize Lib.bytesWorld w5 5 s = w6 at *
  generalize grownCap w5 s.size 0 5 = c6 at *
  have I6 : Hid (IsV w6 (.slice (some ⟨w5.heap.size, 0, none⟩) s.size c6) (sL s)) := i6.isV
  clear i6
  go_wp2_with fail
  refine (refJoinV v5 (.slice (some ⟨w5.heap.size, 0, none⟩) s.size c6) _ (sL s) w6 i5 I6.out (by have := HE.out; have := HE1.out; simp [beL_length]; omega)).mono ?_
  rintro e w7 ⟨v7, rfl, o7, b7⟩
  rw [textL_eq l (sL s) s.size HE1.out] at o7
  go_wp2_with fail
  go_ret
  exact ⟨_, rfl, o7.base b6'.size, b6'.trans (b7.mono b6'.size)⟩
end Go.Proofs.YthjdmfbengpepaaGreat
