/- What digest.Hmac256 answers. · sigv4: the chain of keys. · sigv4.headerLines. · What uri.Query answers. -/
import Derived.Test.YtgjmaeodgcigdabGreatDoorDigHmac
import Derived.Test.YtgjmaeodgcigdabGreatDoorB20
import Derived.Test.YtgjmaeodgcigdabGreatDoorB28
import Derived.Test.YtgjmaeodgcigdabGreatDoorS6b
import Derived.Test.YtgjmaeodgcigdabGreatDoorB24
import Derived.Test.YtgjmaeodgcigdabGreatDoorB25
import Derived.Test.YtgjmaeodgcigdabGreatDoorB18
import Derived.Test.YtgjmaeodgcigdabGreatDoorB4
import Derived.Maps.AppendAt
namespace Go.Proofs.YtgjmaeodgcigdabGreatDoor
open Go.RowKit

set_option maxRecDepth 20000 in
set_option maxHeartbeats 400000 in
theorem digHmac256 (a : Option Addr) (len cap : Nat) (key : List UInt8) (a1 : Option Addr) (len1 cap1 : Nat) (l : List UInt8) (w : World) (h : IsB w a len cap key) (h1 : IsB w a1 len1 cap1 l) (hn : len < 1073741824) (hn1 : len1 < 1073741824) :
    Calls Tryz.prog 37 #[.slice a len cap, .slice a1 len1 cap1] w fun e w' => ∃ v, e = .returned v ∧ OwnB w' w.heap.size v (hmL sha256L key l) ∧ Below w.heap.size w w' := by
  have H : Hid (IsB w a len cap key) := h
  have H1 : Hid (IsB w a1 len1 cap1 l) := h1
  clear h h1
  go_enter Tryz.func37, Tryz.ntmps37
  go_wp2_with fail
  refine (digKind256 _).mono ?_
  rintro e w1 ⟨rfl, bel1⟩
  have H2 : Hid (IsB w1 a len cap key) := H.out.below bel1 rfl
  have H3 : Hid (IsB w1 a1 len1 cap1 l) := H1.out.below bel1 rfl
  go_wp2_with fail
  refine (digHmac 127 mix256L s256 mixOK256 32 (by omega) _ _ _ key _ _ _ l w1 H2.out H3.out hn hn1).mono ?_
  rintro e w2 ⟨v, rfl, hown, bel2⟩
  have ho : Hid (OwnB w2 w.heap.size v (hmL sha256L key l)) := hown.base bel1.size
  have hb : Below w.heap.size w w2 := bel1.trans (bel2.mono bel1.size)
  clear hown
  go_wp2
  go_ret
  exact ⟨_, rfl, ho.out, hb⟩
end Go.Proofs.YtgjmaeodgcigdabGreatDoor
namespace Go.Proofs.YtgjmaeodgcigdabGreatDoor
open Go.RowKit

theorem conv_ex (W : World) (l : List UInt8) (hl : l.length ≤ 100000000) : ∃ cap x, (convert 9 23 (.string (str l))).run Tryz.prog W = .ok (.slice (some ⟨W.heap.size, 0, none⟩) l.length cap) x ∧ IsB x (some ⟨W.heap.size, 0, none⟩) l.length cap l ∧ Below W.heap.size W x := by
  have h1 := conv_str W (str l)
  have h2 := conv_str_isB W (str l) (by rw [str_size]; unfold maxLen; omega)
  rw [sL_str, str_size] at h2
  rw [str_size] at h1
  exact ⟨_, _, h1, h2, conv_str_bel W (str l)⟩
/-- digest.Hmac256, with what it tells -/
theorem codHm (a : Option Addr) (n c : Nat) (key : List UInt8) (a1 : Option Addr) (n1 c1 : Nat) (l : List UInt8) (w : World) (h : IsB w a n c key) (h1 : IsB w a1 n1 c1 l) (hn : n < 1073741824) (hn1 : n1 < 1073741824) :
    Calls Tryz.prog 37 #[.slice a n c, .slice a1 n1 c1] w fun e w' => (∃ va vc, e = .returned (.slice va 32 vc) ∧ IsB w' va 32 vc (hmL sha256L key l)) ∧ Below w.heap.size w w' := (digHmac256 a n c key a1 n1 c1 l w h h1 hn hn1).mono (by
  rintro e w' ⟨v, rfl, ho, hb⟩
  obtain ⟨va, vc, rfl, hi⟩ := ho.isB
  rw [hm_length] at hi ⊢
  exact ⟨⟨va, vc, rfl, hi⟩, hb⟩)
def chainTo (first : List UInt8) (ts : List (List UInt8)) : Nat → List UInt8
  | 0 => first
  | k + 1 => hmL sha256L (chainTo first ts k) (nthT ts k)

set_option maxRecDepth 20000 in
set_option maxHeartbeats 2000000 in
theorem codChained (first : List UInt8) (ta : Option Addr) (tn tc : Nat) (ts : List (List UInt8)) (w : World) (hT : IsT w ta tn tc ts) (hf : first.length ≤ 1000000) (hz : ∀ i, i < ts.length → (nthT ts i).length ≤ 1000000) (h1 : 1 ≤ tn) (h2 : tn ≤ 1000) :
    Calls Tryz.prog 74 #[.string (str first), .slice ta tn tc] w fun e w' => (∃ va vc, e = .returned (.slice va 32 vc) ∧ IsB w' va 32 vc (chainTo first ts ts.length)) ∧ Below w.heap.size w w' := by
  have HL := hT.len_eq
  obtain ⟨b, off, rfl, hcl⟩ := hT.cells (by omega)
  obtain ⟨cp0, x0, hcv0, hi0, hb0⟩ := conv_ex w first (by omega)
  have HI0 : Hid (IsB x0 (some ⟨w.heap.size, 0, none⟩) first.length cp0 first) := hi0
  have HB0 : Hid (Below w.heap.size w x0) := hb0
  clear hT hi0 hb0
  generalize hfl : first.length = fl at *
  generalize hsf : str first = sf at *
  go_enter Tryz.func74, Tryz.ntmps74
  go_wp2
  go_loopw [5, 12] (fun v i wr => ∃ (k : Nat), k ≤ tn ∧ i = .int .i64 k ∧ ∃ ka kn kc, v = .slice ka kn kc ∧ Hid (IsB wr ka kn kc (chainTo first ts k) ∧ (kn ≤ 1000000 ∧ (0 < k → kn = 32)) ∧ Below w.heap.size w wr)) (fun _ i _ => tn - (intOf i).toNat)
  case atStart => exact ⟨0, Nat.zero_le _, rfl, _, _, _, rfl, HI0.out, ⟨hf, fun h => absurd h (Nat.lt_irrefl 0)⟩, HB0.out⟩
  case round =>
    obtain ⟨k, hk, rfl, ka, kn, kc, rfl, HW⟩ := hrel
    clear hcv0
    by_cases hlt : k < tn
    · have c0 := hcl k hlt
      have c1 := (HW.out.2.2.cell (p := ⟨b, off + k, none⟩) (cell_lt c0)).trans c0
      have hp0 : (0 : Int) ≤ (k : Int) := by omega
      have hp1 : (k : Int) < (tn : Int) := by omega
      have hzk := hz k (by omega)
      obtain ⟨cp1, x1, hcv1, hi1, hb1⟩ := conv_ex wr (nthT ts k) (by omega)
      have HH := codHm ka kn kc _ _ _ _ _ x1 (HW.out.1.below hb1 rfl) hi1 (by have := HW.out.2.1.1; omega) (by omega)
      have HB1 : Hid (Below w.heap.size w x1) := HW.out.2.2.trans (hb1.mono HW.out.2.2.size)
      clear c0 hi1 hb1
      generalize (nthT ts k).length = n1 at *
      generalize str (nthT ts k) = s1 at *
      go_wp2_with (go_at_call 37; refine HH.mono ?_; rintro e x2 ⟨⟨va, vc, rfl, hi2⟩, hb2⟩)
      go_roundw
      case rel => exact ⟨k + 1, hlt, by go_num, va, 32, vc, rfl, hi2, ⟨by omega, fun _ => rfl⟩, HB1.out.trans (hb2.mono HB1.out.size)⟩
      case measure => simp [intOf]; omega
    · have hge : ¬ (k : Int) < (tn : Int) := by omega
      have hkn : k = tn := by omega
      subst hkn
      obtain ⟨g1, ⟨g2, g3⟩, g4⟩ := HW.out
      have e32 := g3 (by omega)
      subst e32
      have G1 : Hid (IsB wr ka 32 kc (chainTo first ts k)) := g1
      clear g1 g2 g3 HW
      go_wp2
      go_ret
      exact ⟨⟨ka, kc, rfl, by first | exact G1.out | (rw [HL]; exact G1.out)⟩, g4⟩

set_option maxRecDepth 20000 in
set_option maxHeartbeats 1000000 in
theorem codKey (sec dat : List UInt8) (w : World) (z1 : sec.length ≤ 100000) (z2 : dat.length ≤ 100000) :
    Calls Tryz.prog 38 #[.string (str sec), .string (str dat)] w fun e w' => (∃ va vc, e = .returned (.slice va 32 vc) ∧ IsB w' va 32 vc (keyL sec dat)) ∧ Below w.heap.size w w' := by
  have y1 : ¬ 9223372036854775807 < 4 + (str sec).size := by rw [str_size]; omega
  have ek : (⟨#[65, 87, 83, 52]⟩ : ByteArray) ++ str sec = str (sAws ++ sec) := by rw [show (⟨#[65, 87, 83, 52]⟩ : ByteArray) = str sAws from rfl, str_append2]
  have hI : IsT (w.alloc (.cells #[.string (str dat), .string ⟨#[108, 111, 99, 97, 108]⟩, .string ⟨#[115, 51]⟩, .string ⟨#[97, 119, 115, 52, 95, 114, 101, 113, 117, 101, 115, 116]⟩] 9)) (some ⟨w.heap.size, 0, none⟩) 4 4 [dat, sLocal, sS3, sReq] := isT_new w 9 [dat, sLocal, sS3, sReq] (by simp)
  have HC := codChained (sAws ++ sec) _ _ _ _ _ hI (by rw [List.length_append]; simp [sAws]; omega) (fun i hi => by
    match i, hi with
    | 0, _ => show dat.length ≤ _; omega
    | 1, _ => show sLocal.length ≤ _; decide
    | 2, _ => show sS3.length ≤ _; decide
    | 3, _ => show sReq.length ≤ _; decide
    | j + 4, h => simp at h; omega) (by omega) (by omega)
  have hk : chainTo (sAws ++ sec) [dat, sLocal, sS3, sReq] 4 = keyL sec dat := rfl
  change Calls Tryz.prog 74 _ _ fun e w' => (∃ va vc, e = .returned (.slice va 32 vc) ∧ IsB w' va 32 vc (chainTo (sAws ++ sec) [dat, sLocal, sS3, sReq] 4)) ∧ _ at HC
  rw [hk, ← ek] at HC
  have hb0 : Below w.heap.size w (w.alloc (.cells #[.string (str dat), .string ⟨#[108, 111, 99, 97, 108]⟩, .string ⟨#[115, 51]⟩, .string ⟨#[97, 119, 115, 52, 95, 114, 101, 113, 117, 101, 115, 116]⟩] 9)) := (Below.refl _ w).alloc (Nat.le_refl _) _
  clear hI ek hk
  generalize keyL sec dat = kl at *
  generalize str sec = ssec at *
  generalize str dat = sdat at *
  go_enter Tryz.func38, Tryz.ntmps38
  go_wp2_with (go_at_call 74; refine HC.mono ?_; rintro e w' ⟨⟨va, vc, rfl, hi⟩, hb⟩)
  go_ret
  exact ⟨⟨va, vc, rfl, hi⟩, hb0.trans (hb.mono hb0.size)⟩
end Go.Proofs.YtgjmaeodgcigdabGreatDoor
namespace Go.Proofs.YtgjmaeodgcigdabGreatDoor
open Go.RowKit

theorem Builder_below {T e B b n : Nat} {bs : List Value} {w w' : World} (h : Lib.IsBuilder T e B b bs w) (hb : Below n w w') (hn : n = w.heap.size) : Lib.IsBuilder T e B b bs w' := by
  subst hn
  have go : ∀ p, Lib.BuilderAt T e B b p bs w → Lib.BuilderAt T e B b p bs w' := fun p h => by
    obtain ⟨h1, v, h2, h3, h4⟩ := h
    refine ⟨h1, v, ?_, ⟨h3.1, ?_⟩, h4⟩
    · rw [hb.block b (Array.getElem?_eq_some_iff.1 h2).1]; exact h2
    · rcases h3.2 with h5 | ⟨g, cap, cur, e3, e4, e5, e6⟩
      · exact .inl h5
      · exact .inr ⟨g, cap, cur, e3, e4, by rw [hb.block g (Array.getElem?_eq_some_iff.1 e5).1]; exact e5, e6⟩
  rcases h with h | h
  · exact .inl (go _ h)
  · exact .inr (go _ h)
theorem builder_new (w : World) (T e : Nat) : Lib.IsBuilder T e w.heap.size w.heap.size (Lib.byteCells []) (w.alloc (.cells #[.pointer none, .slice none 0 0] T)) :=
  .inl ⟨Nat.le_refl _, .slice none 0 0, heap_alloc_new w _, World.ownsRow_nil _ _ _ _, by simp [Value.ownBlock]⟩
theorem codWriteString (B b : Nat) (l : List UInt8) (s : List UInt8) (w : World) (h : Lib.IsBuilder 121 5 B b (Lib.byteCells l) w) (hlen : l.length + s.length ≤ 140737488355328) (hB : B ≤ w.heap.size) :
    Calls Tryz.prog 76 #[.pointer (some ⟨b, 0, none⟩), .string (str s)] w fun e w' => e = .returned (.tuple #[.int .i64 (str s).size, .nilIface]) ∧ Lib.IsBuilder 121 5 B b (Lib.byteCells (l ++ s)) w' ∧ Below B w w' := by
  have hc := Any.Builder_WriteString { Tryz.lays156 with } Tryz.Builder_Extra_156 B b (Lib.byteCells l) (str s) w h (by rw [Lib.byteCells_length, str_size]; exact hlen) hB
  change Calls Tryz.prog 76 _ _ _ at hc
  refine hc.mono ?_
  rintro e w' ⟨rfl, h1, h2⟩
  rw [Lib.strCells_eq, str_list, ← Lib.byteCells_append] at h1
  exact ⟨rfl, .inr h1, h2⟩
theorem codString (B b : Nat) (l : List UInt8) (w : World) (h : Lib.IsBuilder 121 5 B b (Lib.byteCells l) w) (hB : B ≤ w.heap.size) :
    Calls Tryz.prog 77 #[.pointer (some ⟨b, 0, none⟩)] w fun e w' => e = .returned (.string (str l)) ∧ Below B w w' := Tryz.Builder_String_any B b l w h hB

set_option maxRecDepth 20000 in
set_option maxHeartbeats 2000000 in
theorem codLines (m p q bd : Value) (ha : Option Addr) (hn hc : Nat) (hs : List Pr) (ta : Option Addr) (tn tc : Nat) (ts : List (List UInt8)) (w : World)
    (hP : IsP w ha hn hc hs) (hT : IsT w ta tn tc ts) (hnm : namesL ts = true) (zh : ∀ i, i < hs.length → (nthP hs i).2.length ≤ 30000) :
    Calls Tryz.prog 66 #[.agg #[m, p, q, .slice ha hn hc, bd], .slice ta tn tc] w fun e w' => e = .returned (.tuple #[.string (str (if hasAll hs ts then linesTo hs ts ts.length else [])), .int .i64 (if hasAll hs ts then 0 else 11)]) ∧ Below w.heap.size w w' := by
  have HL := hT.len_eq
  have HTw : Hid (∀ W, Below w.heap.size w W → IsT W ta tn tc ts) := fun W hW => hT.below hW rfl
  have HPw : Hid (∀ W, Below w.heap.size w W → IsP W ha hn hc hs) := fun W hW => hP.below hW rfl
  obtain ⟨nl, n24⟩ := names_facts hnm
  rw [HL] at n24
  have HLn : Hid (∀ k, k ≤ tn → (linesTo hs ts k).length ≤ 1000000) := fun k hk => by
    have h1 := lines_len 30000 zh nl k (by omega)
    have h2 : k * (30000 + 66) ≤ 24 * (30000 + 66) := Nat.mul_le_mul_right _ (by omega)
    omega
  obtain ⟨W0, hW0⟩ : ∃ W0, W0 = (w.alloc (.cells #[m, p, q, .slice ha hn hc, bd] 31)).alloc (.cells #[.pointer none, .slice none 0 0] 121) := ⟨_, rfl⟩
  have HBu : Hid (Lib.IsBuilder 121 5 (w.heap.size + 1) (w.heap.size + 1) (Lib.byteCells (linesTo hs ts 0)) W0) := by
    have := builder_new (w.alloc (.cells #[m, p, q, .slice ha hn hc, bd] 31)) 121 5
    rw [show (w.alloc (.cells #[m, p, q, .slice ha hn hc, bd] 31)).heap.size = w.heap.size + 1 from by simp] at this
    rw [hW0]; exact this
  have T0 : Hid (Below w.heap.size w W0) := by rw [hW0]; exact ((Below.refl _ w).alloc (Nat.le_refl _) _).alloc (by simp) _
  have K0 : Hid (Blk W0 w.heap.size 31 [m, p, q, .slice ha hn hc, bd]) := by rw [hW0]; exact (Blk.newAt w _ _ _ _ rfl rfl).alloc _
  have S0 : Hid (w.heap.size + 1 < W0.heap.size) := by rw [hW0]; simp [Hid]
  have HNO : Hid (hasAll hs ts = false → (if hasAll hs ts then linesTo hs ts ts.length else []) = [] ∧ (if hasAll hs ts then (0 : Int) else 11) = 11) := fun h => by rw [h]; exact ⟨rfl, rfl⟩
  have HYE : Hid (hasAll hs ts = true → (if hasAll hs ts then linesTo hs ts ts.length else []) = linesTo hs ts ts.length ∧ (if hasAll hs ts then (0 : Int) else 11) = 0) := fun h => by rw [h]; exact ⟨rfl, rfl⟩
  generalize (if hasAll hs ts then linesTo hs ts ts.length else []) = rl at *
  generalize (if hasAll hs ts then (0 : Int) else 11) = re at *
  clear hP hT
  go_enter Tryz.func66, Tryz.ntmps66
  go_wp2
  rw [← hW0]
  go_loopw [13] (fun i wr => ∃ (k : Nat), k ≤ tn ∧ i = .int .i64 k ∧ Hid ((ts.take k).all (fun t => (findL hs t).isSome) = true) ∧ Hid (Below (w.heap.size + 1) W0 wr ∧ Lib.IsBuilder 121 5 (w.heap.size + 1) (w.heap.size + 1) (Lib.byteCells (linesTo hs ts k)) wr)) (fun i _ => tn - (intOf i).toNat)
  case atStart => exact ⟨0, Nat.zero_le _, rfl, rfl, Below.refl _ _, HBu.out⟩
  case round =>
    obtain ⟨k, hk, rfl, HD, HW⟩ := hrel
    have hTw : Below w.heap.size w wr := T0.out.trans (HW.out.1.mono (by omega))
    have HTw1 : Hid (Below w.heap.size w wr) := hTw
    clear hW0 HBu
    by_cases hlt : k < tn
    · obtain ⟨b, off, rfl, hcl⟩ := (HTw.out wr hTw).cells (by omega)
      have c1 := hcl k hlt
      have hb0 : (0 : Int) ≤ (k : Int) := by omega
      have hb1 : (k : Int) < (tn : Int) := by omega
      have hkl : k < ts.length := by rw [HL]; exact hlt
      have hKr : Blk wr w.heap.size 31 [m, p, q, .slice ha hn hc, bd] := K0.out.below HW.out.1 (by omega)
      have q0 : wr.cell? ⟨w.heap.size, 0, none⟩ = some m := hKr.cell 0
      have q1 : wr.cell? ⟨w.heap.size, 1, none⟩ = some p := hKr.cell 1
      have q2 : wr.cell? ⟨w.heap.size, 2, none⟩ = some q := hKr.cell 2
      have q3 : wr.cell? ⟨w.heap.size, 3, none⟩ = some (.slice ha hn hc) := hKr.cell 3
      have q4 : wr.cell? ⟨w.heap.size, 4, none⟩ = some bd := hKr.cell 4
      have HG := codGet m p q bd ha hn hc hs (nthT ts k) wr (HPw.out wr hTw)
      cases hf : findL hs (nthT ts k) with
      | none =>
        obtain ⟨e1, e2⟩ := HNO.out (has_no6 hkl hf)
        rw [hf] at HG
        have HE1 : Hid (rl = []) := e1
        have HE2 : Hid (re = 11) := e2
        clear HNO HYE e1 e2 hcl HL hKr
        change Calls Tryz.prog 29 _ _ fun e w' => e = .returned (.tuple #[.string ⟨#[]⟩, .bool false]) ∧ _ at HG
        generalize str (nthT ts k) = s1 at *
        go_wp2_with (go_at_call 29; refine HG.mono ?_; rintro e x1 ⟨rfl, hbx⟩)
        go_ret2
        exact ⟨ret_se6 (by rw [HE1.out]; rfl) HE2.out.symm, HTw1.out.trans (hbx.mono HTw1.out.size)⟩
      | some vv =>
        rw [hf] at HG
        have HA : Hid ((ts.take (k + 1)).all (fun t => (findL hs t).isSome) = true) := by unfold Hid; rw [takeT ts k hkl, List.all_append, HD.out]; simp [hf]
        have HT : str (nthT ts k) ++ ⟨#[58]⟩ ++ str vv ++ ⟨#[10]⟩ = str (lineT hs (nthT ts k)) := by
          rw [show (⟨#[58]⟩ : ByteArray) = str [58] from rfl, show (⟨#[10]⟩ : ByteArray) = str [10] from rfl, str_append2, str_append2, str_append2]
          unfold lineT
          rw [hf]
          simp only [Option.getD_some, List.append_assoc]
        have l1 := HLn.out (k + 1) hlt
        have l2 := nl k hkl
        have l3 : vv.length ≤ 30000 := by
          obtain ⟨i, hi, e⟩ := find_mem6 hf
          have := zh i hi
          rw [e] at this; exact this
        have z2 : ¬ 9223372036854775807 < (str (nthT ts k)).size + 1 := by rw [str_size]; omega
        have z3 : ¬ 9223372036854775807 < (str (nthT ts k)).size + 1 + (str vv).size := by rw [str_size, str_size]; omega
        have z4 : ¬ 9223372036854775807 < (str (nthT ts k)).size + 1 + (str vv).size + 1 := by rw [str_size, str_size]; omega
        have hl1 : (linesTo hs ts k).length + (lineT hs (nthT ts k)).length ≤ 140737488355328 := by
          rw [linesTo, List.length_append] at l1; omega
        have HWr : Hid (∀ X, Below wr.heap.size wr X → Calls Tryz.prog 76 #[.pointer (some ⟨w.heap.size + 1, 0, none⟩), .string (str (nthT ts k) ++ ⟨#[58]⟩ ++ str vv ++ ⟨#[10]⟩)] X fun e w' => e = .returned (.tuple #[.int .i64 (str (lineT hs (nthT ts k))).size, .nilIface]) ∧ Lib.IsBuilder 121 5 (w.heap.size + 1) (w.heap.size + 1) (Lib.byteCells (linesTo hs ts (k + 1))) w' ∧ Below (w.heap.size + 1) X w') := fun X hX => by
          rw [HT]
          exact codWriteString _ _ (linesTo hs ts k) (lineT hs (nthT ts k)) X (Builder_below HW.out.2 hX rfl) hl1 (by have := hX.size; have := HW.out.1.size; have := S0.out; omega)
        have S1 : Hid (w.heap.size + 1 ≤ wr.heap.size) := by have := HW.out.1.size; have := S0.out; unfold Hid; omega
        clear HNO HYE hcl HL l1 l2 l3 hf hKr HT hl1
        generalize (str (lineT hs (nthT ts k))).size = sz at *
        generalize str (nthT ts k) = s1 at *
        change Calls Tryz.prog 29 _ _ fun e w' => e = .returned (.tuple #[.string (str vv), .bool true]) ∧ _ at HG
        generalize str vv = sv2 at *
        go_wp2_with (first | (go_at_call 29; refine HG.mono ?_; rintro e x1 ⟨rfl, hbx⟩) | (go_at_call 76; refine (HWr.out _ hbx).mono ?_; rintro e x2 ⟨rfl, hbu, hby⟩))
        go_roundw
        case rel => exact ⟨k + 1, hlt, by go_num, HA, (HW.out.1.trans (hbx.mono S1.out)).trans hby, hbu⟩
        case measure => simp [intOf]; omega
    · have hge : ¬ (k : Int) < (tn : Int) := by omega
      have hkn : k = tn := by omega
      subst hkn
      have hall : hasAll hs ts = true := by
        have := HD.out
        rw [List.take_of_length_le (by rw [HL]; exact Nat.le_refl _)] at this
        exact this
      obtain ⟨e1, e2⟩ := HYE.out hall
      rw [HL] at e1
      have HE1 : Hid (rl = linesTo hs ts k) := e1
      have HE2 : Hid (re = 0) := e2
      have HS := codString _ _ (linesTo hs ts k) wr HW.out.2 (by have := HW.out.1.size; have := S0.out; omega)
      clear HNO HYE e1 e2
      go_wp2_with (go_at_call 77; refine HS.mono ?_; rintro e x1 ⟨rfl, hbx⟩)
      go_ret2
      exact ⟨ret_se6 (by rw [HE1.out]) HE2.out.symm, HTw1.out.trans (hbx.mono (by omega))⟩
end Go.Proofs.YtgjmaeodgcigdabGreatDoor
namespace Go.Proofs.YtgjmaeodgcigdabGreatDoor
open Go.RowKit Go.Shelf
attribute [local go_sem] Oper.semAt_some

theorem infoUQ : (Tryz.prog.info? 168).map (fun i => (i.zero, i.size, i.bytes)) = some (some (.agg #[.string ⟨#[]⟩, .string ⟨#[]⟩]), 2, 32) := by kernel_rfl

set_option maxRecDepth 100000 in
set_option maxHeartbeats 4000000 in
theorem codQuery (l : List UInt8) (w : World) (hl : l.length ≤ 40000000000000) :
    Calls Tryz.prog 68 #[.string (str l)] w fun e w' => QOut l e w' ∧ Below w.heap.size w w' := by
  obtain ⟨i0, hi, hz0, hz1, hz2⟩ := info_parts infoUQ
  refine (callsIn_wide (n := 6)).1 ?_
  refine callsIn_of_wp_marks Tryz.func68 rfl trivial ?_ rfl
  simp only [Tryz.ntmps68, List.size_toArray, List.length_cons, List.length_nil, Nat.reduceAdd, Nat.reduceSub, Array.replicate_succ, Array.replicate_zero, List.push_toArray, List.append_toArray, List.nil_append, List.cons_append]
  gi_wp2_with (refine ⟨trivial, ?_⟩; gi_at_call 119; refine (codParts _ _ _).mono ?_; rintro e w' ⟨rfl, rfl⟩)
  obtain ⟨N, hN⟩ : ∃ N, N = w.heap.size := ⟨_, rfl⟩
  have b2 := Boxed.new w 106 (.slice none 0 0)
  have b3 := Boxed.new (w.alloc (.cells #[.slice none 0 0] 106)) 32 (.int .i64 0)
  have b4 := Boxed.new ((w.alloc (.cells #[.slice none 0 0] 106)).alloc (.cells #[.int .i64 0] 32)) 106 (.slice none 0 0)
  have bS := Boxed.new (((w.alloc (.cells #[.slice none 0 0] 106)).alloc (.cells #[.int .i64 0] 32)).alloc (.cells #[.slice none 0 0] 106)) 9 (.string (str l))
  simp only [World.size_alloc] at b3 b4 bS
  have b2 := ((b2.alloc (.cells #[.int .i64 0] 32)).alloc (.cells #[.slice none 0 0] 106)).alloc (.cells #[.string (str l)] 9)
  have b3 := (b3.alloc (.cells #[.slice none 0 0] 106)).alloc (.cells #[.string (str l)] 9)
  have b4 := b4.alloc (.cells #[.string (str l)] 9)
  have hB0 : Below w.heap.size w ((((w.alloc (.cells #[.slice none 0 0] 106)).alloc (.cells #[.int .i64 0] 32)).alloc (.cells #[.slice none 0 0] 106)).alloc (.cells #[.string (str l)] 9)) :=
    ((((Below.refl _ w).alloc (Nat.le_refl _) _).alloc (by simp) _).alloc (by simp; omega) _).alloc (by simp; omega) _
  have hsz : ((((w.alloc (.cells #[.slice none 0 0] 106)).alloc (.cells #[.int .i64 0] 32)).alloc (.cells #[.slice none 0 0] 106)).alloc (.cells #[.string (str l)] 9)).heap.size = w.heap.size + 1 + 1 + 1 + 1 := by simp
  generalize ((((w.alloc (.cells #[.slice none 0 0] 106)).alloc (.cells #[.int .i64 0] 32)).alloc (.cells #[.slice none 0 0] 106)).alloc (.cells #[.string (str l)] 9)) = W0 at *
  rw [← hN] at b2 b3 b4 bS hB0 hsz ⊢
  have HN : Hid (N = w.heap.size) := hN
  have hN1 : N ≤ w.heap.size := by omega
  have hN2 : w.heap.size ≤ N := by omega
  clear hN
  refine wpIn_rangeFunc_ownG rfl (by omega) (gf := 153) (lb := #[.pointer (some ⟨N + 1 + 1 + 1, 0, none⟩)]) rfl trivial (enters_of Tryz.func153 (by kernel_rfl) rfl)
    (parts_stops _ (by omega) (N + 1 + 1 + 1) l hl W0 (by omega) bS.cell) walksK_t walksK_b (Below.refl _ _) (fun _ => rfl)
    (fun pre W => (((∃ v, Boxed W (N + 1 + 1) 106 v ∧ W.ownsRow N 168 2 v (outL pre).length (pcs (outL pre)) ∧ True) ∧ (Boxed W N 106 (.slice none 0 0) ∧ Boxed W (N + 1) 32 (.int .i64 0))) ∧ (accL pre = some (outL pre) ∧ pre.length ≤ 24)) ∧ Below N w W)
    (fun c pre W => ((Boxed W N 106 (.slice none 0 0) ∧ Boxed W (N + 1) 32 (.int .i64 13)) ∧ (c = .ret ∧ (24 < pre.length ∨ accL pre = none))) ∧ Below N w W)
    (OwnFrom.and (OwnFrom.and (OwnFrom.and (Own.from (holdsRow_own N (N + 1 + 1) 106 168 2 (fun pre => (outL pre).length) (fun pre => pcs (outL pre)) (fun _ _ => True)) _) (OwnFrom.and (Own.from (boxed_own N _ (fun _ => _)) _) (Own.from (boxed_own (N + 1) _ (fun _ => _)) _))) (ownFrom_pure _ _)) (ownFrom_below (by omega) (by omega)))
    (fun c => OwnFrom.and (OwnFrom.and (OwnFrom.and (Own.from (boxed_own N _ (fun _ => _)) _) (Own.from (boxed_own (N + 1) _ (fun _ => _)) _)) (ownFrom_pure _ _)) (ownFrom_below (by omega) (by omega)))
    ⟨⟨⟨⟨_, b4, World.ownsRow_nil _ _ _ _, trivial⟩, b2, b3⟩, rfl, by simp⟩, hB0⟩
    (fun x => { tmps := #[.string (str l), undef, .pointer (some ⟨N, 0, none⟩), .pointer (some ⟨N + 1, 0, none⟩), .pointer (some ⟨N + 1 + 1, 0, none⟩), .string (str x.1), undef, undef, undef, undef, .string (str l), .func (.func 153) #[] #[.pointer (some ⟨N + 1 + 1 + 1, 0, none⟩)], .string (str x.1), undef, undef, undef, undef, undef, undef, undef, undef, undef, undef, undef, undef, undef, undef, undef, undef, undef, undef, undef, undef, undef, undef, undef, undef, undef, undef, undef, undef, undef], defers := [] }) ?assign ?body ?done ?stop
  case assign =>
    intro l x W K hK
    gi_wp2
    exact hK
  case body =>
    rintro l0 pre x W ⟨⟨⟨⟨v, hv, hrow, -⟩, h2, h3⟩, hacc, hle⟩, hB⟩ hlt
    have hown : OwnP 168 W N v (outL pre) := hrow
    obtain ⟨a, cap, rfl, hisP⟩ := hown.isP
    have hlen := acc_len hacc
    have hk : (outL pre).length ≤ 24 := by omega
    have HA : Hid (accL (pre ++ [x]) = qStep (some (outL pre)) x.1) := by unfold Hid; rw [acc_snoc, hacc]
    have HPL : Hid (pre.length = (outL pre).length) := hlen.symm
    have HB : Hid (Below N w W) := hB
    have H2 : Hid (Boxed W N 106 (.slice none 0 0)) := h2
    have H3 : Hid (Boxed W (N + 1) 32 (.int .i64 0)) := h3
    have HV : Hid (Boxed W (N + 1 + 1) 106 (.slice a (outL pre).length cap)) := hv
    have HO : Hid (OwnP 168 W N (.slice a (outL pre).length cap) (outL pre)) := hown
    have HI : Hid (IsP W a (outL pre).length cap (outL pre)) := hisP
    have HOE : Hid (∀ nv, accL (pre ++ [x]) = some (outL pre ++ [nv]) → outL (pre ++ [x]) = outL pre ++ [nv]) := fun nv h => out_some h
    clear hacc hlen hlt hown hrow hisP b2 b3 b4 bS hB0 hB
    have hcv := hv.cell
    have hc2 := h2.cell
    have hf2 := h2.frozen
    have hc3 := h3.cell
    have hf3 := h3.frozen
    generalize hout : outL pre = out at *
    generalize hn : out.length = k at *
    by_cases h24 : k = 24
    · have hkz : (k : Int) = 24 := by omega
      gi_wp2
      --@@
      exact ⟨((KeepsOthers.setCell _ _ _).trans (KeepsOthers.setCell _ _ _)).from _, ⟨⟨(H2.out.set _).other (by omega) _, (H3.out.other (by omega) _).set _⟩, rfl, .inl (by simp; have := HPL.out; omega)⟩, (HB.out.setCell (p := ⟨N, 0, none⟩) (Nat.le_refl _) _).setCell (p := ⟨N + 1, 0, none⟩) (by simp) _⟩
    · have hkz : ¬ (k : Int) = 24 := by omega
      have HP := fun w => codPair x.1 w x.2
      unfold PairR at HP
      cases hb : bothL (headL 61 x.1) (tailL 61 x.1) with
      | none =>
        have HQ : Hid (accL (pre ++ [x]) = none) := by unfold Hid; rw [HA.out, q_none hb]
        have e3 : bothC (headL 61 x.1) (tailL 61 x.1) = 13 := by unfold bothC; rw [hb]; rfl
        rw [e3] at HP
        clear e3 hb HA
        generalize str (bothA (headL 61 x.1) (tailL 61 x.1)) = r1 at *
        generalize str (bothB (headL 61 x.1) (tailL 61 x.1)) = r2 at *
        generalize str x.1 = sx at *
        gi_wp2_with (refine ⟨trivial, ?_⟩; gi_at_call 120; refine (CallsIn.inRound l0 (callsIn_wide.2 (HP _))).mono ?_; rintro e W1 ⟨rfl, hbw⟩; have C2 := fun o => ((boxed_below H2.out hbw).alloc o).cell; have F2 := fun o => ((boxed_below H2.out hbw).alloc o).frozen; have C3 := fun o => ((boxed_below H3.out hbw).alloc o).cell; have F3 := fun o => ((boxed_below H3.out hbw).alloc o).frozen)
        exact ⟨((keeps_below (hbw.alloc hbw.size _)).trans ((KeepsOthers.setCell _ _ _).trans (KeepsOthers.setCell _ _ _))).from _, ⟨⟨(((boxed_below H2.out hbw).alloc _).set _).other (by omega) _, (((boxed_below H3.out hbw).alloc _).other (by omega) _).set _⟩, rfl, .inr HQ.out⟩, ((HB.out.trans ((hbw.alloc hbw.size _).mono (Nat.le_trans hN1 HB.out.size))).setCell (p := ⟨N, 0, none⟩) (Nat.le_refl _) _).setCell (p := ⟨N + 1, 0, none⟩) (by simp) _⟩
      | some nv =>
        obtain ⟨nm, vl⟩ := nv
        have e1 : bothA (headL 61 x.1) (tailL 61 x.1) = nm := by unfold bothA; rw [hb]; rfl
        have e2 : bothB (headL 61 x.1) (tailL 61 x.1) = vl := by unfold bothB; rw [hb]; rfl
        have e3 : bothC (headL 61 x.1) (tailL 61 x.1) = 0 := by unfold bothC; rw [hb]; rfl
        rw [e1, e2, e3] at HP
        have HS : Hid (accL (pre ++ [x]) = if nm = [] ∨ (findL out nm).isSome = true then none else some (out ++ [(nm, vl)])) := by unfold Hid; rw [HA.out, q_some hb]
        have HF := fun W' (h : IsP W' a k cap out) => codFind a k cap out nm W' h
        clear e1 e2 e3 hb HA h2 h3 hc2 hf2 hc3 hf3
        generalize str ((findL out nm).getD []) = fs at *
        generalize str x.1 = sx at *
        generalize hfb : (findL out nm).isSome = fb at *
        cases fb with
        | true =>
          have HQ : Hid (accL (pre ++ [x]) = none) := by unfold Hid; rw [HS.out, if_pos (.inr rfl)]
          clear HS
          gi_wp2_with (first | (refine ⟨trivial, ?_⟩; gi_at_call 120; refine (CallsIn.inRound l0 (callsIn_wide.2 (HP _))).mono ?_; rintro e W1 ⟨rfl, hbw⟩; have hb2 := fun o => hbw.alloc hbw.size o; have CV := fun o => ((boxed_below HV.out hbw).alloc o).cell) | (refine ⟨trivial, ?_⟩; gi_at_call 121; refine (CallsIn.inRound l0 (callsIn_wide.2 (HF _ (HI.out.below (hb2 _) rfl)))).mono ?_; rintro e W3 ⟨rfl, c3⟩; have hb3 := (hb2 _).trans (c3.mono (hb2 _).size); have KP := (Blk.newAt W1 W1.heap.size 168 _ [.string (str nm), .string (str vl)] rfl rfl).on c3; have P0 := KP.cell 0; have P1 := KP.cell 1; have B2 := boxed_below H2.out hb3; have C2 := B2.cell; have F2 := B2.frozen; have B3 := boxed_below H3.out hb3; have C3 := B3.cell; have F3 := B3.frozen; have BV := boxed_below HV.out hb3; have C4 := BV.cell; simp only [List.getElem?_cons_zero, List.getElem?_cons_succ] at P0 P1; clear CV))
          exact ⟨((keeps_below hb3).trans ((KeepsOthers.setCell _ _ _).trans (KeepsOthers.setCell _ _ _))).from _, ⟨⟨(B2.set _).other (by omega) _, (B3.other (by omega) _).set _⟩, rfl, .inr HQ.out⟩, ((HB.out.trans (hb3.mono (Nat.le_trans hN1 HB.out.size))).setCell (p := ⟨N, 0, none⟩) (Nat.le_refl _) _).setCell (p := ⟨N + 1, 0, none⟩) (by simp) _⟩
        | false =>
          by_cases hnm : nm = []
          · have HQ : Hid (accL (pre ++ [x]) = none) := by unfold Hid; rw [HS.out, if_pos (.inl hnm)]
            have he := str_none hnm
            clear HS hnm
            gi_wp2_with (first | (refine ⟨trivial, ?_⟩; gi_at_call 120; refine (CallsIn.inRound l0 (callsIn_wide.2 (HP _))).mono ?_; rintro e W1 ⟨rfl, hbw⟩; have hb2 := fun o => hbw.alloc hbw.size o; have CV := fun o => ((boxed_below HV.out hbw).alloc o).cell) | (refine ⟨trivial, ?_⟩; gi_at_call 121; refine (CallsIn.inRound l0 (callsIn_wide.2 (HF _ (HI.out.below (hb2 _) rfl)))).mono ?_; rintro e W3 ⟨rfl, c3⟩; have hb3 := (hb2 _).trans (c3.mono (hb2 _).size); have KP := (Blk.newAt W1 W1.heap.size 168 _ [.string (str nm), .string (str vl)] rfl rfl).on c3; have P0 := KP.cell 0; have P1 := KP.cell 1; have B2 := boxed_below H2.out hb3; have C2 := B2.cell; have F2 := B2.frozen; have B3 := boxed_below H3.out hb3; have C3 := B3.cell; have F3 := B3.frozen; have BV := boxed_below HV.out hb3; have C4 := BV.cell; simp only [List.getElem?_cons_zero, List.getElem?_cons_succ] at P0 P1; clear CV))
            exact ⟨((keeps_below hb3).trans ((KeepsOthers.setCell _ _ _).trans (KeepsOthers.setCell _ _ _))).from _, ⟨⟨(B2.set _).other (by omega) _, (B3.other (by omega) _).set _⟩, rfl, .inr HQ.out⟩, ((HB.out.trans (hb3.mono (Nat.le_trans hN1 HB.out.size))).setCell (p := ⟨N, 0, none⟩) (Nat.le_refl _) _).setCell (p := ⟨N + 1, 0, none⟩) (by simp) _⟩
          · have HQ : Hid (accL (pre ++ [x]) = some (out ++ [(nm, vl)])) := by unfold Hid; rw [HS.out, if_neg (by simp [hnm])]
            have he := str_full hnm
            clear HS hnm
            gi_wp2_with (first | (refine ⟨trivial, ?_⟩; gi_at_call 120; refine (CallsIn.inRound l0 (callsIn_wide.2 (HP _))).mono ?_; rintro e W1 ⟨rfl, hbw⟩; have hb2 := fun o => hbw.alloc hbw.size o; have CV := fun o => ((boxed_below HV.out hbw).alloc o).cell) | (refine ⟨trivial, ?_⟩; gi_at_call 121; refine (CallsIn.inRound l0 (callsIn_wide.2 (HF _ (HI.out.below (hb2 _) rfl)))).mono ?_; rintro e W3 ⟨rfl, c3⟩; have hb3 := (hb2 _).trans (c3.mono (hb2 _).size); have KP := (Blk.newAt W1 W1.heap.size 168 _ [.string (str nm), .string (str vl)] rfl rfl).on c3; have P0 := KP.cell 0; have P1 := KP.cell 1; have B2 := boxed_below H2.out hb3; have C2 := B2.cell; have F2 := B2.frozen; have B3 := boxed_below H3.out hb3; have C3 := B3.cell; have F3 := B3.frozen; have BV := boxed_below HV.out hb3; have C4 := BV.cell; simp only [List.getElem?_cons_zero, List.getElem?_cons_succ] at P0 P1; clear CV) | (gi_at_builtin; refine wpListIn_append_own _ rfl _ _ 106 rfl N 168 i0 (.agg #[.string ⟨#[]⟩, .string ⟨#[]⟩]) 2 32 Tryz.underlying106 hi hz0 hz1 hz2 rfl (by decide) _ _ _ rfl (World.ownsRow.alloc (HO.out.on hb3) _) ⟨W3.heap.size, 0, none⟩ 1 1 [.string (str nm), .string (str vl)] rfl rfl (fun j u hu => World.news_of_block (heap_alloc_new W3 _) j u (by simpa using hu)) (by intro u hu; simp only [List.mem_cons, List.not_mem_nil, or_false] at hu; rcases hu with rfl | rfl <;> rfl) (by unfold maxLen; omega) (by omega) (by have := HB.out.size; have := hb3.size; simp; omega) ?_; intro v' w1 hown' hgrow _; obtain ⟨g', cap', rfl⟩ := ownsRow_succ hown'; obtain ⟨hv1, hv2, hr2, hk2, hbl⟩ := BV.appended (by decide) (HO.out.on hb3) (by have := HB.out.size; have := hb3.size; omega) (by omega) hown' hgrow; have hc1 := hv1.cell; have hf1 := hv1.frozen))
            rw [hn] at hv2 hr2 hk2 hbl
            have hacc := HQ.out
            have ho := HOE.out (nm, vl) hacc
            have g2 : Boxed w1 N 106 (.slice none 0 0) := (B2.alloc _).kept hgrow (B2.not_row (by decide) (HO.out.on hb3))
            have g3 : Boxed w1 (N + 1) 32 (.int .i64 0) := (B3.alloc _).kept hgrow (B3.not_row (by decide) (HO.out.on hb3))
            have hKO := (keeps_below hb3).trans hk2
            exact ⟨hKO.from _, hKO.walks, ⟨⟨⟨_, hv2, by rw [ho, pcs_append, List.length_append, hn]; exact hr2, trivial⟩, g2.other (by omega) _, g3.other (by omega) _⟩, by rw [ho]; exact hacc, by have := HPL.out; simp; omega⟩, (HB.out.trans (hb3.mono (Nat.le_trans hN1 HB.out.size))).trans hbl⟩
  case done =>
    rintro D ys W hD hS ⟨⟨⟨⟨v, hv, hrow, -⟩, h2, h3⟩, hacc, hle⟩, hB⟩ hK
    have hown : OwnP 168 W N v (outL ys) := hrow
    obtain ⟨a, cap, rfl, -⟩ := hown.isP
    have hq := q_done hS hacc hle
    have hcv := hv.cell
    have hc2 := h2.cell
    have hf2 := h2.frozen
    have hc3 := h3.cell
    have hf3 := h3.frozen
    have HH : Hid (queryL l = some (outL ys)) := hq
    have HO : Hid (W.ownsRow N 168 2 (.slice a (outL ys).length cap) (outL ys).length (pcs (outL ys))) := hrow
    have hD' : N ≤ D := by omega
    clear hq hacc hle hS hown hrow b2 b3 b4 bS hB0
    generalize outL ys = out at *
    generalize hn : out.length = k at *
    gi_wp2
    have hK' := ((KeepsOthers.setCell W ⟨N, 0, none⟩ (.slice a k cap)).trans (KeepsOthers.setCell _ ⟨N + 1, 0, none⟩ (.int .i64 0))).same D _ hK rfl
    refine ⟨by simp, .inl ⟨_, _, rfl, run_takeDeferred hK', ?_⟩⟩
    have x2 : Boxed ((W.setCell ⟨N, 0, none⟩ (.slice a k cap)).setCell ⟨N + 1, 0, none⟩ (.int .i64 0)) N 106 (.slice a k cap) := (h2.set _).other (by omega) _
    have x3 : Boxed ((W.setCell ⟨N, 0, none⟩ (.slice a k cap)).setCell ⟨N + 1, 0, none⟩ (.int .i64 0)) (N + 1) 32 (.int .i64 0) := (h3.other (by omega) _).set _
    have y2 := cell_kept x2.cell (grownBy_putObj' _ D (.deferred none)) (fun r e => by cases e; exact ⟨_, hK', rfl⟩)
    have y3 := cell_kept x3.cell (grownBy_putObj' _ D (.deferred none)) (fun r e => by cases e; exact ⟨_, hK', rfl⟩)
    have o1 := HO.out.kept (grownBy_setCell' W N (.slice a k cap)) (.inr (h2.not_row (by decide) HO.out).symm)
    have o2 := o1.kept (grownBy_setCell' _ (N + 1) (.int .i64 0)) (.inr ((h3.other (by omega) _).not_row (by decide) o1).symm)
    have o3 := ownsRow_putObj o2 (.deferred none) hK' rfl
    have o4 : OwnP 168 (((W.setCell ⟨N, 0, none⟩ (.slice a k cap)).setCell ⟨N + 1, 0, none⟩ (.int .i64 0)).putObj D (.deferred none)) N (.slice a k cap) out := by unfold OwnP; rw [hn]; exact o3
    have hP : IsP (((W.setCell ⟨N, 0, none⟩ (.slice a k cap)).setCell ⟨N + 1, 0, none⟩ (.int .i64 0)).putObj D (.deferred none)) a k cap out := by
      obtain ⟨a', cap', e, hp⟩ := o4.isP
      rw [hn] at e hp
      cases e
      exact hp
    refine ⟨.tuple #[.slice a k cap, .int .i64 0], ?_, QOut.some HH.out hP, ?_⟩
    · simp [results, Tryz.f68, go_sem, y2, y3]
    · rw [← HN.out]
      exact ((hB.setCell (p := ⟨N, 0, none⟩) (Nat.le_refl _) _).setCell (p := ⟨N + 1, 0, none⟩) (by simp) _).trans (belowK_b (w := w) hN1 _ D _ _ (by omega) hK' rfl rfl)
  case stop =>
    rintro D c pre W hD hSp ⟨⟨⟨h2, h3⟩, rfl, hq⟩, hB⟩ hK
    gi_wp2
    refine ⟨by simp, .inl ⟨_, _, rfl, run_takeDeferred hK, ?_⟩⟩
    have y2 := cell_kept h2.cell (grownBy_putObj' _ D (.deferred none)) (fun r e => by cases e; exact ⟨_, hK, rfl⟩)
    have y3 := cell_kept h3.cell (grownBy_putObj' _ D (.deferred none)) (fun r e => by cases e; exact ⟨_, hK, rfl⟩)
    refine ⟨.tuple #[.slice none 0 0, .int .i64 13], ?_, QOut.none (q_stop hSp hq), ?_⟩
    · simp [results, Tryz.f68, go_sem, y2, y3]
    · rw [← HN.out]
      exact hB.trans (belowK_b (w := w) hN1 W D _ _ (by omega) hK rfl rfl)
end Go.Proofs.YtgjmaeodgcigdabGreatDoor
