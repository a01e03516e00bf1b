/- What digest.New and Hash's Add, Sum, Len do. -/
import Derived.Test.YtjhfkghcplbmkabAdd
import Derived.Test.YtjhfkghcplbmkabSum
import Derived.Test.YtjhfkghcplbmkabKind256
namespace Go.Proofs.Ytjhfkghcplbmkab
open Go.RowKit
attribute [local go_sem ↓] zv83

def kc256 : List Value := kcOf (32 : Nat) s256 22

/-- a Hash, in block G, that has taken A -/
def IsH (w : World) (G : Nat) (A : List UInt8) : Prop :=
  ∃ ws buf, ws.length = 8 ∧ Blk w G 45 (rc kc256 ws buf A.length) ∧ Inv mix256L s256.list A A.length ws buf

theorem IsH.on {w w' : World} {G : Nat} {A : List UInt8} (h : IsH w G A) (hb : Below w.heap.size w w') : IsH w' G A := by
  obtain ⟨ws, buf, h1, h2, h3⟩ := h
  exact ⟨ws, buf, h1, h2.on hb, h3⟩
theorem IsH.lt {w : World} {G : Nat} {A : List UInt8} (h : IsH w G A) : G < w.heap.size := by
  obtain ⟨ws, buf, h1, h2, h3⟩ := h
  exact h2.lt

set_option maxRecDepth 20000 in
set_option maxHeartbeats 1000000 in
theorem hNew (w : World) : Calls Try.prog 8 #[] w fun e w' => ∃ G, e = .returned (.pointer (some ⟨G, 0, none⟩)) ∧ w.heap.size ≤ G ∧ IsH w' G [] ∧ Below w.heap.size w w' := by
  have hb : Try.prog.built 45 [(0, .agg (rc kc256 s256.list (List.replicate 64 0) 0).toArray)] = some (rc kc256 s256.list (List.replicate 64 0) 0).toArray := by kernel_rfl
  go_enter Try.func8, Try.ntmps8
  go_wp2_with fail
  refine (digKind256 w).mono ?_
  rintro e w1 ⟨rfl, b1⟩
  go_wp2_with fail
  refine (digBegin (32 : Nat) s256 22 w1).mono ?_
  rintro e w2 ⟨rfl, b2⟩
  have t2 : Below w.heap.size w w2 := b1.trans (b2.mono b1.size)
  go_wp2_with (refine list_build rfl 45 _ rfl [(0, .agg (rc kc256 s256.list (List.replicate 64 0) 0).toArray)] (by simp only [List.map_toArray, List.map_cons, List.map_nil]; rfl) (rc kc256 s256.list (List.replicate 64 0) 0).toArray hb ?_)
  go_ret
  exact ⟨w2.heap.size, rfl, t2.size, ⟨s256.list, List.replicate 64 0, rfl, Blk.newAt w2 _ _ _ _ rfl rfl, Inv.start_ _ _ _ _ (List.length_replicate ..)⟩, t2.alloc t2.size _⟩

set_option maxRecDepth 20000 in
set_option maxHeartbeats 1000000 in
theorem hAdd (G : Nat) (A l : List UInt8) (a : Option Addr) (len cap : Nat) (w : World) (h : IsH w G A) (hl : IsB w a len cap l) (hG : 0 < len → ∀ b off, a = some ⟨b, off, none⟩ → b ≠ G) (hn : A.length + len < 9223372036854775808) :
    Calls Try.prog 9 #[.pointer (some ⟨G, 0, none⟩), .slice a len cap] w fun e w' => e = .returned (.tuple #[]) ∧ IsH w' G (A ++ l) ∧ w.grownBy w' (some G) := by
  obtain ⟨ws, buf, h8, hb, hi⟩ := h
  have HB : Hid (Blk w G 45 (rc kc256 ws buf A.length)) := hb
  have HI : Hid (Inv mix256L s256.list A A.length ws buf) := hi
  have HL : Hid (IsB w a len cap l) := hl
  have HE : Hid (l.length = len) := hl.len_eq
  have HG : Hid (0 < len → ∀ b off, a = some ⟨b, off, none⟩ → b ≠ G) := hG
  clear hb hi hl hG
  go_enter Try.func9, Try.ntmps9
  go_wp2_with fail
  refine (digAdd 22 mix256L s256.list mixOK256 kc256 rfl rfl G 45 ws buf A l a len cap w h8 HB.out HI.out HL.out HG.out hn).mono ?_
  rintro e w1 ⟨rfl, ws', buf', h8', hb', hi', hg⟩
  have HN : Hid (IsH w1 G (A ++ l)) := ⟨ws', buf', h8', by rw [List.length_append, HE.out]; exact hb', by rw [List.length_append, HE.out]; exact hi'⟩
  clear hb' hi'
  go_wp2_with fail
  go_end0
  exact ⟨rfl, HN.out, hg⟩

theorem info83' : (Try.prog.info? 41).map (·.size) = some 83 := by kernel_rfl

set_option maxRecDepth 20000 in
set_option maxHeartbeats 1000000 in
theorem hSum (G : Nat) (A : List UInt8) (w : World) (h : IsH w G A) (hn : A.length < 4294967296) :
    Calls Try.prog 11 #[.pointer (some ⟨G, 0, none⟩)] w fun e w' => ∃ v, e = .returned v ∧ OwnB w' w.heap.size v (sha256L A) ∧ Below w.heap.size w w' := by
  obtain ⟨ws, buf, h8, hb, hi⟩ := h
  have hsz : (Try.prog.info? 41).map (·.size) = some (rc kc256 ws buf A.length).toArray.size := by rw [info83', List.size_toArray, rc_length kc256 ws buf A.length rfl h8 hi.size]
  have HI : Hid (Inv mix256L s256.list A A.length ws buf) := hi
  clear hi
  go_enter Try.func11, Try.ntmps11
  go_wp2_with (refine wpList_load_row rfl 41 _ rfl _ rfl _ _ _ _ hb Try.underlying41 rfl hsz ?_)
  refine (digSum 22 mix256L s256.list mixOK256 32 (by omega) kc256 rfl rfl rfl ws buf A w h8 HI.out hn).mono ?_
  rintro e w1 ⟨v, rfl, ho, hb1⟩
  have HO : Hid (OwnB w1 w.heap.size v (sha256L A)) := ho
  clear ho
  go_wp2_with fail
  go_ret
  exact ⟨_, rfl, HO.out, hb1⟩

set_option maxRecDepth 20000 in
set_option maxHeartbeats 1000000 in
theorem hLen (G : Nat) (A : List UInt8) (w : World) (h : IsH w G A) :
    Calls Try.prog 10 #[.pointer (some ⟨G, 0, none⟩)] w fun e w' => e = .returned (.int .u64 (A.length : Int)) ∧ w' = w := by
  obtain ⟨ws, buf, h8, hb, hi⟩ := h
  have c82 := (hb.cell 82).trans (rc_taken kc256 ws buf A.length rfl h8 hi.size)
  clear hb hi
  generalize A.length = n at *
  go_enter Try.func10, Try.ntmps10
  go_wp2
  go_ret
  exact ⟨rfl, rfl⟩

theorem hnAdd (v : Value) (w : World) : Calls Try.prog 9 #[.pointer none, v] w fun e w' => e = .returned (.tuple #[]) ∧ w' = w := by
  go_enter Try.func9, Try.ntmps9
  go_wp2
  go_end0
  exact ⟨rfl, rfl⟩
theorem hnSum (w : World) : Calls Try.prog 11 #[.pointer none] w fun e w' => e = .returned (.slice none 0 0) ∧ w' = w := by
  go_enter Try.func11, Try.ntmps11
  go_wp2
  go_ret
  exact ⟨rfl, rfl⟩
theorem hnLen (w : World) : Calls Try.prog 10 #[.pointer none] w fun e w' => e = .returned (.int .u64 0) ∧ w' = w := by
  go_enter Try.func10, Try.ntmps10
  go_wp2
  go_ret
  exact ⟨rfl, rfl⟩
end Go.Proofs.Ytjhfkghcplbmkab
