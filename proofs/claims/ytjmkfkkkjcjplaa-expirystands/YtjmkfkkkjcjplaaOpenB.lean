/- What the frame tells of a slice of bytes. -/
import Derived.Test.YtjmkfkkkjcjplaaBase
import Derived.Test.YtjmkfkkkjcjplaaOwnS
import Derived.Deep.SlicePairs
import Derived.OpenShut
namespace Go.Proofs.Ytjmkfkkkjcjplaa
open Go.ChangeShapes Go.WideShapes

theorem weights_all_mem {H : Type} {P : Program} {e : TypeId} {d : DataW H} {n : Nat} (hn : n ∈ d.weights P e) : ∀ {l : List (DataW H)}, d ∈ l → n ∈ DataW.weightsAll P e l
  | [], h => by cases h
  | x :: l, h => by
    simp only [DataW.weightsAll]
    rcases List.mem_cons.1 h with rfl | h
    · exact List.mem_append_left _ hn
    · exact List.mem_append_right _ (weights_all_mem hn h)
theorem slice_of14 {H : Type} {enc : TypeId × Value → H} {W : World} {fuel : Nat} {t e : TypeId} {v : Value} {x : DataW H × List MemPlace} (hu : Try.prog.underlying t = some (.slice e)) (h : DataW.trod enc Try.prog W 0 (fun _ => true) true fuel t [v] = some x) : ∃ a len cap, v = .slice a len cap := by
  rcases Deep.open_slice hu h with ⟨hcs, _⟩ | ⟨ad, l, c, m, n, D, Pl, hcs, _⟩
  · simp only [List.cons.injEq, and_true] at hcs; exact ⟨_, _, _, hcs⟩
  · simp only [List.cons.injEq, and_true] at hcs; exact ⟨_, _, _, hcs⟩
theorem open_bytes {H : Type} {enc : TypeId × Value → H} {W : World} {fuel : Nat} {a : Option Addr} {len cap : Nat} {x : DataW H × List MemPlace} (h : DataW.trod enc Try.prog W 0 (fun _ => true) true fuel 33 [.slice a len cap] = some x) :
    ∃ b, IsB W a len cap b ∧ ∀ N, (∀ n ∈ x.1.weights Try.prog 33, n ≤ N) → len ≤ N := by
  rcases open_ints Try.underlying33 Try.underlying5 (by kernel_rfl) h with ⟨hcs, _⟩ | ⟨y, l, c, zs, hcs, _, hl, hm, hz, hx, hcell, hwz⟩
  · simp only [List.cons.injEq, and_true, Value.slice.injEq] at hcs
    obtain ⟨rfl, rfl, rfl⟩ := hcs
    exact ⟨[], isB_none W, fun _ _ => Nat.zero_le _⟩
  · simp only [List.cons.injEq, and_true, Value.slice.injEq] at hcs
    obtain ⟨rfl, rfl, rfl⟩ := hcs
    have hz0 : zs.length = cap := by simpa using hz
    have hrow : IsRow .u8 W (some y) len cap zs := .inr ⟨_, rfl, hl, hm, hz0, hcell, hwz⟩
    obtain ⟨b, hb⟩ := hrow.bytes
    refine ⟨b, hb, fun N hN => ?_⟩
    have hb1 : Try.prog.bytesOf 5 = 1 := by kernel_rfl
    rw [hx] at hN
    simp only [DataW.weights, Try.underlying33, hb1] at hN
    have := hN _ (List.mem_cons_self ..)
    simp only [lits, List.length_map, List.length_take] at this
    omega
end Go.Proofs.Ytjmkfkkkjcjplaa
