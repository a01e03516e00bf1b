/- The document's Latest. -/
import Derived.Test.YtjmkfkkkjcjplaaEx0
import Derived.Deep.QuietTactic
import Derived.BigQuiet
namespace Go.Proofs.Ytjmkfkkkjcjplaa
open Go.RowKit

attribute [local go_sem] undef
theorem byte_eq17 (s t : ByteArray) : (s.toList == t.toList) = decide (s = t) := by
  have h : ∀ u : ByteArray, u.toList = u.data.toList := fun u => by cases u; exact ByteArray.toList_mk _
  rw [h, h, Bool.eq_iff_iff, beq_iff_eq, decide_eq_true_iff]
  constructor
  · intro e; cases s; cases t; simp only [Array.toList_inj] at e; rw [e]
  · rintro rfl; rfl
theorem vq_cells {w : World} {a : Option Addr} {n : Nat} {l : List Vq} (h : RowC 10 vqc w a n l) (k : Nat) (hk : k < n) : ∃ B off p, a = some ⟨B, off, none⟩ ∧ l[k]? = some p ∧ (l.map Prod.fst)[k]? = some p.1 ∧
    ∀ W, Below w.heap.size w W → W.cell? ⟨B, off + k * 10, none⟩ = some (.string p.1.bkt) ∧ W.cell? ⟨B, off + k * 10 + 1, none⟩ = some (.string p.1.key) ∧ W.cell? ⟨B, off + k * 10 + 2, none⟩ = some (.int .u64 (p.1.id : Int)) ∧ W.cell? ⟨B, off + k * 10 + 3, none⟩ = some (.int .u64 (p.1.ord : Int)) ∧ W.cell? ⟨B, off + k * 10 + 4, none⟩ = some (.bool p.1.mark) ∧
      W.cell? ⟨B, off + k * 10 + 5, none⟩ = some (.slice p.2.ad p.1.data.length p.2.cap) ∧ W.cell? ⟨B, off + k * 10 + 6, none⟩ = some (.int .i64 p.1.rm) ∧ W.cell? ⟨B, off + k * 10 + 7, none⟩ = some (.int .u64 (p.1.ru : Int)) ∧ W.cell? ⟨B, off + k * 10 + 8, none⟩ = some (.bool p.1.hold) ∧ W.cell? ⟨B, off + k * 10 + 9, none⟩ = some (.int .u64 (p.1.time : Int)) := by
  obtain ⟨B, off, p, rfl, hB, hp, hc⟩ := h.at k hk
  refine ⟨B, off, p, rfl, hp, by rw [List.getElem?_map, hp]; rfl, fun W hW => ?_⟩
  have hg : ∀ j v, (vqc p)[j]? = some v → W.cell? ⟨B, off + k * 10 + j, none⟩ = some v := fun j v hv => (hW.cell (p := ⟨B, off + k * 10 + j, none⟩) hB).trans (hc j v hv)
  exact ⟨hg 0 _ rfl, hg 1 _ rfl, hg 2 _ rfl, hg 3 _ rfl, hg 4 _ rfl, hg 5 _ rfl, hg 6 _ rfl, hg 7 _ rfl, hg 8 _ rfl, hg 9 _ rfl⟩
set_option maxRecDepth 20000 in
set_option maxHeartbeats 4000000 in
theorem refLatest (a : Option Addr) (n cap : Nat) (l : List Vq) (b k : ByteArray) (w : World) (h : IsVl w a n cap l) (hn : n ≤ 1000) :
    Calls Try.prog 7 #[.slice a n cap, .string b, .string k] w fun e w' => e = .returned (.int .i64 (latestK (l.map Prod.fst) b k)) ∧ Below w.heap.size w w' := by
  have HX := mkHid h
  have HLn := mkHid h.row.len
  clear h
  have HR : Hid (latestK (l.map Prod.fst) b k = latN (l.map Prod.fst) b k n) := by unfold Hid latestK; rw [List.length_map, HLn.out]
  rw [HR.out]
  clear HR
  go_enter Try.func7, Try.ntmps7
  go_wp2_with fail
  go_loopw [7, 8] (fun z i wr => ∃ m : Nat, m ≤ n ∧ i = .int .i64 (m : Int) ∧ z = .int .i64 (latN (l.map Prod.fst) b k m) ∧ Hid (Below w.heap.size w wr)) (fun _ i _ => n - (Go.RowKit.intOf i).toNat)
  case atStart => exact ⟨0, Nat.zero_le _, rfl, rfl, Below.refl _ _⟩
  case round =>
    obtain ⟨m, hm, rfl, rfl, HB⟩ := hrel
    by_cases hlt : m < n
    rotate_left
    · obtain rfl : m = n := by omega
      have hge : ¬ (m : Int) < (m : Int) := by omega
      go_wp2_with fail
      go_ret
      exact ⟨rfl, HB.out⟩
    have hlt' : (m : Int) < (n : Int) := by omega
    have Hlt := mkHid hlt
    have hm0 : (0 : Int) ≤ (m : Int) := by omega
    obtain ⟨B, off, p, rfl, hp, hpm, hcs⟩ := vq_cells HX.out.row m hlt
    obtain ⟨e0, e1, -, e3, -⟩ := hcs wr HB.out
    have HN := mkHid (latN_at b k hpm)
    have HLt := mkHid (latN_lt (l.map Prod.fst) b k m)
    obtain ⟨z, hz⟩ : ∃ z, z = latN (l.map Prod.fst) b k m := ⟨_, rfl⟩
    rw [← hz] at HN HLt ⊢
    clear hz
    clear hcs hp hpm hlt hm
    have hzr := HLt.out
    by_cases hb : p.1.bkt = b
    · by_cases hk : p.1.key = k
      · have hof : ofK b k p.1 = true := by unfold ofK; rw [decide_eq_true hb, decide_eq_true hk]; rfl
        rw [hb] at e0
        rw [hk] at e1
        by_cases hz0 : z < 0
        · have hN : Hid (latN (l.map Prod.fst) b k (m + 1) = (m : Int)) := by unfold Hid; rw [HN.out, hof, decide_eq_true hz0]; rfl
          have hzd : decide (z < 0) = true := decide_eq_true hz0
          clear hof hb hk HN
          go_wp2_with fail
          go_quiet (fail)
          go_wp2_with fail
          go_roundw
          case rel => exact ⟨m + 1, Hlt.out, by go_num, by rw [hN.out], mkHid (bel_drewN HB.out _)⟩
          case measure => simp [Go.RowKit.intOf]; have := Hlt.out; omega
        · have hzd : decide (z < 0) = false := decide_eq_false hz0
          obtain ⟨q, rfl⟩ : ∃ q : Nat, z = (q : Int) := ⟨z.toNat, by omega⟩
          have hqm : q < m := by omega
          obtain ⟨B', off', p', hB', hp', hpm', hcs'⟩ := vq_cells HX.out.row q (by have := Hlt.out; omega)
          obtain ⟨rfl, rfl⟩ : B = B' ∧ off = off' := by cases hB'; exact ⟨rfl, rfl⟩
          obtain ⟨-, -, -, e3', -⟩ := hcs' wr HB.out
          have hoq := ordAt_at hpm'
          have hq0 : (0 : Int) ≤ (q : Int) := by omega
          have hqn : (q : Int) < (n : Int) := by omega
          have hqw : IntKind.i64.wrap (q : Int) = (q : Int) := wrapi64_in _ (by omega) (by omega)
          by_cases ho : p'.1.ord < p.1.ord
          · have hN : Hid (latN (l.map Prod.fst) b k (m + 1) = (m : Int)) := by unfold Hid; rw [HN.out, hof, hoq, decide_eq_true ho, Bool.or_true]; rfl
            have hod : decide ((p'.1.ord : Int) < (p.1.ord : Int)) = true := decide_eq_true (by omega)
            have ho' : (p'.1.ord : Int) < (p.1.ord : Int) := by omega
            clear hof hb hk HN hpm' hp' hcs' hoq
            go_wp2_with fail
            go_quiet (fail)
            go_wp2_with fail
            (try rw [show (Value.tuple #[] : Value) = undef from rfl])
            go_roundw
            case rel => exact ⟨m + 1, Hlt.out, by go_num, by rw [hN.out], mkHid (bel_drewN HB.out _)⟩
            case measure => simp [Go.RowKit.intOf]; have := Hlt.out; omega
          · have hN : Hid (latN (l.map Prod.fst) b k (m + 1) = (q : Int)) := by unfold Hid; rw [HN.out, hof, hoq, decide_eq_false ho, hzd]; rfl
            have hod : decide ((p'.1.ord : Int) < (p.1.ord : Int)) = false := decide_eq_false (by omega)
            have ho' : ¬ (p'.1.ord : Int) < (p.1.ord : Int) := by omega
            clear hof hb hk HN hpm' hp' hcs' hoq
            go_wp2_with fail
            go_quiet (fail)
            go_wp2_with fail
            (try rw [show (Value.tuple #[] : Value) = undef from rfl])
            go_roundw
            case rel => exact ⟨m + 1, Hlt.out, by go_num, by rw [hN.out], mkHid (bel_drewN HB.out _)⟩
            case measure => simp [Go.RowKit.intOf]; have := Hlt.out; omega
      · have hN : Hid (latN (l.map Prod.fst) b k (m + 1) = z) := by unfold Hid; rw [HN.out]; unfold ofK; rw [decide_eq_false hk, Bool.and_false, Bool.false_and]; rfl
        have hkd : (p.1.key.toList == k.toList) = false := by rw [byte_eq17]; exact decide_eq_false hk
        rw [hb] at e0
        clear HN
        go_wp2_with fail
        go_quiet (fail)
        go_wp2_with fail
        go_roundw
        case rel => exact ⟨m + 1, Hlt.out, by go_num, by rw [hN.out], mkHid (bel_drewN HB.out _)⟩
        case measure => simp [Go.RowKit.intOf]; have := Hlt.out; omega
    · have hN : Hid (latN (l.map Prod.fst) b k (m + 1) = z) := by unfold Hid; rw [HN.out]; unfold ofK; rw [decide_eq_false hb, Bool.false_and, Bool.false_and]; rfl
      have hbd : (p.1.bkt.toList == b.toList) = false := by rw [byte_eq17]; exact decide_eq_false hb
      clear HN
      go_wp2_with fail
      go_quiet (fail)
      go_wp2_with fail
      go_roundw
      case rel => exact ⟨m + 1, Hlt.out, by go_num, by rw [hN.out], mkHid (bel_drewN HB.out _)⟩
      case measure => simp [Go.RowKit.intOf]; have := Hlt.out; omega
end Go.Proofs.Ytjmkfkkkjcjplaa
