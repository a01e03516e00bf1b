/- The statements' Own: a request as the program's; the document's Get. Regions that draw their order, by hand. -/
import Derived.Test.YtbknabmcelknmaaGreatDoorJ33
import Derived.Test.YtbknabmcelknmaaGreatDoorOwnPS
import Derived.Test.YtbknabmcelknmaaGreatDoorJ0
import Derived.Deep.RegionHeld3
namespace Go.Proofs.YtbknabmcelknmaaGreatDoor
open Go.RowKit

set_option maxRecDepth 20000 in
set_option maxHeartbeats 2000000 in
theorem refGet (m p q bd : Value) (a : Option Addr) (n cap : Nat) (l : List Pr) (nm : List UInt8) (w : World) (h : IsP w a n cap l) :
    Calls Tryz.prog 19 #[.agg #[m, p, q, .slice a n cap, bd], .string (str nm)] w fun e w' => e = .returned (.tuple #[.string (str ((findL l nm).getD [])), .bool (findL l nm).isSome]) ∧ Below w.heap.size w w' := by
  have HL : Hid (l.length = n) := h.len_eq
  have H : Hid (IsP w a n cap l) := h
  have hn : n ≤ 9223372036854775807 := by have := h.le; have := h.max; unfold maxLen at this; omega
  clear h
  have T0 : Below w.heap.size w (w.alloc (.cells #[m, p, q, .slice a n cap, bd] 31)) := (Below.refl _ w).alloc (Nat.le_refl _) _
  have K0 := Blk.newAt w w.heap.size 31 _ [m, p, q, .slice a n cap, bd] rfl rfl
  have k3 : (w.alloc (.cells #[m, p, q, .slice a n cap, bd] 31)).cell? ⟨w.heap.size, 3, none⟩ = some (.slice a n cap) := K0.cell 3
  generalize hrs : str ((findL l nm).getD []) = rs
  generalize hrb : (findL l nm).isSome = rb
  have HR1 : Hid (str ((findL l nm).getD []) = rs) := hrs
  have HR2 : Hid ((findL l nm).isSome = rb) := hrb
  clear hrs hrb
  go_enter Tryz.func19, Tryz.ntmps19
  go_wp2
  have HW : Hid (∀ x, Below w.heap.size w x → ∀ i, i < n → ∃ b off, a = some ⟨b, off, none⟩ ∧ x.cell? ⟨b, off + i * 2, none⟩ = some (.string (str (nthP l i).1)) ∧ x.cell? ⟨b, off + i * 2 + 1, none⟩ = some (.string (str (nthP l i).2))) := fun x hb i hi => by
    obtain ⟨b, off, e, hc⟩ := H.out.cells (by omega)
    obtain ⟨c1, c2⟩ := hc i hi
    exact ⟨b, off, e, (hb.cell (p := ⟨b, off + i * 2, none⟩) (cell_lt c1)).trans c1, (hb.cell (p := ⟨b, off + i * 2 + 1, none⟩) (cell_lt c2)).trans c2⟩
  generalize hW0 : (w.alloc (.cells #[m, p, q, .slice a n cap, bd] 31)) = W0 at *
  clear hW0
  go_loopw [6] (fun i wr => ∃ (k : Nat), k ≤ n ∧ i = .int .i64 k ∧ Hid (∀ j, j < k → ¬ (nthP l j).1 = nm) ∧ wr = W0) (fun i _ => n - (intOf i).toNat)
  case atStart => exact ⟨0, Nat.zero_le _, rfl, (fun j hj => absurd hj (Nat.not_lt_zero _)), rfl⟩
  case round =>
    obtain ⟨k, hk, rfl, HD, rfl⟩ := hrel
    by_cases hlt : k < n
    · obtain ⟨b, off, rfl, c1, c2⟩ := HW.out _ T0 k hlt
      have hb0 : (0 : Int) ≤ (k : Int) := by omega
      have hb1 : (k : Int) < (n : Int) := by omega
      have hkl : k < l.length := by rw [HL.out]; exact hlt
      by_cases he : (nthP l k).1 = nm
      · have HF : Hid (findL l nm = some (nthP l k).2) := find_at l nm k hkl HD.out he
        have hq : ((str (nthP l k).1).toList == (str nm).toList) = true := by rw [str_beq, he]; simp
        have e1 : Hid (str (nthP l k).2 = rs) := by unfold Hid; rw [← HR1.out, HF.out]; rfl
        have e2 : Hid (true = rb) := by unfold Hid; rw [← HR2.out, HF.out]; rfl
        clear HF hkl he HR1 HR2
        generalize str (nthP l k).1 = s1 at *
        generalize str (nthP l k).2 = s2 at *
        generalize str nm = s3 at *
        go_wp2
        go_ret2
        exact ⟨ret_sb e1.out e2.out, T0⟩
      · have hq : ((str (nthP l k).1).toList == (str nm).toList) = false := by rw [str_beq, beq_dec, decide_eq_false he]
        have HD1 : Hid (∀ j, j < k + 1 → ¬ (nthP l j).1 = nm) := fun j hj => by
          rcases Nat.lt_or_ge j k with h | h
          · exact HD.out j h
          · rw [show j = k by omega]; exact he
        have HK : Hid (k < n) := hlt
        clear HD hkl he
        generalize str (nthP l k).1 = s1 at *
        generalize str (nthP l k).2 = s2 at *
        generalize hs3 : str nm = s3 at *
        go_wp2
        go_roundw
        case rel => exact ⟨k + 1, HK.out, by go_num, HD1, by first | rfl | trivial⟩
        case measure => have := HK.out; simp [intOf]; omega
    · have hge : ¬ (k : Int) < (n : Int) := by omega
      have HF : Hid (findL l nm = none) := find_none l nm (fun i hi => HD.out i (by have := HL.out; omega))
      have e1 : Hid ((⟨#[]⟩ : ByteArray) = rs) := by unfold Hid; rw [← HR1.out, HF.out]; rfl
      have e2 : Hid (false = rb) := by unfold Hid; rw [← HR2.out, HF.out]; rfl
      clear HF HD HR1 HR2
      go_wp2
      go_ret2
      exact ⟨ret_sb e1.out e2.out, T0⟩

theorem infoH5 : (Tryz.prog.info? 73).map (fun i => (i.zero, i.size, i.bytes)) = some (some (.agg #[.string ⟨#[]⟩, .string ⟨#[]⟩]), 2, 32) := by kernel_rfl
theorem takeP5 (l : List Pr) (k : Nat) (h : k < l.length) : l.take (k + 1) = l.take k ++ [((nthP l k).1, (nthP l k).2)] := by
  rw [nthP_eq l k h, ← List.take_append_getElem h]

end Go.Proofs.YtbknabmcelknmaaGreatDoor
namespace Go.Proofs.YtbknabmcelknmaaGreatDoor
open Go.RowKit

/-- an operation of a region is taken first, its temporary told -/
theorem takeH {P : Program} {md : Region.Mode} {ops : Array Oper} {Q : Exit → Act → World → Prop} {S : World → Prop} {i : Nat} {oi : Oper} {v : Value} {fuel : Nat} {listed : Array Bool} {a : Act} {w : World} (d : Option Tmp) (hi : ops[i]? = some oi)
    (hs : Region.noSelect ops = true) (hf : Region.free md ops listed i = true) (hr : (Region.ready md ops listed).contains i = true)
    (hQ : ∀ c a w, Q (.panic c) (a.put oi.dst v) w → Q (.panic c) a w) (hy : YieldsIf P ops S oi v a) (hS : S w) (hd : oi.dst = d)
    (h : wpAnyH P md ops Q S fuel (listed.setIfInBounds i true) (a.put d v) w) : wpAnyH P md ops Q S (fuel + 1) listed a w := by
  subst hd; exact wpAnyH_take hi hs hf hr hQ hy hS h
/-- the one that comes up -/
theorem oneH {P : Program} {md : Region.Mode} {ops : Array Oper} {Q : Exit → Act → World → Prop} {S : World → Prop} {fuel : Nat} {listed : Array Bool} {a : Act} {w : World} (i : Nat) {oi : Oper} (hi : ops[i]? = some oi)
    (hr : Region.ready md ops listed = [i]) (hw : Region.wanted oi (yielded ops a.tmps) = true)
    (h : oi.wp P a w (fun a' w' => S w' ∧ wpAnyH P md ops Q S fuel (listed.setIfInBounds i true) a' w') Q) : wpAnyH P md ops Q S (fuel + 1) listed a w := by
  refine wpAnyH_all hr (by simp) fun j hj => ?_
  have : j = i := by simpa using hj
  subst this
  unfold wpOp
  simp only [hi, hw, if_true]
  exact .inl h
end Go.Proofs.YtbknabmcelknmaaGreatDoor
