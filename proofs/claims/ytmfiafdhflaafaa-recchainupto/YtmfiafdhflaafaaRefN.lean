/- The document's answer: a number's bytes, numbers one behind the other. -/
import Derived.Test.YtmfiafdhflaafaaBad
namespace Go.Proofs.Ytmfiafdhflaafaa
open Go.RowKit
set_option linter.unusedVariables false
set_option linter.unusedSimpArgs false

set_option maxHeartbeats 1000000 in
theorem refNumber_any (x : Int) (hx : -9223372036854775808 ≤ x ∧ x ≤ 9223372036854775807) (w : World) :
    Calls Try.prog 29 #[.int .i64 x] w fun e w' => ∃ v, e = .returned v ∧ w'.ownsRow w.heap.size 5 1 v 8 (secCells (num x)) ∧ Below w.heap.size w w' := by
  have HMX : Hid ((if (0 : Int) > x then 0 else x) = ((x.toNat : Nat) : Int)) := by show _ = _; split <;> omega
  have HNUM : Hid (∀ k (h : k < 8), bcell ((num x)[k]'(by rw [length_num]; exact h)) = Value.int .u8 (((x.toNat : Nat) : Int) / 2 ^ (8 * (7 - k)) % 256)) := fun k h => num_cell x k h
  have hm1 : ((x.toNat : Nat) : Int) ≤ 9223372036854775807 := by omega
  clear hx
  obtain ⟨m, hm⟩ : ∃ m, x.toNat = m := ⟨_, rfl⟩
  rw [hm] at HMX hm1 HNUM
  clear hm
  go_enter Try.func29, Try.ntmps29
  go_wp2_with (refine wpList_max rfl (.tmp 5) (.const (.int .i64 0)) #[3, 3] rfl _ _ (m : Int) rfl rfl HMX.out ?_)
  go_loopw [3, 4] (fun b i wr => ∃ k : Nat, k ≤ 8 ∧ i = .int .i64 (7 - (k : Int)) ∧ wr.ownsRow w.heap.size 5 1 b k (secCells ((num x).take k)) ∧ Below w.heap.size w wr) (fun _ i _ => (intOf i + 1).toNat)
  case atStart => exact ⟨0, by omega, rfl, World.ownsRow_nil _ _ _ _, Below.refl _ _⟩
  case round =>
    obtain ⟨k, hk8, rfl, ho, hb⟩ := hrel
    obtain ⟨ab, cb, rfl⟩ := owns_len ho
    by_cases hk1 : k < 8
    · obtain ⟨i, hi⟩ : ∃ i : Nat, 7 - k = i := ⟨_, rfl⟩
      have hik : (7 : Int) - (k : Int) = (i : Int) := by omega
      have hi7 : (i : Int) ≤ 7 := by omega
      have HO2 := hide ho
      have HB2 := hide hb
      have HNK := hide (HNUM.out k hk1)
      rw [hi] at HNK
      clear ho hb
      rw [hik]
      have HIK := hide hik
      clear hik
      have HOA : Hid ((wr.alloc (.cells #[.int .u8 ((m : Int) / 2 ^ (8 * i) % 256)] 5)).ownsRow w.heap.size 5 1 (.slice ab k cb) k (secCells ((num x).take k))) := owns_below HO2.out ((Below.refl _ wr).alloc (Nat.le_refl _) _) (Nat.le_refl _)
      have HBS : Hid (w.heap.size ≤ (wr.alloc (.cells #[.int .u8 ((m : Int) / 2 ^ (8 * i) % 256)] 5)).heap.size) := by
        have := HB2.out.size
        show _ ≤ _
        simp
        omega
      have HN1 : Hid ((k + 1) * 1 ≤ 140737488355328) := by show _ ≤ _; omega
      have HN2 : Hid (k + 1 ≤ 140737488355328) := by show _ ≤ _; omega
      go_wp2_with (first
        | (refine wpList_append_row rfl (.tmp 11) (.tmp 17) 23 rfl w.heap.size 5 _ 1 1 Try.underlying23 Try.info5 rfl (by omega) _ _ _ _ 1 [.int .u8 ((m : Int) / 2 ^ (8 * i) % 256)] rfl rfl HOA.out (row_new _ _ _) rfl (by simp [Value.oneCell']) HN1.out HN2.out HBS.out ?_
           intro v2 w2 ho2 hg2
           obtain ⟨a2, c2, hv2⟩ := owns_len ho2
           have HO3 := hide ho2
           have HG2 := hide hg2
           clear ho2 hg2
           subst hv2))
      go_roundw
      case rel =>
        refine ⟨k + 1, by omega, ?_, ?_, ?_⟩
        · have := HIK.out
          congr 1
          omega
        · have e : secCells ((num x).take (k + 1)) = secCells ((num x).take k) ++ [.int .u8 ((m : Int) / 2 ^ (8 * i) % 256)] := by
            rw [List.take_succ_eq_append_getElem (by rw [length_num]; exact hk1), secCells_append, ← HNK.out]
            rfl
          rw [e]
          exact HO3.out
        · have hb1 : Below w.heap.size w (wr.alloc (.cells #[.int .u8 ((m : Int) / 2 ^ (8 * i) % 256)] 5)) := HB2.out.alloc HB2.out.size _
          exact hb1.trans ((Keeps.grown HOA.out HG2.out).below hb1.size)
      case measure => simp [intOf]
    · have hk9 : k = 8 := by omega
      subst hk9
      have HO2 := hide ho
      have HB2 := hide hb
      clear ho hb
      go_wp2
      go_ret
      refine ⟨_, rfl, ?_, HB2.out⟩
      have := HO2.out
      rw [List.take_of_length_le (by rw [length_num]; exact Nat.le_refl _)] at this
      exact this

set_option maxHeartbeats 1000000 in
theorem refAll_any {w : World} {g : Nat} {l : List Int} (hg : w.heap[g]? = some (.cells (intCells l).toArray 3 (0, 0))) (hl : l.length ≤ 100) (hwf : ∀ x ∈ l, -9223372036854775808 ≤ x ∧ x ≤ 9223372036854775807) :
    Calls Try.prog 28 #[.slice (some ⟨g, 0, none⟩) l.length l.length] w fun e w' => ∃ v, e = .returned v ∧ w'.ownsRow w.heap.size 5 1 v (encNums l).length (secCells (encNums l)) ∧ Below w.heap.size w w' := by
  have HG := hide hg
  have HWF := hide hwf
  have hgl := lt_of_heap hg
  clear hg hwf
  go_enter Try.func28, Try.ntmps28
  go_wp2
  go_loopw [3, 4] (fun b i wr => ∃ j : Nat, j ≤ l.length ∧ i = .int .i64 j ∧ wr.ownsRow w.heap.size 5 1 b (encNums (l.take j)).length (secCells (encNums (l.take j))) ∧ Below w.heap.size w wr) (fun _ i _ => l.length - (intOf i).toNat)
  case atStart => exact ⟨0, by omega, rfl, World.ownsRow_nil _ _ _ _, Below.refl _ _⟩
  case round =>
    obtain ⟨j, hj, rfl, ho, hb⟩ := hrel
    obtain ⟨ab, cb, hvb⟩ := owns_len ho
    by_cases hlt : j < l.length
    · have hcell : wr.cell? ⟨g, j, none⟩ = some (.int .i64 (l.getD j 0)) := by
        rw [hb.cell (p := ⟨g, j, none⟩) hgl, cell_row HG.out]
        simp [intCells, icell, hlt]
      have HT : Hid (encNums (l.take (j + 1)) = encNums (l.take j) ++ num (l.getD j 0)) := by
        show _ = _
        have e : l.getD j 0 = l[j] := by simp [hlt]
        rw [List.take_succ_eq_append_getElem hlt, encNums_snoc, e]
      have HLB : Hid ((encNums (l.take j)).length ≤ 1000) := by show _ ≤ _; rw [length_encNums, List.length_take]; omega
      have HC := hide (refNumber_any (l.getD j 0) (HWF.out _ (by simp [hlt])) wr)
      generalize l.getD j 0 = x at *
      have HO := hide ho
      have HB := hide hb
      clear ho hb
      generalize encNums (l.take j) = B at *
      subst hvb
      go_wp2_with fail
      refine HC.out.mono ?_
      rintro e w1 ⟨v1, rfl, ho1, hb1⟩
      obtain ⟨a1, c1, hv1⟩ := owns_len ho1
      have HROW : Hid (Row w1 v1 8 (secCells (num x))) := Row.of_owns ho1
      have HOA : Hid (w1.ownsRow w.heap.size 5 1 (.slice ab B.length cb) B.length (secCells B)) := owns_below HO.out hb1 (Nat.le_refl _)
      have HB1 : Hid (Below w.heap.size w w1) := HB.out.trans (hb1.mono HB.out.size)
      have HN1 : Hid ((B.length + 8) * 1 ≤ 140737488355328) := by have := HLB.out; show _ ≤ _; omega
      have HN2 : Hid (B.length + 8 ≤ 140737488355328) := by have := HLB.out; show _ ≤ _; omega
      have HL : Hid ((secCells (num x)).length = 8 * 1) := by show _ = _; rw [length_secCells, length_num]
      subst hv1
      clear ho1 hb1 HC hcell
      go_wp2_with (first
        | (refine wpList_append_row rfl (.tmp 11) (.tmp 16) 23 rfl w.heap.size 5 _ 1 1 Try.underlying23 Try.info5 rfl (by omega) _ _ _ _ _ _ rfl rfl HOA.out HROW.out HL.out (one_secCells _) HN1.out HN2.out HB1.out.size ?_
           intro v2 w2 ho2 hg2
           obtain ⟨a2, c2, hv2⟩ := owns_len ho2
           have HO3 := hide ho2
           have HG2 := hide hg2
           clear ho2 hg2
           subst hv2))
      go_roundw
      case rel =>
        refine ⟨j + 1, by omega, by go_num, ?_, HB1.out.trans ((Keeps.grown HOA.out HG2.out).below HB1.out.size)⟩
        rw [HT.out, secCells_append, List.length_append, length_num]
        exact HO3.out
      case measure => simp [intOf]; omega
    · have hjl : j = l.length := by omega
      subst hjl
      rw [List.take_length] at ho hvb
      have HO := hide ho
      have HB := hide hb
      clear ho hb
      generalize hBE : encNums l = B at *
      have HBE := hide hBE
      clear hBE
      subst hvb
      go_wp2
      go_ret
      exact ⟨_, rfl, by rw [HBE.out]; exact HO.out, HB.out⟩
end Go.Proofs.Ytmfiafdhflaafaa
