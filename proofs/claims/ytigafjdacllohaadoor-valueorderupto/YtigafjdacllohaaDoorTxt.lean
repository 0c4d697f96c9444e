/- text: texts put together by a builder. -/
import Derived.Test.YtigafjdacllohaaDoorRes
namespace Go.Proofs
theorem Tryd.lays166 : Go.Proofs.Lays.n166 Tryd.prog Tryd.lays155_ren := { Tryd.lays155 with }
namespace YtigafjdacllohaaDoor
open Go.RowKit
set_option linter.unusedVariables false
set_option linter.unusedSimpArgs false
set_option maxRecDepth 100000

theorem writeString (B b : Nat) (bs : List Value) (s : ByteArray) (w : World) (h : Lib.IsBuilder 89 5 B b bs w) (hlen : bs.length + s.size ≤ 140737488355328) (hBw : B ≤ w.heap.size) :
    Calls Tryd.prog 70 #[.pointer (some ⟨b, 0, none⟩), .string s] w fun e w' => e = .returned (.tuple #[.int .i64 s.size, .nilIface]) ∧ (Lib.BuilderAt 89 5 B b (.pointer (some ⟨b, 0, none⟩)) (bs ++ Lib.strCells s) w' ∧ Below B w w') :=
  Any.Builder_WriteString Tryd.lays166 Tryd.Builder_Extra_155 B b bs s w h hlen hBw
theorem strCells_str (l : List UInt8) : Lib.strCells (strOf l) = Lib.byteCells l := rfl
theorem byteCells_append (a b : List UInt8) : Lib.byteCells (a ++ b) = Lib.byteCells a ++ Lib.byteCells b := by simp [Lib.byteCells]
theorem flat_take {l : List (List UInt8)} {k : Nat} (h : k < l.length) : (l.take (k + 1)).flatten = (l.take k).flatten ++ l.getD k [] := by
  rw [List.take_succ_eq_append_getElem h, List.flatten_append]
  simp [h]
theorem flat_le (l : List (List UInt8)) (k : Nat) (h : k < l.length) : (l.take k).flatten.length + (l.getD k []).length ≤ l.flatten.length := by
  have h1 : (l.take (k + 1)).flatten.length ≤ l.flatten.length := by
    conv => rhs; rw [← List.take_append_drop (k + 1) l, List.flatten_append, List.length_append]
    omega
  rw [flat_take h, List.length_append] at h1
  exact h1
set_option maxHeartbeats 2000000 in
theorem text_any {w : World} {g c : Nat} {l : List (List UInt8)} (h : ∀ i, i < l.length → w.cell? ⟨g, i, none⟩ = some (.string (strOf (l.getD i [])))) (hl : l.flatten.length ≤ 140737488355328) (hn : l.length ≤ 1000000) :
    Calls Tryd.prog 42 #[.slice (some ⟨g, 0, none⟩) l.length c] w fun e w' => e = .returned (valOf (tV l.flatten)) ∧ Below w.heap.size w w' := by
  have H := hide h
  have HL : Hid (∀ k, k < l.length → (Lib.byteCells (l.take k).flatten).length + (strOf (l.getD k [])).size ≤ 140737488355328) := fun k hk => by
    have := flat_le l k hk
    have e1 : (Lib.byteCells (l.take k).flatten).length = (l.take k).flatten.length := by unfold Lib.byteCells; rw [List.length_map]
    have e2 : (strOf (l.getD k [])).size = (l.getD k []).length := by simp [strOf, ByteArray.size]
    omega
  have HT : Hid (∀ k, k < l.length → Lib.byteCells (l.take k).flatten ++ Lib.strCells (strOf (l.getD k [])) = Lib.byteCells (l.take (k + 1)).flatten) := fun k hk => by
    rw [flat_take hk, byteCells_append]
    rfl
  have HE : Hid ((l.take l.length).flatten = l.flatten) := congrArg List.flatten List.take_length
  clear h hl
  obtain ⟨B, hB⟩ : ∃ B, (w.alloc (.cells #[.int .i64 0, .int .i64 0, .string { data := #[] }, .bool false] 23)).heap.size = B := ⟨_, rfl⟩
  have hBw : B = w.heap.size + 1 := by rw [← hB]; simp
  obtain ⟨W1, hW1⟩ : ∃ W1, (w.alloc (.cells #[.int .i64 0, .int .i64 0, .string { data := #[] }, .bool false] 23)).alloc (.cells #[.pointer none, .slice none 0 0] 89) = W1 := ⟨_, rfl⟩
  have HB0 : Hid (Lib.IsBuilder 89 5 B B (Lib.byteCells ((l.take 0).flatten)) W1) := by
    rw [← hW1, ← hB]
    exact Lib.fresh_isBuilder 89 5 _
  have HR0 : Hid (ResAt W1 w.heap.size) := by rw [← hW1]; exact first2 _ _ _
  have HS0 : Hid (B ≤ W1.heap.size) := by rw [← hW1, hBw]; show _ ≤ _; simp
  have HW0 : Hid (Below w.heap.size w W1) := by rw [← hW1]; exact ((Below.refl _ w).alloc (Nat.le_refl _) _).alloc (by simp) _
  have HBW := hide hBw
  generalize hL : l.length = L at *
  clear hL
  go_enter Tryd.func42, Tryd.ntmps42
  go_upto_region 2 with fail
  try rw [hW1]
  clear hW1 hB
  rw [← HBW.out]
  clear hBw
  go_wp2
  go_loopw [8] (fun i wr => ∃ k : Nat, k ≤ L ∧ i = .int .i64 (k : Int) ∧ Lib.IsBuilder 89 5 B B (Lib.byteCells (l.take k).flatten) wr ∧ Below B W1 wr) (fun i _ => L - (intOf i).toNat)
  case atStart => exact ⟨0, by omega, rfl, HB0.out, Below.refl _ _⟩
  case round =>
    obtain ⟨k, hk, rfl, hV, hb⟩ := hrel
    have HV := hide hV
    have HD := hide hb
    clear hV hb
    have HSZ : Hid (B ≤ wr.heap.size) := Nat.le_trans HS0.out HD.out.size
    by_cases hlt : k < L
    · have hc : wr.cell? ⟨g, k, none⟩ = some (.string (strOf (l.getD k []))) := by
        have h1 := H.out k hlt
        have h2 := World.block_lt_of_cell? w _ h1
        have h3 := (HW0.out.cell (p := ⟨g, k, none⟩) h2).trans h1
        exact (HD.out.cell (p := ⟨g, k, none⟩) (by rw [HBW.out]; exact Nat.lt_succ_of_lt h2)).trans h3
      have HC : Hid (Calls Tryd.prog 70 #[.pointer (some ⟨B, 0, none⟩), .string (strOf (l.getD k []))] wr fun e w' => e = .returned (.tuple #[.int .i64 (strOf (l.getD k [])).size, .nilIface]) ∧ (Lib.BuilderAt 89 5 B B (.pointer (some ⟨B, 0, none⟩)) (Lib.byteCells (l.take k).flatten ++ Lib.strCells (strOf (l.getD k []))) w' ∧ Below B wr w')) := writeString B B _ _ wr HV.out (HL.out k hlt) HSZ.out
      rw [HT.out k hlt] at HC
      generalize strOf (l.getD k []) = s at *
      go_wp2_with (go_at_call 70; refine HC.out.mono ?_; rintro e w2 ⟨rfl, hB2, hb2⟩; have HB2 := hide hB2; have HD2 := hide hb2; clear hB2 hb2)
      go_roundw
      case rel => exact ⟨k + 1, by omega, by go_num, .inr HB2.out, HD.out.trans HD2.out⟩
      case measure => simp [intOf]; omega
    · have hkL : k = L := by omega
      subst hkL
      rw [HE.out] at HV
      have HC : Hid (Calls Tryd.prog 71 #[.pointer (some ⟨B, 0, none⟩)] wr fun e w' => e = .returned (.string (strOf l.flatten)) ∧ Below B wr w') := Tryd.Builder_String_any B B _ wr HV.out HSZ.out
      have HRR : Hid (∀ W, Below B wr W → Box W w.heap.size Vl.zero) := fun W hW => (HR0.out.below (HD.out.trans hW) (by rw [HBW.out]; omega))
      have HF : Hid (valOf (tV l.flatten) = .agg #[.int .i64 2, .int .i64 0, .string (strOf l.flatten), .bool false]) := rfl
      have HST : Hid (strOf (tV l.flatten).t = strOf l.flatten) := rfl
      generalize hr : w.heap.size = r at *
      have HRE := hide hr
      clear hr
      go_wp2_with (first
        | (go_at_call 71; refine HC.out.mono ?_; rintro e w2 ⟨rfl, hb2⟩; have HD2 := hide hb2; clear hb2)
        | (refine wpList_store_val rfl (.tmp 2) (.tmp 16) rfl rfl r Vl.zero (tV l.flatten) rfl rfl (HRR.out _ HD2.out) ?_))
      refine bodyPost_ret (v := valOf (tV l.flatten)) (results_cell_row Tryd.results42 _ _ r 23 _ (0, 0) _ rfl (Box.after (HRR.out _ HD2.out) (tV l.flatten)) Tryd.underlying23 rfl Tryd.size23) rfl ?_
      refine ⟨rfl, ?_⟩
      rw [HRE.out]
      refine below_setRow ?_ (Nat.le_refl _) _
      exact HW0.out.trans (((HD.out.trans HD2.out)).mono (by rw [HBW.out]; omega))
end YtigafjdacllohaaDoor
end Go.Proofs
