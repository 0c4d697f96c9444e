/- Numbers laid as bytes. -/
import Derived.Test.YtjcobejaldfibaaSz
namespace Go.Proofs.Ytjcobejaldfibaa
open Go.RowKit
set_option linter.unusedVariables false
set_option linter.unusedSimpArgs false

theorem build2 (x y : Int) (w : World) : (Instr.buildSlice 28 2 #[(0, .int .u8 x), (1, .int .u8 y)]).run Try.prog w = .ok (.slice (some ⟨w.heap.size, 0, none⟩) 2 2) (w.alloc (.cells #[.int .u8 x, .int .u8 y] 5)) := by kernel_rfl
theorem build4 (x y z u : Int) (w : World) : (Instr.buildSlice 28 4 #[(0, .int .u8 x), (1, .int .u8 y), (2, .int .u8 z), (3, .int .u8 u)]).run Try.prog w = .ok (.slice (some ⟨w.heap.size, 0, none⟩) 4 4) (w.alloc (.cells #[.int .u8 x, .int .u8 y, .int .u8 z, .int .u8 u] 5)) := by kernel_rfl
def byteOf (n k : Nat) : UInt8 := UInt8.ofNat (n / 256 ^ k % 256)
theorem byteOf_nat (n k : Nat) : (byteOf n k).toNat = n / 256 ^ k % 256 := by
  unfold byteOf
  rw [UInt8.toNat_ofNat', Nat.mod_mod_of_dvd _ (by decide)]
theorem be1 (n : Nat) : be 1 n = [byteOf n 0] := by simp [be, byteOf]
theorem be2 (n : Nat) : be 2 n = [byteOf n 1, byteOf n 0] := by simp [be, byteOf]
theorem be4 (n : Nat) : be 4 n = [byteOf n 3, byteOf n 2, byteOf n 1, byteOf n 0] := by
  simp only [be, byteOf, Nat.div_div_eq_div_mul, List.nil_append, List.cons_append, Nat.reduceMul, Nat.reducePow, Nat.div_one]
theorem sl_bytes (w : World) (bs : List UInt8) (cs : Array Value) (n : Nat) (hn : bs.length = n) (hc : cs = (secCells bs).toArray) (hm : n ≤ 1000) : Sl (w.alloc (.cells cs 5)) (.slice (some ⟨w.heap.size, 0, none⟩) n n) bs := by
  subst hn hc
  exact ⟨_, _, rfl, Nat.le_refl _, by simp only [maxLen]; omega, fun _ => ⟨w.heap.size, 0, rfl, fun j u hu => by
    rw [Nat.zero_add, cell_row (heap_alloc_new w _)]
    simpa using hu⟩⟩
set_option maxHeartbeats 400000 in
theorem two_any (n : Nat) (hn : n < 65536) (w : World) : Calls Try.prog 39 #[.int .i64 (n : Int)] w fun e w' => ∃ v', e = .returned v' ∧ Below w.heap.size w w' ∧ Sl w' v' (be 2 n) := by
  have hb := build2
  have h0 := byteOf_nat n 0
  have h1 := byteOf_nat n 1
  have HE : Hid (#[.int .u8 ((n : Int) / 256), .int .u8 ((n : Int) % 256)] = (secCells (be 2 n)).toArray) := by
    rw [Hid, be2]
    simp only [secCells, bcell, List.map_cons, List.map_nil]
    rw [h0, h1]
    simp only [Nat.reducePow, Nat.div_one]
    congr 3 <;> omega
  clear h0 h1
  go_enter Try.func39, Try.ntmps39
  go_wp2
  go_ret
  exact ⟨_, rfl, (Below.refl _ _).alloc (Nat.le_refl _) _, sl_bytes w _ _ 2 (length_be _ _) HE.out (by omega)⟩
set_option maxHeartbeats 400000 in
theorem four_any (n : Nat) (hn : n < 4294967296) (w : World) : Calls Try.prog 40 #[.int .i64 (n : Int)] w fun e w' => ∃ v', e = .returned v' ∧ Below w.heap.size w w' ∧ Sl w' v' (be 4 n) := by
  have hb := build4
  have h0 := byteOf_nat n 0
  have h1 := byteOf_nat n 1
  have h2 := byteOf_nat n 2
  have h3 := byteOf_nat n 3
  have HE : Hid (#[.int .u8 ((n : Int) / 16777216), .int .u8 ((n : Int) / 65536 % 256), .int .u8 ((n : Int) / 256 % 256), .int .u8 ((n : Int) % 256)] = (secCells (be 4 n)).toArray) := by
    rw [Hid, be4]
    simp only [secCells, bcell, List.map_cons, List.map_nil]
    rw [h0, h1, h2, h3]
    simp only [Nat.reducePow, Nat.div_one]
    congr 3 <;> first | omega | (congr 1; first | omega | (congr 2; first | omega | (congr 2; omega)))
  clear h0 h1 h2 h3
  go_enter Try.func40, Try.ntmps40
  go_wp2
  go_ret
  exact ⟨_, rfl, (Below.refl _ _).alloc (Nat.le_refl _) _, sl_bytes w _ _ 4 (length_be _ _) HE.out (by omega)⟩
theorem be1_take (n k : Nat) (h : k < 1) : (be 1 n).take (k + 1) = (be 1 n).take k ++ [byteOf n (1 - 1 - k)] := by
  rw [be1]
  rcases (by omega : k = 0) with rfl <;> rfl
set_option maxHeartbeats 1000000 in
theorem addN1_any {w0 w : World} {u : Value} {X : List UInt8} (h : Bts w0 w u X) (n : Nat) (hn : n < 256) (hl : X.length ≤ 1000000000) :
    Calls Try.prog 34 #[u, .int .i64 (n : Int), .int .i64 1] w fun e w' => ∃ u', e = .returned u' ∧ Bts w0 w' u' (X ++ be 1 n) ∧ Oth 5 w w' := by
  have HB := hide h
  have HTK : Hid (∀ k, k < 1 → (be 1 n).take (k + 1) = (be 1 n).take k ++ [byteOf n (1 - 1 - k)]) := fun k hk => be1_take _ _ hk
  have HTL : Hid ((be 1 n).take 1 = be 1 n) := by rw [Hid, List.take_of_length_le (by rw [length_be]; omega)]
  have HLL : Hid (∀ k, k ≤ 1 → (X ++ (be 1 n).take k).length = X.length + k) := fun k hk => by rw [List.length_append, List.length_take, length_be]; omega
  clear h
  go_enter Try.func34, Try.ntmps34
  go_wp2
  go_loopw [9, 0] (fun i u wr => ∃ k : Nat, k ≤ 1 ∧ i = .int .i64 (k : Int) ∧ Bts w0 wr u (X ++ (be 1 n).take k) ∧ Oth 5 w wr) (fun i _ _ => 1 - (intOf i).toNat)
  case atStart => exact ⟨0, by omega, rfl, by simpa using HB.out, Oth.refl _ _⟩
  case round =>
    obtain ⟨k, hk, rfl, hB, hO⟩ := hrel
    have HB2 := hide hB
    have HO := hide hO
    clear hB HB hO
    by_cases hlt : k < 1
    · rcases (by omega : k = 0) with rfl
      · have hb := build1
        have hc : (n : Int) = ((byteOf n 0).toNat : Int) := by
          have := byteOf_nat n 0
          have e : 256 ^ 0 = 1 := by decide
          rw [e] at this
          omega
        have HX := hide (sl1 wr (byteOf n 0) (0, 0))
        rw [← hc] at HX
        clear hc
        have HLk := hide (HLL.out 0 (by omega))
        go_wp2_with (refine wpList_append_bts rfl (.tmp 12) (.tmp 21) rfl w0 _ _ _ _ rfl rfl (HB2.out.alloc _) HX.out (by rw [HLk.out]; simp; omega) ?_; intro u' W3 hB3 hg3)
        go_roundw
        case rel =>
          refine ⟨1, by omega, by go_num, ?_, (HO.out.alloc _).grown (HB2.out.alloc _).own hg3⟩
          rw [HTK.out 0 (by omega), ← List.append_assoc]
          exact hB3
        case measure => simp [intOf]
    · have hk8 : k = 1 := by omega
      subst hk8
      go_wp2
      go_ret
      refine ⟨_, rfl, ?_, HO.out⟩
      have := HB2.out
      rw [HTL.out] at this
      exact this
theorem be2_take (n k : Nat) (h : k < 2) : (be 2 n).take (k + 1) = (be 2 n).take k ++ [byteOf n (2 - 1 - k)] := by
  rw [be2]
  rcases (by omega : k = 0 ∨ k = 1) with rfl | rfl <;> rfl
set_option maxHeartbeats 1000000 in
theorem addN2_any {w0 w : World} {u : Value} {X : List UInt8} (h : Bts w0 w u X) (n : Nat) (hn : n < 65536) (hl : X.length ≤ 1000000000) :
    Calls Try.prog 34 #[u, .int .i64 (n : Int), .int .i64 2] w fun e w' => ∃ u', e = .returned u' ∧ Bts w0 w' u' (X ++ be 2 n) ∧ Oth 5 w w' := by
  have HB := hide h
  have HTK : Hid (∀ k, k < 2 → (be 2 n).take (k + 1) = (be 2 n).take k ++ [byteOf n (2 - 1 - k)]) := fun k hk => be2_take _ _ hk
  have HTL : Hid ((be 2 n).take 2 = be 2 n) := by rw [Hid, List.take_of_length_le (by rw [length_be]; omega)]
  have HLL : Hid (∀ k, k ≤ 2 → (X ++ (be 2 n).take k).length = X.length + k) := fun k hk => by rw [List.length_append, List.length_take, length_be]; omega
  clear h
  go_enter Try.func34, Try.ntmps34
  go_wp2
  go_loopw [9, 0] (fun i u wr => ∃ k : Nat, k ≤ 2 ∧ i = .int .i64 (k : Int) ∧ Bts w0 wr u (X ++ (be 2 n).take k) ∧ Oth 5 w wr) (fun i _ _ => 2 - (intOf i).toNat)
  case atStart => exact ⟨0, by omega, rfl, by simpa using HB.out, Oth.refl _ _⟩
  case round =>
    obtain ⟨k, hk, rfl, hB, hO⟩ := hrel
    have HB2 := hide hB
    have HO := hide hO
    clear hB HB hO
    by_cases hlt : k < 2
    · rcases (by omega : k = 0 ∨ k = 1) with rfl | rfl
      · have hb := build1
        have hc : (n : Int) / 256 = ((byteOf n 1).toNat : Int) := by
          have := byteOf_nat n 1
          have e : 256 ^ 1 = 256 := by decide
          rw [e] at this
          omega
        have HX := hide (sl1 wr (byteOf n 1) (0, 0))
        rw [← hc] at HX
        clear hc
        have HLk := hide (HLL.out 0 (by omega))
        go_wp2_with (refine wpList_append_bts rfl (.tmp 12) (.tmp 21) rfl w0 _ _ _ _ rfl rfl (HB2.out.alloc _) HX.out (by rw [HLk.out]; simp; omega) ?_; intro u' W3 hB3 hg3)
        go_roundw
        case rel =>
          refine ⟨1, by omega, by go_num, ?_, (HO.out.alloc _).grown (HB2.out.alloc _).own hg3⟩
          rw [HTK.out 0 (by omega), ← List.append_assoc]
          exact hB3
        case measure => simp [intOf]
      · have hb := build1
        have hc : (n : Int) % 256 = ((byteOf n 0).toNat : Int) := by
          have := byteOf_nat n 0
          have e : 256 ^ 0 = 1 := by decide
          rw [e] at this
          omega
        have HX := hide (sl1 wr (byteOf n 0) (0, 0))
        rw [← hc] at HX
        clear hc
        have HLk := hide (HLL.out 1 (by omega))
        go_wp2_with (refine wpList_append_bts rfl (.tmp 12) (.tmp 21) rfl w0 _ _ _ _ rfl rfl (HB2.out.alloc _) HX.out (by rw [HLk.out]; simp; omega) ?_; intro u' W3 hB3 hg3)
        go_roundw
        case rel =>
          refine ⟨2, by omega, by go_num, ?_, (HO.out.alloc _).grown (HB2.out.alloc _).own hg3⟩
          rw [HTK.out 1 (by omega), ← List.append_assoc]
          exact hB3
        case measure => simp [intOf]
    · have hk8 : k = 2 := by omega
      subst hk8
      go_wp2
      go_ret
      refine ⟨_, rfl, ?_, HO.out⟩
      have := HB2.out
      rw [HTL.out] at this
      exact this
theorem be4_take (n k : Nat) (h : k < 4) : (be 4 n).take (k + 1) = (be 4 n).take k ++ [byteOf n (4 - 1 - k)] := by
  rw [be4]
  rcases (by omega : k = 0 ∨ k = 1 ∨ k = 2 ∨ k = 3) with rfl | rfl | rfl | rfl <;> rfl
set_option maxHeartbeats 1000000 in
theorem addN4_any {w0 w : World} {u : Value} {X : List UInt8} (h : Bts w0 w u X) (n : Nat) (hn : n < 4294967296) (hl : X.length ≤ 1000000000) :
    Calls Try.prog 34 #[u, .int .i64 (n : Int), .int .i64 4] w fun e w' => ∃ u', e = .returned u' ∧ Bts w0 w' u' (X ++ be 4 n) ∧ Oth 5 w w' := by
  have HB := hide h
  have HTK : Hid (∀ k, k < 4 → (be 4 n).take (k + 1) = (be 4 n).take k ++ [byteOf n (4 - 1 - k)]) := fun k hk => be4_take _ _ hk
  have HTL : Hid ((be 4 n).take 4 = be 4 n) := by rw [Hid, List.take_of_length_le (by rw [length_be]; omega)]
  have HLL : Hid (∀ k, k ≤ 4 → (X ++ (be 4 n).take k).length = X.length + k) := fun k hk => by rw [List.length_append, List.length_take, length_be]; omega
  clear h
  go_enter Try.func34, Try.ntmps34
  go_wp2
  go_loopw [9, 0] (fun i u wr => ∃ k : Nat, k ≤ 4 ∧ i = .int .i64 (k : Int) ∧ Bts w0 wr u (X ++ (be 4 n).take k) ∧ Oth 5 w wr) (fun i _ _ => 4 - (intOf i).toNat)
  case atStart => exact ⟨0, by omega, rfl, by simpa using HB.out, Oth.refl _ _⟩
  case round =>
    obtain ⟨k, hk, rfl, hB, hO⟩ := hrel
    have HB2 := hide hB
    have HO := hide hO
    clear hB HB hO
    by_cases hlt : k < 4
    · rcases (by omega : k = 0 ∨ k = 1 ∨ k = 2 ∨ k = 3) with rfl | rfl | rfl | rfl
      · have hb := build1
        have hc : (n : Int) / 16777216 = ((byteOf n 3).toNat : Int) := by
          have := byteOf_nat n 3
          have e : 256 ^ 3 = 16777216 := by decide
          rw [e] at this
          omega
        have HX := hide (sl1 wr (byteOf n 3) (0, 0))
        rw [← hc] at HX
        clear hc
        have HLk := hide (HLL.out 0 (by omega))
        go_wp2_with (refine wpList_append_bts rfl (.tmp 12) (.tmp 21) rfl w0 _ _ _ _ rfl rfl (HB2.out.alloc _) HX.out (by rw [HLk.out]; simp; omega) ?_; intro u' W3 hB3 hg3)
        go_roundw
        case rel =>
          refine ⟨1, by omega, by go_num, ?_, (HO.out.alloc _).grown (HB2.out.alloc _).own hg3⟩
          rw [HTK.out 0 (by omega), ← List.append_assoc]
          exact hB3
        case measure => simp [intOf]
      · have hb := build1
        have hc : (n : Int) / 65536 % 256 = ((byteOf n 2).toNat : Int) := by
          have := byteOf_nat n 2
          have e : 256 ^ 2 = 65536 := by decide
          rw [e] at this
          omega
        have HX := hide (sl1 wr (byteOf n 2) (0, 0))
        rw [← hc] at HX
        clear hc
        have HLk := hide (HLL.out 1 (by omega))
        go_wp2_with (refine wpList_append_bts rfl (.tmp 12) (.tmp 21) rfl w0 _ _ _ _ rfl rfl (HB2.out.alloc _) HX.out (by rw [HLk.out]; simp; omega) ?_; intro u' W3 hB3 hg3)
        go_roundw
        case rel =>
          refine ⟨2, by omega, by go_num, ?_, (HO.out.alloc _).grown (HB2.out.alloc _).own hg3⟩
          rw [HTK.out 1 (by omega), ← List.append_assoc]
          exact hB3
        case measure => simp [intOf]
      · have hb := build1
        have hc : (n : Int) / 256 % 256 = ((byteOf n 1).toNat : Int) := by
          have := byteOf_nat n 1
          have e : 256 ^ 1 = 256 := by decide
          rw [e] at this
          omega
        have HX := hide (sl1 wr (byteOf n 1) (0, 0))
        rw [← hc] at HX
        clear hc
        have HLk := hide (HLL.out 2 (by omega))
        go_wp2_with (refine wpList_append_bts rfl (.tmp 12) (.tmp 21) rfl w0 _ _ _ _ rfl rfl (HB2.out.alloc _) HX.out (by rw [HLk.out]; simp; omega) ?_; intro u' W3 hB3 hg3)
        go_roundw
        case rel =>
          refine ⟨3, by omega, by go_num, ?_, (HO.out.alloc _).grown (HB2.out.alloc _).own hg3⟩
          rw [HTK.out 2 (by omega), ← List.append_assoc]
          exact hB3
        case measure => simp [intOf]
      · have hb := build1
        have hc : (n : Int) % 256 = ((byteOf n 0).toNat : Int) := by
          have := byteOf_nat n 0
          have e : 256 ^ 0 = 1 := by decide
          rw [e] at this
          omega
        have HX := hide (sl1 wr (byteOf n 0) (0, 0))
        rw [← hc] at HX
        clear hc
        have HLk := hide (HLL.out 3 (by omega))
        go_wp2_with (refine wpList_append_bts rfl (.tmp 12) (.tmp 21) rfl w0 _ _ _ _ rfl rfl (HB2.out.alloc _) HX.out (by rw [HLk.out]; simp; omega) ?_; intro u' W3 hB3 hg3)
        go_roundw
        case rel =>
          refine ⟨4, by omega, by go_num, ?_, (HO.out.alloc _).grown (HB2.out.alloc _).own hg3⟩
          rw [HTK.out 3 (by omega), ← List.append_assoc]
          exact hB3
        case measure => simp [intOf]
    · have hk8 : k = 4 := by omega
      subst hk8
      go_wp2
      go_ret
      refine ⟨_, rfl, ?_, HO.out⟩
      have := HB2.out
      rw [HTL.out] at this
      exact this
set_option maxHeartbeats 1000000 in
theorem addText_any {w0 w : World} {u v : Value} {X b : List UInt8} (h : Bts w0 w u X) (hv : Sl w v b) (hv' : ∀ W, Oth 5 w W → Below w0.heap.size w0 W → Sl W v b) (hb : b.length < 65536) (hl : X.length ≤ 100000000) :
    Calls Try.prog 55 #[u, v] w fun e w' => ∃ u', e = .returned u' ∧ Bts w0 w' u' (X ++ txt b) ∧ Oth 5 w w' := by
  have HA := hide (addN2_any h b.length hb (by omega))
  have HV := hide hv'
  obtain ⟨ao, c, rfl, hc1, hc2⟩ := hv.len
  have HL : Hid ((X ++ be 2 b.length).length ≤ 100000002) := by rw [Hid, List.length_append, length_be]; omega
  clear h hv hv'
  generalize hbl : b.length = bl at *
  have HBL := hide hbl
  clear hbl
  go_enter Try.func55, Try.ntmps55
  go_wp2_with fail
  refine HA.out.mono ?_
  rintro e W1 ⟨u1, rfl, hB1, hO1⟩
  have HB1 := hide hB1
  have HO1 := hide hO1
  have HS1 := hide (HV.out W1 hO1 hB1.below)
  clear hB1 hO1 HA
  go_wp2_with (refine wpList_append_bts rfl (.tmp 8) (.tmp 9) rfl w0 _ _ _ _ rfl rfl HB1.out HS1.out (by rw [HBL.out]; have := HL.out; omega) ?_; intro u' W3 hB3 hg3)
  go_ret
  refine ⟨_, rfl, ?_, HO1.out.grown HB1.out.own hg3⟩
  have e : X ++ txt b = X ++ be 2 bl ++ b := by rw [← HBL.out]; simp [txt]
  rw [e]
  exact hB3
end Go.Proofs.Ytjcobejaldfibaa
