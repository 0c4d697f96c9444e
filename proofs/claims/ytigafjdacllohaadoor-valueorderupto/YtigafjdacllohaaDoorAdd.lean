/- addNumber, addText, add: a value's bytes laid behind others. -/
import Derived.Test.YtigafjdacllohaaDoorAcc
namespace Go.Proofs.YtigafjdacllohaaDoor
open Go.RowKit
set_option linter.unusedVariables false
set_option linter.unusedSimpArgs false

def byteAt (T k : Nat) : UInt8 := UInt8.ofNat (T / 256 ^ (7 - k) % 256)
theorem be8 (T : Nat) : be 8 T = [byteAt T 0, byteAt T 1, byteAt T 2, byteAt T 3, byteAt T 4, byteAt T 5, byteAt T 6, byteAt T 7] := by
  simp only [be, byteAt, Nat.div_div_eq_div_mul, List.nil_append, List.cons_append]
  simp only [Nat.reduceMul, Nat.reduceSub, Nat.reducePow, Nat.div_one]
theorem be8_take (T k : Nat) (h : k < 8) : (be 8 T).take (k + 1) = (be 8 T).take k ++ [byteAt T k] := by
  rw [be8]
  rcases (by omega : k = 0 ∨ k = 1 ∨ k = 2 ∨ k = 3 ∨ k = 4 ∨ k = 5 ∨ k = 6 ∨ k = 7) with rfl | rfl | rfl | rfl | rfl | rfl | rfl | rfl <;> rfl
theorem byteAt_nat (T k : Nat) : (byteAt T k).toNat = T / 256 ^ (7 - k) % 256 := by
  unfold byteAt
  rw [UInt8.toNat_ofNat', Nat.mod_mod_of_dvd _ (by decide)]
set_option maxHeartbeats 2000000 in
theorem addNumber_any {w0 w : World} {u : Value} {X : List UInt8} (h : Bts w0 w u X) (n : Int) (hn : -9223372036854775808 ≤ n ∧ n ≤ 9223372036854775807) (hl : X.length ≤ 1000000000) :
    Calls Tryd.prog 68 #[u, .int .i64 n] w fun e w' => ∃ u', e = .returned u' ∧ Bts w0 w' u' (X ++ be 8 (turn n)) ∧ Oth w w' := by
  have HB := hide h
  have hx := xor_turn hn
  have hT := turn_lt hn
  have HTK : Hid (∀ k, k < 8 → (be 8 (turn n)).take (k + 1) = (be 8 (turn n)).take k ++ [byteAt (turn n) k]) := fun k hk => be8_take _ _ hk
  have HTL : Hid ((be 8 (turn n)).take 8 = be 8 (turn n)) := by rw [Hid, List.take_of_length_le (by rw [length_be]; omega)]
  have HLL : Hid (∀ k, k ≤ 8 → (X ++ (be 8 (turn n)).take k).length = X.length + k) := fun k hk => by rw [List.length_append, List.length_take, length_be]; omega
  clear h
  generalize turn n = T at *
  go_enter Tryd.func68, Tryd.ntmps68
  go_wp2
  go_loopw [10, 0] (fun i u wr => ∃ k : Nat, k ≤ 8 ∧ i = .int .i64 (k : Int) ∧ Bts w0 wr u (X ++ (be 8 T).take k) ∧ Oth w wr) (fun i _ _ => 8 - (intOf i).toNat)
  case atStart => exact ⟨0, by omega, rfl, by simpa using HB.out, Oth.refl _⟩
  case round =>
    obtain ⟨k, hk, rfl, hB, hO⟩ := hrel
    have HB2 := hide hB
    have HO := hide hO
    clear hB HB hO
    by_cases hlt : k < 8
    · rcases (by omega : k = 0 ∨ k = 1 ∨ k = 2 ∨ k = 3 ∨ k = 4 ∨ k = 5 ∨ k = 6 ∨ k = 7) with rfl | rfl | rfl | rfl | rfl | rfl | rfl | rfl
      · have hb := build1
        have hc : (T : Int) / 72057594037927936 = ((byteAt T 0).toNat : Int) := by
          have := byteAt_nat T 0
          have e : 256 ^ (7 - 0) = 72057594037927936 := by decide
          rw [e] at this
          omega
        have HX := hide (sl1 wr (byteAt T 0))
        rw [← hc] at HX
        clear hc
        have HLk := hide (HLL.out 0 (by omega))
        go_wp2_with (refine wpList_append_bts rfl (.tmp 13) (.tmp 20) rfl w0 _ _ _ _ rfl rfl (HB2.out.alloc _) HX.out (by rw [HLk.out]; simp; omega) ?_; intro u' W3 hB3 hg3)
        go_roundw
        case rel =>
          refine ⟨1, by omega, by go_num, ?_, (HO.out.alloc _).grown (HB2.out.alloc _).own hg3⟩
          rw [HTK.out 0 (by omega), ← List.append_assoc]
          exact hB3
        case measure => simp [intOf]
      · have hb := build1
        have hc : (T : Int) / 281474976710656 % 256 = ((byteAt T 1).toNat : Int) := by
          have := byteAt_nat T 1
          have e : 256 ^ (7 - 1) = 281474976710656 := by decide
          rw [e] at this
          omega
        have HX := hide (sl1 wr (byteAt T 1))
        rw [← hc] at HX
        clear hc
        have HLk := hide (HLL.out 1 (by omega))
        go_wp2_with (refine wpList_append_bts rfl (.tmp 13) (.tmp 20) rfl w0 _ _ _ _ rfl rfl (HB2.out.alloc _) HX.out (by rw [HLk.out]; simp; omega) ?_; intro u' W3 hB3 hg3)
        go_roundw
        case rel =>
          refine ⟨2, by omega, by go_num, ?_, (HO.out.alloc _).grown (HB2.out.alloc _).own hg3⟩
          rw [HTK.out 1 (by omega), ← List.append_assoc]
          exact hB3
        case measure => simp [intOf]
      · have hb := build1
        have hc : (T : Int) / 1099511627776 % 256 = ((byteAt T 2).toNat : Int) := by
          have := byteAt_nat T 2
          have e : 256 ^ (7 - 2) = 1099511627776 := by decide
          rw [e] at this
          omega
        have HX := hide (sl1 wr (byteAt T 2))
        rw [← hc] at HX
        clear hc
        have HLk := hide (HLL.out 2 (by omega))
        go_wp2_with (refine wpList_append_bts rfl (.tmp 13) (.tmp 20) rfl w0 _ _ _ _ rfl rfl (HB2.out.alloc _) HX.out (by rw [HLk.out]; simp; omega) ?_; intro u' W3 hB3 hg3)
        go_roundw
        case rel =>
          refine ⟨3, by omega, by go_num, ?_, (HO.out.alloc _).grown (HB2.out.alloc _).own hg3⟩
          rw [HTK.out 2 (by omega), ← List.append_assoc]
          exact hB3
        case measure => simp [intOf]
      · have hb := build1
        have hc : (T : Int) / 4294967296 % 256 = ((byteAt T 3).toNat : Int) := by
          have := byteAt_nat T 3
          have e : 256 ^ (7 - 3) = 4294967296 := by decide
          rw [e] at this
          omega
        have HX := hide (sl1 wr (byteAt T 3))
        rw [← hc] at HX
        clear hc
        have HLk := hide (HLL.out 3 (by omega))
        go_wp2_with (refine wpList_append_bts rfl (.tmp 13) (.tmp 20) rfl w0 _ _ _ _ rfl rfl (HB2.out.alloc _) HX.out (by rw [HLk.out]; simp; omega) ?_; intro u' W3 hB3 hg3)
        go_roundw
        case rel =>
          refine ⟨4, by omega, by go_num, ?_, (HO.out.alloc _).grown (HB2.out.alloc _).own hg3⟩
          rw [HTK.out 3 (by omega), ← List.append_assoc]
          exact hB3
        case measure => simp [intOf]
      · have hb := build1
        have hc : (T : Int) / 16777216 % 256 = ((byteAt T 4).toNat : Int) := by
          have := byteAt_nat T 4
          have e : 256 ^ (7 - 4) = 16777216 := by decide
          rw [e] at this
          omega
        have HX := hide (sl1 wr (byteAt T 4))
        rw [← hc] at HX
        clear hc
        have HLk := hide (HLL.out 4 (by omega))
        go_wp2_with (refine wpList_append_bts rfl (.tmp 13) (.tmp 20) rfl w0 _ _ _ _ rfl rfl (HB2.out.alloc _) HX.out (by rw [HLk.out]; simp; omega) ?_; intro u' W3 hB3 hg3)
        go_roundw
        case rel =>
          refine ⟨5, by omega, by go_num, ?_, (HO.out.alloc _).grown (HB2.out.alloc _).own hg3⟩
          rw [HTK.out 4 (by omega), ← List.append_assoc]
          exact hB3
        case measure => simp [intOf]
      · have hb := build1
        have hc : (T : Int) / 65536 % 256 = ((byteAt T 5).toNat : Int) := by
          have := byteAt_nat T 5
          have e : 256 ^ (7 - 5) = 65536 := by decide
          rw [e] at this
          omega
        have HX := hide (sl1 wr (byteAt T 5))
        rw [← hc] at HX
        clear hc
        have HLk := hide (HLL.out 5 (by omega))
        go_wp2_with (refine wpList_append_bts rfl (.tmp 13) (.tmp 20) rfl w0 _ _ _ _ rfl rfl (HB2.out.alloc _) HX.out (by rw [HLk.out]; simp; omega) ?_; intro u' W3 hB3 hg3)
        go_roundw
        case rel =>
          refine ⟨6, by omega, by go_num, ?_, (HO.out.alloc _).grown (HB2.out.alloc _).own hg3⟩
          rw [HTK.out 5 (by omega), ← List.append_assoc]
          exact hB3
        case measure => simp [intOf]
      · have hb := build1
        have hc : (T : Int) / 256 % 256 = ((byteAt T 6).toNat : Int) := by
          have := byteAt_nat T 6
          have e : 256 ^ (7 - 6) = 256 := by decide
          rw [e] at this
          omega
        have HX := hide (sl1 wr (byteAt T 6))
        rw [← hc] at HX
        clear hc
        have HLk := hide (HLL.out 6 (by omega))
        go_wp2_with (refine wpList_append_bts rfl (.tmp 13) (.tmp 20) rfl w0 _ _ _ _ rfl rfl (HB2.out.alloc _) HX.out (by rw [HLk.out]; simp; omega) ?_; intro u' W3 hB3 hg3)
        go_roundw
        case rel =>
          refine ⟨7, by omega, by go_num, ?_, (HO.out.alloc _).grown (HB2.out.alloc _).own hg3⟩
          rw [HTK.out 6 (by omega), ← List.append_assoc]
          exact hB3
        case measure => simp [intOf]
      · have hb := build1
        have hc : (T : Int) % 256 = ((byteAt T 7).toNat : Int) := by
          have := byteAt_nat T 7
          have e : 256 ^ (7 - 7) = 1 := by decide
          rw [e] at this
          omega
        have HX := hide (sl1 wr (byteAt T 7))
        rw [← hc] at HX
        clear hc
        have HLk := hide (HLL.out 7 (by omega))
        go_wp2_with (refine wpList_append_bts rfl (.tmp 13) (.tmp 20) rfl w0 _ _ _ _ rfl rfl (HB2.out.alloc _) HX.out (by rw [HLk.out]; simp; omega) ?_; intro u' W3 hB3 hg3)
        go_roundw
        case rel =>
          refine ⟨8, by omega, by go_num, ?_, (HO.out.alloc _).grown (HB2.out.alloc _).own hg3⟩
          rw [HTK.out 7 (by omega), ← List.append_assoc]
          exact hB3
        case measure => simp [intOf]
    · have hk8 : k = 8 := by omega
      subst hk8
      go_wp2
      go_ret
      refine ⟨_, rfl, ?_, HO.out⟩
      have := HB2.out
      rw [HTL.out] at this
      exact this
theorem strOf_size (bs : List UInt8) : (strOf bs).size = bs.length := by
  show bs.toArray.size = _
  simp
theorem run_idx (w : World) (t : List UInt8) (k : Nat) (hk : k < t.length) : (Instr.index 9 (.string (strOf t)) (.int .i64 (k : Int))).run Tryd.prog w = .ok (.int .u8 ((t.getD k 0).toNat : Int)) w := by
  rw [run_index_string w 9 _ _ _ Tryd.underlying9]
  have hs := strOf_size t
  rw [dif_pos ⟨by omega, by omega⟩]
  have e : (strOf t)[(k : Int).toNat]'(by omega) = t.getD k 0 := by
    show t.toArray[(k : Int).toNat]'_ = _
    simp [hk]
  rw [e]
end Go.Proofs.YtigafjdacllohaaDoor
