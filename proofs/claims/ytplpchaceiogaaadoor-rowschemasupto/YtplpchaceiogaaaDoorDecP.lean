/- number, truth: parts of what bytes tell. -/
import Derived.Test.YtplpchaceiogaaaDoorCmp
namespace Go.Proofs.YtplpchaceiogaaaDoor
set_option maxRecDepth 100000
open Go.RowKit
set_option linter.unusedVariables false
set_option linter.unusedSimpArgs false

theorem wrapEq (x : Int) : IntKind.i64.wrap x = wrap64 x := by rw [IntKind.wrap_i64, wrap64]
theorem or_low (v c : Nat) (hc : c < 256) : (v * 256) ||| c = v * 256 + c := by
  have h := Nat.shiftLeft_add_eq_or_of_lt (i := 8) (by simpa using hc) v
  rw [Nat.shiftLeft_eq] at h
  exact h.symm
theorem or_u64 (v c : Nat) (hv : v < 72057594037927936) (hc : c < 256) : bits .or .u64 ((v : Int) * 256) (c : Int) = ((v * 256 + c : Nat) : Int) := by
  have h1 : (v : Int) * 256 = ((v * 256 : Nat) : Int) := by omega
  rw [h1, u64_or_nat (v * 256) c (by omega) (by omega), or_low v c hc]
theorem beval_take_lt (bs : List UInt8) (k : Nat) (hk : k ≤ 7) : beval (bs.take k) < 72057594037927936 := by
  have h1 := beval_lt (bs.take k)
  have h2 : (bs.take k).length ≤ k := List.length_take_le _ _
  exact Nat.lt_of_lt_of_le h1 (Nat.le_trans (Nat.pow_le_pow_right (by omega) (by omega : (bs.take k).length ≤ 7)) (by decide))
theorem beval8_lt (bs : List UInt8) : beval (bs.take 8) < 18446744073709551616 := by
  have h1 := beval_lt (bs.take 8)
  have h2 : (bs.take 8).length ≤ 8 := List.length_take_le _ _
  exact Nat.lt_of_lt_of_le h1 (Nat.le_trans (Nat.pow_le_pow_right (by omega) (by omega : (bs.take 8).length ≤ 8)) (by decide))
set_option maxHeartbeats 1000000 in
theorem number_any {w : World} {v : Value} {bs : List UInt8} (h : Sl w v bs) :
    Calls Tryd.prog 76 #[v] w fun e w' => e = .returned (if bs.length < 8 then .tuple #[.int .i64 0, .int .i64 0, .bool false] else .tuple #[.int .i64 (back (beval (bs.take 8))), .int .i64 8, .bool true]) ∧ w' = w := by
  obtain ⟨ao, c, rfl, hc1, hc2⟩ := h.len
  simp only [maxLen] at hc2
  by_cases hlt8 : bs.length < 8
  · rw [if_pos hlt8]
    clear h
    generalize bs.length = L at *
    go_enter Tryd.func76, Tryd.ntmps76
    go_wp2
    refine bodyPost_ret (results_tmp3 rfl _ _ _) rfl ?_
    exact ⟨rfl, rfl⟩
  · rw [if_neg hlt8]
    have HG : Hid (∀ k, k < 8 → ∃ g o, ao = some ⟨g, o, none⟩ ∧ w.cell? ⟨g, o + k, none⟩ = some (.int .u8 ((bs[k]?.getD 0).toNat : Int))) := fun k hk => by simpa using h.get k (by omega)
    have HT : Hid (∀ k, k < 8 → beval (bs.take (k + 1)) = beval (bs.take k) * 256 + (bs[k]?.getD 0).toNat) := fun k hk => by
      have hk' : k < bs.length := by omega
      rw [List.take_succ_eq_append_getElem hk', beval_snoc, List.getElem?_eq_getElem hk']
      rfl
    have HX : Hid (wrap64 (bits .xor .u64 ((beval (bs.take 8) : Nat) : Int) 9223372036854775808) = back (beval (bs.take 8))) := by
      have := xor_back _ (beval8_lt bs)
      rw [wrapEq] at this
      exact this
    have hcut := run_cut_to w ao bs.length c 8 (by omega)
    clear h
    have hL8 : 8 ≤ bs.length := by omega
    clear hlt8
    generalize bs.length = L at *
    go_enter Tryd.func76, Tryd.ntmps76
    go_wp2
    go_loop [14, 5] (fun i v => ∃ k : Nat, k ≤ 8 ∧ i = .int .i64 k ∧ v = .int .u64 (beval (bs.take k) : Nat)) (fun i _ => 8 - (intOf i).toNat)
    case atStart => exact ⟨0, by omega, rfl, rfl⟩
    case round =>
      obtain ⟨k, hk, rfl, rfl⟩ := hrel
      by_cases hlt : k < 8
      · obtain ⟨g, o, rfl, hcell⟩ := HG.out k hlt
        have hb1 := beval_take_lt bs k (by omega)
        have hb2 := (bs[k]?.getD 0).toNat_lt
        have HTk := hide (HT.out k hlt)
        have HOR := hide (or_u64 _ _ hb1 hb2)
        generalize beval (bs.take k) = p at *
        generalize (bs[k]?.getD 0).toNat = x at *
        go_wp2
        go_round
        case rel =>
          refine ⟨k + 1, by omega, by go_num, ?_⟩
          rw [HTk.out, HOR.out]
        case measure => simp [intOf]; omega
      · have hk8 : k = 8 := by omega
        subst hk8
        have hb3 := beval8_lt bs
        go_wp2
        refine bodyPost_ret (results_tmp3 rfl _ _ _) rfl ?_
        rw [← HX.out]
        exact ⟨rfl, rfl⟩
def truthV : List UInt8 → Value
  | [] => .tuple #[.bool false, .int .i64 0, .bool false]
  | x :: _ => if 1 < x.toNat then .tuple #[.bool false, .int .i64 0, .bool false] else .tuple #[.bool (x == 1), .int .i64 1, .bool true]
set_option maxHeartbeats 1000000 in
theorem truth_any {w : World} {v : Value} {bs : List UInt8} (h : Sl w v bs) :
    Calls Tryd.prog 78 #[v] w fun e w' => e = .returned (truthV bs) ∧ w' = w := by
  obtain ⟨ao, c, rfl, hc1, hc2⟩ := h.len
  simp only [maxLen] at hc2
  cases bs with
  | nil =>
    clear h
    go_enter Tryd.func78, Tryd.ntmps78
    go_wp2
    refine bodyPost_ret (results_tmp3 rfl _ _ _) rfl ?_
    exact ⟨rfl, rfl⟩
  | cons x r =>
    obtain ⟨g, o, rfl, hcell⟩ := h.get 0 (by simp)
    have hcell : w.cell? ⟨g, o, none⟩ = some (.int .u8 (x.toNat : Int)) := by simpa using hcell
    have hl : 1 ≤ (x :: r).length := by simp
    have hne : ¬ (((x :: r).length : Int) < 1) := by omega
    generalize (x :: r).length = L at *
    clear h
    by_cases hx : 1 < x.toNat
    · have HV : Hid (truthV (x :: r) = .tuple #[.bool false, .int .i64 0, .bool false]) := if_pos hx
      rw [HV.out]
      have hx2 : (1 : Int) < (x.toNat : Int) := by omega
      generalize (x.toNat : Int) = xi at *
      go_enter Tryd.func78, Tryd.ntmps78
      go_wp2
      refine bodyPost_ret (results_tmp3 rfl _ _ _) rfl ?_
      exact ⟨rfl, rfl⟩
    · have HV : Hid (truthV (x :: r) = .tuple #[.bool (x == 1), .int .i64 1, .bool true]) := if_neg hx
      rw [HV.out]
      rcases (by omega : x.toNat = 0 ∨ x.toNat = 1) with h0 | h0
      · have e : x = 0 := UInt8.toNat_inj.1 h0
        subst e
        have hcell : w.cell? ⟨g, o, none⟩ = some (.int .u8 0) := hcell
        go_enter Tryd.func78, Tryd.ntmps78
        go_wp2
        refine bodyPost_ret (results_tmp3 rfl _ _ _) rfl ?_
        exact ⟨rfl, rfl⟩
      · have e : x = 1 := UInt8.toNat_inj.1 h0
        subst e
        have hcell : w.cell? ⟨g, o, none⟩ = some (.int .u8 1) := hcell
        go_enter Tryd.func78, Tryd.ntmps78
        go_wp2
        refine bodyPost_ret (results_tmp3 rfl _ _ _) rfl ?_
        exact ⟨rfl, rfl⟩
end Go.Proofs.YtplpchaceiogaaaDoor
