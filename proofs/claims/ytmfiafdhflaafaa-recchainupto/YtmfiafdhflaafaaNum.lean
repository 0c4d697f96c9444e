/- The program's reader: one number, one piece. -/
import Derived.Test.YtmfiafdhflaafaaMem
namespace Go.Proofs.Ytmfiafdhflaafaa
open Go.RowKit
set_option linter.unusedVariables false
set_option linter.unusedSimpArgs false

theorem or_low (v c : Nat) (hc : c < 256) : (v * 256) ||| c = v * 256 + c := by
  have h := Nat.shiftLeft_add_eq_or_of_lt (i := 8) (by simpa using hc) v
  rw [Nat.shiftLeft_eq] at h
  exact h.symm
theorem wrapU (x : Int) : IntKind.u64.wrap x = x % 18446744073709551616 := rfl
theorem or_u64 (v c : Nat) (hv : v < 72057594037927936) (hc : c < 256) : bits .or .u64 (IntKind.u64.wrap ((v : Int) * 256)) (IntKind.u64.wrap (c : Int)) = ((v * 256 + c : Nat) : Int) := by
  have h1 : IntKind.u64.wrap ((v : Int) * 256) = ((v * 256 : Nat) : Int) := by rw [wrapU]; omega
  have h2 : IntKind.u64.wrap (c : Int) = (c : Int) := by rw [wrapU]; omega
  rw [h1, h2]
  have : bits .or .u64 ((v * 256 : Nat) : Int) (c : Int) = IntKind.u64.wrap (((BitVec.ofInt 64 ((v * 256 : Nat) : Int)).toNat ||| (BitVec.ofInt 64 (c : Int)).toNat : Nat) : Int) := by
    simp only [bits, BitVec.toNat_or]
    rfl
  rw [this]
  have e1 : (BitVec.ofInt 64 ((v * 256 : Nat) : Int)).toNat = v * 256 := by simp; omega
  have e2 : (BitVec.ofInt 64 (c : Int)).toNat = c := by simp; omega
  rw [e1, e2, or_low v c hc, wrapU]
  omega
theorem beval_take_lt (bs : List UInt8) (k : Nat) (hk : k ≤ 7) : beval (bs.take k) < 72057594037927936 := by
  have h1 := beval_lt (bs.take k)
  have h2 : (bs.take k).length ≤ k := List.length_take_le _ _
  exact Nat.lt_of_lt_of_le h1 (Nat.le_trans (Nat.pow_le_pow_right (by omega) (by omega : (bs.take k).length ≤ 7)) (by decide))

set_option maxHeartbeats 400000 in
theorem number_ok {w0 w : World} {f : Nat} {v : Value} {rest r' : List UInt8} {n : Int} (hB : Below w0.heap.size w0 w) (hf : w0.heap.size ≤ f) (hR : w.heap[f]? = some (.cells #[v] 50 (0, 0))) (hv : Sl w0 v rest) (hn : getNum rest = some (n, r')) :
    Calls Try.prog 31 #[.pointer (some ⟨f, 0, none⟩)] w fun e w' => ∃ v', e = .returned (.tuple #[.int .i64 n, .bool true]) ∧ w' = w.setCell ⟨f, 0, none⟩ v' ∧ Sl w0 v' r' := by
  unfold getNum at hn
  by_cases h8 : rest.length < 8
  · rw [if_pos h8] at hn; cases hn
  rw [if_neg h8] at hn
  by_cases hm : 4611686018427387904 < beval (rest.take 8)
  · rw [if_pos hm] at hn; cases hn
  rw [if_neg hm] at hn
  simp only [Option.some.injEq, Prod.mk.injEq] at hn
  obtain ⟨rfl, rfl⟩ := hn
  obtain ⟨ao, c, rfl, hc1, hc2⟩ := hv.len
  obtain ⟨g, o, rfl, hz⟩ := hv.get 0 (by omega)
  clear hz
  have hget : ∀ k (hk : k < 8), w.cell? ⟨g, o + k, none⟩ = some (.int .u8 ((rest.getD k 0).toNat : Int)) := fun k hk => by
    obtain ⟨g', o', e, hc⟩ := hv.get k (by omega)
    injection e with e
    injection e with e1 e2
    subst e1 e2
    exact (hB.cell (p := ⟨g, o + k, none⟩) (World.block_lt_of_cell? w0 _ hc)).trans hc
  have HG := hide hget
  have HS := hide (hv.from 8 (by omega))
  have HT : Hid (∀ k, k < 8 → beval (rest.take (k + 1)) = beval (rest.take k) * 256 + (rest[k]?.getD 0).toNat) := fun k hk => by
    rw [List.take_succ_eq_append_getElem (by omega), beval_snoc, List.getElem?_eq_getElem (by omega)]
    rfl
  have k0 : w.cell? ⟨f, 0, none⟩ = some (.slice (some ⟨g, o, none⟩) rest.length c) := by rw [cell_row hR]; rfl
  have f0 : w.frozen? ⟨f, 0, none⟩ = false := frozen_row hR
  have hcut1 : ∀ u, (Instr.sliceAt 23 (.slice (some ⟨g, o, none⟩) rest.length c) none (some (.int .i64 8)) none).run Try.prog u = .ok (.slice (some ⟨g, o, none⟩) 8 c) u := fun u => run_cut_to u (some ⟨g, o, none⟩) rest.length c 8 (by omega)
  have hcut2 : ∀ u, (Instr.sliceAt 23 (.slice (some ⟨g, o, none⟩) rest.length c) (some (.int .i64 8)) none none).run Try.prog u = .ok (.slice (cutAt (some ⟨g, o, none⟩) c 8) (rest.length - 8) (c - 8)) u := fun u => run_cut_from u (some ⟨g, o, none⟩) rest.length c 8 (by omega)
  simp only [maxLen] at hc2
  have hl8 : (8 : Int) ≤ (rest.length : Int) := by omega
  have hgr : ((beval (rest.take 8) : Nat) : Int) ≤ 4611686018427387904 := by omega
  clear hget hv hR hB h8 hm
  generalize rest.length = L at *
  go_enter Try.func31, Try.ntmps31
  go_wp2
  go_loop [19, 4] (fun i v => ∃ k : Nat, k ≤ 8 ∧ i = .int .i64 k ∧ v = .int .u64 (beval (rest.take k) : Nat)) (fun i _ => 8 - (intOf i).toNat)
  case atStart => exact ⟨0, by omega, rfl, rfl⟩
  case round =>
    obtain ⟨k, hk, rfl, rfl⟩ := hrel
    by_cases hlt : k < 8
    · have hcell := HG.out k hlt
      go_wp2
      go_round
      case rel =>
        refine ⟨k + 1, by omega, by go_num, ?_⟩
        rw [or_u64 _ _ (beval_take_lt rest k (by omega)) (UInt8.toNat_lt _), HT.out k hlt]
      case measure => simp [intOf]; omega
    · have hk8 : k = 8 := by omega
      subst hk8
      go_wp2
      go_ret2
      exact ⟨rfl, _, rfl, HS.out⟩

set_option maxHeartbeats 400000 in
theorem number_no {w0 w : World} {f : Nat} {v : Value} {rest : List UInt8} (hB : Below w0.heap.size w0 w) (hf : w0.heap.size ≤ f) (hR : w.heap[f]? = some (.cells #[v] 50 (0, 0))) (hv : Sl w0 v rest) (hn : getNum rest = none) :
    Calls Try.prog 31 #[.pointer (some ⟨f, 0, none⟩)] w fun e w' => e = .returned (.tuple #[.int .i64 0, .bool false]) ∧ w' = w := by
  unfold getNum at hn
  obtain ⟨ao, c, rfl, hc1, hc2⟩ := hv.len
  have k0 : w.cell? ⟨f, 0, none⟩ = some (.slice ao rest.length c) := by rw [cell_row hR]; rfl
  simp only [maxLen] at hc2
  by_cases h8 : rest.length < 8
  · have hl8 : (rest.length : Int) < 8 := by omega
    clear hn hv hR hB h8
    generalize rest.length = L at *
    go_enter Try.func31, Try.ntmps31
    go_wp2
    go_ret2
    exact ⟨rfl, rfl⟩
  rw [if_neg h8] at hn
  have hm : 4611686018427387904 < beval (rest.take 8) := by
    refine Classical.byContradiction fun h => ?_
    rw [if_neg h] at hn; cases hn
  obtain ⟨g, o, rfl, hz⟩ := hv.get 0 (by omega)
  clear hz
  have hget : ∀ k (hk : k < 8), w.cell? ⟨g, o + k, none⟩ = some (.int .u8 ((rest.getD k 0).toNat : Int)) := fun k hk => by
    obtain ⟨g', o', e, hc⟩ := hv.get k (by omega)
    injection e with e
    injection e with e1 e2
    subst e1 e2
    exact (hB.cell (p := ⟨g, o + k, none⟩) (World.block_lt_of_cell? w0 _ hc)).trans hc
  have HG := hide hget
  have HT : Hid (∀ k, k < 8 → beval (rest.take (k + 1)) = beval (rest.take k) * 256 + (rest[k]?.getD 0).toNat) := fun k hk => by
    rw [List.take_succ_eq_append_getElem (by omega), beval_snoc, List.getElem?_eq_getElem (by omega)]
    rfl
  have hcut1 : ∀ u, (Instr.sliceAt 23 (.slice (some ⟨g, o, none⟩) rest.length c) none (some (.int .i64 8)) none).run Try.prog u = .ok (.slice (some ⟨g, o, none⟩) 8 c) u := fun u => run_cut_to u (some ⟨g, o, none⟩) rest.length c 8 (by omega)
  have hl8 : (8 : Int) ≤ (rest.length : Int) := by omega
  have hgr : 4611686018427387904 < ((beval (rest.take 8) : Nat) : Int) := by omega
  clear hget hv hR hB h8 hm hn
  generalize rest.length = L at *
  go_enter Try.func31, Try.ntmps31
  go_wp2
  go_loop [19, 4] (fun i v => ∃ k : Nat, k ≤ 8 ∧ i = .int .i64 k ∧ v = .int .u64 (beval (rest.take k) : Nat)) (fun i _ => 8 - (intOf i).toNat)
  case atStart => exact ⟨0, by omega, rfl, rfl⟩
  case round =>
    obtain ⟨k, hk, rfl, rfl⟩ := hrel
    by_cases hlt : k < 8
    · have hcell := HG.out k hlt
      go_wp2
      go_round
      case rel =>
        refine ⟨k + 1, by omega, by go_num, ?_⟩
        rw [or_u64 _ _ (beval_take_lt rest k (by omega)) (UInt8.toNat_lt _), HT.out k hlt]
      case measure => simp [intOf]; omega
    · have hk8 : k = 8 := by omega
      subst hk8
      go_wp2
      go_ret2
      exact ⟨rfl, rfl⟩

/-! ### A piece -/
set_option maxHeartbeats 400000 in
theorem piece_ok {w0 w : World} {f : Nat} {v : Value} {rest p r' : List UInt8} (hB : Below w0.heap.size w0 w) (hf : w0.heap.size ≤ f) (hR : w.heap[f]? = some (.cells #[v] 50 (0, 0))) (hv : Sl w0 v rest) (hn : getPiece rest = some (p, r')) :
    Calls Try.prog 30 #[.pointer (some ⟨f, 0, none⟩)] w fun e w' => ∃ vp v', e = .returned (.tuple #[vp, .bool true]) ∧ Sl w0 vp p ∧ w'.heap[f]? = some (.cells #[v'] 50 (0, 0)) ∧ Sl w0 v' r' ∧ Off [f] w w' := by
  unfold getPiece at hn
  split at hn
  · cases hn
  rename_i n r1 h1
  split at hn
  · cases hn
  rename_i hlt
  simp only [Option.some.injEq, Prod.mk.injEq] at hn
  obtain ⟨rfl, rfl⟩ := hn
  have hbn := getNum_len h1
  obtain ⟨m, rfl⟩ : ∃ m : Nat, n = (m : Int) := ⟨n.toNat, by omega⟩
  rw [Int.toNat_natCast]
  have HC := hide (number_ok hB hf hR hv h1)
  have hml : m ≤ r1.length := by omega
  have HFB := hide hR
  have b1 : (m : Int) ≤ 4611686018427387904 := hbn.2.2.1
  clear h1 hv hbn hlt hR
  go_enter Try.func30, Try.ntmps30
  go_wp2_with fail
  refine HC.out.mono ?_
  rintro e w1 ⟨v1, rfl, rfl, hs1⟩
  obtain ⟨ao, c, rfl, hc1, hc2⟩ := hs1.len
  have HS1 := hide hs1
  have hR1 := heap_set_same (o := 0) (.slice ao r1.length c) HFB.out
  have k1 : (w.setCell ⟨f, 0, none⟩ (.slice ao r1.length c)).cell? ⟨f, 0, none⟩ = some (.slice ao r1.length c) := by rw [cell_row hR1]; rfl
  have f1 : (w.setCell ⟨f, 0, none⟩ (.slice ao r1.length c)).frozen? ⟨f, 0, none⟩ = false := frozen_row hR1
  have HR1 := hide hR1
  have hO1 : Off [f] w (w.setCell ⟨f, 0, none⟩ (.slice ao r1.length c)) := (Off.refl _ _).setCell _ _ (.inl (by simp))
  have HO1 := hide hO1
  have hcut1 := fun u => run_cut_to u ao r1.length c m (by omega)
  have hcut2 := fun u => run_cut_from u ao r1.length c m hml
  have hlen : (r1.drop m).length = r1.length - m := by rw [List.length_drop]
  have HT := hide (hs1.to m hml)
  have HF := hide (hs1.from m hml)
  have hcmp : (m : Int) ≤ (r1.length : Int) := by omega
  simp only [maxLen] at hc2
  clear hs1 hO1 hR1 hlen
  generalize w.setCell ⟨f, 0, none⟩ (.slice ao r1.length c) = w1 at *
  generalize r1.length = L at *
  go_wp2
  go_ret2
  refine ⟨_, _, rfl, HT.out, ?_, HF.out, HO1.out.setCell _ _ (.inl (by simp))⟩
  exact heap_set_same _ HR1.out
set_option maxHeartbeats 400000 in
theorem piece_no {w0 w : World} {f : Nat} {v : Value} {rest : List UInt8} (hB : Below w0.heap.size w0 w) (hf : w0.heap.size ≤ f) (hR : w.heap[f]? = some (.cells #[v] 50 (0, 0))) (hv : Sl w0 v rest) (hn : getPiece rest = none) :
    Calls Try.prog 30 #[.pointer (some ⟨f, 0, none⟩)] w fun e w' => e = .returned (.tuple #[.slice none 0 0, .bool false]) ∧ Off [f] w w' ∧ ∃ v', w'.heap[f]? = some (.cells #[v'] 50 (0, 0)) := by
  unfold getPiece at hn
  split at hn
  · rename_i h1
    have HC := hide (number_no hB hf hR hv h1)
    have HR := hide hR
    clear h1 hv hR hB hn
    go_enter Try.func30, Try.ntmps30
    go_wp2_with fail
    refine HC.out.mono ?_
    rintro e w1 ⟨rfl, rfl⟩
    go_wp2
    go_ret2
    exact ⟨rfl, Off.refl _ _, _, HR.out⟩
  · rename_i n r1 h1
    split at hn
    · rename_i hlt
      have hbn := getNum_len h1
      obtain ⟨m, rfl⟩ : ∃ m : Nat, n = (m : Int) := ⟨n.toNat, by omega⟩
      have HC := hide (number_ok hB hf hR hv h1)
      have HFB := hide hR
      have b1 : (m : Int) ≤ 4611686018427387904 := hbn.2.2.1
      clear h1 hv hbn hR hn hB
      go_enter Try.func30, Try.ntmps30
      go_wp2_with fail
      refine HC.out.mono ?_
      rintro e w1 ⟨v1, rfl, rfl, hs1⟩
      obtain ⟨ao, c, rfl, hc1, hc2⟩ := hs1.len
      have hR1 := heap_set_same (o := 0) (.slice ao r1.length c) HFB.out
      have k1 : (w.setCell ⟨f, 0, none⟩ (.slice ao r1.length c)).cell? ⟨f, 0, none⟩ = some (.slice ao r1.length c) := by rw [cell_row hR1]; rfl
      have HR1 := hide hR1
      have hO1 : Off [f] w (w.setCell ⟨f, 0, none⟩ (.slice ao r1.length c)) := (Off.refl _ _).setCell _ _ (.inl (by simp))
      have HO1 := hide hO1
      simp only [maxLen] at hc2
      clear hs1 hO1 hR1
      generalize w.setCell ⟨f, 0, none⟩ (.slice ao r1.length c) = w1 at *
      generalize r1.length = L at *
      go_wp2
      go_ret2
      exact ⟨rfl, HO1.out, _, HR1.out⟩
    · cases hn
end Go.Proofs.Ytmfiafdhflaafaa
