/- The program's reader: number, noughts. -/
import Derived.Test.YtjcobejaldfibaaDlt
import Derived.Test.YtjcobejaldfibaaSpl
import Derived.Test.YtjcobejaldfibaaTo
namespace Go.Proofs.Ytjcobejaldfibaa
open Go.RowKit
set_option linter.unusedVariables false
set_option linter.unusedSimpArgs false

theorem beval_lt : ∀ (n : Nat) (bs : List UInt8), bs.length = n → beval bs < 256 ^ n
  | 0, bs, h => by
    have : bs = [] := List.eq_nil_of_length_eq_zero h
    subst this
    decide
  | n + 1, bs, h => by
    obtain ⟨r, c, rfl⟩ : ∃ r c, bs = r ++ [c] := ⟨bs.dropLast, bs.getLast (by intro e; rw [e] at h; simp at h), (List.dropLast_concat_getLast _).symm⟩
    have hr : r.length = n := by simpa using h
    have h1 := beval_lt n r hr
    have hc := c.toNat_lt
    rw [beval_snoc, Nat.pow_succ]
    omega
theorem or_low (v c : Nat) (hc : c < 256) : (v * 256) ||| c = v * 256 + c := by
  have h := Nat.shiftLeft_add_eq_or_of_lt (i := 8) (by simpa using hc) v
  rw [Nat.shiftLeft_eq] at h
  exact h.symm
theorem or_i64 (v c : Nat) (hv : v < 72057594037) (hc : c < 256) : bits .or .i64 ((v : Int) * 256) (c : Int) = ((v * 256 + c : Nat) : Int) := by
  have h1 : (v : Int) * 256 = ((v * 256 : Nat) : Int) := by omega
  rw [h1]
  have : bits .or .i64 ((v * 256 : Nat) : Int) (c : Int) = IntKind.i64.wrap (((BitVec.ofInt 64 ((v * 256 : Nat) : Int)).toNat ||| (BitVec.ofInt 64 (c : Int)).toNat : Nat) : Int) := by
    simp only [bits, BitVec.toNat_or]
    rfl
  rw [this]
  have e1 : (BitVec.ofInt 64 ((v * 256 : Nat) : Int)).toNat = v * 256 := by simp; omega
  have e2 : (BitVec.ofInt 64 (c : Int)).toNat = c := by simp; omega
  rw [e1, e2, or_low v c hc, IntKind.wrap_i64]
  omega
theorem w64 (b : UInt8) : wrap64 (b.toNat : Int) = (b.toNat : Int) := by
  have := b.toNat_lt
  simp only [wrap64]
  omega
theorem beval_take_lt (bs : List UInt8) (k : Nat) (hk : k ≤ 4) : beval (bs.take k) < 4294967297 := by
  have h1 := beval_lt _ (bs.take k) rfl
  have h2 : (bs.take k).length ≤ k := List.length_take_le _ _
  exact Nat.lt_of_lt_of_le h1 (Nat.le_trans (Nat.pow_le_pow_right (by omega) (by omega : (bs.take k).length ≤ 4)) (by decide))
/-- A reader in its box. -/
structure RdB (W : World) (fb : Nat) (ra : Option Addr) (rc : Nat) (R : List UInt8) : Prop where
  heap : W.heap[fb]? = some (.cells #[.slice ra R.length rc] 69 (0, 0))
  sl : Sl W (.slice ra R.length rc) R
theorem RdB.cell {W : World} {fb : Nat} {ra : Option Addr} {rc : Nat} {R : List UInt8} (h : RdB W fb ra rc R) : W.cell? ⟨fb, 0, none⟩ = some (.slice ra R.length rc) := by rw [cell_row h.heap]; rfl
theorem RdB.frozen {W : World} {fb : Nat} {ra : Option Addr} {rc : Nat} {R : List UInt8} (h : RdB W fb ra rc R) : W.frozen? ⟨fb, 0, none⟩ = false := frozen_row h.heap
/-- What number ends with. -/
def NumEnd (W : World) (fb ib io : Nat) (ra : Option Addr) (rc : Nat) (R : List UInt8) (s : Nat) (e : Ending) (W' : World) : Prop :=
  (R.length < s ∧ e = .returned (.bool false) ∧ W' = W) ∨
  (s ≤ R.length ∧ e = .returned (.bool true) ∧ W' = (W.setCell ⟨ib, io, none⟩ (.int .i64 (beval (R.take s) : Nat))).setCell ⟨fb, 0, none⟩ (.slice (cutAt ra rc s) (R.length - s) (rc - s)))
set_option maxHeartbeats 1000000 in
theorem number_any {W : World} {fb ib io : Nat} {ra : Option Addr} {rc : Nat} {R : List UInt8} {s : Nat} {old : Value} (h : RdB W fb ra rc R) (hi : W.cell? ⟨ib, io, none⟩ = some old) (hz : W.frozen? ⟨ib, io, none⟩ = false) (hne : fb ≠ ib) (hs : s ≤ 4) :
    Calls Try.prog 41 #[.pointer (some ⟨fb, 0, none⟩), .pointer (some ⟨ib, io, none⟩), .int .i64 (s : Int)] W (NumEnd W fb ib io ra rc R s) := by
  obtain ⟨_, _, e, hc1, hc2⟩ := h.sl.len
  injection e with e1 e2 e3
  subst e1 e3
  simp only [maxLen] at hc2
  have hf := h.cell
  have hfz := h.frozen
  have HNO : Hid (R.length < s → NumEnd W fb ib io ra rc R s (.returned (.bool false)) W) := fun hl => .inl ⟨hl, rfl, rfl⟩
  have HYE : Hid (s ≤ R.length → NumEnd W fb ib io ra rc R s (.returned (.bool true)) ((W.setCell ⟨ib, io, none⟩ (.int .i64 (beval (R.take s) : Nat))).setCell ⟨fb, 0, none⟩ (.slice (cutAt ra rc s) (R.length - s) (rc - s)))) := fun hl => .inr ⟨hl, rfl, rfl⟩
  have HG : Hid (∀ k, k < R.length → ∃ g o, ra = some ⟨g, o, none⟩ ∧ W.cell? ⟨g, o + k, none⟩ = some (.int .u8 ((R[k]?.getD 0).toNat : Int))) := fun k hk => by simpa using h.sl.get k hk
  have HT : Hid (∀ k, k < R.length → beval (R.take (k + 1)) = beval (R.take k) * 256 + (R[k]?.getD 0).toNat) := fun k hk => by
    rw [List.take_succ_eq_append_getElem hk, beval_snoc, List.getElem?_eq_getElem hk]
    rfl
  have hcl : (W.setCell ⟨ib, io, none⟩ (.int .i64 (beval (R.take s) : Nat))).cell? ⟨fb, 0, none⟩ = some (.slice ra R.length rc) := by
    have hh : (W.setCell ⟨ib, io, none⟩ (.int .i64 (beval (R.take s) : Nat))).heap[fb]? = some (.cells #[.slice ra R.length rc] 69 (0, 0)) := (set_stay ib io _ hne).trans h.heap
    rw [cell_row hh]
    rfl
  have hcz : (W.setCell ⟨ib, io, none⟩ (.int .i64 (beval (R.take s) : Nat))).frozen? ⟨fb, 0, none⟩ = false := frozen_row ((set_stay ib io _ hne).trans h.heap)
  have hc28 := run_cut_from (W.setCell ⟨ib, io, none⟩ (.int .i64 (beval (R.take s) : Nat))) ra R.length rc s
  generalize NumEnd W fb ib io ra rc R s = NE at *
  clear h
  by_cases hlt : s ≤ R.length
  · have hYE := hide (HYE.out hlt)
    have hc28 := hc28 hlt
    have hcut := run_cut_to W ra R.length rc s (by omega)
    have hnl : ¬ R.length < s := by omega
    clear HNO HYE
    generalize R.length = rl at *
    go_enter Try.func41, Try.ntmps41
    go_wp2
    go_loopw [24, 7] (fun i v wr => ∃ k : Nat, k ≤ s ∧ i = .int .i64 (k : Int) ∧ v = .int .i64 (beval (R.take k) : Nat) ∧ wr = W) (fun i _ _ => s - (intOf i).toNat)
    case atStart => exact ⟨0, by omega, rfl, rfl, rfl⟩
    case round =>
      obtain ⟨k, hk, rfl, rfl, rfl⟩ := hrel
      by_cases hks : k < s
      · obtain ⟨g, o, hra, hcell⟩ := HG.out k (by omega)
        subst hra
        have hb1 := beval_take_lt R k (by omega)
        go_wp2
        go_roundw
        case rel =>
          refine ⟨k + 1, by omega, by go_num, ?_, by first | rfl | trivial⟩
          rw [HT.out k (by omega)]
          rw [w64, or_i64 _ _ (by omega) (UInt8.toNat_lt _)]
        case measure => simp [intOf]; omega
      · have hke : k = s := by omega
        subst hke
        go_wp2
        exact hYE.out
  · have hNO := hide (HNO.out (by omega))
    have hnl : R.length < s := by omega
    clear HNO HYE hc28
    generalize R.length = rl at *
    go_enter Try.func41, Try.ntmps41
    go_wp2
    exact hNO.out
/-- Nothing else is left. -/
def noughtsB (R : List UInt8) : Bool := R.all (· == 0)
theorem noughts_yes {R : List UInt8} (h : ∀ j, j < R.length → R[j]?.getD 0 = 0) : noughtsB R = true := by
  unfold noughtsB
  rw [List.all_eq_true]
  intro x hx
  obtain ⟨j, hj, rfl⟩ := List.getElem_of_mem hx
  have := h j hj
  rw [List.getElem?_eq_getElem hj] at this
  simpa using this
theorem noughts_no {R : List UInt8} {j : Nat} (hj : j < R.length) (h : R[j]?.getD 0 ≠ 0) : noughtsB R = false := by
  unfold noughtsB
  rw [List.all_eq_false]
  rw [List.getElem?_eq_getElem hj] at h
  exact ⟨R[j], List.getElem_mem hj, by simpa using h⟩
set_option maxHeartbeats 1000000 in
theorem noughts_any {W : World} {fb : Nat} {ra : Option Addr} {rc : Nat} {R : List UInt8} (h : RdB W fb ra rc R) :
    Calls Try.prog 44 #[.pointer (some ⟨fb, 0, none⟩)] W fun e W' => e = .returned (.bool (noughtsB R)) ∧ W' = W := by
  obtain ⟨_, _, e, hc1, hc2⟩ := h.sl.len
  injection e with e1 e2 e3
  subst e1 e3
  simp only [maxLen] at hc2
  have hf := h.cell
  have HG : Hid (∀ k, k < R.length → ∃ g o, ra = some ⟨g, o, none⟩ ∧ W.cell? ⟨g, o + k, none⟩ = some (.int .u8 ((R[k]?.getD 0).toNat : Int))) := fun k hk => by simpa using h.sl.get k hk
  have HY : Hid ((∀ j, j < R.length → R[j]?.getD 0 = 0) → noughtsB R = true) := noughts_yes
  have HN : Hid (∀ j, j < R.length → R[j]?.getD 0 ≠ 0 → noughtsB R = false) := fun j h1 h2 => noughts_no h1 h2
  clear h
  generalize noughtsB R = nb at *
  generalize R.length = rl at *
  go_enter Try.func44, Try.ntmps44
  go_wp2
  go_loopw [10] (fun i wr => ∃ k : Nat, k ≤ rl ∧ i = .int .i64 (k : Int) ∧ W = wr ∧ Hid (∀ j, j < k → R[j]?.getD 0 = 0)) (fun i _ => rl - (intOf i).toNat)
  case atStart => exact ⟨0, by omega, rfl, rfl, fun j hj => by omega⟩
  case round =>
    obtain ⟨k, hk, rfl, rfl, HO⟩ := hrel
    by_cases hks : k < rl
    · obtain ⟨g, o, hra, hcell⟩ := HG.out k hks
      subst hra
      by_cases hx : R[k]?.getD 0 = 0
      · rw [hx] at hcell
        have HOS : Hid (∀ j, j < k + 1 → R[j]?.getD 0 = 0) := fun j hj => by
          by_cases e : j = k
          · rw [e]; exact hx
          · exact HO.out j (by omega)
        clear hx
        have hcell : W.cell? ⟨g, o + k, none⟩ = some (.int .u8 0) := hcell
        go_wp2
        go_roundw
        case rel => exact ⟨k + 1, by omega, by go_num, by first | rfl | trivial, HOS.out⟩
        case measure => simp [intOf]; omega
      · have hz : ¬ (((R[k]?.getD 0).toNat : Int) = 0) := fun e => hx (UInt8.toNat_inj.1 (by simpa using e))
        have HF := hide (HN.out k hks hx)
        clear hx
        generalize ((R[k]?.getD 0).toNat : Int) = ci at *
        go_wp2
        go_ret
        exact ⟨by rw [HF.out]; rfl, rfl⟩
    · have HF := hide (HY.out (fun j hj => HO.out j (by omega)))
      go_wp2
      go_ret
      exact ⟨by rw [HF.out]; rfl, rfl⟩
end Go.Proofs.Ytjcobejaldfibaa
