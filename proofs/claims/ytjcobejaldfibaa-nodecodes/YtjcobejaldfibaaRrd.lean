/- The document's reader: take, number. -/
import Derived.Test.YtjcobejaldfibaaDcp
namespace Go.Proofs.Ytjcobejaldfibaa
open Go.RowKit
set_option linter.unusedVariables false
set_option linter.unusedSimpArgs false

/-- The document's reader in its box. -/
structure RfB (W : World) (rb : Nat) (ra : Option Addr) (rc : Nat) (R : List UInt8) (bad : Bool) : Prop where
  heap : W.heap[rb]? = some (.cells #[.slice ra R.length rc, .bool bad] 78 (0, 0))
  sl : Sl W (.slice ra R.length rc) R
def Fails (s : Nat) (R : List UInt8) (bad : Bool) : Prop := bad = true ∨ R.length < s
/-- What take ends with. -/
def TakeEnd (W : World) (rb : Nat) (ra : Option Addr) (rc : Nat) (R : List UInt8) (bad : Bool) (s : Nat) (e : Ending) (W' : World) : Prop :=
  (bad = false ∧ s ≤ R.length ∧ e = .returned (.slice ra s rc) ∧ W' = W.setCell ⟨rb, 0, none⟩ (.slice (cutAt ra rc s) (R.length - s) (rc - s))) ∨
  (Fails s R bad ∧ e = .returned (.slice none 0 0) ∧ W' = W.setCell ⟨rb, 1, none⟩ (.bool true))
set_option maxHeartbeats 1000000 in
theorem take_any {W : World} {rb : Nat} {ra : Option Addr} {rc : Nat} {R : List UInt8} {bad : Bool} (h : RfB W rb ra rc R bad) (s : Nat) (hs : s ≤ 1000000) :
    Calls Try.prog 46 #[.pointer (some ⟨rb, 0, none⟩), .int .i64 (s : Int)] W (TakeEnd W rb ra rc R bad s) := by
  obtain ⟨_, _, e, hc1, hc2⟩ := h.sl.len
  injection e with e1 e2 e3
  subst e1 e3
  simp only [maxLen] at hc2
  have c0 : W.cell? ⟨rb, 0, none⟩ = some (.slice ra R.length rc) := by rw [cell_row h.heap]; rfl
  have c1 : W.cell? ⟨rb, 1, none⟩ = some (.bool bad) := by rw [cell_row h.heap]; rfl
  have f0 : W.frozen? ⟨rb, 0, none⟩ = false := frozen_row h.heap
  have f1 : W.frozen? ⟨rb, 1, none⟩ = false := frozen_row h.heap
  have HNO : Hid (Fails s R bad → TakeEnd W rb ra rc R bad s (.returned (.slice none 0 0)) (W.setCell ⟨rb, 1, none⟩ (.bool true))) := fun hf => .inr ⟨hf, rfl, rfl⟩
  have HYE : Hid (bad = false → s ≤ R.length → TakeEnd W rb ra rc R bad s (.returned (.slice ra s rc)) (W.setCell ⟨rb, 0, none⟩ (.slice (cutAt ra rc s) (R.length - s) (rc - s)))) := fun h1 h2 => .inl ⟨h1, h2, rfl, rfl⟩
  have HFA : Hid (Fails s R bad ↔ bad = true ∨ R.length < s) := Iff.rfl
  generalize TakeEnd W rb ra rc R bad s = TE at *
  generalize Fails s R bad = FA at *
  clear h
  cases bad with
  | true =>
    have HE := hide (HNO.out (HFA.out.2 (.inl rfl)))
    clear HNO HYE HFA
    generalize R.length = rl at *
    go_enter Try.func46, Try.ntmps46
    go_wp2
    exact HE.out
  | false =>
    by_cases hl : s ≤ R.length
    · have HE := hide (HYE.out rfl hl)
      have hcut := run_cut_to W ra R.length rc s (by omega)
      have hcut2 := run_cut_from W ra R.length rc s hl
      have hn : ¬ ((R.length : Int) < (s : Int)) := by omega
      clear HNO HYE HFA
      generalize R.length = rl at *
      go_enter Try.func46, Try.ntmps46
      go_wp2
      exact HE.out
    · have HE := hide (HNO.out (HFA.out.2 (.inr (by omega))))
      have hn : ((R.length : Int) < (s : Int)) := by omega
      clear HNO HYE HFA
      generalize R.length = rl at *
      go_enter Try.func46, Try.ntmps46
      go_wp2
      exact HE.out
/-- What number ends with. -/
def RNumEnd (W : World) (rb : Nat) (ra : Option Addr) (rc : Nat) (R : List UInt8) (bad : Bool) (s : Nat) (e : Ending) (W' : World) : Prop :=
  (bad = false ∧ s ≤ R.length ∧ e = .returned (.int .i64 (beval (R.take s) : Nat)) ∧ W' = W.setCell ⟨rb, 0, none⟩ (.slice (cutAt ra rc s) (R.length - s) (rc - s))) ∨
  (Fails s R bad ∧ e = .returned (.int .i64 0) ∧ W' = W.setCell ⟨rb, 1, none⟩ (.bool true))
set_option maxHeartbeats 1000000 in
theorem rnum_any {W : World} {rb : Nat} {ra : Option Addr} {rc : Nat} {R : List UInt8} {bad : Bool} (h : RfB W rb ra rc R bad) (s : Nat) (hs : s ≤ 4) :
    Calls Try.prog 45 #[.pointer (some ⟨rb, 0, none⟩), .int .i64 (s : Int)] W (RNumEnd W rb ra rc R bad s) := by
  have HT := hide (take_any h s (by omega))
  have hsl := h.sl
  have hh := h.heap
  go_enter Try.func45, Try.ntmps45
  go_wp2_with fail
  refine HT.out.mono ?_
  rintro e W1 (⟨hb, hl, rfl, hW⟩ | ⟨hf, rfl, hW⟩)
  · have hs1 : Sl W1 (.slice ra s rc) (R.take s) := by
      have ho : Off [rb] W W1 := by rw [hW]; exact (Off.refl _ _).setCell _ _ (.inl (by simp))
      have h1 : Sl W (.slice ra s rc) (R.take s) := hsl.to s hl
      obtain ⟨ao, c', e, q1, q2, q3⟩ := h1
      refine ⟨ao, c', e, q1, q2, fun hx => ?_⟩
      obtain ⟨g, o, ea, hr⟩ := q3 hx
      refine ⟨g, o, ea, fun j u hu => ?_⟩
      have hc := hr j u hu
      have hj := (List.getElem?_eq_some_iff.1 hu).1
      rw [length_secCells] at hj
      rw [secCells_get _ j hj] at hu
      have hgf : g ≠ rb := fun e => by
        subst e
        rw [cell_row hh] at hc
        match hq : o + j with
        | 0 => rw [hq] at hc; simp at hc; rw [← hc] at hu; simp at hu
        | 1 => rw [hq] at hc; simp at hc; rw [← hc] at hu; simp at hu
        | n + 2 => rw [hq] at hc; simp at hc
      have hbk := ho.block g (World.block_lt_of_cell? W _ hc) (by simpa using hgf)
      unfold World.cell? at hc ⊢
      rw [hbk]
      exact hc
    have hlen : (R.take s).length = s := by rw [List.length_take]; omega
    have HG : Hid (∀ k, k < s → ∃ g o, ra = some ⟨g, o, none⟩ ∧ W1.cell? ⟨g, o + k, none⟩ = some (.int .u8 (((R.take s)[k]?.getD 0).toNat : Int))) := fun k hk => by simpa using hs1.get k (by rw [hlen]; exact hk)
    have HT2 : Hid (∀ k, k < s → beval ((R.take s).take (k + 1)) = beval ((R.take s).take k) * 256 + ((R.take s)[k]?.getD 0).toNat) := fun k hk => by
      have hk' : k < (R.take s).length := by omega
      rw [List.take_succ_eq_append_getElem hk', beval_snoc, List.getElem?_eq_getElem hk']
      rfl
    have HE : Hid (beval ((R.take s).take s) = beval (R.take s)) := by rw [Hid, List.take_take, Nat.min_self]
    have HEND : Hid (RNumEnd W rb ra rc R bad s (.returned (.int .i64 (beval (R.take s) : Nat))) W1) := .inl ⟨hb, hl, rfl, hW⟩
    generalize RNumEnd W rb ra rc R bad s = RE at *
    generalize R.take s = T at *
    clear hs1 hlen hsl hh hW hb hl HT h
    go_wp2
    go_loopw [7, 6] (fun i v wr => ∃ k : Nat, k ≤ s ∧ i = .int .i64 (k : Int) ∧ v = .int .i64 (beval (T.take k) : Nat) ∧ W1 = wr) (fun i _ _ => s - (intOf i).toNat)
    case atStart => exact ⟨0, by omega, rfl, rfl, rfl⟩
    case round =>
      obtain ⟨k, hk, rfl, rfl, rfl⟩ := hrel
      by_cases hks : k < s
      · obtain ⟨g, o, hra, hcell⟩ := HG.out k hks
        subst hra
        have hb1 := beval_take_lt T k (by omega)
        have hb2 : (T[k]?.getD 0).toNat < 256 := UInt8.toNat_lt _
        have HN := hide (HT2.out k hks)
        generalize (T[k]?.getD 0).toNat = cb at *
        go_wp2
        go_roundw
        case rel =>
          refine ⟨k + 1, by omega, by go_num, ?_, by first | rfl | trivial⟩
          rw [HN.out]
          refine congrArg (Value.int .i64) ?_
          omega
        case measure => simp [intOf]; omega
      · have hke : k = s := by omega
        subst hke
        have HX := HE
        go_wp2
        have := HEND.out
        rw [← HX.out] at this
        exact this
  · have HEND : Hid (RNumEnd W rb ra rc R bad s (.returned (.int .i64 0)) W1) := .inr ⟨hf, rfl, hW⟩
    generalize RNumEnd W rb ra rc R bad s = RE at *
    clear hsl hh hW hf HT h
    go_wp2
    go_loopw [7, 6] (fun i v wr => i = .int .i64 0 ∧ v = .int .i64 0 ∧ W1 = wr) (fun i _ _ => 0)
    case atStart => exact ⟨rfl, rfl, rfl⟩
    case round =>
      obtain ⟨rfl, rfl, rfl⟩ := hrel
      go_wp2
      exact HEND.out
end Go.Proofs.Ytjcobejaldfibaa
