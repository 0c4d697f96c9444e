/- A page's slots in memory; 'has', 'needed', 'least', 'room'. -/
import Derived.Test.YtdddeneppciiiaaNum
namespace Go.Proofs.Ytdddeneppciiiaa
open Go.RowKit
set_option linter.unusedVariables false
set_option linter.unusedSimpArgs false

theorem heap_alloc_new (w : World) (o : Obj) : (w.alloc o).heap[w.heap.size]? = some o := by
  show (w.heap.push o)[w.heap.size]? = some o
  exact Array.getElem?_push_size
theorem cell_alloc {w : World} (p : Addr) (o : Obj) (h : p.block < w.heap.size) : (w.alloc o).cell? p = w.cell? p := by
  unfold World.cell?
  rw [Below.heap_alloc _ _ _ h]
/-- Slots that may be read. -/
def SlotsAt (w : World) (v : Value) (S : List Slt) : Prop :=
  ∃ ao c, v = .slice ao S.length c ∧ S.length ≤ c ∧ c ≤ maxLen ∧ ∀ i, i < S.length → ∃ g o m ad ac, ao = some ⟨g, o, none⟩ ∧ w.cell? ⟨g, o + i * 2, none⟩ = some (.bool (S.getD i none).isSome) ∧ w.cell? ⟨g, o + i * 2 + 1, none⟩ = some (.slice ad m ac) ∧ m = slen (S.getD i none) ∧ Sl w (.slice ad m ac) ((S.getD i none).getD [])
theorem SlotsAt.below {w w' : World} {v : Value} {S : List Slt} (h : SlotsAt w v S) (hb : Below w.heap.size w w') : SlotsAt w' v S := by
  obtain ⟨ao, c, rfl, h1, h2, h3⟩ := h
  refine ⟨ao, c, rfl, h1, h2, fun i hi => ?_⟩
  obtain ⟨g, o, m, ad, ac, e, k1, k2, k3, k4⟩ := h3 i hi
  exact ⟨g, o, m, ad, ac, e, (hb.cell (World.block_lt_of_cell? w _ k1)).trans k1, (hb.cell (World.block_lt_of_cell? w _ k2)).trans k2, k3, k4.belowW hb⟩
def hasB (S : List Slt) (i : Int) : Bool := decide (0 ≤ i) && (S.getD i.toNat none).isSome
def pageV (nx : Nat) (v : Value) : Value := .agg #[.int .i64 (nx : Int), v]

set_option maxHeartbeats 400000 in
theorem has_any {w : World} {v : Value} {S : List Slt} (h : SlotsAt w v S) (nx : Nat) (i : Int) :
    Calls Try.prog 31 #[pageV nx v, .int .i64 i] w fun e w' => e = .returned (.bool (hasB S i)) ∧ Below w.heap.size w w' := by
  obtain ⟨ao, c, rfl, h1, h2, h3⟩ := h
  simp only [maxLen] at h2
  unfold pageV
  by_cases a : i < 0
  · have e : hasB S i = false := by simp [hasB]; omega
    rw [e]
    clear e h3
    have a' : ¬ (0 ≤ i) := by omega
    go_enter Try.func31, Try.ntmps31
    go_wp2
    go_ret
    exact ⟨rfl, (Below.refl _ _).alloc (Nat.le_refl _) _⟩
  · obtain ⟨k, rfl⟩ : ∃ k : Nat, i = (k : Int) := ⟨i.toNat, by omega⟩
    by_cases b : k < S.length
    · obtain ⟨g, o, m, ad, ac, rfl, k1, k2, k3, k4⟩ := h3 k b
      have e : hasB S k = (S.getD k none).isSome := by simp [hasB]
      have hg := World.block_lt_of_cell? w _ k1
      rw [e]
      clear e h3 k4 a k3 k2
      generalize (S.getD k none).isSome = B at *
      generalize S.length = L at *
      go_enter Try.func31, Try.ntmps31
      go_wp2
      go_ret
      exact ⟨rfl, (Below.refl _ _).alloc (Nat.le_refl _) _⟩
    · have e : hasB S k = false := by simp [hasB]; rw [List.getElem?_eq_none (by omega)]; rfl
      rw [e]
      clear e h3
      generalize S.length = L at *
      go_enter Try.func31, Try.ntmps31
      go_wp2
      go_ret
      exact ⟨rfl, (Below.refl _ _).alloc (Nat.le_refl _) _⟩

set_option maxHeartbeats 400000 in
theorem needed_any {w : World} {v : Value} {S : List Slt} (h : SlotsAt w v S) (nx : Nat) :
    Calls Try.prog 32 #[pageV nx v] w fun e w' => e = .returned (.int .i64 (need S S.length : Nat)) ∧ Below w.heap.size w w' := by
  obtain ⟨ao, c, rfl, h1, h2, h3⟩ := h
  simp only [maxLen] at h2
  unfold pageV
  have H3 : Hid (∀ i, i < S.length → ∃ g o, ao = some ⟨g, o, none⟩ ∧ w.cell? ⟨g, o + i * 2, none⟩ = some (.bool (S.getD i none).isSome)) := fun i hi => by
    obtain ⟨g, o, m, ad, ac, e, k1, k2, k3, k4⟩ := h3 i hi
    exact ⟨g, o, e, k1⟩
  have HN : Hid (∀ j, j < S.length → need S (j + 1) = if (S.getD j none).isSome = true then j + 1 else need S j) := fun j hj => by
    rw [need, List.getElem?_eq_getElem hj]
    have : S.getD j none = S[j] := by simp [hj]
    rw [this]
    cases S[j] <;> simp
  clear h3
  generalize hL : S.length = L at *
  go_enter Try.func32, Try.ntmps32
  go_wp2
  go_loop [3] (fun n => ∃ j : Nat, j ≤ L ∧ n = .int .i64 (j : Int) ∧ need S j = need S L) (fun n => (intOf n).toNat)
  case atStart => exact ⟨L, Nat.le_refl _, rfl, rfl⟩
  case round =>
    obtain ⟨j, hj, rfl, hn⟩ := hrel
    have HH := hide hn
    clear hn hL
    cases j with
    | zero =>
      go_wp2
      go_ret
      rw [← HH.out]
      exact ⟨rfl, (Below.refl _ _).alloc (Nat.le_refl _) _⟩
    | succ j =>
      obtain ⟨g, o, rfl, k1⟩ := H3.out j (by omega)
      have hn2 := hide (HN.out j (by omega))
      have hi : ((j + 1 : Nat) : Int) - 1 = (j : Int) := by omega
      have hg := World.block_lt_of_cell? w _ k1
      cases hb : (S.getD j none).isSome with
      | true =>
        have HE : Hid (need S L = j + 1) := by rw [Hid, ← HH.out, hn2.out, hb, if_pos rfl]
        rw [hb] at k1
        clear hn2
        go_wp2
        go_ret
        rw [HE.out]
        exact ⟨rfl, (Below.refl _ _).alloc (Nat.le_refl _) _⟩
      | false =>
        have HE : Hid (need S j = need S L) := by rw [Hid, ← HH.out, hn2.out, hb]; simp
        rw [hb] at k1
        clear hn2
        go_wp2
        go_round
        case rel => exact ⟨j, by omega, by go_num, HE.out⟩
        case measure => simp [intOf]

def leastS (S : List Slt) : Nat := S.findIdx Option.isNone
theorem least_at {S : List Slt} {k : Nat} (h : ∀ j, j < k → (S.getD j none).isSome = true) (hk : k ≤ S.length) (hn : k = S.length ∨ (S.getD k none).isSome = false) : leastS S = k := by
  unfold leastS
  have h1 : ∀ j (hj : j < k), (S[j]'(by omega)).isNone = false := fun j hj => by
    have := h j hj
    rw [show S.getD j none = S[j]'(by omega) by simp [show j < S.length by omega]] at this
    cases hS : S[j]'(by omega) with
    | none => rw [hS] at this; cases this
    | some d => rfl
  rcases hn with rfl | hn
  · refine List.findIdx_eq_length_of_false fun x hx => ?_
    obtain ⟨j, hj, rfl⟩ := List.getElem_of_mem hx
    exact h1 j hj
  · by_cases hlt : k < S.length
    · rw [List.findIdx_eq hlt]
      refine ⟨?_, fun j hj => h1 j hj⟩
      rw [show S.getD k none = S[k] by simp [hlt]] at hn
      simpa using hn
    · have : k = S.length := by omega
      subst this
      refine List.findIdx_eq_length_of_false fun x hx => ?_
      obtain ⟨j, hj, rfl⟩ := List.getElem_of_mem hx
      exact h1 j hj

set_option maxHeartbeats 400000 in
theorem least_any {w : World} {v : Value} {S : List Slt} (h : SlotsAt w v S) (nx : Nat) :
    Calls Try.prog 28 #[pageV nx v] w fun e w' => e = .returned (.int .i64 (leastS S : Nat)) ∧ Below w.heap.size w w' := by
  have HS := hide h
  obtain ⟨ao, c, rfl, h1, h2, h3⟩ := h
  simp only [maxLen] at h2
  unfold pageV
  have HA := fun k hn h hk => hide (@least_at S k h hk hn)
  clear h3
  generalize hL : S.length = L at *
  have HB : Hid (Below w.heap.size w (w.alloc (.cells #[.int .i64 (nx : Int), .slice ao L c] 56))) := (Below.refl _ _).alloc (Nat.le_refl _) _
  go_enter Try.func28, Try.ntmps28
  go_wp2
  go_loopw [8] (fun n wr => ∃ j : Nat, j ≤ L ∧ n = .int .i64 (j : Int) ∧ (∀ i, i < j → (S.getD i none).isSome = true) ∧ Below w.heap.size w wr ∧ wr.cell? ⟨w.heap.size, 1, none⟩ = some (.slice ao L c) ∧ w.heap.size < wr.heap.size) (fun n _ => L - (intOf n).toNat)
  case atStart => exact ⟨0, Nat.zero_le _, rfl, fun i hi => absurd hi (Nat.not_lt_zero _), HB.out, by rw [cell_row (heap_alloc_new w _)]; rfl, by simp⟩
  case round =>
    obtain ⟨j, hj, rfl, hn, hb, hc, hsz⟩ := hrel
    have HH := hide hn
    have HbB := hide hb
    clear hn hL hb
    by_cases hlt : j < L
    · obtain ⟨ao', c', e', _, _, h3⟩ := HS.out.below HbB.out
      injection e' with e1 e2 e3
      subst e1 e3
      obtain ⟨g, o, m, ad, ac, rfl, k1, k2, k3, k4⟩ := h3 j (by omega)
      clear h3 k4 e2
      have hg := World.block_lt_of_cell? wr _ k1
      cases hb : (S.getD j none).isSome with
      | true =>
        rw [hb] at k1
        have HT := hide hb
        clear hb k3
        go_wp2
        go_roundw
        case rel =>
          refine ⟨j + 1, by omega, by go_num, fun i hi => ?_, HbB.out.alloc (by omega) _, ?_, by simp; omega⟩
          · rcases Nat.lt_or_ge i j with h | h
            · exact HH.out i h
            · have : i = j := by omega
              subst this; exact HT.out
          · rw [cell_alloc _ _ hsz]; exact hc
        case measure => simp [intOf]; omega
      | false =>
        rw [hb] at k1
        have HT := hide (HA j (.inr hb) HH.out (by omega))
        clear hb k3
        go_wp2
        go_ret
        rw [HT.out.out]
        exact ⟨rfl, HbB.out.alloc (by omega) _⟩
    · have hj' : j = L := by omega
      subst hj'
      have HT := hide (HA j (.inl rfl) HH.out (by omega))
      go_wp2
      go_ret
      rw [HT.out.out]
      exact ⟨rfl, HbB.out⟩

theorem blen_take_succ {S : List Slt} {k : Nat} (h : k < S.length) : blen (S.take (k + 1)) = blen (S.take k) + slen (S.getD k none) := by
  rw [List.take_succ_eq_append_getElem h, blen_append]
  simp [blen, h]
set_option maxHeartbeats 400000 in
theorem room_any {w : World} {v : Value} {S : List Slt} (h : SlotsAt w v S) (nx : Nat) (hs : tsize S ≤ 100000) :
    Calls Try.prog 29 #[pageV nx v] w fun e w' => e = .returned (.int .i64 (504 - (tsize S : Int))) ∧ Below w.heap.size w w' := by
  have HS := hide h
  obtain ⟨ao, c, rfl, h1, h2, h3⟩ := h
  simp only [maxLen] at h2
  unfold pageV
  have HT : Hid (tsize S = 6 + 4 * S.length + blen (S.take S.length)) := by rw [Hid, List.take_length]; rfl
  have HU : Hid (∀ k, blen (S.take k) ≤ blen S) := fun k => blen_take_le S k
  have HV : Hid (∀ k, k < S.length → blen (S.take (k + 1)) = blen (S.take k) + slen (S.getD k none)) := fun k hk => blen_take_succ hk
  have hb0 : blen S ≤ 100000 := by unfold tsize at hs; omega
  have hL0 : 4 * S.length ≤ 100000 := by unfold tsize at hs; omega
  clear h3
  generalize hL : S.length = L at *
  generalize tsize S = T at *
  have HB : Hid (Below w.heap.size w (w.alloc (.cells #[.int .i64 (nx : Int), .slice ao L c] 56))) := (Below.refl _ _).alloc (Nat.le_refl _) _
  go_enter Try.func29, Try.ntmps29
  go_wp2
  go_loopw [14, 3] (fun n x wr => ∃ j B : Nat, j ≤ L ∧ n = .int .i64 (j : Int) ∧ x = .int .i64 (498 - (L : Int) * 4 - (B : Int)) ∧ B = blen (S.take j) ∧ Below w.heap.size w wr) (fun n _ _ => L - (intOf n).toNat)
  case atStart => exact ⟨0, 0, Nat.zero_le _, rfl, by go_num, by simp [blen], HB.out⟩
  case round =>
    obtain ⟨j, B, hj, rfl, rfl, hB, hb⟩ := hrel
    have HbB := hide hb
    have hB1 : B ≤ 100000 := by have := HU.out j; omega
    have HBe := hide hB
    clear hL hb hB
    by_cases hlt : j < L
    · have HV1 := hide (HV.out j hlt)
      have HU1 := hide (HU.out (j + 1))
      obtain ⟨ao', c', e', _, _, h3⟩ := HS.out.below HbB.out
      injection e' with e1 e2 e3
      subst e1 e3
      obtain ⟨g, o, m, ad, ac, rfl, k1, k2, k3, k4⟩ := h3 j (by omega)
      have hm : m ≤ 100000 := by rw [k3]; have := HV1.out; have := HU1.out; omega
      have K3 := hide k3
      clear h3 k4 e2 k3
      have hg := World.block_lt_of_cell? wr _ k1
      generalize (S.getD j none).isSome = bb at *
      go_wp2
      go_roundw
      case rel =>
        refine ⟨j + 1, B + m, by omega, by go_num, ?_, by rw [HV1.out, HBe.out, K3.out], HbB.out.alloc (by have := HbB.out.size; omega) _⟩
        first | (congr 1; go_num) | (congr 1; omega)
      case measure => simp [intOf]; omega
    · have hj' : j = L := by omega
      subst hj'
      go_wp2
      go_ret
      refine ⟨?_, HbB.out⟩
      rw [HT.out, ← HBe.out]
      show Ending.returned (.int .i64 _) = _
      congr 2
      omega
end Go.Proofs.Ytdddeneppciiiaa
