/- What a reader finds, on lists alone: 'Inv'; what a flush makes of it. -/
import Derived.Test.YtkkmkcobmjdblaaRWell
namespace Go.Proofs.Ytkkmkcobmjdblaa
open Go.RowKit
set_option linter.unusedVariables false
set_option linter.unusedSimpArgs false

/-- The bytes of held that lie in the stream's sector s. -/
def part (start : Nat) (held : List UInt8) (s : Nat) : List UInt8 := (held.drop (s * 118 - start)).take (118 - (start - s * 118))
/-- Each sector from start's on tells its part of held, up to the end. -/
def Inv (rd : Nat → List UInt8) (start : Nat) (held : List UInt8) : Prop := ∀ s, start / 118 ≤ s → s ≤ (start + held.length) / 118 → got (rd s) s (start - s * 118) = part start held s

theorem scan_from (rd : Nat → List UInt8) (start : Nat) (held : List UInt8) (h : Inv rd start held) : ∀ k s, start / 118 ≤ s → s ≤ (start + held.length) / 118 → (start + held.length) / 118 < s + k → scan rd s k (start - s * 118) = held.drop (s * 118 - start)
  | 0, s, h1, h2, h3 => by omega
  | k + 1, s, h1, h2, h3 => by
    unfold scan
    rw [h s h1 h2]
    have hl : (part start held s).length = min (118 - (start - s * 118)) (held.length - (s * 118 - start)) := by unfold part; rw [List.length_take, List.length_drop]
    by_cases hs : (part start held s).length < 118 - (start - s * 118)
    · rw [if_pos hs]
      unfold part
      exact List.take_of_length_le (by rw [List.length_drop]; omega)
    · rw [if_neg hs]
      have ih := scan_from rd start held h k (s + 1) (by omega) (by omega) (by omega)
      rw [show start - (s + 1) * 118 = 0 by omega] at ih
      rw [ih]
      unfold part
      have e : held.drop ((s + 1) * 118 - start) = (held.drop (s * 118 - start)).drop (118 - (start - s * 118)) := by
        rw [List.drop_drop]
        congr 1
        omega
      rw [e, List.take_append_drop]
theorem scan_of_inv {rd : Nat → List UInt8} {start : Nat} {held : List UInt8} (h : Inv rd start held) (n : Nat) (hn : (start + held.length) / 118 < start / 118 + n) : scan rd (start / 118) n (start % 118) = held := by
  have := scan_from rd start held h n (start / 118) (Nat.le_refl _) (by omega) hn
  rw [show start - start / 118 * 118 = start % 118 by omega, show start / 118 * 118 - start = 0 by omega, List.drop_zero] at this
  exact this
theorem got_skip (bs : List UInt8) (s k k' : Nat) (hk : k ≤ k') : got bs s k' = (got bs s k).drop (k' - k) := by
  unfold got
  by_cases h : isThere bs s k
  · rw [if_pos h, List.drop_take, List.drop_drop]
    by_cases h2 : k' < cntOf bs
    · rw [if_pos (show isThere bs s k' from ⟨h.1, h.2.1, h.2.2.1, h2⟩)]
      congr 1
      · omega
      · congr 1; omega
    · rw [if_neg (fun x : isThere bs s k' => h2 x.2.2.2), show cntOf bs - k - (k' - k) = 0 by omega, List.take_zero]
  · rw [if_neg h, if_neg (fun x : isThere bs s k' => h ⟨x.1, x.2.1, x.2.2.1, by have := x.2.2.2; omega⟩), List.drop_nil]
theorem inv_trim {rd : Nat → List UInt8} {start : Nat} {held : List UInt8} (h : Inv rd start held) (start' : Nat) (h1 : start ≤ start') (h2 : start' ≤ start + held.length) : Inv rd start' (held.drop (start' - start)) := by
  intro s hs1 hs2
  rw [List.length_drop] at hs2
  have hs3 : s ≤ (start + held.length) / 118 := by
    have : start' + (held.length - (start' - start)) = start + held.length := by omega
    rw [this] at hs2
    exact hs2
  rw [got_skip (rd s) s (start - s * 118) (start' - s * 118) (by omega), h s (by omega) hs3]
  unfold part
  rw [List.drop_take, List.drop_drop, List.drop_drop]
  congr 1
  · omega
  · congr 1; omega
theorem beval_be8 (v : Nat) (h : v < 18446744073709551616) : beval (be8 v) = v := by
  have e : be8 v = [UInt8.ofNat (v / 72057594037927936 % 256), UInt8.ofNat (v / 281474976710656 % 256), UInt8.ofNat (v / 1099511627776 % 256), UInt8.ofNat (v / 4294967296 % 256), UInt8.ofNat (v / 16777216 % 256), UInt8.ofNat (v / 65536 % 256), UInt8.ofNat (v / 256 % 256), UInt8.ofNat (v % 256)] := by
    simp [be8, List.range, List.range.loop]
  rw [e]
  simp only [beval, List.foldl_cons, List.foldl_nil, UInt8.toNat_ofNat', Nat.mod_mod]
  omega
theorem img_got {R : Rg} (s : Nat) (X : List UInt8) (hX : X.length = 128) (hp : R.puts s) (hs : s < 4611686018427387904) (hst : R.start < R.tail) : got (R.img s X) s (R.start - s * 118) = part R.start R.held s := by
  have p1 := hp.lo
  have p2 := hp.hi
  have hbl := Rg.length_body hp hX
  have hH := length_headOf s (R.high s - s * 118)
  have hhi : R.high s - s * 118 ≤ 118 := by unfold Rg.high; omega
  have hlo : 1 ≤ R.high s - s * 118 := by unfold Rg.high; omega
  have hsk : R.start - s * 118 < R.high s - s * 118 := by unfold Rg.high; omega
  obtain ⟨c, hc⟩ : ∃ c, R.high s - s * 118 = c := ⟨_, rfl⟩
  have hn : beval ((R.img s X).take 8) = s + 1 := by
    have : (R.img s X).take 8 = be8 (s + 1) := by
      unfold Rg.img headOf
      rw [List.append_assoc, List.take_left' (length_be8 _)]
    rw [this, beval_be8 _ (by omega)]
  have hcn : cntOf (R.img s X) = c := by
    have e8 : (R.img s X).getD 8 0 = UInt8.ofNat (c / 256) := by
      unfold Rg.img headOf
      rw [hc, List.append_assoc, List.getD_eq_getElem?_getD, List.getElem?_append_right (by rw [length_be8]; omega), length_be8]
      rfl
    have e9 : (R.img s X).getD 9 0 = UInt8.ofNat (c % 256) := by
      unfold Rg.img headOf
      rw [hc, List.append_assoc, List.getD_eq_getElem?_getD, List.getElem?_append_right (by rw [length_be8]; omega), length_be8]
      rfl
    unfold cntOf
    rw [e8, e9, UInt8.toNat_ofNat', UInt8.toNat_ofNat']
    omega
  unfold got
  rw [if_pos ⟨hn, by omega, by omega, by omega⟩, hcn]
  unfold Rg.img
  rw [hc] at hH hbl ⊢
  rw [List.drop_append, hH, List.drop_of_length_le (by omega), List.nil_append, show 10 + (R.start - s * 118) - 10 = R.start - s * 118 by omega]
  rw [List.drop_append_of_le_length (by rw [hbl]; omega), List.take_left' (by rw [List.length_drop, hbl])]
  unfold Rg.body
  have hla := length_aheadOf X s (R.lead s) hX (by unfold Rg.lead; omega)
  rw [List.drop_left' (by rw [hla]; rfl)]
  unfold part
  have e1 : s * 118 + R.lead s - R.start = s * 118 - R.start := by unfold Rg.lead; omega
  rw [e1, List.take_eq_take_iff, List.length_drop]
  unfold Rg.lead Rg.high Rg.tail at *
  omega
/-- The new stream is told. -/
theorem inv_new {R : Rg} {rd rd' : Nat → List UInt8} (old app : List UInt8) (hh : R.held = old ++ app) (hf : R.fin = R.start + old.length) (ha : app ≠ []) (hinv : Inv rd R.start old) (hb : R.tail < 400000000000000000)
    (h1 : ∀ s, R.start / 118 ≤ s → s < R.fin / 118 → rd' s = rd s) (h2 : ∀ s, R.fin / 118 ≤ s → s ≤ (R.tail - 1) / 118 → ∃ X : List UInt8, X.length = 128 ∧ rd' s = R.img s X) (h3 : rd' ((R.tail - 1) / 118 + 1) = zeros) : Inv rd' R.start R.held := by
  have hal : 1 ≤ app.length := by
    rcases app with _ | ⟨a, r⟩
    · exact absurd rfl ha
    · simp
  have hlen : R.held.length = old.length + app.length := by rw [hh, List.length_append]
  have ht : R.tail = R.start + R.held.length := rfl
  intro s hs1 hs2
  rw [← ht] at hs2
  by_cases c1 : s < R.fin / 118
  · rw [h1 s hs1 c1, hinv s hs1 (by omega)]
    unfold part
    rw [hh, List.drop_append_of_le_length (by omega), List.take_append_of_le_length (by rw [List.length_drop]; omega)]
  · by_cases c2 : s ≤ (R.tail - 1) / 118
    · obtain ⟨X, hX, e⟩ := h2 s (by omega) c2
      rw [e]
      exact img_got s X hX ⟨by omega, by omega⟩ (by omega) (by omega)
    · have e : s = (R.tail - 1) / 118 + 1 := by omega
      rw [e, h3, zeros_absent]
      unfold part
      rw [List.drop_of_length_le (by omega), List.take_nil]
end Go.Proofs.Ytkkmkcobmjdblaa
