/- awake: what the document fixes. -/
import Derived.Test.YtojhaikafbnonaaSame
namespace Go.Proofs.Ytojhaikafbnonaa
open Go.RowKit
set_option linter.unusedVariables false
set_option linter.unusedSimpArgs false

theorem enc1 (W : World) : Calls Try.prog 10 #[.agg #[.int .i64 1, .int .i64 0, .string { data := #[] }, .bool false]] W fun e w' => ∃ u', e = .returned u' ∧ Bts W w' u' [1, 128, 0, 0, 0, 0, 0, 0, 0] := by
  refine (encode_any W W (Below.refl _ _) ⟨1, 0, [], false⟩ ⟨by simp, by simp⟩ (by simp)).mono ?_
  rintro e w' ⟨u, rfl, hB, _⟩
  exact ⟨u, rfl, hB⟩
theorem enc2 (W : World) : Calls Try.prog 10 #[.agg #[.int .i64 2, .int .i64 0, .string { data := #[97, 0] }, .bool false]] W fun e w' => ∃ u', e = .returned u' ∧ Bts W w' u' [2, 97, 0, 255, 0, 0] := by
  refine (encode_any W W (Below.refl _ _) ⟨2, 0, [97, 0], false⟩ ⟨by simp, by simp⟩ (by simp)).mono ?_
  rintro e w' ⟨u, rfl, hB, _⟩
  exact ⟨u, rfl, hB⟩
theorem decV2 : decV [2, 97, 0, 255, 0, 0] = .tuple #[.agg #[.int .i64 2, .int .i64 0, .string { data := #[97, 0] }, .bool false], .int .i64 6, .bool true] := by
  have e : dec [2, 97, 0, 255, 0, 0] = some (⟨2, 0, [97, 0], false⟩, 6) := by
    have := dec_enc ⟨2, 0, [97, 0], false⟩ ⟨by simp, by simp⟩ []
    simpa [clean, enc, esc, escB] using this
  rw [decV_some e]
  rfl
theorem cmp01 (W : World) : Calls Try.prog 15 #[.agg #[.int .i64 0, .int .i64 0, .string { data := #[] }, .bool false], .agg #[.int .i64 1, .int .i64 0, .string { data := #[] }, .bool false]] W fun e w' => e = .returned (.int .i64 (-1)) ∧ Below W.heap.size W w' := compare_any ⟨0, 0, [], false⟩ ⟨1, 0, [], false⟩ W
set_option maxHeartbeats 4000000 in
theorem awake_any (w : World) : Calls Try.prog 17 #[] w fun e w' => e = .returned (.bool true) ∧ Below w.heap.size w w' := by
  have HE1 := hide (enc1 w)
  go_enter Try.func17, Try.ntmps17
  go_wp2_with fail
  refine HE1.out.mono ?_
  rintro e W1 ⟨u1, rfl, hB1⟩
  obtain ⟨a1, c1, e1, hc1, hc2⟩ := hB1.sl.len
  subst e1
  obtain ⟨g, o, hao, k1⟩ := hB1.sl.get 1 (by simp)
  subst hao
  have HB1 := hide hB1
  have hg1 := World.block_lt_of_cell? W1 _ k1
  simp only [maxLen] at hc2
  have hc1 : 9 ≤ c1 := hc1
  have HE2 := hide (enc2 W1)
  clear HE1 hB1
  go_wp2_with fail
  refine HE2.out.mono ?_
  rintro e W2 ⟨u2, rfl, hB2⟩
  have HD := hide (decode_any hB2.sl (by simp))
  rw [decV2] at HD
  have k2 := (hB2.below.cell hg1).trans k1
  have hg2 := World.block_lt_of_cell? W2 _ k2
  have HB2 := hide hB2.below
  clear hB2 HE2 k1 hg1
  go_wp2_with fail
  refine HD.out.mono ?_
  rintro e W3 ⟨rfl, hB3⟩
  have k3 := (hB3.cell hg2).trans k2
  have hg3 := World.block_lt_of_cell? W3 _ k3
  have HB3 : Hid (Below w.heap.size w W3) := (HB1.out.below.trans (HB2.out.mono HB1.out.below.size)).trans (hB3.mono (Nat.le_trans HB1.out.below.size HB2.out.size))
  have k3 : W3.cell? ⟨g, o + 1, none⟩ = some (.int .u8 128) := k3
  have hq : (({ data := #[97, 0] } : ByteArray).toList == ({ data := #[97, 0] } : ByteArray).toList) = true := by simp
  have HC : Hid (∀ W, Calls Try.prog 15 #[.agg #[.int .i64 0, .int .i64 0, .string { data := #[] }, .bool false], .agg #[.int .i64 1, .int .i64 0, .string { data := #[] }, .bool false]] W fun e w' => e = .returned (.int .i64 (-1)) ∧ Below W.heap.size W w') := cmp01
  clear HD hB3 k2 hg2
  go_wp2_with (go_at_call 15; refine (HC.out _).mono ?_; rintro e W4 ⟨rfl, hB4⟩)
  go_ret
  refine ⟨rfl, ?_⟩
  have h5 := HB3.out.alloc HB3.out.size (.cells #[.int .i64 2, .int .i64 0, .string { data := #[97, 0] }, .bool false] 23)
  exact h5.trans (hB4.mono h5.size)
end Go.Proofs.Ytojhaikafbnonaa
