/- numbers: the numbers of all edges, rising, each once. -/
import Derived.Test.YtaoghggbcbpapaaEdg
namespace Go.Proofs.Ytaoghggbcbpapaa
open Go.RowKit
set_option linter.unusedVariables false
set_option linter.unusedSimpArgs false

def flat (E : List (Int × Int)) : List Int := E.flatMap fun e => [e.1, e.2]
theorem flat_snoc (E : List (Int × Int)) (a b : Int) : flat (E ++ [(a, b)]) = flat E ++ [a, b] := by simp [flat]
theorem flat_len (E : List (Int × Int)) : (flat E).length = E.length * 2 := by
  induction E with
  | nil => rfl
  | cons e E ih => simp only [flat, List.flatMap_cons, List.length_append, List.length_cons, List.length_nil] at *; omega
theorem mem_flat {E : List (Int × Int)} {x : Int} : x ∈ flat E ↔ ∃ e ∈ E, x = e.1 ∨ x = e.2 := by simp [flat]
/-- What numbers tells. -/
structure NumsIs (E : List (Int × Int)) (nums : List Int) : Prop where
  rise : nums.Pairwise (· < ·)
  just : ∀ x, x ∈ nums ↔ ∃ e ∈ E, x = e.1 ∨ x = e.2
  len : nums.length ≤ E.length * 2
set_option maxHeartbeats 1000000 in
set_option maxRecDepth 100000 in
theorem numbers_any {w : World} {a : Option Addr} {c : Nat} {E : List (Int × Int)} (hE : EdgesAt w a E) :
    Calls Try.prog 18 #[.slice a E.length c] w fun e w' => ∃ v nums, e = .returned v ∧ w'.ownsRow w.heap.size 3 1 v nums.length (nums.map icell) ∧ NumsIs E nums ∧ Below w.heap.size w w' := by
  have HE := hide hE
  have hlen := hE.len
  obtain ⟨n, hn⟩ : ∃ n, E.length = n := ⟨_, rfl⟩
  have HN := hide hn
  rw [hn] at hlen ⊢
  clear hn hE
  go_enter Try.func18, Try.ntmps18
  go_wp2
  go_loopw [3, 8] (fun v i wr => ∃ (k : Nat) (A : List Int), k ≤ n ∧ i = .int .i64 k ∧ A = flat (E.take k) ∧ wr.ownsRow w.heap.size 3 1 v A.length (A.map icell) ∧ Below w.heap.size w wr) (fun _ i _ => n - (intOf i).toNat)
  case atStart => exact ⟨0, [], by omega, rfl, by simp [flat], ⟨rfl, .inl ⟨rfl, rfl⟩⟩, Below.refl _ _⟩
  case round =>
    obtain ⟨k, A, hk, rfl, hA, hrow, hB⟩ := hrel
    have hAl : A.length = k * 2 := by rw [hA, flat_len, List.length_take, HN.out]; omega
    have HA := hide hA
    clear hA
    by_cases hlt : k < n
    · obtain ⟨⟨p, q⟩, hx⟩ : ∃ x, E[k]? = some x := ⟨_, List.getElem?_eq_getElem (by rw [HN.out]; exact hlt)⟩
      obtain ⟨b, o, hab, hbl, hrg⟩ := HE.out.at' k _ hx
      subst hab
      have HRG : Hid (wr.rangeAt b (o + k * 2) [.int .i64 p, .int .i64 q]) := fun j v hv => (hB.cell (p := ⟨b, o + k * 2 + j, none⟩) hbl).trans (hrg j v hv)
      have HTK : Hid (E.take (k + 1) = E.take k ++ [(p, q)]) := take_snoc hx
      have HB := hide hB
      have HROW := hide hrow
      have HAL := hide hAl
      clear hB hrow hrg hx hAl
      go_upto_region 5 with (refine wpList_load_mid rfl 24 _ rfl b (o + k * 2) rfl [.int .i64 p, .int .i64 q] _ HRG.out Try.underlying24 rfl Try.size24 ?_)
      generalize hx1 : wr.alloc _ = x1
      have hGx : x1.heap[wr.heap.size]? = some (.cells #[.int .i64 p, .int .i64 q] 24 (0, 0)) := by rw [← hx1]; exact heap_alloc_new _ _
      have hBx : Below wr.heap.size wr x1 := by rw [← hx1]; exact (Below.refl _ _).alloc (Nat.le_refl _) _
      have HRX := hide (owns_below HROW.out hBx (Nat.le_refl _))
      have HBX : Hid (Below w.heap.size w x1) := HB.out.trans (hBx.mono HB.out.size)
      clear hx1 hBx HRG HB HROW
      generalize wr.heap.size = g at *
      have c0 : x1.cell? ⟨g, 0, none⟩ = some (.int .i64 p) := by rw [cell_row hGx]; rfl
      have c1 : x1.cell? ⟨g, 1, none⟩ = some (.int .i64 q) := by rw [cell_row hGx]; rfl
      clear hGx
      have HR2 := hide (row_new x1 3 [.int .i64 p, .int .i64 q] 2 (by omega))
      have HB2 : Hid (Below w.heap.size w (x1.alloc (.cells #[.int .i64 p, .int .i64 q] 3))) := HBX.out.trans ((Below.refl _ x1).alloc HBX.out.size _)
      have HO2 : Hid ((x1.alloc (.cells #[.int .i64 p, .int .i64 q] 3)).ownsRow w.heap.size 3 1 u3 A.length (A.map icell)) := owns_below HRX.out ((Below.refl _ x1).alloc (Nat.le_refl _) _) (Nat.le_refl _)
      go_wp2_with (refine wpList_append_row rfl (.tmp 12) (.tmp 17) 29 rfl w.heap.size 3 (.int .i64 0) 1 8 Try.underlying29 Try.info3 rfl (by omega) _ _ _ _ 2 _ rfl rfl HO2.out HR2.out rfl (by simp [Value.oneCell']) (by have := HAL.out; omega) (by have := HAL.out; omega) HB2.out.size ?_; intro v7 w7 ho7 hg7)
      go_roundw
      case rel =>
        refine ⟨k + 1, A ++ [p, q], by omega, by go_num, by rw [HTK.out, flat_snoc, HA.out], ?_, HB2.out.grown hg7 HB2.out.size (fun k hk => (HO2.out.lt k hk).1)⟩
        have : (A ++ [p, q]).map icell = A.map icell ++ [.int .i64 p, .int .i64 q] := by simp [icell]
        rw [this, List.length_append]
        exact ho7
      case measure => simp [intOf]; omega
    · have hkn : k = n := by omega
      have HF : Hid (A = flat E) := by
        show _ = _
        rw [HA.out, List.take_of_length_le (by rw [HN.out]; omega)]
      have HAL := hide hAl
      have HS1 := hide (sortI_any hrow (by omega))
      have HB := hide hB
      have HOB : Hid (∀ k, u3.ownBlock = some k → w.heap.size ≤ k) := fun k hk => (hrow.lt k hk).1
      clear hrow hB hAl hkn
      go_wp2_with (first
        | (go_at_call 27; refine HS1.out.mono ?_; rintro e x4 ⟨rfl, hr4, hg4⟩; have HC := hide (compI_any hr4 (by rw [List.length_mergeSort]; have := HAL.out; omega)))
        | (go_at_call 28; refine HC.out.mono ?_; rintro e x5 ⟨v5, rfl, hr5, hg5⟩))
      go_ret
      obtain ⟨u1, u2, u3'⟩ := uniq_spec A
      refine ⟨v5, _, rfl, hr5, ⟨u1, fun x => (u2 x).trans (by rw [HF.out]; exact mem_flat), ?_⟩, ?_⟩
      · have hl : A.length = E.length * 2 := by rw [HF.out, flat_len]
        omega
      · exact (HB.out.grown hg4 HB.out.size HOB.out).grown hg5 (Nat.le_trans HB.out.size hg4.size) HOB.out
end Go.Proofs.Ytaoghggbcbpapaa
