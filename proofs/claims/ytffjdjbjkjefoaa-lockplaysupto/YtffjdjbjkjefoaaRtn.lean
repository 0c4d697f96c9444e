/- to, once more: where its answer lies. -/
import Derived.Test.YtffjdjbjkjefoaaRto
namespace Go.Proofs.Ytffjdjbjkjefoaa
open Go.RowKit Go.WideAt
set_option linter.unusedVariables false
set_option linter.unusedSimpArgs false

set_option maxRecDepth 100000 in
set_option maxHeartbeats 2000000 in
theorem to_new {w : World} {ao : Option Addr} {c : Nat} {L : List (List UInt8 × Int)} (h : Wl w ao L) (hl : L.length ≤ 1000000000) :
    Calls Try.prog 20 #[.slice ao L.length c] w fun e w' => ∃ ap d, e = .returned (.slice ap L.length d) ∧ Wl w' ap L ∧ Below w.heap.size w w' ∧ (∀ q o, ap = some ⟨q, o, none⟩ → w.heap.size ≤ q) := by
  have HL := hide h
  obtain ⟨n, hn⟩ : ∃ n, L.length = n := ⟨_, rfl⟩
  have HN := hide hn
  rw [hn] at hl ⊢
  clear h hn
  go_enter Try.func20, Try.ntmps20
  go_upto_region 3 with fail
  go_loopw [3, 4] (fun v i wr => ∃ k : Nat, k ≤ n ∧ i = .int .i64 (k : Int) ∧ wr.ownsRow w.heap.size 50 2 v k (flatW (L.take k)) ∧ Below w.heap.size w wr) (fun _ i _ => n - (intOf i).toNat)
  case atStart => exact ⟨0, by omega, rfl, ⟨rfl, .inl ⟨rfl, rfl⟩⟩, Below.refl _ _⟩
  case round =>
    obtain ⟨k, hk, rfl, hr, hBB⟩ := hrel
    have HRW := hide hr
    have HW := hide hBB
    clear hBB hr
    by_cases hlt : k < n
    · have i1 : (k : Int) < (n : Int) := by omega
      obtain ⟨x, hx⟩ : ∃ x, L[k]? = some x := ⟨_, List.getElem?_eq_getElem (by rw [HN.out]; exact hlt)⟩
      obtain ⟨g, o, hao, d1, d2⟩ := HL.out k x hx
      subst hao
      have HX := hide (fun W (hW : Below w.heap.size w W) => (hW.cell (p := ⟨g, o + k * 2, none⟩) (World.block_lt_of_cell? _ _ d1)).trans d1)
      have HY := hide (fun W (hW : Below w.heap.size w W) => (hW.cell (p := ⟨g, o + k * 2 + 1, none⟩) (World.block_lt_of_cell? _ _ d2)).trans d2)
      have HK := hide hlt
      have HTK := hide (take_snoc hx)
      clear hx d1 d2
      obtain ⟨s, md⟩ := x
      change Hid (∀ W, Below w.heap.size w W → W.cell? ⟨g, o + k * 2, none⟩ = some (scell s)) at HX
      change Hid (∀ W, Below w.heap.size w W → W.cell? ⟨g, o + k * 2 + 1, none⟩ = some (.int .i64 md)) at HY
      go_upto_region 5 with fail
      have hd : Below w.heap.size w wr.drew := HW.out.trans (below_drewN _ _ 1)
      refine wp_region_held_drew (S := fun W => Below w.heap.size w W) (by kernel_rfl) hd (fun hH => ?_)
      refine take_to 0 11 (u3) rfl (by kernel_rfl) (by kernel_rfl) (by kernel_rfl) (fun _ _ _ h => h) rfl (by rfl) (fun w hw => by rfl) hH ?_
      simp only [Act.put, List.setIfInBounds_toArray, List.set_cons_zero, List.set_cons_succ]
      refine take_to 1 12 (.slice (some ⟨g, o, none⟩) n c) rfl (by kernel_rfl) (by kernel_rfl) (by kernel_rfl) (fun _ _ _ h => h) rfl (by rfl) (fun w hw => by rfl) hH ?_
      simp only [Act.put, List.setIfInBounds_toArray, List.set_cons_zero, List.set_cons_succ]
      refine take_to 2 13 (.int .i64 (k : Int)) rfl (by kernel_rfl) (by kernel_rfl) (by kernel_rfl) (fun _ _ _ h => h) rfl (by rfl) (fun w hw => by rfl) hH ?_
      simp only [Act.put, List.setIfInBounds_toArray, List.set_cons_zero, List.set_cons_succ]
      refine take_to 3 14 (.pointer (some ⟨g, o + k * 2, none⟩)) rfl (by kernel_rfl) (by kernel_rfl) (by kernel_rfl) (fun _ _ _ h => h) rfl (by rfl) (fun w hw => op_index _ _ 22 (.tmp 12) (.tmp 13) rfl (.slice (some ⟨g, o, none⟩) n c) (.int .i64 (k : Int)) _ rfl rfl (run_index22 w _ _ _ _ _ HK.out)) hH ?_
      simp only [Act.put, List.setIfInBounds_toArray, List.set_cons_zero, List.set_cons_succ]
      refine take_to 4 15 (.pointer (some ⟨g, o + k * 2, none⟩)) rfl (by kernel_rfl) (by kernel_rfl) (by kernel_rfl) (fun _ _ _ h => h) rfl (by rfl) (fun w hw => by rfl) hH ?_
      simp only [Act.put, List.setIfInBounds_toArray, List.set_cons_zero, List.set_cons_succ]
      refine take_to 5 16 (scell s) rfl (by kernel_rfl) (by kernel_rfl) (by kernel_rfl) (fun _ _ _ h => h) rfl (by rfl) (fun w hw => op_load _ _ 9 (.tmp 15) rfl (.pointer (some ⟨g, o + k * 2, none⟩)) _ rfl (run_loadAny w _ _ 9 _ Try.isAgg9 (HX.out w hw))) hH ?_
      simp only [Act.put, List.setIfInBounds_toArray, List.set_cons_zero, List.set_cons_succ]
      refine take_to 6 17 (.slice (some ⟨g, o, none⟩) n c) rfl (by kernel_rfl) (by kernel_rfl) (by kernel_rfl) (fun _ _ _ h => h) rfl (by rfl) (fun w hw => by rfl) hH ?_
      simp only [Act.put, List.setIfInBounds_toArray, List.set_cons_zero, List.set_cons_succ]
      refine take_to 7 18 (.int .i64 (k : Int)) rfl (by kernel_rfl) (by kernel_rfl) (by kernel_rfl) (fun _ _ _ h => h) rfl (by rfl) (fun w hw => by rfl) hH ?_
      simp only [Act.put, List.setIfInBounds_toArray, List.set_cons_zero, List.set_cons_succ]
      refine take_to 8 19 (.pointer (some ⟨g, o + k * 2, none⟩)) rfl (by kernel_rfl) (by kernel_rfl) (by kernel_rfl) (fun _ _ _ h => h) rfl (by rfl) (fun w hw => op_index _ _ 22 (.tmp 17) (.tmp 18) rfl (.slice (some ⟨g, o, none⟩) n c) (.int .i64 (k : Int)) _ rfl rfl (run_index22 w _ _ _ _ _ HK.out)) hH ?_
      simp only [Act.put, List.setIfInBounds_toArray, List.set_cons_zero, List.set_cons_succ]
      refine take_to 9 20 (.pointer (some ⟨g, o + k * 2 + 1, none⟩)) rfl (by kernel_rfl) (by kernel_rfl) (by kernel_rfl) (fun _ _ _ h => h) rfl (by rfl) (fun w hw => by rfl) hH ?_
      simp only [Act.put, List.setIfInBounds_toArray, List.set_cons_zero, List.set_cons_succ]
      refine take_to 10 21 (.int .i64 md) rfl (by kernel_rfl) (by kernel_rfl) (by kernel_rfl) (fun _ _ _ h => h) rfl (by rfl) (fun w hw => op_load _ _ 3 (.tmp 20) rfl (.pointer (some ⟨g, o + k * 2 + 1, none⟩)) _ rfl (run_loadAny w _ _ 3 _ Try.isAgg3 (HY.out w hw))) hH ?_
      simp only [Act.put, List.setIfInBounds_toArray, List.set_cons_zero, List.set_cons_succ]
      refine take_to 11 22 (.agg #[.string (strOf s), .int .i64 md]) rfl (by kernel_rfl) (by kernel_rfl) (by kernel_rfl) (fun _ _ _ h => h) rfl (by rfl) (fun w hw => op_build50 _ _ (.tmp 16) (.tmp 21) rfl (strOf s) md rfl rfl) hH ?_
      simp only [Act.put, List.setIfInBounds_toArray, List.set_cons_zero, List.set_cons_succ]
      have hR2 : wr.drew.ownsRow w.heap.size 50 2 u3 k (flatW (L.take k)) := owns_below HRW.out (below_drewN _ _ 1) (Nat.le_refl _)
      generalize wr.drew = w3 at *
      have hbs := build45 (strOf s) md w3
      obtain ⟨w4, hw4⟩ : ∃ w4, w3.alloc (.cells #[.string (strOf s), .int .i64 md] 50) = w4 := ⟨_, rfl⟩
      have hb4 : Below w3.heap.size w3 w4 := by rw [← hw4]; exact (Below.refl _ _).alloc (Nat.le_refl _) _
      have hnew : w4.heap[w3.heap.size]? = some (.cells #[.string (strOf s), .int .i64 md] 50 (0, 0)) := by rw [← hw4]; exact heap_alloc_new _ _
      rw [hw4] at hbs
      have hB4 : Below w.heap.size w w4 := hd.trans (hb4.mono hd.size)
      have hR4 : w4.ownsRow w.heap.size 50 2 u3 k (flatW (L.take k)) := owns_below hR2 hb4 (Nat.le_refl _)
      have hrw : Row w4 (.slice (some ⟨w3.heap.size, 0, none⟩) 1 1) 1 [.string (strOf s), .int .i64 md] := ⟨_, 1, rfl, Nat.le_refl _, by simp only [maxLen]; omega, fun _ => ⟨w3.heap.size, 0, rfl, fun j u hu => by rw [Nat.zero_add, cell_row hnew]; simpa using hu⟩⟩
      refine step_to 12 23 (.slice (some ⟨w3.heap.size, 0, none⟩) 1 1) w4 rfl (by kernel_rfl) rfl (by rfl) (op_bslice _ _ 45 (.tmp 22) rfl _ _ rfl hbs) hB4 ?_
      simp only [Act.put, List.setIfInBounds_toArray, List.set_cons_zero, List.set_cons_succ]
      obtain ⟨v5, w5, a1, a2, a3⟩ := run_append_row (P := Try.prog) w4 w.heap.size 45 45 50 _ 2 24 Try.underlying45 Try.info50 rfl (by omega) u3 k _ hR4 _ 1 _ hrw rfl (by simp [Value.oneCell']) (by omega) (by omega) hB4.size
      have hB5 : Below w.heap.size w w5 := hB4.grown a3 hB4.size (fun j e => (hR4.lt j e).1)
      refine step_to 13 24 v5 w5 rfl (by kernel_rfl) rfl (by rfl) (op_append _ _ (.tmp 11) (.tmp 23) 45 rfl _ _ _ rfl rfl a1) hB5 ?_
      simp only [Act.put, List.setIfInBounds_toArray, List.set_cons_zero, List.set_cons_succ]
      refine step_to 14 3 v5 w5 rfl (by kernel_rfl) rfl (by rfl) (by rfl) hB5 ?_
      simp only [Act.put, List.setIfInBounds_toArray, List.set_cons_zero, List.set_cons_succ]
      refine wpAnyH_done (by kernel_rfl) ?_ _
      have HE := hide hB5
      have HR5 := hide a2
      clear hH hd hR2 hbs hw4 hb4 hnew hB4 hR4 hrw a1 a2 a3 hB5
      go_wp2
      refine ⟨⟨k + 1, by omega, by go_num, by rw [HTK.out, flatW_snoc]; exact HR5.out, HE.out⟩, ?_⟩
      simp [intOf]
      omega
    · obtain rfl : k = n := by omega
      have hd : L.take k = L := List.take_of_length_le (by rw [HN.out]; exact Nat.le_refl _)
      rw [hd] at HRW
      obtain ⟨ap, d, rfl⟩ := owns_len HRW.out
      go_wp2
      go_ret
      exact ⟨ap, d, rfl, Wl.of_row (by rw [HN.out]; exact HRW.out), HW.out, fun q o e => by
        subst e
        rcases own_of HRW.out with ⟨e2, _, _⟩ | ⟨q', cap, cur, e2, h1, _⟩
        · cases e2
        · injection e2 with e3
          injection e3 with e3
          injection e3 with e3
          rw [e3]
          exact h1⟩
end Go.Proofs.Ytffjdjbjkjefoaa
