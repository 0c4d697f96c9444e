/- Two lists of ints that are the same; wants as the document's. -/
import Derived.Test.YtffjdjbjkjefoaaRho
import Derived.Test.YtffjdjbjkjefoaaRgo
import Derived.Test.YtffjdjbjkjefoaaHel
namespace Go.Proofs.Ytffjdjbjkjefoaa
open Go.RowKit Go.WideAt
set_option linter.unusedVariables false
set_option linter.unusedSimpArgs false

theorem run_index27o (w : World) (g o n cap i : Nat) (h : i < n) : (Instr.indexAt 27 (.slice (some ⟨g, o, none⟩) n cap) (.int .i64 (i : Int))).run Try.prog w = .ok (.pointer (some ⟨g, o + i, none⟩)) w := by
  have hu := Try.underlying27
  have hs := Try.sizeOf3
  simp [go_sem, hu, hs, h]
theorem Wl.of_row {w : World} {base e : Nat} {ao : Option Addr} {n c : Nat} {L : List (List UInt8 × Int)} (h : w.ownsRow base e 2 (.slice ao n c) L.length (flatW L)) : Wl w ao L := fun i x hx => by
  obtain ⟨ao', c', e, h1, h2, h3⟩ := Row.of_owns h
  injection e with e1 e2 e3
  subst e1
  obtain ⟨p, q⟩ := flatW_at L i x hx
  obtain ⟨g, o, ea, hr⟩ := h3 (fun h0 => by rw [h0] at p; simp at p)
  exact ⟨g, o, ea, hr _ _ p, by have := hr _ _ q; rwa [← Nat.add_assoc] at this⟩
theorem Try.info50 : (Try.prog.info? 50).map (fun i => (i.zero, i.size, i.bytes)) = some (some (.agg #[.string ⟨#[]⟩, .int .i64 0]), 2, 24) := by kernel_rfl
theorem op_build50 (ρ : Operand → Value) (o : Oper) (x y : Operand) (ho : o.op = .build 50 #[(0, x), (1, y)]) (s : ByteArray) (n : Int) (hx : ρ x = .string s) (hy : ρ y = .int .i64 n) {w : World} : (execOp ρ o).run Try.prog w = .ok (.value (.agg #[.string s, .int .i64 n])) w := by
  unfold execOp
  simp only [ho, hx, hy]
  simp [hx, hy]
  kernel_rfl
theorem build45 (x : ByteArray) (n : Int) (w : World) : (Instr.buildSlice 45 1 #[(0, .agg #[.string x, .int .i64 n])]).run Try.prog w = .ok (.slice (some ⟨w.heap.size, 0, none⟩) 1 1) (w.alloc (.cells #[.string x, .int .i64 n] 50)) := by kernel_rfl
set_option maxRecDepth 100000 in
set_option maxHeartbeats 2000000 in
theorem ints_same {w : World} {va vb : Value} {A : List Int} (ha : Row w va A.length (A.map icell)) (hb : Row w vb A.length (A.map icell)) (hl : A.length ≤ 1000000000000) :
    Calls Try.prog 21 #[va, vb] w fun e w' => e = .returned (.bool true) ∧ Below w.heap.size w w' := by
  obtain ⟨a, c, rfl, hca⟩ := int_cells ha
  obtain ⟨b, d, rfl, hcb⟩ := int_cells hb
  have HA := hide hca
  have HB := hide hcb
  obtain ⟨n, hn⟩ : ∃ n, A.length = n := ⟨_, rfl⟩
  have HN := hide hn
  rw [hn] at hl ⊢
  clear ha hb hca hcb hn
  go_enter Try.func21, Try.ntmps21
  go_upto_region 4 with fail
  go_loopw [5] (fun i wr => ∃ k : Nat, k ≤ n ∧ i = .int .i64 (k : Int) ∧ Below w.heap.size w wr) (fun i _ => n - (intOf i).toNat)
  case atStart => exact ⟨0, by omega, rfl, Below.refl _ _⟩
  case round =>
    obtain ⟨k, hk, rfl, hBB⟩ := hrel
    have HW := hide hBB
    clear hBB
    by_cases hlt : k < n
    · have i1 : (k : Int) < (n : Int) := by omega
      obtain ⟨x, hx⟩ : ∃ x, A[k]? = some x := ⟨_, List.getElem?_eq_getElem (by rw [HN.out]; exact hlt)⟩
      obtain ⟨g, o, hao, _, d1⟩ := HA.out k x hx
      obtain ⟨q, p, hbo, _, d2⟩ := HB.out k x hx
      subst hao hbo
      have HX := hide (fun W (hW : Below w.heap.size w W) => (hW.cell (p := ⟨g, o + k, none⟩) (World.block_lt_of_cell? _ _ d1)).trans d1)
      have HY := hide (fun W (hW : Below w.heap.size w W) => (hW.cell (p := ⟨q, p + k, none⟩) (World.block_lt_of_cell? _ _ d2)).trans d2)
      have HK := hide hlt
      clear hx d1 d2
      go_upto_region 6 with fail
      have hd : Below w.heap.size w wr.drew := HW.out.trans (below_drewN _ _ 1)
      refine wp_region_held_drew (S := fun W => Below w.heap.size w W) (by kernel_rfl) hd (fun hH => ?_)
      refine take_to 0 17 (.slice (some ⟨g, o, none⟩) n c) rfl (by kernel_rfl) (by kernel_rfl) (by kernel_rfl) (fun _ _ _ h => h) rfl (by rfl) (fun w hw => by rfl) hH ?_
      simp only [Act.put, List.setIfInBounds_toArray, List.set_cons_zero, List.set_cons_succ]
      refine take_to 1 18 (.int .i64 (k : Int)) rfl (by kernel_rfl) (by kernel_rfl) (by kernel_rfl) (fun _ _ _ h => h) rfl (by rfl) (fun w hw => by rfl) hH ?_
      simp only [Act.put, List.setIfInBounds_toArray, List.set_cons_zero, List.set_cons_succ]
      refine take_to 2 19 (.pointer (some ⟨g, o + k, none⟩)) rfl (by kernel_rfl) (by kernel_rfl) (by kernel_rfl) (fun _ _ _ h => h) rfl (by rfl) (fun w hw => op_index _ _ 27 (.tmp 17) (.tmp 18) rfl (.slice (some ⟨g, o, none⟩) n c) (.int .i64 (k : Int)) _ rfl rfl (run_index27o w _ _ _ _ _ HK.out)) hH ?_
      simp only [Act.put, List.setIfInBounds_toArray, List.set_cons_zero, List.set_cons_succ]
      refine take_to 3 20 (.int .i64 x) rfl (by kernel_rfl) (by kernel_rfl) (by kernel_rfl) (fun _ _ _ h => h) rfl (by rfl) (fun w hw => op_load _ _ 3 (.tmp 19) rfl (.pointer (some ⟨g, o + k, none⟩)) _ rfl (run_loadAny w _ _ 3 _ Try.isAgg3 (HX.out w hw))) hH ?_
      simp only [Act.put, List.setIfInBounds_toArray, List.set_cons_zero, List.set_cons_succ]
      refine take_to 4 21 (.slice (some ⟨q, p, none⟩) n d) rfl (by kernel_rfl) (by kernel_rfl) (by kernel_rfl) (fun _ _ _ h => h) rfl (by rfl) (fun w hw => by rfl) hH ?_
      simp only [Act.put, List.setIfInBounds_toArray, List.set_cons_zero, List.set_cons_succ]
      refine take_to 5 22 (.int .i64 (k : Int)) rfl (by kernel_rfl) (by kernel_rfl) (by kernel_rfl) (fun _ _ _ h => h) rfl (by rfl) (fun w hw => by rfl) hH ?_
      simp only [Act.put, List.setIfInBounds_toArray, List.set_cons_zero, List.set_cons_succ]
      refine take_to 6 23 (.pointer (some ⟨q, p + k, none⟩)) rfl (by kernel_rfl) (by kernel_rfl) (by kernel_rfl) (fun _ _ _ h => h) rfl (by rfl) (fun w hw => op_index _ _ 27 (.tmp 21) (.tmp 22) rfl (.slice (some ⟨q, p, none⟩) n d) (.int .i64 (k : Int)) _ rfl rfl (run_index27o w _ _ _ _ _ HK.out)) hH ?_
      simp only [Act.put, List.setIfInBounds_toArray, List.set_cons_zero, List.set_cons_succ]
      refine take_to 7 24 (.int .i64 x) rfl (by kernel_rfl) (by kernel_rfl) (by kernel_rfl) (fun _ _ _ h => h) rfl (by rfl) (fun w hw => op_load _ _ 3 (.tmp 23) rfl (.pointer (some ⟨q, p + k, none⟩)) _ rfl (run_loadAny w _ _ 3 _ Try.isAgg3 (HY.out w hw))) hH ?_
      simp only [Act.put, List.setIfInBounds_toArray, List.set_cons_zero, List.set_cons_succ]
      refine take_to 8 25 (.bool false) rfl (by kernel_rfl) (by kernel_rfl) (by kernel_rfl) (fun _ _ _ h => h) rfl (by rfl) (fun w hw => op_neq3 _ _ (.tmp 20) (.tmp 24) _ rfl x x rfl rfl false (by simp)) hH ?_
      simp only [Act.put, List.setIfInBounds_toArray, List.set_cons_zero, List.set_cons_succ]
      refine wpAnyH_done (by kernel_rfl) ?_ _
      have HE := hide hH
      clear hH hd
      go_wp2
      refine ⟨⟨k + 1, by omega, by go_num, HE.out⟩, ?_⟩
      simp [intOf]
      omega
    · obtain rfl : k = n := by omega
      go_wp2
      go_ret
      exact ⟨rfl, HW.out⟩
set_option maxRecDepth 100000 in
set_option maxHeartbeats 2000000 in
theorem to_any {w : World} {ao : Option Addr} {c : Nat} {L : List (List UInt8 × Int)} (h : Wl w ao L) (hl : L.length ≤ 1000000000) :
    Calls Try.prog 20 #[.slice ao L.length c] w fun e w' => ∃ ap d, e = .returned (.slice ap L.length d) ∧ Wl w' ap L ∧ Below w.heap.size w w' := by
  have HL := hide h
  obtain ⟨n, hn⟩ : ∃ n, L.length = n := ⟨_, rfl⟩
  have HN := hide hn
  rw [hn] at hl ⊢
  clear h hn
  go_enter Try.func20, Try.ntmps20
  go_upto_region 3 with fail
  go_loopw [3, 4] (fun v i wr => ∃ k : Nat, k ≤ n ∧ i = .int .i64 (k : Int) ∧ wr.ownsRow w.heap.size 50 2 v k (flatW (L.take k)) ∧ Below w.heap.size w wr) (fun _ i _ => n - (intOf i).toNat)
  case atStart => exact ⟨0, by omega, rfl, ⟨rfl, .inl ⟨rfl, rfl⟩⟩, Below.refl _ _⟩
  case round =>
    obtain ⟨k, hk, rfl, hr, hBB⟩ := hrel
    have HRW := hide hr
    have HW := hide hBB
    clear hBB hr
    by_cases hlt : k < n
    · have i1 : (k : Int) < (n : Int) := by omega
      obtain ⟨x, hx⟩ : ∃ x, L[k]? = some x := ⟨_, List.getElem?_eq_getElem (by rw [HN.out]; exact hlt)⟩
      obtain ⟨g, o, hao, d1, d2⟩ := HL.out k x hx
      subst hao
      have HX := hide (fun W (hW : Below w.heap.size w W) => (hW.cell (p := ⟨g, o + k * 2, none⟩) (World.block_lt_of_cell? _ _ d1)).trans d1)
      have HY := hide (fun W (hW : Below w.heap.size w W) => (hW.cell (p := ⟨g, o + k * 2 + 1, none⟩) (World.block_lt_of_cell? _ _ d2)).trans d2)
      have HK := hide hlt
      have HTK := hide (take_snoc hx)
      clear hx d1 d2
      obtain ⟨s, md⟩ := x
      change Hid (∀ W, Below w.heap.size w W → W.cell? ⟨g, o + k * 2, none⟩ = some (scell s)) at HX
      change Hid (∀ W, Below w.heap.size w W → W.cell? ⟨g, o + k * 2 + 1, none⟩ = some (.int .i64 md)) at HY
      go_upto_region 5 with fail
      have hd : Below w.heap.size w wr.drew := HW.out.trans (below_drewN _ _ 1)
      refine wp_region_held_drew (S := fun W => Below w.heap.size w W) (by kernel_rfl) hd (fun hH => ?_)
      refine take_to 0 11 (u3) rfl (by kernel_rfl) (by kernel_rfl) (by kernel_rfl) (fun _ _ _ h => h) rfl (by rfl) (fun w hw => by rfl) hH ?_
      simp only [Act.put, List.setIfInBounds_toArray, List.set_cons_zero, List.set_cons_succ]
      refine take_to 1 12 (.slice (some ⟨g, o, none⟩) n c) rfl (by kernel_rfl) (by kernel_rfl) (by kernel_rfl) (fun _ _ _ h => h) rfl (by rfl) (fun w hw => by rfl) hH ?_
      simp only [Act.put, List.setIfInBounds_toArray, List.set_cons_zero, List.set_cons_succ]
      refine take_to 2 13 (.int .i64 (k : Int)) rfl (by kernel_rfl) (by kernel_rfl) (by kernel_rfl) (fun _ _ _ h => h) rfl (by rfl) (fun w hw => by rfl) hH ?_
      simp only [Act.put, List.setIfInBounds_toArray, List.set_cons_zero, List.set_cons_succ]
      refine take_to 3 14 (.pointer (some ⟨g, o + k * 2, none⟩)) rfl (by kernel_rfl) (by kernel_rfl) (by kernel_rfl) (fun _ _ _ h => h) rfl (by rfl) (fun w hw => op_index _ _ 22 (.tmp 12) (.tmp 13) rfl (.slice (some ⟨g, o, none⟩) n c) (.int .i64 (k : Int)) _ rfl rfl (run_index22 w _ _ _ _ _ HK.out)) hH ?_
      simp only [Act.put, List.setIfInBounds_toArray, List.set_cons_zero, List.set_cons_succ]
      refine take_to 4 15 (.pointer (some ⟨g, o + k * 2, none⟩)) rfl (by kernel_rfl) (by kernel_rfl) (by kernel_rfl) (fun _ _ _ h => h) rfl (by rfl) (fun w hw => by rfl) hH ?_
      simp only [Act.put, List.setIfInBounds_toArray, List.set_cons_zero, List.set_cons_succ]
      refine take_to 5 16 (scell s) rfl (by kernel_rfl) (by kernel_rfl) (by kernel_rfl) (fun _ _ _ h => h) rfl (by rfl) (fun w hw => op_load _ _ 9 (.tmp 15) rfl (.pointer (some ⟨g, o + k * 2, none⟩)) _ rfl (run_loadAny w _ _ 9 _ Try.isAgg9 (HX.out w hw))) hH ?_
      simp only [Act.put, List.setIfInBounds_toArray, List.set_cons_zero, List.set_cons_succ]
      refine take_to 6 17 (.slice (some ⟨g, o, none⟩) n c) rfl (by kernel_rfl) (by kernel_rfl) (by kernel_rfl) (fun _ _ _ h => h) rfl (by rfl) (fun w hw => by rfl) hH ?_
      simp only [Act.put, List.setIfInBounds_toArray, List.set_cons_zero, List.set_cons_succ]
      refine take_to 7 18 (.int .i64 (k : Int)) rfl (by kernel_rfl) (by kernel_rfl) (by kernel_rfl) (fun _ _ _ h => h) rfl (by rfl) (fun w hw => by rfl) hH ?_
      simp only [Act.put, List.setIfInBounds_toArray, List.set_cons_zero, List.set_cons_succ]
      refine take_to 8 19 (.pointer (some ⟨g, o + k * 2, none⟩)) rfl (by kernel_rfl) (by kernel_rfl) (by kernel_rfl) (fun _ _ _ h => h) rfl (by rfl) (fun w hw => op_index _ _ 22 (.tmp 17) (.tmp 18) rfl (.slice (some ⟨g, o, none⟩) n c) (.int .i64 (k : Int)) _ rfl rfl (run_index22 w _ _ _ _ _ HK.out)) hH ?_
      simp only [Act.put, List.setIfInBounds_toArray, List.set_cons_zero, List.set_cons_succ]
      refine take_to 9 20 (.pointer (some ⟨g, o + k * 2 + 1, none⟩)) rfl (by kernel_rfl) (by kernel_rfl) (by kernel_rfl) (fun _ _ _ h => h) rfl (by rfl) (fun w hw => by rfl) hH ?_
      simp only [Act.put, List.setIfInBounds_toArray, List.set_cons_zero, List.set_cons_succ]
      refine take_to 10 21 (.int .i64 md) rfl (by kernel_rfl) (by kernel_rfl) (by kernel_rfl) (fun _ _ _ h => h) rfl (by rfl) (fun w hw => op_load _ _ 3 (.tmp 20) rfl (.pointer (some ⟨g, o + k * 2 + 1, none⟩)) _ rfl (run_loadAny w _ _ 3 _ Try.isAgg3 (HY.out w hw))) hH ?_
      simp only [Act.put, List.setIfInBounds_toArray, List.set_cons_zero, List.set_cons_succ]
      refine take_to 11 22 (.agg #[.string (strOf s), .int .i64 md]) rfl (by kernel_rfl) (by kernel_rfl) (by kernel_rfl) (fun _ _ _ h => h) rfl (by rfl) (fun w hw => op_build50 _ _ (.tmp 16) (.tmp 21) rfl (strOf s) md rfl rfl) hH ?_
      simp only [Act.put, List.setIfInBounds_toArray, List.set_cons_zero, List.set_cons_succ]
      have hR2 : wr.drew.ownsRow w.heap.size 50 2 u3 k (flatW (L.take k)) := owns_below HRW.out (below_drewN _ _ 1) (Nat.le_refl _)
      generalize wr.drew = w3 at *
      have hbs := build45 (strOf s) md w3
      obtain ⟨w4, hw4⟩ : ∃ w4, w3.alloc (.cells #[.string (strOf s), .int .i64 md] 50) = w4 := ⟨_, rfl⟩
      have hb4 : Below w3.heap.size w3 w4 := by rw [← hw4]; exact (Below.refl _ _).alloc (Nat.le_refl _) _
      have hnew : w4.heap[w3.heap.size]? = some (.cells #[.string (strOf s), .int .i64 md] 50 (0, 0)) := by rw [← hw4]; exact heap_alloc_new _ _
      rw [hw4] at hbs
      have hB4 : Below w.heap.size w w4 := hd.trans (hb4.mono hd.size)
      have hR4 : w4.ownsRow w.heap.size 50 2 u3 k (flatW (L.take k)) := owns_below hR2 hb4 (Nat.le_refl _)
      have hrw : Row w4 (.slice (some ⟨w3.heap.size, 0, none⟩) 1 1) 1 [.string (strOf s), .int .i64 md] := ⟨_, 1, rfl, Nat.le_refl _, by simp only [maxLen]; omega, fun _ => ⟨w3.heap.size, 0, rfl, fun j u hu => by rw [Nat.zero_add, cell_row hnew]; simpa using hu⟩⟩
      refine step_to 12 23 (.slice (some ⟨w3.heap.size, 0, none⟩) 1 1) w4 rfl (by kernel_rfl) rfl (by rfl) (op_bslice _ _ 45 (.tmp 22) rfl _ _ rfl hbs) hB4 ?_
      simp only [Act.put, List.setIfInBounds_toArray, List.set_cons_zero, List.set_cons_succ]
      obtain ⟨v5, w5, a1, a2, a3⟩ := run_append_row (P := Try.prog) w4 w.heap.size 45 45 50 _ 2 24 Try.underlying45 Try.info50 rfl (by omega) u3 k _ hR4 _ 1 _ hrw rfl (by simp [Value.oneCell']) (by omega) (by omega) hB4.size
      have hB5 : Below w.heap.size w w5 := hB4.grown a3 hB4.size (fun j e => (hR4.lt j e).1)
      refine step_to 13 24 v5 w5 rfl (by kernel_rfl) rfl (by rfl) (op_append _ _ (.tmp 11) (.tmp 23) 45 rfl _ _ _ rfl rfl a1) hB5 ?_
      simp only [Act.put, List.setIfInBounds_toArray, List.set_cons_zero, List.set_cons_succ]
      refine step_to 14 3 v5 w5 rfl (by kernel_rfl) rfl (by rfl) (by rfl) hB5 ?_
      simp only [Act.put, List.setIfInBounds_toArray, List.set_cons_zero, List.set_cons_succ]
      refine wpAnyH_done (by kernel_rfl) ?_ _
      have HE := hide hB5
      have HR5 := hide a2
      clear hH hd hR2 hbs hw4 hb4 hnew hB4 hR4 hrw a1 a2 a3 hB5
      go_wp2
      refine ⟨⟨k + 1, by omega, by go_num, by rw [HTK.out, flatW_snoc]; exact HR5.out, HE.out⟩, ?_⟩
      simp [intOf]
      omega
    · obtain rfl : k = n := by omega
      have hd : L.take k = L := List.take_of_length_le (by rw [HN.out]; exact Nat.le_refl _)
      rw [hd] at HRW
      obtain ⟨ap, d, rfl⟩ := owns_len HRW.out
      go_wp2
      go_ret
      exact ⟨ap, d, rfl, Wl.of_row (by rw [HN.out]; exact HRW.out), HW.out⟩
end Go.Proofs.Ytffjdjbjkjefoaa
