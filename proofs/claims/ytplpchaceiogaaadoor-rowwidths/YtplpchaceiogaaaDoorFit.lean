/- fits: whether a value may stand in a column. -/
import Derived.Test.YtplpchaceiogaaaDoorTab
namespace Go.Proofs.YtplpchaceiogaaaDoor
open Go.RowKit
set_option linter.unusedVariables false
set_option linter.unusedSimpArgs false
set_option maxRecDepth 100000

set_option maxHeartbeats 4000000 in
theorem fit32 (C : Cl) (ix : Bool) (V : Vl) (w : World) : Calls Tryd.prog 32 #[clV C, .bool ix, valOf V] w fun e w' => e = .returned (.int .i64 (fitE C ix V)) ∧ Below w.heap.size w w' := by
  have hbel : Below w.heap.size w ((w.alloc (.cells #[.string (strOf C.nm), .int .i64 C.ty, .bool C.nn, .bool C.un] 24)).alloc (.cells #[.int .i64 V.ty, .int .i64 V.n, .string (strOf V.t), .bool V.b] 32)) := ((Below.refl _ w).alloc (Nat.le_refl _) _).alloc (by simp) _
  have HBEL := hide hbel
  have HSZ : Hid ((strOf V.t).size = V.t.length) := by simp [Hid, strOf, ByteArray.size]
  obtain ⟨W, hW⟩ : ∃ W, ((w.alloc (.cells #[.string (strOf C.nm), .int .i64 C.ty, .bool C.nn, .bool C.un] 24)).alloc (.cells #[.int .i64 V.ty, .int .i64 V.n, .string (strOf V.t), .bool V.b] 32)) = W := ⟨_, rfl⟩
  have h1 : W.heap[w.heap.size]? = some (.cells #[.string (strOf C.nm), .int .i64 C.ty, .bool C.nn, .bool C.un] 24 (0, 0)) := by rw [← hW]; exact first2 _ _ _
  have h2 : W.heap[w.heap.size + 1]? = some (.cells #[.int .i64 V.ty, .int .i64 V.n, .string (strOf V.t), .bool V.b] 32 (0, 0)) := by
    rw [← hW]
    have := heap_alloc_new (w.alloc (.cells #[.string (strOf C.nm), .int .i64 C.ty, .bool C.nn, .bool C.un] 24)) (.cells #[.int .i64 V.ty, .int .i64 V.n, .string (strOf V.t), .bool V.b] 32)
    simpa using this
  rw [hW] at HBEL
  clear hbel
  unfold clV valOf
  obtain ⟨q, hq⟩ : ∃ q, w.heap.size = q := ⟨_, rfl⟩
  have a1 : W.cell? ⟨q, 1, none⟩ = some (.int .i64 C.ty) := by rw [← hq, cell_row h1]; rfl
  have a2 : W.cell? ⟨q, 2, none⟩ = some (.bool C.nn) := by rw [← hq, cell_row h1]; rfl
  have b0 : W.cell? ⟨q + 1, 0, none⟩ = some (.int .i64 V.ty) := by rw [← hq, cell_row h2]; rfl
  have b2 : W.cell? ⟨q + 1, 2, none⟩ = some (.string (strOf V.t)) := by rw [← hq, cell_row h2]; rfl
  have HQ := hide hq
  clear h1 h2
  go_enter Tryd.func32, Tryd.ntmps32
  go_upto_region 1 with fail
  try rw [hW]
  try rw [hq]
  clear hW hq
  by_cases h0 : V.ty = 0
  · cases hn : C.nn
    · have HF : Hid (fitE C ix V = 0) := by simp [Hid, fitE, h0, hn]
      rw [h0] at b0
      rw [hn] at a2
      clear h0 hn
      go_wp2
      go_ret
      rw [HF.out]
      exact ⟨rfl, HBEL.out⟩
    · have HF : Hid (fitE C ix V = 163) := by simp [Hid, fitE, h0, hn]
      rw [h0] at b0
      rw [hn] at a2
      clear h0 hn
      go_wp2
      go_ret
      rw [HF.out]
      exact ⟨rfl, HBEL.out⟩
  · have n0 : (V.ty != 0) = true := by simpa using h0
    have n0' : (V.ty == 0) = false := by simpa using h0
    by_cases hc : V.ty = C.ty
    · have n1 : (V.ty != C.ty) = false := by simpa using hc
      by_cases h2 : V.ty = 2
      · by_cases hl : 40 < V.t.length
        · have n3 : (40 : Int) < ((strOf V.t).size : Int) := by rw [HSZ.out]; omega
          cases ix
          · have HF : Hid (fitE C false V = 0) := by simp [Hid, fitE, h0, hc.symm, h2]
            rw [h2] at b0 n0 n0' n1
            rw [← hc, h2] at a1
            clear h0 hc h2 hl
            go_wp2
            go_ret
            rw [HF.out]
            exact ⟨rfl, HBEL.out⟩
          · have HF : Hid (fitE C true V = 170) := by simp [Hid, fitE, h0, hc.symm, h2, hl]
            rw [h2] at b0 n0 n0' n1
            rw [← hc, h2] at a1
            clear h0 hc h2 hl
            go_wp2
            go_ret
            rw [HF.out]
            exact ⟨rfl, HBEL.out⟩
        · have n3 : ¬ (40 : Int) < ((strOf V.t).size : Int) := by rw [HSZ.out]; omega
          have HF : Hid (fitE C ix V = 0) := by simp [Hid, fitE, h0, hc.symm, h2, hl]
          rw [h2] at b0 n0 n0' n1
          rw [← hc, h2] at a1
          clear h0 hc h2 hl
          go_wp2
          go_ret
          rw [HF.out]
          exact ⟨rfl, HBEL.out⟩
      · have n2 : (V.ty == 2) = false := by simpa using h2
        have HF : Hid (fitE C ix V = 0) := by simp [Hid, fitE, h0, hc.symm, h2]
        rw [← hc] at a1 n1
        generalize V.ty = y at *
        clear h0 hc h2
        go_wp2
        go_ret
        rw [HF.out]
        exact ⟨rfl, HBEL.out⟩
    · have n1 : (V.ty != C.ty) = true := by simpa using hc
      have HF : Hid (fitE C ix V = 160) := by simp [Hid, fitE, h0, hc]
      generalize V.ty = y at *
      generalize C.ty = x at *
      clear h0 hc
      go_wp2
      go_ret
      rw [HF.out]
      exact ⟨rfl, HBEL.out⟩
end Go.Proofs.YtplpchaceiogaaaDoor
