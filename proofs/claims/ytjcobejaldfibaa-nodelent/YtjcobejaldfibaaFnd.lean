/- Find. -/
import Derived.Test.YtjcobejaldfibaaSnd
namespace Go.Proofs.Ytjcobejaldfibaa
open Go.RowKit
set_option linter.unusedVariables false
set_option linter.unusedSimpArgs false

def plc (L : List (List UInt8)) (K : List UInt8) : Nat := L.findIdx (fun a => !blt a K)
def hasK (L : List (List UInt8)) (K : List UInt8) : Bool := decide (plc L K < L.length) && decide (L.getD (plc L K) [] = K)
theorem plc_at {L : List (List UInt8)} {K : List UInt8} {k : Nat} (hk : k < L.length) (h1 : ∀ j, j < k → blt (L.getD j []) K = true) (h2 : blt (L.getD k []) K = false) : plc L K = k ∧ hasK L K = decide (L.getD k [] = K) := by
  have e : plc L K = k := by
    unfold plc
    rw [List.findIdx_eq hk]
    refine ⟨?_, fun j hj => ?_⟩
    · have : L.getD k [] = L[k] := by simp [hk]
      rw [← this, h2]
      rfl
    · have hl : j < L.length := by omega
      have : L.getD j [] = L[j] := by simp [hl]
      rw [← this, h1 j hj]
      rfl
  refine ⟨e, ?_⟩
  unfold hasK
  rw [e, decide_eq_true hk]
  rfl
theorem plc_end {L : List (List UInt8)} {K : List UInt8} (h : ∀ j, j < L.length → blt (L.getD j []) K = true) : plc L K = L.length ∧ hasK L K = false := by
  have e : plc L K = L.length := by
    unfold plc
    rw [List.findIdx_eq_length]
    intro x hx
    obtain ⟨j, hj, rfl⟩ := List.getElem_of_mem hx
    have : L.getD j [] = L[j] := by simp [hj]
    rw [← this, h j hj]
    rfl
  refine ⟨e, ?_⟩
  unfold hasK
  rw [e, decide_eq_false (Nat.lt_irrefl _)]
  rfl
theorem cmp_val3 (a b : List UInt8) : Lib.compareBytes a b = -1 ∧ blt a b = true ∨ Lib.compareBytes a b = 0 ∧ blt a b = false ∧ a = b ∨ Lib.compareBytes a b = 1 ∧ blt a b = false ∧ ¬ a = b := by
  rw [cmp_blt]
  cases h : blt a b with
  | true => simp
  | false => by_cases e : a = b <;> simp [e]
set_option maxHeartbeats 1000000 in
set_option maxRecDepth 100000 in
theorem find_any {w : World} {N : Nd} {vk vv vi kv : Value} {K : List UInt8} (h : NdAt w N vk vv vi) (hf : Fits N) (hk : Sl w kv K) :
    Calls Try.prog 21 #[.agg #[.bool N.leaf, vk, vv, vi, .int .i64 N.next], kv] w fun e w' => e = .returned (.tuple #[.int .i64 (plc N.keys K : Int), .bool (hasK N.keys K)]) ∧ Below w.heap.size w w' := by
  obtain ⟨ak, ck, rfl, _, _⟩ := h.keys.len
  obtain ⟨av, cv, rfl, _, _⟩ := h.vals.len
  obtain ⟨ai, ci, rfl, _, _⟩ := h.kids.len
  have hnk3 := hf.keys
  have HB : Hid (Below w.heap.size w (w.alloc (.cells #[.bool N.leaf, .slice ak N.keys.length ck, .slice av N.vals.length cv, .slice ai N.kids.length ci, .int .i64 N.next] 26))) := (Below.refl _ _).alloc (Nat.le_refl _) _
  have HX : Hid (Box 26 (w.alloc (.cells #[.bool N.leaf, .slice ak N.keys.length ck, .slice av N.vals.length cv, .slice ai N.kids.length ci, .int .i64 N.next] 26)) w.heap.size (.bool N.leaf) (.slice ak N.keys.length ck) (.slice av N.vals.length cv) (.slice ai N.kids.length ci) (.int .i64 N.next)) := Box.new _ _ _ _ _ _
  have HK := hide (h.keys.belowW HB.out)
  have HV := hide (hk.belowW HB.out)
  obtain ⟨u1, u2, rfl, _, _⟩ := hk.len
  have HAT : Hid (∀ k, k < N.keys.length → (∀ j, j < k → blt (N.keys.getD j []) K = true) → blt (N.keys.getD k []) K = false → plc N.keys K = k ∧ hasK N.keys K = decide (N.keys.getD k [] = K)) := fun k h1 h2 h3 => plc_at h1 h2 h3
  have HEN : Hid ((∀ j, j < N.keys.length → blt (N.keys.getD j []) K = true) → plc N.keys K = N.keys.length ∧ hasK N.keys K = false) := plc_end
  generalize plc N.keys K = pp at *
  generalize hasK N.keys K = hh at *
  clear h hf hk
  generalize hnk : N.keys.length = nk at *
  have HNK := hide hnk
  clear hnk
  generalize N.vals.length = nv at *
  generalize N.kids.length = ni at *
  generalize N.leaf = lf at *
  generalize N.next = x at *
  go_enter Try.func21, Try.ntmps21
  go_upto_region 1 with fail
  generalize (w.alloc (.cells #[.bool lf, .slice ak nk ck, .slice av nv cv, .slice ai ni ci, .int .i64 x] 26)) = W0 at *
  obtain ⟨k0, k1, k2, k3, k4, f0, f1, f2, f3, f4⟩ := HX.out.cells
  go_wp2
  go_loopw [12] (fun i wr => ∃ k : Nat, k ≤ nk ∧ i = .int .i64 (k : Int) ∧ wr = W0 ∧ Hid (∀ j, j < k → blt (N.keys.getD j []) K = true)) (fun i _ => nk - (intOf i).toNat)
  case atStart => exact ⟨0, by omega, rfl, rfl, fun j hj => by omega⟩
  case round =>
    obtain ⟨k, hk, rfl, rfl, HO⟩ := hrel
    by_cases hlt : k < nk
    · obtain ⟨g, o, a, d, hao, hc, hs1, hd1, hd2⟩ := HK.out.get k (by rw [HNK.out]; exact hlt)
      subst hao
      have HC := hide (compare_any hs1 HV.out)
      have hcv := cmp_val3 (N.keys.getD k []) K
      have HAK := hide (HAT.out k hlt HO.out)
      have HOS : Hid (blt (N.keys.getD k []) K = true → ∀ j, j < k + 1 → blt (N.keys.getD j []) K = true) := fun hb j hj => by
        by_cases e : j = k
        · rw [e]; exact hb
        · exact HO.out j (by omega)
      clear hs1
      generalize blt (N.keys.getD k []) K = bb at *
      generalize Lib.compareBytes (N.keys.getD k []) K = cm at *
      generalize N.keys.getD k [] = Q at *
      generalize Q.length = ql at *
      go_wp2_with fail
      refine HC.out.mono ?_
      rintro e W2 ⟨rfl, rfl⟩
      rcases hcv with ⟨rfl, rfl⟩ | ⟨rfl, rfl, hqk⟩ | ⟨rfl, rfl, hqk⟩
      · go_wp2
        go_roundw
        case rel => exact ⟨k + 1, by omega, by go_num, trivial, HOS.out trivial⟩
        case measure => simp [intOf]; omega
      · obtain ⟨e1, e2⟩ := HAK.out rfl
        rw [decide_eq_true hqk] at e2
        subst e1 e2
        clear hqk
        go_wp2
        go_ret2
        exact ⟨rfl, HB.out⟩
      · obtain ⟨e1, e2⟩ := HAK.out rfl
        rw [decide_eq_false hqk] at e2
        subst e1 e2
        clear hqk
        go_wp2
        go_ret2
        exact ⟨rfl, HB.out⟩
    · have hkL : k = nk := by omega
      subst hkL
      obtain ⟨e1, e2⟩ := HEN.out HO.out
      subst e1 e2
      go_wp2
      go_ret2
      exact ⟨rfl, HB.out⟩
end Go.Proofs.Ytjcobejaldfibaa
