/- copiedTexts, matched, copied. -/
import Derived.Test.YtjcobejaldfibaaCpy
namespace Go.Proofs.Ytjcobejaldfibaa
open Go.RowKit
set_option linter.unusedVariables false
set_option linter.unusedSimpArgs false

abbrev nilS : Value := .slice none 0 0
theorem made_rep (z : Value) (n : Nat) : madeCells #[z] n = (List.replicate n z).toArray := by
  apply Array.ext'
  simp [madeCells]
  refine List.ext_getElem (by simp) (fun i h1 h2 => ?_)
  simp [Nat.mod_one]
theorem makeT (n : Nat) (hn : 24 * n ≤ 140737488355328) (w : World) : (Instr.makeSlice 22 (.int .i64 (n : Int)) (.int .i64 (n : Int))).run Try.prog w = .ok (.slice (some ⟨w.heap.size, 0, none⟩) n n) (w.alloc (.cells (Array.replicate n nilS) 28)) := by
  have := run_make_row' (P := Try.prog) 22 28 nilS 24 Try.underlying22 Try.info28 rfl .i64 .i64 n (by omega) (by omega) w
  rw [made_rep, List.toArray_replicate] at this
  exact this
theorem set_next (us : List Value) (m : Nat) (v z : Value) : (us ++ List.replicate (m + 1) z).toArray.setIfInBounds us.length v = (us ++ [v] ++ List.replicate m z).toArray := by
  rw [List.replicate_succ]
  simp [List.setIfInBounds_toArray, List.set_append]
theorem getD_take_succ {L : List (List UInt8)} {k : Nat} (h : k < L.length) : L.take (k + 1) = L.take k ++ [L.getD k []] := by
  rw [List.take_succ_eq_append_getElem h]
  simp [h]
set_option maxHeartbeats 2000000 in
theorem copyT_any {w : World} {v : Value} {L : List (List UInt8)} (h : TsAt w v L) (hl : 24 * L.length ≤ 140737488355328) (hk : ∀ k ∈ L, k.length ≤ 140737488355328) :
    Calls Try.prog 48 #[v] w fun e w' => ∃ v', e = .returned v' ∧ Below w.heap.size w w' ∧ TsOwn w.heap.size w' v' L := by
  obtain ⟨ao, c, rfl, hc1, hc2⟩ := h.len
  simp only [maxLen] at hc2
  have H := hide h
  have HK : Hid (∀ k, k < L.length → (L.getD k []).length ≤ 140737488355328) := fun k hkl => hk _ (by simp [hkl])
  have HT : Hid (∀ k, k < L.length → L.take (k + 1) = L.take k ++ [L.getD k []]) := fun k hk => getD_take_succ hk
  have HTL : Hid (L.take L.length = L) := List.take_length
  have hmk : ∀ W, (Instr.makeSlice 22 (.int .i64 (L.length : Int)) (.int .i64 (L.length : Int))).run Try.prog W = .ok (.slice (some ⟨W.heap.size, 0, none⟩) L.length L.length) (W.alloc (.cells (Array.replicate L.length nilS) 28)) := makeT L.length hl
  have HB0 : Hid (Below w.heap.size w (w.alloc (.cells (Array.replicate L.length nilS) 28))) := (Below.refl _ _).alloc (Nat.le_refl _) _
  have HG0 : Hid ((w.alloc (.cells (Array.replicate L.length nilS) 28)).heap[w.heap.size]? = some (.cells (Array.replicate L.length nilS) 28 (0, 0))) := heap_alloc_new w _
  clear h hk
  generalize hL : L.length = n at *
  have HLE := hide hL
  clear hL
  go_enter Try.func48, Try.ntmps48
  go_wp2
  go_loopw [11] (fun i wr => ∃ (k : Nat) (us : List Value), k ≤ n ∧ i = .int .i64 (k : Int) ∧ us.length = k ∧ Below w.heap.size w wr ∧ w.heap.size < wr.heap.size ∧ wr.heap[w.heap.size]? = some (.cells (us ++ List.replicate (n - k) nilS).toArray 28 (0, 0)) ∧ OwnT w.heap.size wr us (L.take k)) (fun i _ => n - (intOf i).toNat)
  case atStart =>
    exact ⟨0, [], by omega, rfl, rfl, HB0.out, by simp, by simpa using HG0.out, trivial⟩
  case round =>
    obtain ⟨k, us, hkn, rfl, hul, hB, hgs, hG, hO⟩ := hrel
    have HB := hide hB
    have HG := hide hG
    have HO := hide hO
    have HUL := hide hul
    have HGS := hide hgs
    clear hB hG hO hul hgs
    by_cases hlt : k < n
    · obtain ⟨g', o', a, d, hao, hcell, hs, hd1, hd2⟩ := (H.out.below HB.out (Nat.le_refl _)).get k (by rw [HLE.out]; exact hlt)
      subst hao
      have HCL := hide (clone_any hs (HK.out k hlt))
      have HTk := hide (HT.out k hlt)
      have hgl := World.block_lt_of_cell? wr _ hcell
      clear hs
      generalize hX : L.getD k [] = X at *
      clear hX
      generalize hxl : X.length = xl at *
      clear hxl
      go_wp2_with fail
      refine HCL.out.mono ?_
      rintro e W1 ⟨u1, rfl, hb1⟩
      obtain ⟨a1, c1, e1, _, _⟩ := hb1.sl.len
      have hG1 : W1.heap[w.heap.size]? = some (.cells (us ++ List.replicate (n - k) nilS).toArray 28 (0, 0)) := (hb1.below.block w.heap.size HGS.out).trans HG.out
      have hcl1 : W1.cell? ⟨w.heap.size, k, none⟩ = some (.slice none 0 0) := by
        rw [cell_row hG1]
        have hu := HUL.out
        simp [hu, List.getElem?_append_right, List.getElem?_replicate]
        omega
      have hfz1 : W1.frozen? ⟨w.heap.size, k, none⟩ = false := frozen_row hG1
      have HB1 := hide hb1
      have HG1 := hide hG1
      clear hb1 hG1
      subst e1
      go_wp2
      go_roundw
      case rel =>
        have hu := HUL.out
        have hoff : Off [w.heap.size] W1 (W1.setCell ⟨w.heap.size, k, none⟩ (.slice a1 X.length c1)) := (Off.refl _ _).setCell _ _ (.inl (by simp))
        have hnk : n - k = n - (k + 1) + 1 := by omega
        have hw1 : wr.heap.size ≤ W1.heap.size := HB1.out.below.size
        refine ⟨k + 1, us ++ [.slice a1 X.length c1], by omega, by go_num, by simp [hu], ?_, ?_, ?_, ?_⟩
        · exact (HB.out.trans (HB1.out.below.mono (by have := HGS.out; omega))).trans (hoff.below (by have := HGS.out; omega) (by simp))
        · have := hoff.size; have := HGS.out; omega
        · have := heap_set_same (o := k) (.slice a1 X.length c1) HG1.out
          rw [this, hnk]
          conv => lhs; rw [← hu, set_next]
          rw [hu]
        · rw [HTk.out]
          have hst : ∀ (q : Nat) (C : Array Value) (fr : Nat × Nat), w.heap.size ≤ q → W1.heap[q]? = some (.cells C 5 fr) → (W1.setCell ⟨w.heap.size, k, none⟩ (.slice a1 X.length c1)).heap[q]? = W1.heap[q]? := fun q C fr _ hq => by
            refine hoff.block q (lt_of_heap hq) (fun hm => ?_)
            simp at hm
            subst hm
            rw [HG1.out] at hq
            simp at hq
          refine ((HO.out.below HB1.out.below (Nat.le_refl _)).stay hst).append ?_
          have : OwnT w.heap.size W1 [.slice a1 X.length c1] [X] := ⟨owns_mono HB1.out.own (by have := HGS.out; omega), trivial⟩
          exact this.stay hst
      case measure => simp [intOf]; omega
    · have hkL : k = n := by omega
      subst hkL
      go_wp2
      go_ret
      rw [HTL.out] at HO
      refine ⟨_, rfl, HB.out, us, HO.out, ?_⟩
      have hG := HG.out
      rw [Nat.sub_self] at hG
      simp at hG
      rw [HLE.out]
      refine ⟨by rw [HUL.out]; omega, .inr ⟨w.heap.size, k, us.toArray, rfl, Nat.le_refl _, hG, Nat.le_refl _, by simp only [maxLen]; omega, by simp [HUL.out], by rw [List.take_of_length_le (by simp [HUL.out])]⟩⟩
end Go.Proofs.Ytjcobejaldfibaa
