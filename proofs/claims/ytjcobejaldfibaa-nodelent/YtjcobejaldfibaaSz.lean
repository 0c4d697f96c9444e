/- Both Sizes. -/
import Derived.Test.YtjcobejaldfibaaFit
namespace Go.Proofs.Ytjcobejaldfibaa
open Go.RowKit
set_option linter.unusedVariables false
set_option linter.unusedSimpArgs false

set_option maxHeartbeats 1000000 in
theorem rsize_any {w : World} {N : Nd} {vk vv vi : Value} (h : RdAt w N vk vv vi) (hf : Fits N) (hs : N.size ≤ 4611686018427387904) :
    Calls Try.prog 24 #[.agg #[.bool N.leaf, vk, vv, vi, .int .i64 N.next]] w fun e w' => e = .returned (.int .i64 (N.size : Int)) ∧ Below w.heap.size w w' := by
  obtain ⟨ak, ck, rfl, _, _⟩ := h.keys.len
  obtain ⟨av, cv, rfl, _, _⟩ := h.vals.len
  obtain ⟨ai, ci, rfl, _, _⟩ := h.kids.len
  have HB : Hid (Below w.heap.size w (w.alloc (.cells #[.bool N.leaf, .slice ak N.keys.length ck, .slice av N.vals.length cv, .slice ai N.kids.length ci, .int .i64 N.next] 43))) := (Below.refl _ _).alloc (Nat.le_refl _) _
  have HX := hide (Box.new (t := 43) w (.bool N.leaf) (.slice ak N.keys.length ck) (.slice av N.vals.length cv) (.slice ai N.kids.length ci) (.int .i64 N.next))
  have HK := hide h.keys
  have HV := hide h.vals
  have hk3 := hf.keys
  have hv3 := hf.vals
  have HSU : Hid (∀ k p, p = N.base + sumTo k (sizeAt N) → N.base + sumTo (k + 1) (sizeAt N) = p + sizeAt N k) := fun k p hp => by rw [sumTo_succ, hp]; omega
  have HSB : Hid (∀ k p, k < N.keys.length → p = N.base + sumTo k (sizeAt N) → p + sizeAt N k ≤ 4611686018427387904) := fun k p hk hp => by
    have h1 := sumTo_mono (sizeAt N) (show k + 1 ≤ N.keys.length by omega)
    rw [sumTo_succ] at h1
    unfold Nd.size at hs
    omega
  have HSE : Hid (N.size = N.base + sumTo N.keys.length (sizeAt N)) := rfl
  have HSA : Hid (∀ k, sizeAt N k = 2 + (N.keys.getD k []).length + (if N.leaf then 2 + (if k < N.vals.length then (N.vals.getD k []).length else 0) else 4)) := fun _ => rfl
  have HBA : Hid (N.base = if N.leaf then 7 else 11) := rfl
  clear h hf hs
  generalize hnk : N.keys.length = nk at *
  generalize hnv : N.vals.length = nv at *
  generalize hni : N.kids.length = ni at *
  generalize N.next = x at *
  generalize N.base = bs at *
  generalize hszz : N.size = sz at *
  have HSZ := hide hszz
  clear hszz
  have HNK := hide hnk
  have HNV := hide hnv
  clear hnk hnv hni
  generalize hlf : N.leaf = lf at *
  clear hlf
  go_enter Try.func24, Try.ntmps24
  go_upto_region 1 with fail
  generalize (w.alloc (.cells #[.bool lf, .slice ak nk ck, .slice av nv cv, .slice ai ni ci, .int .i64 x] 43)) = W0 at *
  obtain ⟨k0, k1, k2, k3, k4, f0, f1, f2, f3, f4⟩ := HX.out.cells
  cases lf with
  | true =>
    have HBT : Hid (bs = 7) := HBA.out
    go_wp2
    go_loopw [3, 4] (fun s i wr => ∃ k p : Nat, k ≤ nk ∧ i = .int .i64 (k : Int) ∧ s = .int .i64 (p : Int) ∧ Hid (p = bs + sumTo k (sizeAt N)) ∧ wr = W0) (fun _ i _ => nk - (intOf i).toNat)
    case atStart => exact ⟨0, 7, by omega, rfl, rfl, by rw [Hid, HBT.out]; rfl, rfl⟩
    case round =>
      obtain ⟨k, p, hk, rfl, rfl, HP, rfl⟩ := hrel
      by_cases hlt : k < nk
      · obtain ⟨g, o, hao, hc⟩ := (HK.out.belowW HB.out).get k (by rw [HNK.out]; exact hlt)
        subst hao
        have HE := hide (HSU.out k p HP.out)
        have hb := HSB.out k p hlt HP.out
        rw [HSA.out k] at hb HE
        simp only [if_true] at hb HE
        have hsz := strOf_size (N.keys.getD k [])
        generalize N.keys.getD k [] = K at *
        generalize strOf K = s at *
        generalize K.length = kl at *
        by_cases hvl : k < nv
        · obtain ⟨g', o', hao', hc'⟩ := (HV.out.belowW HB.out).get k (by rw [HNV.out]; exact hvl)
          subst hao'
          rw [if_pos hvl] at hb HE
          have hsz' := strOf_size (N.vals.getD k [])
          generalize N.vals.getD k [] = K' at *
          generalize strOf K' = s' at *
          generalize K'.length = kl' at *
          go_wp2
          go_roundw
          case rel => exact ⟨k + 1, _, by omega, by go_num, congrArg (Value.int .i64) (by show _ = ((p + (2 + kl + (2 + kl')) : Nat) : Int); omega), HE.out.symm, trivial⟩
          case measure => simp [intOf]; omega
        · rw [if_neg hvl] at hb HE
          go_wp2
          go_roundw
          case rel => exact ⟨k + 1, _, by omega, by go_num, congrArg (Value.int .i64) (by show _ = ((p + (2 + kl + (2 + 0)) : Nat) : Int); omega), HE.out.symm, trivial⟩
          case measure => simp [intOf]; omega
      · have hkL : k = nk := by omega
        subst hkL
        go_wp2
        go_ret
        refine ⟨?_, HB.out⟩
        rw [HSE.out, ← HP.out]
        rfl
  | false =>
    have HBT : Hid (bs = 11) := HBA.out
    go_wp2
    go_loopw [3, 4] (fun s i wr => ∃ k p : Nat, k ≤ nk ∧ i = .int .i64 (k : Int) ∧ s = .int .i64 (p : Int) ∧ Hid (p = bs + sumTo k (sizeAt N)) ∧ wr = W0) (fun _ i _ => nk - (intOf i).toNat)
    case atStart => exact ⟨0, 11, by omega, rfl, rfl, by rw [Hid, HBT.out]; rfl, rfl⟩
    case round =>
      obtain ⟨k, p, hk, rfl, rfl, HP, rfl⟩ := hrel
      by_cases hlt : k < nk
      · obtain ⟨g, o, hao, hc⟩ := (HK.out.belowW HB.out).get k (by rw [HNK.out]; exact hlt)
        subst hao
        have HE := hide (HSU.out k p HP.out)
        have hb := HSB.out k p hlt HP.out
        rw [HSA.out k] at hb HE
        simp only [Bool.false_eq_true, if_false] at hb HE
        have hsz := strOf_size (N.keys.getD k [])
        generalize N.keys.getD k [] = K at *
        generalize strOf K = s at *
        generalize K.length = kl at *
        go_wp2
        go_roundw
        case rel => exact ⟨k + 1, _, by omega, by go_num, congrArg (Value.int .i64) (by show _ = ((p + (2 + kl + 4) : Nat) : Int); omega), HE.out.symm, trivial⟩
        case measure => simp [intOf]; omega
      · have hkL : k = nk := by omega
        subst hkL
        go_wp2
        go_ret
        refine ⟨?_, HB.out⟩
        rw [HSE.out, ← HP.out]
        rfl
set_option maxHeartbeats 1000000 in
theorem size_any {w : World} {N : Nd} {vk vv vi : Value} (h : NdAt w N vk vv vi) (hf : Fits N) (hs : N.size ≤ 4611686018427387904) :
    Calls Try.prog 23 #[.agg #[.bool N.leaf, vk, vv, vi, .int .i64 N.next]] w fun e w' => e = .returned (.int .i64 (N.size : Int)) ∧ Below w.heap.size w w' := by
  obtain ⟨ak, ck, rfl, _, _⟩ := h.keys.len
  obtain ⟨av, cv, rfl, _, _⟩ := h.vals.len
  obtain ⟨ai, ci, rfl, _, _⟩ := h.kids.len
  have HB : Hid (Below w.heap.size w (w.alloc (.cells #[.bool N.leaf, .slice ak N.keys.length ck, .slice av N.vals.length cv, .slice ai N.kids.length ci, .int .i64 N.next] 26))) := (Below.refl _ _).alloc (Nat.le_refl _) _
  have HX := hide (Box.new (t := 26) w (.bool N.leaf) (.slice ak N.keys.length ck) (.slice av N.vals.length cv) (.slice ai N.kids.length ci) (.int .i64 N.next))
  have HK := hide h.keys
  have HV := hide h.vals
  have hk3 := hf.keys
  have hv3 := hf.vals
  have HSU : Hid (∀ k p, p = N.base + sumTo k (sizeAt N) → N.base + sumTo (k + 1) (sizeAt N) = p + sizeAt N k) := fun k p hp => by rw [sumTo_succ, hp]; omega
  have HSB : Hid (∀ k p, k < N.keys.length → p = N.base + sumTo k (sizeAt N) → p + sizeAt N k ≤ 4611686018427387904) := fun k p hk hp => by
    have h1 := sumTo_mono (sizeAt N) (show k + 1 ≤ N.keys.length by omega)
    rw [sumTo_succ] at h1
    unfold Nd.size at hs
    omega
  have HSE : Hid (N.size = N.base + sumTo N.keys.length (sizeAt N)) := rfl
  have HSA : Hid (∀ k, sizeAt N k = 2 + (N.keys.getD k []).length + (if N.leaf then 2 + (if k < N.vals.length then (N.vals.getD k []).length else 0) else 4)) := fun _ => rfl
  have HBA : Hid (N.base = if N.leaf then 7 else 11) := rfl
  clear h hf hs
  generalize hnk : N.keys.length = nk at *
  generalize hnv : N.vals.length = nv at *
  generalize hni : N.kids.length = ni at *
  generalize N.next = x at *
  generalize N.base = bs at *
  generalize hszz : N.size = sz at *
  have HSZ := hide hszz
  clear hszz
  have HNK := hide hnk
  have HNV := hide hnv
  clear hnk hnv hni
  generalize hlf : N.leaf = lf at *
  clear hlf
  go_enter Try.func23, Try.ntmps23
  go_upto_region 1 with fail
  generalize (w.alloc (.cells #[.bool lf, .slice ak nk ck, .slice av nv cv, .slice ai ni ci, .int .i64 x] 26)) = W0 at *
  obtain ⟨k0, k1, k2, k3, k4, f0, f1, f2, f3, f4⟩ := HX.out.cells
  cases lf with
  | true =>
    have HBT : Hid (bs = 7) := HBA.out
    go_wp2
    go_loopw [3, 14] (fun s i wr => ∃ k p : Nat, k ≤ nk ∧ i = .int .i64 (k : Int) ∧ s = .int .i64 (p : Int) ∧ Hid (p = bs + sumTo k (sizeAt N)) ∧ wr = W0) (fun _ i _ => nk - (intOf i).toNat)
    case atStart => exact ⟨0, 7, by omega, rfl, rfl, by rw [Hid, HBT.out]; rfl, rfl⟩
    case round =>
      obtain ⟨k, p, hk, rfl, rfl, HP, rfl⟩ := hrel
      by_cases hlt : k < nk
      · obtain ⟨g, o, a, d, hao, hc, hs1, hd1, hd2⟩ := (HK.out.belowW HB.out).get k (by rw [HNK.out]; exact hlt)
        subst hao
        have HE := hide (HSU.out k p HP.out)
        have hb := HSB.out k p hlt HP.out
        rw [HSA.out k] at hb HE
        simp only [if_true] at hb HE
        generalize N.keys.getD k [] = K at *
        generalize K.length = kl at *
        by_cases hvl : k < nv
        · obtain ⟨g', o', a', d', hao', hc', hs1', hd1', hd2'⟩ := (HV.out.belowW HB.out).get k (by rw [HNV.out]; exact hvl)
          subst hao'
          rw [if_pos hvl] at hb HE
          generalize N.vals.getD k [] = K' at *
          generalize K'.length = kl' at *
          go_wp2
          go_roundw
          case rel => exact ⟨k + 1, _, by omega, by go_num, congrArg (Value.int .i64) (by show _ = ((p + (2 + kl + (2 + kl')) : Nat) : Int); omega), HE.out.symm, trivial⟩
          case measure => simp [intOf]; omega
        · rw [if_neg hvl] at hb HE
          go_wp2
          go_roundw
          case rel => exact ⟨k + 1, _, by omega, by go_num, congrArg (Value.int .i64) (by show _ = ((p + (2 + kl + (2 + 0)) : Nat) : Int); omega), HE.out.symm, trivial⟩
          case measure => simp [intOf]; omega
      · have hkL : k = nk := by omega
        subst hkL
        go_wp2
        go_ret
        refine ⟨?_, HB.out⟩
        rw [HSE.out, ← HP.out]
        rfl
  | false =>
    have HBT : Hid (bs = 11) := HBA.out
    go_wp2
    go_loopw [3, 14] (fun s i wr => ∃ k p : Nat, k ≤ nk ∧ i = .int .i64 (k : Int) ∧ s = .int .i64 (p : Int) ∧ Hid (p = bs + sumTo k (sizeAt N)) ∧ wr = W0) (fun _ i _ => nk - (intOf i).toNat)
    case atStart => exact ⟨0, 11, by omega, rfl, rfl, by rw [Hid, HBT.out]; rfl, rfl⟩
    case round =>
      obtain ⟨k, p, hk, rfl, rfl, HP, rfl⟩ := hrel
      by_cases hlt : k < nk
      · obtain ⟨g, o, a, d, hao, hc, hs1, hd1, hd2⟩ := (HK.out.belowW HB.out).get k (by rw [HNK.out]; exact hlt)
        subst hao
        have HE := hide (HSU.out k p HP.out)
        have hb := HSB.out k p hlt HP.out
        rw [HSA.out k] at hb HE
        simp only [Bool.false_eq_true, if_false] at hb HE
        generalize N.keys.getD k [] = K at *
        generalize K.length = kl at *
        go_wp2
        go_roundw
        case rel => exact ⟨k + 1, _, by omega, by go_num, congrArg (Value.int .i64) (by show _ = ((p + (2 + kl + 4) : Nat) : Int); omega), HE.out.symm, trivial⟩
        case measure => simp [intOf]; omega
      · have hkL : k = nk := by omega
        subst hkL
        go_wp2
        go_ret
        refine ⟨?_, HB.out⟩
        rw [HSE.out, ← HP.out]
        rfl
end Go.Proofs.Ytjcobejaldfibaa
