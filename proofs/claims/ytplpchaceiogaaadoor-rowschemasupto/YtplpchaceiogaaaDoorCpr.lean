/- How two rows stand. -/
import Derived.Test.YtplpchaceiogaaaDoorCon
namespace Go.Proofs.YtplpchaceiogaaaDoor
open Go.RowKit
set_option linter.unusedVariables false
set_option linter.unusedSimpArgs false
set_option maxRecDepth 100000

theorem cmpL_step {l m : List Vl} {k : Nat} (h1 : k < l.length) (h2 : k < m.length) : cmpL (l.drop k) (m.drop k) = if cmpV (l.getD k Vl.zero) (m.getD k Vl.zero) ≠ 0 then cmpV (l.getD k Vl.zero) (m.getD k Vl.zero) else cmpL (l.drop (k + 1)) (m.drop (k + 1)) := by
  rw [List.drop_eq_getElem_cons h1, List.drop_eq_getElem_cons h2]
  simp only [cmpL]
  simp [h1, h2]
theorem cmpL_long {l m : List Vl} {k : Nat} (h1 : k < l.length) (h2 : m.length ≤ k) : cmpL (l.drop k) (m.drop k) = 1 := by
  rw [List.drop_eq_getElem_cons h1, List.drop_of_length_le h2]
  rfl
theorem cmpL_short {l m : List Vl} (h : l.length < m.length) : cmpL (l.drop l.length) (m.drop l.length) = -1 := by
  rw [List.drop_length, List.drop_eq_getElem_cons h]
  rfl
theorem cmpL_same {l m : List Vl} (h : m.length = l.length) : cmpL (l.drop l.length) (m.drop l.length) = 0 := by
  rw [List.drop_length, ← h, List.drop_length]
  rfl
set_option maxHeartbeats 4000000 in
theorem cmp37 {w : World} {u v : Value} {l m : List Vl} (hu : VsAt w u l) (hv : VsAt w v m) :
    Calls Tryd.prog 37 #[u, v, .func (.func 38) #[] #[]] w fun e w' => e = .returned (.int .i64 (cmpL l m)) ∧ Below w.heap.size w w' := by
  obtain ⟨ao, c, rfl, hc1, hc2⟩ := hu.len
  obtain ⟨ao', c', rfl, hc1', hc2'⟩ := hv.len
  simp only [maxLen] at hc2 hc2'
  have HU := hide hu
  have HV := hide hv
  have HS : Hid (∀ k, k < l.length → k < m.length → cmpL (l.drop k) (m.drop k) = if cmpV (l.getD k Vl.zero) (m.getD k Vl.zero) ≠ 0 then cmpV (l.getD k Vl.zero) (m.getD k Vl.zero) else cmpL (l.drop (k + 1)) (m.drop (k + 1))) := fun k h1 h2 => cmpL_step h1 h2
  have HL : Hid (∀ k, k < l.length → m.length ≤ k → cmpL (l.drop k) (m.drop k) = 1) := fun k h1 h2 => cmpL_long h1 h2
  have HH : Hid (l.length < m.length → cmpL (l.drop l.length) (m.drop l.length) = -1) := cmpL_short
  have HM : Hid (m.length = l.length → cmpL (l.drop l.length) (m.drop l.length) = 0) := cmpL_same
  have HC := hide compare_any
  obtain ⟨z, hz⟩ : ∃ z, cmpL l m = z := ⟨_, rfl⟩
  have HZ : Hid (cmpL (l.drop 0) (m.drop 0) = z) := hz
  rw [hz]
  clear hz hu hv
  generalize hL : l.length = L at *
  have HLE := hide hL
  generalize hM : m.length = M at *
  have HME := hide hM
  clear hL hM
  go_enter Tryd.func37, Tryd.ntmps37
  go_wp2
  go_loopw [13] (fun i wr => ∃ k : Nat, k ≤ L ∧ k ≤ M ∧ i = .int .i64 (k : Int) ∧ cmpL (l.drop k) (m.drop k) = z ∧ Below w.heap.size w wr) (fun i _ => L - (intOf i).toNat)
  case atStart => exact ⟨0, by omega, by omega, rfl, HZ.out, Below.refl _ _⟩
  case round =>
    obtain ⟨k, hk, hk2, rfl, he, hB⟩ := hrel
    have HE := hide he
    have HB := hide hB
    clear he hB
    by_cases hlt : k < L
    · obtain ⟨g, o, hao, hC⟩ := (HU.out.belowW HB.out).get k (by rw [HLE.out]; exact hlt)
      subst hao
      obtain ⟨k0, k1, k2, k3⟩ := hC
      have hgl := World.block_lt_of_cell? wr _ k0
      by_cases hlt2 : k < M
      · obtain ⟨g', o', hao', hC'⟩ := (HV.out.belowW HB.out).get k (by rw [HME.out]; exact hlt2)
        subst hao'
        obtain ⟨j0, j1, j2, j3⟩ := hC'
        have hgl' := World.block_lt_of_cell? wr _ j0
        have HST := hide (HS.out k hlt hlt2)
        generalize l.getD k Vl.zero = A at *
        generalize m.getD k Vl.zero = B at *
        have hn : ¬ (M : Int) ≤ (k : Int) := by omega
        have HCA : Hid (∀ W, Calls Tryd.prog 38 #[.agg #[.int .i64 A.ty, .int .i64 A.n, .string (strOf A.t), .bool A.b], .agg #[.int .i64 B.ty, .int .i64 B.n, .string (strOf B.t), .bool B.b]] W fun e w' => e = .returned (.int .i64 (cmpV A B)) ∧ Below W.heap.size W w') := fun W => compare_any A B W
        generalize cmpV A B = q at *
        by_cases hq : q = 0
        · have HST2 : Hid (cmpL (l.drop (k + 1)) (m.drop (k + 1)) = z) := by rw [Hid, ← HE.out, HST.out, if_neg (by simpa using hq)]
          subst hq
          clear HST
          go_wp2_with (go_at_call 38; refine (HCA.out _).mono ?_; rintro e W2 ⟨rfl, hB2⟩; have HB2 := hide hB2; clear hB2)
          go_roundw
          case rel => exact ⟨k + 1, by omega, by omega, by go_num, HST2.out, HB.out.trans ((((Below.refl wr.heap.size wr).alloc (Nat.le_refl _) _).alloc (by simp) _).trans (HB2.out.mono (by simp; omega)) |>.mono HB.out.size)⟩
          case measure => simp [intOf]; omega
        · have HST2 : Hid (q = z) := by rw [Hid, ← HE.out, HST.out, if_pos hq]
          have hqb : (q != 0) = true := by simpa using hq
          clear HST
          go_wp2_with (go_at_call 38; refine (HCA.out _).mono ?_; rintro e W2 ⟨rfl, hB2⟩; have HB2 := hide hB2; clear hB2)
          go_ret
          rw [HST2.out]
          exact ⟨rfl, HB.out.trans ((((Below.refl wr.heap.size wr).alloc (Nat.le_refl _) _).alloc (by simp) _).trans (HB2.out.mono (by simp; omega)) |>.mono HB.out.size)⟩
      · have hn : (M : Int) ≤ (k : Int) := by omega
        have HZ1 : Hid (z = 1) := by rw [Hid, ← HE.out, HL.out k hlt (by omega)]
        go_wp2
        go_ret
        rw [HZ1.out]
        exact ⟨rfl, HB.out.trans (((Below.refl wr.heap.size wr).alloc (Nat.le_refl _) _).mono HB.out.size)⟩
    · have hkL : k = L := by omega
      subst hkL
      by_cases hlt2 : k < M
      · have hn : (k : Int) < (M : Int) := by omega
        have HZ1 : Hid (z = -1) := by
          have h1 := HH.out
          rw [Hid, ← HE.out, h1 hlt2]
        go_wp2
        go_ret
        rw [HZ1.out]
        exact ⟨rfl, HB.out⟩
      · have hn : ¬ (k : Int) < (M : Int) := by omega
        have HZ1 : Hid (z = 0) := by
          have h1 := HM.out
          rw [Hid, ← HE.out, h1 (by omega)]
        go_wp2
        go_ret
        rw [HZ1.out]
        exact ⟨rfl, HB.out⟩
set_option maxHeartbeats 1000000 in
theorem cmp18 {w : World} {u v : Value} {l m : List Vl} (hu : VsAt w u l) (hv : VsAt w v m) :
    Calls Tryd.prog 18 #[u, v] w fun e w' => e = .returned (.int .i64 (cmpL l m)) ∧ Below w.heap.size w w' := by
  have HC := hide (cmp37 hu hv)
  clear hu hv
  go_enter Tryd.func18, Tryd.ntmps18
  go_wp2_with (go_at_call 37; refine HC.out.mono ?_; rintro e W2 ⟨rfl, hB2⟩; have HB2 := hide hB2; clear hB2)
  go_ret
  exact ⟨rfl, HB2.out⟩
end Go.Proofs.YtplpchaceiogaaaDoor
