/- kindOf, addPairs. -/
import Derived.Test.YtjcobejaldfibaaNum
namespace Go.Proofs.Ytjcobejaldfibaa
open Go.RowKit
set_option linter.unusedVariables false
set_option linter.unusedSimpArgs false

theorem Box.oth {t : TypeId} {e : TypeId} {w w' : World} {b : Nat} {c0 c1 c2 c3 c4 : Value} (h : Box t w b c0 c1 c2 c3 c4) (ho : Oth e w w') (ht : t ≠ e) : Box t w' b c0 c1 c2 c3 c4 := ⟨ho b _ t _ ht h.heap⟩
set_option maxHeartbeats 400000 in
theorem kind_any (b : Bool) (ak av ai : Option Addr) (nk nv ni ck cv ci : Nat) (x : Int) (w : World) :
    Calls Try.prog 35 #[.agg #[.bool b, .slice ak nk ck, .slice av nv cv, .slice ai ni ci, .int .i64 x]] w fun e w' => e = .returned (.int .i64 (if b then 1 else 2)) ∧ Below w.heap.size w w' := by
  cases b
  · go_enter Try.func35, Try.ntmps35
    go_wp2
    go_ret
    exact ⟨rfl, (Below.refl _ _).alloc (Nat.le_refl _) _⟩
  · go_enter Try.func35, Try.ntmps35
    go_wp2
    go_ret
    exact ⟨rfl, (Below.refl _ _).alloc (Nat.le_refl _) _⟩
set_option maxHeartbeats 1000000 in
theorem addPairs_any {w0 w : World} {N : Nd} {vk vv vi u : Value} {X : List UInt8} (hN : NdAt w0 N vk vv vi) (hB : Bts w0 w u X) (hl : N.leaf = true) (hm : N.vals.length = N.keys.length) (hk : ∀ k, (N.keys.getD k []).length < 65536) (hv : ∀ k, (N.vals.getD k []).length < 65536) (hf : Fits N) (hs : X.length + sumTo N.keys.length (fun i => (encAt N i).length) ≤ 1000000) :
    Calls Try.prog 36 #[u, .agg #[.bool true, vk, vv, vi, .int .i64 N.next]] w fun e w' => ∃ u', e = .returned u' ∧ Bts w0 w' u' (X ++ flatTo N.keys.length (encAt N)) ∧ Oth 5 w w' := by
  obtain ⟨ak, ck, rfl, hk1, hk2⟩ := hN.keys.len
  obtain ⟨av, cv, rfl, hv1, hv2⟩ := hN.vals.len
  obtain ⟨ai, ci, rfl, hi1, hi2⟩ := hN.kids.len
  have hk3 := hf.keys
  have H := hide hN
  have HX0 := hide (Box.new (t := 26) w (.bool true) (.slice ak N.keys.length ck) (.slice av N.vals.length cv) (.slice ai N.kids.length ci) (.int .i64 N.next))
  have HB0 := hide (hB.alloc (.cells #[.bool true, .slice ak N.keys.length ck, .slice av N.vals.length cv, .slice ai N.kids.length ci, .int .i64 N.next] 26))
  have HO0 : Hid (Oth 5 w (w.alloc (.cells #[.bool true, .slice ak N.keys.length ck, .slice av N.vals.length cv, .slice ai N.kids.length ci, .int .i64 N.next] 26))) := (Oth.refl 5 w).alloc _
  have HK := hide hk
  have HV := hide hv
  have HS : Hid (∀ k, k < N.keys.length → (X ++ flatTo k (encAt N)).length + (encAt N k).length ≤ 1000000) := fun k hkl => by
    rw [List.length_append, length_flatTo]
    have h1 := sumTo_mono (fun i => (encAt N i).length) (show k + 1 ≤ N.keys.length by omega)
    rw [sumTo_succ] at h1
    omega
  have HF : Hid (∀ k, flatTo (k + 1) (encAt N) = flatTo k (encAt N) ++ encAt N k) := fun k => flatTo_succ k _
  have HEA : Hid (∀ k, encAt N k = txt (N.keys.getD k []) ++ txt (N.vals.getD k [])) := fun k => by unfold encAt; rw [hl]; rfl
  have HM := hide hm
  clear hN hB hm hk hv hs hf hl hk1 hk2 hv1 hv2 hi1 hi2
  generalize hnk : N.keys.length = nk at *
  generalize hnv : N.vals.length = nv at *
  generalize N.kids.length = ni at *
  generalize N.next = x at *
  have HNK := hide hnk
  have HNV := hide hnv
  clear hnk hnv
  go_enter Try.func36, Try.ntmps36
  go_upto_region 1 with fail
  generalize (w.alloc (.cells #[.bool true, .slice ak nk ck, .slice av nv cv, .slice ai ni ci, .int .i64 x] 26)) = W0 at *
  obtain ⟨k0, k1, k2, k3, k4, f0, f1, f2, f3, f4⟩ := HX0.out.cells
  go_wp2
  clear k0 k1 k2 k3 k4 f0 f1 f2 f3 f4
  go_loopw [10, 0] (fun i u wr => ∃ k : Nat, k ≤ nk ∧ i = .int .i64 (k : Int) ∧ Bts w0 wr u (X ++ flatTo k (encAt N)) ∧ Oth 5 w wr ∧ Box 26 wr w.heap.size (.bool true) (.slice ak nk ck) (.slice av nv cv) (.slice ai ni ci) (.int .i64 x)) (fun i _ _ => nk - (intOf i).toNat)
  case atStart => exact ⟨0, by omega, rfl, by simpa [flatTo] using HB0.out, HO0.out, HX0.out⟩
  case round =>
    obtain ⟨k, hk, rfl, hB, hO, hX⟩ := hrel
    have HB := hide hB
    have HO := hide hO
    have HX := hide hX
    clear hB hO hX
    by_cases hlt : k < nk
    · obtain ⟨g, o, a, d, hao, hc, hs1, hd1, hd2⟩ := (H.out.keys.belowW HB.out.below).get k (by rw [HNK.out]; exact hlt)
      subst hao
      have HSk := hide (HS.out k hlt)
      have HFk := hide (HF.out k)
      have HEk := hide (HEA.out k)
      have HOLD : Hid (Sl w0 (.slice a (N.keys.getD k []).length d) (N.keys.getD k [])) := by
        obtain ⟨g', o', a', d', hao', hc', hs', _, _⟩ := H.out.keys.get k (by rw [HNK.out]; exact hlt)
        injection hao' with hao'
        injection hao' with e1 e2
        subst e1 e2
        have hgl := World.block_lt_of_cell? w0 _ hc'
        have := (HB.out.below.cell hgl).trans hc'
        rw [hc] at this
        injection this with this
        injection this with e3 e4 e5
        subst e3 e5
        exact hs'
      have HT1 := hide (addText_any HB.out hs1 (fun W _ hW => HOLD.out.belowW hW) (HK.out k) (by have := HSk.out; omega))
      have hgl := World.block_lt_of_cell? wr _ hc
      have HVk := hide (HV.out k)
      have HKk := hide (HK.out k)
      clear hs1
      generalize hK : N.keys.getD k [] = K at *
      clear hK
      obtain ⟨k0, k1, k2, k3, k4, f0, f1, f2, f3, f4⟩ := HX.out.cells
      go_wp2_with fail
      refine HT1.out.mono ?_
      rintro e W1 ⟨u1, rfl, hB1, hO1⟩
      clear k0 k1 k2 k3 k4 f0 f1 f2 f3 f4 hc
      have HX1 := hide (HX.out.oth hO1 (by decide))
      have HO1 := hide (HO.out.trans hO1)
      have HB1 := hide hB1
      clear hB1 hO1 HT1
      obtain ⟨k0, k1, k2, k3, k4, f0, f1, f2, f3, f4⟩ := HX1.out.cells
      obtain ⟨g2, o2, a2, d2, hao2, hc2, hs2, hd12, hd22⟩ := (H.out.vals.belowW HB1.out.below).get k (by have := HM.out; have := HNV.out; omega)
      subst hao2
      have hlv : k < nv := by have := HM.out; omega
      have HOLD2 : Hid (Sl w0 (.slice a2 (N.vals.getD k []).length d2) (N.vals.getD k [])) := by
        obtain ⟨g', o', a', d', hao', hc', hs', _, _⟩ := H.out.vals.get k (by rw [HNV.out]; exact hlv)
        injection hao' with hao'
        injection hao' with e1 e2
        subst e1 e2
        have hgl := World.block_lt_of_cell? w0 _ hc'
        have := (HB1.out.below.cell hgl).trans hc'
        rw [hc2] at this
        injection this with this
        injection this with e3 e4 e5
        subst e3 e5
        exact hs'
      have HT2 := hide (addText_any HB1.out hs2 (fun W _ hW => HOLD2.out.belowW hW) HVk.out (by
        have h1 := HSk.out
        rw [HEk.out] at h1
        simp only [List.length_append] at h1 ⊢
        omega))
      have hgl2 := World.block_lt_of_cell? W1 _ hc2
      clear hs2
      generalize hV : N.vals.getD k [] = V at *
      clear hV
      go_wp2_with fail
      refine HT2.out.mono ?_
      rintro e W2 ⟨u2, rfl, hB2, hO2⟩
      have HX2 := hide (HX1.out.oth hO2 (by decide))
      have HO2 := hide (HO1.out.trans hO2)
      have HB2 := hide hB2
      clear hB2 hO2 HT2 k0 k1 k2 k3 k4 f0 f1 f2 f3 f4 hc2
      go_wp2
      go_roundw
      case rel =>
        refine ⟨k + 1, by omega, by go_num, ?_, HO2.out, HX2.out⟩
        rw [HFk.out, HEk.out, ← List.append_assoc, ← List.append_assoc]
        exact HB2.out
      case measure => simp [intOf]; omega
    · have hkL : k = nk := by omega
      subst hkL
      go_wp2
      go_ret
      exact ⟨_, rfl, HB.out, HO.out⟩
end Go.Proofs.Ytjcobejaldfibaa
