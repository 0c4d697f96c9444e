/- addKids. -/
import Derived.Test.YtjcobejaldfibaaPrs
namespace Go.Proofs.Ytjcobejaldfibaa
open Go.RowKit
set_option linter.unusedVariables false
set_option linter.unusedSimpArgs false

set_option maxHeartbeats 1000000 in
theorem addKids_any {w0 w : World} {N : Nd} {vk vv vi u : Value} {X : List UInt8} (hN : NdAt w0 N vk vv vi) (hB : Bts w0 w u X) (hl : N.leaf = false) (hm : N.kids.length = N.keys.length + 1) (hk : ∀ k, (N.keys.getD k []).length < 65536) (hv : ∀ k, 0 ≤ N.kids.getD k 0 ∧ N.kids.getD k 0 < 4294967296) (hf : Fits N) (hs : X.length + 4 + sumTo N.keys.length (fun i => (encAt N i).length) ≤ 1000000) :
    Calls Try.prog 37 #[u, .agg #[.bool false, vk, vv, vi, .int .i64 N.next]] w fun e w' => ∃ u', e = .returned u' ∧ Bts w0 w' u' (X ++ N.first ++ flatTo N.keys.length (encAt N)) ∧ Oth 5 w w' := by
  obtain ⟨ak, ck, rfl, hk1, hk2⟩ := hN.keys.len
  obtain ⟨av, cv, rfl, hv1, hv2⟩ := hN.vals.len
  obtain ⟨ai, ci, rfl, hi1, hi2⟩ := hN.kids.len
  have hk3 := hf.keys
  have H := hide hN
  have HX0 := hide (Box.new (t := 26) w (.bool false) (.slice ak N.keys.length ck) (.slice av N.vals.length cv) (.slice ai N.kids.length ci) (.int .i64 N.next))
  have HB0 := hide (hB.alloc (.cells #[.bool false, .slice ak N.keys.length ck, .slice av N.vals.length cv, .slice ai N.kids.length ci, .int .i64 N.next] 26))
  have HO0 : Hid (Oth 5 w (w.alloc (.cells #[.bool false, .slice ak N.keys.length ck, .slice av N.vals.length cv, .slice ai N.kids.length ci, .int .i64 N.next] 26))) := (Oth.refl 5 w).alloc _
  have HK := hide hk
  have HV := hide hv
  have HS : Hid (∀ k, k < N.keys.length → (X ++ N.first ++ flatTo k (encAt N)).length + (encAt N k).length ≤ 1000000) := fun k hkl => by
    rw [List.length_append, List.length_append, length_flatTo, length_first, hl]
    show X.length + 4 + _ + _ ≤ _
    have h1 := sumTo_mono (fun i => (encAt N i).length) (show k + 1 ≤ N.keys.length by omega)
    rw [sumTo_succ] at h1
    omega
  have HF : Hid (∀ k, flatTo (k + 1) (encAt N) = flatTo k (encAt N) ++ encAt N k) := fun k => flatTo_succ k _
  have HEA : Hid (∀ k, encAt N k = txt (N.keys.getD k []) ++ be 4 (N.kids.getD (k + 1) 0).toNat) := fun k => by unfold encAt; rw [hl]; rfl
  have HM := hide hm
  have HFI : Hid (N.first = be 4 (N.kids.getD 0 0).toNat) := by unfold Hid Nd.first; rw [hl]; rfl
  have HX9 : Hid (X.length ≤ 1000000000) := by unfold Hid; omega
  clear hN hB hm hk hv hs hf hl hk1 hk2 hv1 hv2 hi1 hi2
  generalize hnk : N.keys.length = nk at *
  generalize hnv : N.vals.length = nv at *
  generalize hni : N.kids.length = ni at *
  generalize N.next = x at *
  have HNK := hide hnk
  have HNI := hide hni
  clear hnk hnv hni
  go_enter Try.func37, Try.ntmps37
  go_upto_region 1 with fail
  generalize (w.alloc (.cells #[.bool false, .slice ak nk ck, .slice av nv cv, .slice ai ni ci, .int .i64 x] 26)) = W0 at *
  obtain ⟨k0, k1, k2, k3, k4, f0, f1, f2, f3, f4⟩ := HX0.out.cells
  obtain ⟨gi, oi, hai, hci⟩ := (H.out.kids.belowW HB0.out.below).get 0 (by have := HNI.out; have := HM.out; omega)
  subst hai
  obtain ⟨q, hq⟩ : ∃ q : Nat, N.kids.getD 0 0 = (q : Int) := ⟨(N.kids.getD 0 0).toNat, by have := (HV.out 0).1; omega⟩
  have hqb : q < 4294967296 := by have := (HV.out 0).2; omega
  have HQ : Hid (N.first = be 4 q) := by unfold Hid; rw [HFI.out, hq]; rfl
  rw [hq] at hci
  have hci : W0.cell? ⟨gi, oi, none⟩ = some (.int .i64 (q : Int)) := hci
  have hgi := World.block_lt_of_cell? W0 _ hci
  have hni0 : 0 < ni := by have := HM.out; omega
  have HA4 := hide (addN4_any HB0.out q hqb HX9.out)
  clear hq hqb
  go_wp2_with fail
  refine HA4.out.mono ?_
  rintro e W5 ⟨u5, rfl, hB5, hO5⟩
  clear k0 k1 k2 k3 k4 f0 f1 f2 f3 f4 hci hgi hni0 HA4
  have HX5 := hide (HX0.out.oth hO5 (by decide))
  have HO5 := hide (HO0.out.trans hO5)
  have HB5 : Hid (Bts w0 W5 u5 (X ++ N.first)) := by unfold Hid; rw [HQ.out]; exact hB5
  clear hB5 hO5
  obtain ⟨k0, k1, k2, k3, k4, f0, f1, f2, f3, f4⟩ := HX5.out.cells
  go_wp2
  clear k0 k1 k2 k3 k4 f0 f1 f2 f3 f4
  go_loopw [16, 0] (fun i u wr => ∃ k : Nat, k ≤ nk ∧ i = .int .i64 (k : Int) ∧ Bts w0 wr u (X ++ N.first ++ flatTo k (encAt N)) ∧ Oth 5 w wr ∧ Box 26 wr w.heap.size (.bool false) (.slice ak nk ck) (.slice av nv cv) (.slice (some ⟨gi, oi, none⟩) ni ci) (.int .i64 x)) (fun i _ _ => nk - (intOf i).toNat)
  case atStart => exact ⟨0, by omega, rfl, by simpa [flatTo] using HB5.out, HO5.out, HX5.out⟩
  case round =>
    obtain ⟨k, hk, rfl, hB, hO, hX⟩ := hrel
    have HB := hide hB
    have HO := hide hO
    have HX := hide hX
    clear hB hO hX
    by_cases hlt : k < nk
    · obtain ⟨g, o, a, d, hao, hc, hs1, hd1, hd2⟩ := (H.out.keys.belowW HB.out.below).get k (by rw [HNK.out]; exact hlt)
      subst hao
      have HSk := hide (HS.out k hlt)
      have HFk := hide (HF.out k)
      have HEk := hide (HEA.out k)
      have HOLD : Hid (Sl w0 (.slice a (N.keys.getD k []).length d) (N.keys.getD k [])) := by
        obtain ⟨g', o', a', d', hao', hc', hs', _, _⟩ := H.out.keys.get k (by rw [HNK.out]; exact hlt)
        injection hao' with hao'
        injection hao' with e1 e2
        subst e1 e2
        have hgl := World.block_lt_of_cell? w0 _ hc'
        have := (HB.out.below.cell hgl).trans hc'
        rw [hc] at this
        injection this with this
        injection this with e3 e4 e5
        subst e3 e5
        exact hs'
      have HT1 := hide (addText_any HB.out hs1 (fun W _ hW => HOLD.out.belowW hW) (HK.out k) (by have := HSk.out; omega))
      have hgl := World.block_lt_of_cell? wr _ hc
      have HVk := hide (HV.out k)
      have HKk := hide (HK.out k)
      clear hs1
      generalize hK : N.keys.getD k [] = K at *
      clear hK
      obtain ⟨k0, k1, k2, k3, k4, f0, f1, f2, f3, f4⟩ := HX.out.cells
      go_wp2_with fail
      refine HT1.out.mono ?_
      rintro e W1 ⟨u1, rfl, hB1, hO1⟩
      clear k0 k1 k2 k3 k4 f0 f1 f2 f3 f4 hc
      have HX1 := hide (HX.out.oth hO1 (by decide))
      have HO1 := hide (HO.out.trans hO1)
      have HB1 := hide hB1
      clear hB1 hO1 HT1
      obtain ⟨k0, k1, k2, k3, k4, f0, f1, f2, f3, f4⟩ := HX1.out.cells
      obtain ⟨g2, o2, hao2, hc2⟩ := (H.out.kids.belowW HB1.out.below).get (k + 1) (by have := HM.out; have := HNI.out; omega)
      injection hao2 with hao2
      injection hao2 with e1 e2
      subst e1 e2
      have hlv : k + 1 < ni := by have := HM.out; omega
      obtain ⟨q2, hq2⟩ : ∃ q : Nat, N.kids.getD (k + 1) 0 = (q : Int) := ⟨(N.kids.getD (k + 1) 0).toNat, by have := (HV.out (k + 1)).1; omega⟩
      have hqb2 : q2 < 4294967296 := by have := (HV.out (k + 1)).2; omega
      rw [hq2] at hc2
      have HQ2 : Hid ((N.kids.getD (k + 1) 0).toNat = q2) := by unfold Hid; rw [hq2]; rfl
      have HT2 := hide (addN4_any HB1.out q2 hqb2 (by
        have h1 := HSk.out
        rw [HEk.out] at h1
        simp only [List.length_append] at h1 ⊢
        omega))
      have hgl2 := World.block_lt_of_cell? W1 _ hc2
      clear hq2 hqb2
      have hc2 : W1.cell? ⟨gi, oi + (k + 1), none⟩ = some (.int .i64 (q2 : Int)) := hc2
      go_wp2_with fail
      refine HT2.out.mono ?_
      rintro e W2 ⟨u2, rfl, hB2, hO2⟩
      have HX2 := hide (HX1.out.oth hO2 (by decide))
      have HO2 := hide (HO1.out.trans hO2)
      have HB2 := hide hB2
      clear hB2 hO2 HT2 k0 k1 k2 k3 k4 f0 f1 f2 f3 f4 hc2
      go_wp2
      go_roundw
      case rel =>
        refine ⟨k + 1, by omega, by go_num, ?_, HO2.out, HX2.out⟩
        rw [HFk.out, HEk.out, HQ2.out, ← List.append_assoc, ← List.append_assoc]
        exact HB2.out
      case measure => simp [intOf]; omega
    · have hkL : k = nk := by omega
      subst hkL
      go_wp2
      go_ret
      exact ⟨_, rfl, HB.out, HO.out⟩
end Go.Proofs.Ytjcobejaldfibaa
