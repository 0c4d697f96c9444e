/- The document's Cycle and Victim. -/
import Derived.Test.YtaoghggbcbpapaaRre
import Derived.Test.YtaoghggbcbpapaaRpu
namespace Go.Proofs.Ytaoghggbcbpapaa
open Go.RowKit
set_option linter.unusedVariables false
set_option linter.unusedSimpArgs false

structure RUp (E : List (Int × Int)) (fr : Int) (O : List Int) (k : Nat) (C : List Int) : Prop where
  rise : C.Pairwise (· < ·)
  just : ∀ x, x ∈ C ↔ x ∈ O.take k ∧ Rch (Stp E) x fr
  len : C.length ≤ k
set_option maxHeartbeats 4000000 in
set_option maxRecDepth 100000 in
theorem rcycle_any {w : World} {a : Option Addr} {c : Nat} {E : List (Int × Int)} (hE : EdgesAt w a E) (fr : Int) :
    Calls Try.prog 11 #[.slice a E.length c, .int .i64 fr] w fun e w' => ∃ (v : Value) (C : List Int), e = .returned v ∧ w'.ownsRow w.heap.size 3 1 v C.length (C.map icell) ∧ CycIs E fr C ∧ C.length ≤ 1000000 ∧ Below w.heap.size w w' := by
  have HE := hide hE
  have hlen := hE.len
  obtain ⟨n, hn⟩ : ∃ n, E.length = n := ⟨_, rfl⟩
  have HN := hide hn
  rw [hn] at hlen ⊢
  clear hn hE
  have hb0 := run_bs0_29
  have HO0 := hide (own_none3 w w.heap.size (Nat.le_refl _))
  have HB0 : Hid (Below w.heap.size w (w.alloc (.cells #[] 3))) := (Below.refl _ w).alloc (Nat.le_refl _) _
  have HRC : Hid (∀ W x, Below w.heap.size w W → Calls Try.prog 24 #[.slice a n c, .int .i64 x] W fun e w' => ∃ (v : Value) (O : List Int), e = .returned v ∧ w'.ownsRow W.heap.size 3 1 v O.length (O.map icell) ∧ (∀ y, y ∈ O ↔ Rch (Stp E) x y) ∧ O.length ≤ n ∧ Below W.heap.size W w') := fun W x hb => by
    have h := reach_any (c := c) (HE.out.belowW hb) x
    rw [HN.out] at h
    exact h
  go_enter Try.func11, Try.ntmps11
  go_upto_region 3 with (go_at_call 24; refine (HRC.out _ _ HB0.out).mono ?_; rintro e w1 ⟨v1, O, rfl, hr1, hO, hOl, hb1⟩)
  have HO := hide hO
  have HR1 := hide hr1
  have HB1 : Hid (Below w.heap.size w w1) := bt HB0.out (Nat.le_refl _) hb1
  have HOUT : Hid (w1.ownsRow w.heap.size 3 1 (.slice (some ⟨w.heap.size, 0, none⟩) 0 0) ([] : List Int).length (([] : List Int).map icell)) := owns_below HO0.out hb1 (Nat.le_refl _)
  obtain ⟨a1, c1, rfl, hcell⟩ := int_cells (Row.of_owns hr1)
  have HCE := hide hcell
  obtain ⟨m, hm⟩ : ∃ m, O.length = m := ⟨_, rfl⟩
  have HM := hide hm
  rw [hm] at hOl ⊢
  clear hr1 hO hb1 hcell hm HO0 HR1
  go_wp2
  go_loopw [5, 7] (fun v i wr => ∃ (k : Nat) (C : List Int), k ≤ m ∧ i = .int .i64 k ∧ RUp E fr O k C ∧ wr.ownsRow w.heap.size 3 1 v C.length (C.map icell) ∧ Below w1.heap.size w1 wr ∧ Below w.heap.size w wr) (fun _ i _ => m - (intOf i).toNat)
  case atStart => exact ⟨0, [], by omega, rfl, ⟨by simp, by simp, by simp⟩, HOUT.out, Below.refl _ _, HB1.out⟩
  case round =>
    obtain ⟨k, C, hk, rfl, hC, hrow, hB, hBw⟩ := hrel
    have HC := hide hC
    have HROW := hide hrow
    have HB := hide hB
    have HBW := hide hBw
    have hCl := hC.len
    clear hC hrow hB hBw HOUT
    by_cases hlt : k < m
    · obtain ⟨x, hx⟩ : ∃ x, O[k]? = some x := ⟨_, List.getElem?_eq_getElem (by rw [HM.out]; exact hlt)⟩
      obtain ⟨g, o, rfl, hgl, hcx⟩ := HCE.out k x hx
      have hc0 : wr.cell? ⟨g, o + k, none⟩ = some (.int .i64 x) := (HB.out.cell (p := ⟨g, o + k, none⟩) hgl).trans hcx
      have HTK : Hid (O.take (k + 1) = O.take k ++ [x]) := take_snoc hx
      have HRX := hide (HRC.out wr x HBW.out)
      have HCX : Hid (∀ W, Below wr.heap.size wr W → W.cell? ⟨g, o + k, none⟩ = some (.int .i64 x)) := fun W hb => (hb.cell (p := ⟨g, o + k, none⟩) (Nat.lt_of_lt_of_le hgl HB.out.size)).trans hc0
      clear hx hcx
      go_upto_if 25 with (first
        | (go_at_call 24; refine HRX.out.mono ?_; rintro e w2 ⟨v2, P, rfl, hr2, hP, hPl, hb2⟩; have hh := has_any (Row.of_owns hr2) (by omega) fr; obtain ⟨cb, hcb⟩ : ∃ b, P.contains fr = b := ⟨_, rfl⟩; rw [hcb] at hh; have HH2 := hide hh; have HCB0 := hide hcb; have HP := hide hP; clear hh hcb; have HB2 := hide hb2; clear hr2 hP hb2)
        | (go_at_call 25; refine HH2.out.mono ?_; rintro e w' ⟨rfl, hw⟩; have hw := hw.symm; subst hw))
      have hc2 := HCX.out w2 HB2.out
      have HROW2 := hide (owns_below HROW.out HB2.out (Nat.le_refl _))
      have HBB : Hid (Below w1.heap.size w1 w2) := bt HB.out (Nat.le_refl _) HB2.out
      have HBBW : Hid (Below w.heap.size w w2) := bt HBW.out (Nat.le_refl _) HB2.out
      have HCB : Hid (cb = true ↔ Rch (Stp E) x fr) := by rw [← HCB0.out, List.contains_iff_mem]; exact HP.out fr
      clear hc0 HCB0 HH2 HP
      cases cb with
      | false =>
        have HUP : Hid (RUp E fr O (k + 1) C) := by
          refine ⟨HC.out.rise, fun y => ?_, by have := HC.out.len; omega⟩
          rw [HC.out.just y, HTK.out, List.mem_append, List.mem_singleton]
          constructor
          · rintro ⟨h1, h2⟩; exact ⟨.inl h1, h2⟩
          · rintro ⟨h1 | h1, h2⟩
            · exact ⟨h1, h2⟩
            · subst h1
              have := HCB.out.2 h2
              cases this
        go_wp2
        go_roundw
        case rel => exact ⟨k + 1, C, by omega, by go_num, HUP.out, HROW2.out, HBB.out, HBBW.out⟩
        case measure => simp [intOf]; omega
      | true =>
        have HPU := hide (put_any (Row.of_owns HROW2.out) (by omega) HC.out.rise x)
        have HUP : Hid (∀ D, PutIs C x D → RUp E fr O (k + 1) D) := fun D hD => by
          refine ⟨hD.rise, fun y => ?_, by have := hD.len; have := HC.out.len; omega⟩
          rw [hD.just y, HC.out.just y, HTK.out, List.mem_append, List.mem_singleton]
          constructor
          · rintro (h1 | ⟨h1, h2⟩)
            · subst h1; exact ⟨.inr rfl, HCB.out.1 rfl⟩
            · exact ⟨.inl h1, h2⟩
          · rintro ⟨h1 | h1, h2⟩
            · exact .inr ⟨h1, h2⟩
            · exact .inl h1
        go_wp2_with (go_at_call 26; refine HPU.out.mono ?_; rintro e w3 ⟨v3, D, rfl, hr3, hD, hb3⟩)
        go_roundw
        case rel => exact ⟨k + 1, D, by omega, by go_num, HUP.out D hD, owns_mono hr3 HBBW.out.size, bt HBB.out (Nat.le_refl _) hb3, bt HBBW.out (Nat.le_refl _) hb3⟩
        case measure => simp [intOf]; omega
    · have HFI : Hid (CycIs E fr C) := by
        refine ⟨HC.out.rise, fun x => ?_⟩
        rw [HC.out.just x, List.take_of_length_le (by rw [HM.out]; omega), HO.out x]
        exact Iff.rfl
      go_wp2
      go_ret
      exact ⟨_, C, rfl, HROW.out, HFI.out, by omega, HBW.out⟩
set_option maxHeartbeats 1000000 in
theorem rvictim_any {w : World} {a : Option Addr} {c : Nat} {E : List (Int × Int)} (hE : EdgesAt w a E) (fr : Int) :
    Calls Try.prog 13 #[.slice a E.length c, .int .i64 fr] w fun e w' => ∃ v ok, e = .returned (.tuple #[.int .i64 v, .bool ok]) ∧ VicIs E fr v ok ∧ Below w.heap.size w w' := by
  have HC := hide (rcycle_any (c := c) hE fr)
  clear hE
  go_enter Try.func13, Try.ntmps13
  go_upto_region 2 with (go_at_call 11; refine HC.out.mono ?_; rintro e w1 ⟨v1, C, rfl, hr, hC, hl, hb⟩)
  have HV := hide hC.vic
  have HB := hide hb
  obtain ⟨a1, c1, rfl, hcell⟩ := int_cells (Row.of_owns hr)
  clear hr hb HC hC
  rcases List.eq_nil_or_concat C with rfl | ⟨D, x, rfl⟩
  · have HV' : Hid (VicIs E fr 0 false) := HV.out
    clear HV hcell
    go_wp2
    go_ret2
    exact ⟨_, _, rfl, HV'.out, HB.out⟩
  · rw [List.concat_eq_append] at HV hcell hl ⊢
    have HV' : Hid (VicIs E fr x true) := by
      have h := HV.out
      have e1 : (D ++ [x]).getLast?.getD 0 = x := by simp
      have e2 : (!(D ++ [x]).isEmpty) = true := by simp
      rw [e1, e2] at h
      exact h
    obtain ⟨g, o, rfl, hg, hc⟩ := hcell D.length x (by simp)
    have hlen : (D ++ [x]).length = D.length + 1 := by simp
    rw [hlen] at hl ⊢
    obtain ⟨dl, hdl⟩ : ∃ d, D.length = d := ⟨_, rfl⟩
    rw [hdl] at hl hc ⊢
    clear HV hcell hlen hdl
    go_wp2
    go_ret2
    exact ⟨_, _, rfl, HV'.out, HB.out⟩
end Go.Proofs.Ytaoghggbcbpapaa
