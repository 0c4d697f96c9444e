/- WaitFree's walk. -/
import Derived.Test.YtaoghggbcbpapaaAwk
namespace Go.Proofs.Ytaoghggbcbpapaa
open Go.RowKit
set_option linter.unusedVariables false
set_option linter.unusedSimpArgs false

theorem CycIs.zero {E : List (Int × Int)} {a : Int} {C : List Int} (h : CycIs E a C) : C.length = 0 ↔ ¬ Rch (Stp E) a a := by
  rw [← h.nil_iff]
  exact List.length_eq_zero_iff
theorem cyc_len {w : World} {a : Option Addr} {c n : Nat} {E : List (Int × Int)} (hE : EdgesAt w a E) (hn : E.length = n) (fr : Int) :
    Calls Try.prog 10 #[.slice a n c, .int .i64 fr] w fun e w' => ∃ a1 c1 n1, e = .returned (.slice a1 n1 c1) ∧ (n1 = 0 ↔ ¬ Rch (Stp E) fr fr) ∧ n1 ≤ 2000000 ∧ Below w.heap.size w w' := by
  have h := cycle_any (c := c) hE fr
  rw [hn] at h
  refine h.mono ?_
  rintro e w' ⟨v, C, rfl, h1, h2, h3, h4⟩
  obtain ⟨a1, c1, rfl⟩ := owns_len h1
  exact ⟨a1, c1, C.length, rfl, h2.zero, h3, h4⟩
set_option maxHeartbeats 4000000 in
set_option maxRecDepth 100000 in
theorem free_walk (a : Option Addr) (n c : Nat) (w : World) (h1 : n ≤ 9223372036854775807) (h2 : n ≤ 1000000 → ∃ E : List (Int × Int), E.length = n ∧ EdgesAt w a E) :
    Calls Try.prog 5 #[.slice a n c] w fun e w' => e = .returned (.bool true) ∧ Below w.heap.size w w' := by
  have HAW : Hid (∀ W, Calls Try.prog 7 #[] W fun e w' => e = .returned (.bool true) ∧ Below W.heap.size W w') := awake_any
  by_cases hbig : 30 < n
  · clear h2
    go_enter Try.func5, Try.ntmps5
    go_wp2_with (go_at_call 7; refine (HAW.out _).mono ?_; rintro e w1 ⟨rfl, hb1⟩)
    go_ret
    exact ⟨rfl, hb1⟩
  · obtain ⟨E, hn, hE⟩ := h2 (by omega)
    have HN := hide hn
    have HE := hide hE
    have HFR := hide (free_any (c := c) hE)
    rw [hn] at HFR
    have HCY : Hid (∀ W fr, Below w.heap.size w W → Calls Try.prog 10 #[.slice a n c, .int .i64 fr] W fun e w' => ∃ a1 c1 n1, e = .returned (.slice a1 n1 c1) ∧ (n1 = 0 ↔ ¬ Rch (Stp E) fr fr) ∧ n1 ≤ 2000000 ∧ Below W.heap.size W w') := fun W fr hb => cyc_len (HE.out.belowW hb) HN.out fr
    clear h2 hn hE h1
    go_enter Try.func5, Try.ntmps5
    go_upto_region 4 with (go_at_call 9; refine HFR.out.mono ?_; rintro e w1 ⟨v1, F, rfl, hr1, hF, hb1⟩)
    have hFl : F.length ≤ n := by rw [← HN.out]; exact hF.len
    obtain ⟨a1, c1, rfl, hE1⟩ := EdgesAt.of_owns hr1 (by omega)
    obtain ⟨fl, hfl⟩ : ∃ l, F.length = l := ⟨_, rfl⟩
    have HFL := hide hfl
    rw [hfl] at hFl ⊢
    have HF := hide hF
    have HB1 := hide hb1
    have HE1 := hide hE1
    have HC1 : Hid (∀ W fr, Below w1.heap.size w1 W → Calls Try.prog 10 #[.slice a1 fl c1, .int .i64 fr] W fun e w' => ∃ a1 c1, e = .returned (.slice a1 0 c1) ∧ Below W.heap.size W w') := fun W fr hb => by
      refine (cyc_len (HE1.out.belowW hb) HFL.out fr).mono ?_
      rintro e w' ⟨a2, c2, n2, rfl, h0, _, h3⟩
      have : n2 = 0 := h0.2 (HF.out.free fr)
      subst this
      exact ⟨a2, c2, rfl, h3⟩
    clear hr1 hF hb1 hE1 hfl HFR
    go_wp2
    go_loopw [4] (fun i wr => ∃ k : Nat, k ≤ fl ∧ i = .int .i64 k ∧ Below w1.heap.size w1 wr) (fun i _ => fl - (intOf i).toNat)
    case atStart => exact ⟨0, by omega, rfl, Below.refl _ _⟩
    case round =>
      obtain ⟨k, hk, rfl, hB⟩ := hrel
      have HB := hide hB
      clear hB
      by_cases hlt : k < fl
      · obtain ⟨⟨p, q⟩, hx⟩ : ∃ x, F[k]? = some x := ⟨_, List.getElem?_eq_getElem (by rw [HFL.out]; exact hlt)⟩
        obtain ⟨b, o, hab, hbl, hrg⟩ := HE1.out.at' k _ hx
        subst hab
        have hc0 : wr.cell? ⟨b, o + k * 2, none⟩ = some (.int .i64 p) := (HB.out.cell (p := ⟨b, o + k * 2, none⟩) hbl).trans (hrg 0 _ rfl)
        have HC := hide (HC1.out wr p HB.out)
        clear hrg hx
        go_wp2_with (go_at_call 10; refine HC.out.mono ?_; rintro e w2 ⟨a2, c2, rfl, hb2⟩)
        go_roundw
        case rel => exact ⟨k + 1, by omega, by go_num, bt HB.out (Nat.le_refl _) hb2⟩
        case measure => simp [intOf]; omega
      · generalize wr = w2 at *
        have HB2 : Hid (Below w.heap.size w w2) := bt HB1.out (Nat.le_refl _) HB.out
        obtain ⟨pf, hpf⟩ : ∃ pf : Int × Int → Bool, ∀ e, pf e = true ↔ ¬ Rch (Stp E) e.1 e.1 ∧ ¬ Rch (Stp E) e.2 e.2 := ⟨fun e => @decide (¬ Rch (Stp E) e.1 e.1 ∧ ¬ Rch (Stp E) e.2 e.2) (Classical.propDecidable _), fun e => by simp⟩
        have HPF := hide hpf
        have HKE : Hid ((E.filter pf).length ≤ fl) := by rw [← HFL.out]; exact HF.out.kept pf (fun e _ h => (hpf e).1 h)
        clear hpf HB HC1 HE1 HF HFL
        go_wp2
        go_loopw [5, 6] (fun s i wr => ∃ k j : Nat, k ≤ n ∧ i = .int .i64 k ∧ s = .int .i64 j ∧ j ≤ k ∧ ((E.take k).filter pf).length = j ∧ Below w2.heap.size w2 wr) (fun _ i _ => n - (intOf i).toNat)
        case atStart => exact ⟨0, 0, by omega, rfl, rfl, by omega, by simp, Below.refl _ _⟩
        case round =>
          obtain ⟨k, j, hk, rfl, rfl, hjk, hj, hB⟩ := hrel
          have HB := hide hB
          have HJ := hide hj
          have HBW : Hid (Below w.heap.size w wr) := bt HB2.out (Nat.le_refl _) hB
          clear hB hj
          by_cases hlt : k < n
          · obtain ⟨⟨p, q⟩, hx⟩ : ∃ x, E[k]? = some x := ⟨_, List.getElem?_eq_getElem (by rw [HN.out]; exact hlt)⟩
            obtain ⟨b, o, hab, hbl, hrg⟩ := HE.out.at' k _ hx
            subst hab
            have hc0 : wr.cell? ⟨b, o + k * 2, none⟩ = some (.int .i64 p) := (HBW.out.cell (p := ⟨b, o + k * 2, none⟩) hbl).trans (hrg 0 _ rfl)
            have hc1 : wr.cell? ⟨b, o + k * 2 + 1, none⟩ = some (.int .i64 q) := (HBW.out.cell (p := ⟨b, o + k * 2 + 1, none⟩) hbl).trans (hrg 1 _ rfl)
            have HTK : Hid (E.take (k + 1) = E.take k ++ [(p, q)]) := take_snoc hx
            have HC0 : Hid (∀ W, Below wr.heap.size wr W → W.cell? ⟨b, o + k * 2, none⟩ = some (.int .i64 p) ∧ W.cell? ⟨b, o + k * 2 + 1, none⟩ = some (.int .i64 q)) := fun W hb => ⟨(hb.cell (p := ⟨b, o + k * 2, none⟩) (Nat.lt_of_lt_of_le hbl HBW.out.size)).trans hc0, (hb.cell (p := ⟨b, o + k * 2 + 1, none⟩) (Nat.lt_of_lt_of_le hbl HBW.out.size)).trans hc1⟩
            have HCW : Hid (∀ W fr, Below wr.heap.size wr W → Calls Try.prog 10 #[.slice (some ⟨b, o, none⟩) n c, .int .i64 fr] W fun e w' => ∃ a1 c1 n1, e = .returned (.slice a1 n1 c1) ∧ (n1 = 0 ↔ ¬ Rch (Stp E) fr fr) ∧ n1 ≤ 2000000 ∧ Below wr.heap.size wr w') := fun W fr hb => by
              refine (HCY.out W fr (bt HBW.out (Nat.le_refl _) hb)).mono ?_
              rintro e w' ⟨a1, c1, n1, h1, h2, h3, h4⟩
              exact ⟨a1, c1, n1, h1, h2, h3, bt hb (Nat.le_refl _) h4⟩
            have HBR : Hid (∀ m, Below wr.heap.size wr (wr.drewN m)) := fun m => below_drewN _ _ _
            clear hrg hx
            go_upto_region 13 with fail
            go_region_held (fun w' => w'.cell? ⟨b, o + k * 2, none⟩ = some (.int .i64 p) ∧ w'.cell? ⟨b, o + k * 2 + 1, none⟩ = some (.int .i64 q)) (simp [*])
              (first
                | (go_at_call 10; refine (HCW.out _ _ HB3.out).mono ?_; rintro e w4 ⟨a4, c4, n4, rfl, hz4, hl4, hb4⟩; obtain ⟨k2, k3⟩ := HC0.out w4 hb4; have HZ4 := hide hz4; have HB4 := hide hb4; clear hz4 hb4)
                | (go_at_call 10; refine (HCW.out _ _ (by first | exact Below.refl _ _ | exact HBR.out 1 | exact HBR.out _)).mono ?_; rintro e w3 ⟨a3, c3, n3, rfl, hz3, hl3, hb3⟩; obtain ⟨k0, k1⟩ := HC0.out w3 hb3; have HZ3 := hide hz3; have HB3 := hide hb3; clear hz3 hb3))
            have HB5 : Hid (Below w2.heap.size w2 w4) := bt HB.out (Nat.le_refl _) HB4.out
            clear k0 k1 k2 k3 hc0 hc1 HC0 HCW HBR HB4 HB3 HB HBW
            by_cases hz : n3 = 0 ∧ n4 = 0
            · have hb0 : (((n3 : Int) + (n4 : Int)) == 0) = true := by rw [hz.1, hz.2]; rfl
              have HP : Hid (((E.take (k + 1)).filter pf).length = j + 1) := by
                show _ = _
                rw [HTK.out, List.filter_append, List.length_append, HJ.out]
                have : pf (p, q) = true := (HPF.out (p, q)).2 ⟨HZ3.out.1 hz.1, HZ4.out.1 hz.2⟩
                simp [this]
              clear hz
              go_wp2
              go_roundw
              case rel => exact ⟨k + 1, j + 1, by omega, by go_num, by go_num, by omega, HP.out, HB5.out⟩
              case measure => simp [intOf]; omega
            · have hb0 : (((n3 : Int) + (n4 : Int)) == 0) = false := beq_eq_false_iff_ne.2 (by omega)
              have HP : Hid (((E.take (k + 1)).filter pf).length = j) := by
                show _ = _
                rw [HTK.out, List.filter_append, List.length_append, HJ.out]
                have : pf (p, q) = false := by
                  cases h : pf (p, q) with
                  | false => rfl
                  | true =>
                    have h' := (HPF.out (p, q)).1 h
                    exact absurd ⟨HZ3.out.2 h'.1, HZ4.out.2 h'.2⟩ hz
                simp [this]
              clear hz
              go_wp2
              go_roundw
              case rel => exact ⟨k + 1, j, by omega, by go_num, rfl, by omega, HP.out, HB5.out⟩
              case measure => simp [intOf]; omega
          · have hjf : j ≤ fl := by
              have h1 := HJ.out
              rw [List.take_of_length_le (by rw [HN.out]; omega)] at h1
              rw [← h1]
              exact HKE.out
            go_wp2_with (go_at_call 7; refine (HAW.out _).mono ?_; rintro e w5 ⟨rfl, hb5⟩)
            go_ret
            exact ⟨rfl, bt HBW.out (Nat.le_refl _) hb5⟩
end Go.Proofs.Ytaoghggbcbpapaa
