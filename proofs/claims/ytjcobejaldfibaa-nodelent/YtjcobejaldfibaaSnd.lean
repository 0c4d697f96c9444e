/- isPlace, sound. -/
import Derived.Test.YtjcobejaldfibaaSz
namespace Go.Proofs.Ytjcobejaldfibaa
open Go.RowKit
set_option linter.unusedVariables false
set_option linter.unusedSimpArgs false

set_option maxHeartbeats 400000 in
theorem isPlace_any (n : Int) (w : World) : Calls Try.prog 54 #[.int .i64 n] w fun e w' => e = .returned (.bool (place n)) ∧ w' = w := by
  have hp : place n = (decide (0 ≤ n) && decide (n ≤ 4294967295)) := rfl
  by_cases h0 : 0 ≤ n
  · by_cases h1 : n ≤ 4294967295
    · have e : place n = true := by rw [hp]; simp; omega
      rw [e]
      go_enter Try.func54, Try.ntmps54
      go_wp2
      go_ret
      exact ⟨rfl, rfl⟩
    · have e : place n = false := by rw [hp]; simp; omega
      rw [e]
      go_enter Try.func54, Try.ntmps54
      go_wp2
      go_ret
      exact ⟨rfl, rfl⟩
  · have e : place n = false := by rw [hp]; simp; omega
    rw [e]
    go_enter Try.func54, Try.ntmps54
    go_wp2
    go_ret
    exact ⟨rfl, rfl⟩
theorem sound_no1 {N : Nd} (h : N.matched = false) : N.sound = false := by simp [Nd.sound, h]
theorem sound_no2 {N : Nd} (h : upTo N.keys.length (okK N.keys) = false) : N.sound = false := by simp [Nd.sound, h]
theorem sound_no3 {N : Nd} (h : upTo N.vals.length (okV N.vals) = false) : N.sound = false := by simp [Nd.sound, h]
theorem sound_no4 {N : Nd} (h : upTo N.kids.length (okI N.kids) = false) : N.sound = false := by simp [Nd.sound, h]
theorem sound_no5 {N : Nd} (h : place N.next = false) : N.sound = false := by simp [Nd.sound, h]
theorem sound_no6 {N : Nd} (h : N.leaf = false) (h' : N.next ≠ 0) : N.sound = false := by simp [Nd.sound, h, h']
theorem sound_yes {N : Nd} (h1 : N.matched = true) (h2 : upTo N.keys.length (okK N.keys) = true) (h3 : upTo N.vals.length (okV N.vals) = true) (h4 : upTo N.kids.length (okI N.kids) = true) (h5 : place N.next = true) (h6 : N.leaf = true ∨ N.next = 0) : N.sound = true := by
  rcases h6 with h | h
  · simp [Nd.sound, h1, h2, h3, h4, h5, h]
  · rw [h] at h5
    simp [Nd.sound, h1, h2, h3, h4, h5, h]
theorem cmp_val (a b : List UInt8) : Lib.compareBytes a b = -1 ∧ blt a b = true ∨ (Lib.compareBytes a b = 0 ∨ Lib.compareBytes a b = 1) ∧ blt a b = false := by
  have := cmp_blt a b
  cases h : blt a b with
  | true => rw [h] at this; exact .inl ⟨by simpa using this, rfl⟩
  | false =>
    rw [h] at this
    refine .inr ⟨?_, rfl⟩
    by_cases e : a = b
    · left; simpa [e] using this
    · right; simpa [e] using this
set_option maxHeartbeats 1000000 in
theorem sound_any {w : World} {N : Nd} {vk vv vi : Value} (h : NdAt w N vk vv vi) (hf : Fits N) :
    Calls Try.prog 33 #[.agg #[.bool N.leaf, vk, vv, vi, .int .i64 N.next]] w fun e w' => e = .returned (.bool N.sound) ∧ Below w.heap.size w w' := by
  have HM : Hid (∀ W, Below w.heap.size w W → Calls Try.prog 27 #[.agg #[.bool N.leaf, vk, vv, vi, .int .i64 N.next]] W fun e w' => e = .returned (.bool N.matched) ∧ Below W.heap.size W w') := fun W hW => matched_any (h.belowW hW) hf
  obtain ⟨ak, ck, rfl, _, _⟩ := h.keys.len
  obtain ⟨av, cv, rfl, _, _⟩ := h.vals.len
  obtain ⟨ai, ci, rfl, _, _⟩ := h.kids.len
  have HB : Hid (Below w.heap.size w (w.alloc (.cells #[.bool N.leaf, .slice ak N.keys.length ck, .slice av N.vals.length cv, .slice ai N.kids.length ci, .int .i64 N.next] 26))) := (Below.refl _ _).alloc (Nat.le_refl _) _
  have HX := hide (Box.new (t := 26) w (.bool N.leaf) (.slice ak N.keys.length ck) (.slice av N.vals.length cv) (.slice ai N.kids.length ci) (.int .i64 N.next))
  have HK := hide h.keys
  have HV := hide h.vals
  have HI := hide h.kids
  have hk3 := hf.keys
  have hv3 := hf.vals
  have hi3 := hf.kids
  have N1 := hide (sound_no1 (N := N))
  have N2 := hide (sound_no2 (N := N))
  have N3 := hide (sound_no3 (N := N))
  have N4 := hide (sound_no4 (N := N))
  have N5 := hide (sound_no5 (N := N))
  have N6 := hide (sound_no6 (N := N))
  have NY := hide (sound_yes (N := N))
  have HKL : Hid (∀ k, (N.keys.getD k []).length ≤ 140737488355328) := fun k => by
    by_cases hk : k < N.keys.length
    · exact hf.key _ (by simp [hk])
    · simp [Nat.le_of_not_lt hk]
  have HVLn : Hid (∀ k, (N.vals.getD k []).length ≤ 140737488355328) := fun k => by
    by_cases hk : k < N.vals.length
    · exact hf.val _ (by simp [hk])
    · simp [Nat.le_of_not_lt hk]
  clear h hf
  generalize hnk : N.keys.length = nk at *
  generalize hnv : N.vals.length = nv at *
  generalize hni : N.kids.length = ni at *
  generalize N.next = x at *
  generalize N.matched = mm at *
  have HNK := hide hnk
  have HNV := hide hnv
  have HNI := hide hni
  clear hnk hnv hni
  generalize N.leaf = lf at *
  go_enter Try.func33, Try.ntmps33
  go_wp2
  refine wp_scope_fwd 1 ?_
  generalize (w.alloc (.cells #[.bool lf, .slice ak nk ck, .slice av nv cv, .slice ai ni ci, .int .i64 x] 26)) = W0 at *
  obtain ⟨k0, k1, k2, k3, k4, f0, f1, f2, f3, f4⟩ := HX.out.cells
  go_wp2_with fail
  refine (HM.out W0 HB.out).mono ?_
  rintro e W1 ⟨rfl, hb1⟩
  have HB1 := hide (HB.out.trans (hb1.mono HB.out.size))
  have HX1 := hide (HX.out.belowW hb1)
  clear k0 k1 k2 k3 k4 f0 f1 f2 f3 f4 hb1 HX HB HM
  obtain ⟨k0, k1, k2, k3, k4, f0, f1, f2, f3, f4⟩ := HX1.out.cells
  cases mm with
  | false =>
    have HN := hide (N1.out rfl)
    go_wp2
    go_step3
    refine ⟨_, rfl, ?_⟩
    go_wp2
    rw [Exit.jumps_ret]
    go_ret
    refine ⟨?_, HB1.out⟩
    rw [HN.out]
    rfl

  | true =>
    go_wp2
    go_loopw [15] (fun i wr => ∃ k : Nat, k ≤ nk ∧ i = .int .i64 (k : Int) ∧ wr = W1 ∧ Hid (∀ j, j < k → okK N.keys j = true)) (fun i _ => nk - (intOf i).toNat)
    case atStart => exact ⟨0, by omega, rfl, rfl, fun j hj => by omega⟩
    case round =>
      obtain ⟨k, hk, rfl, rfl, HO⟩ := hrel
      by_cases hlt : k < nk
      · obtain ⟨g, o, a, d, hao, hc, hs1, hd1, hd2⟩ := (HK.out.belowW HB1.out).get k (by rw [HNK.out]; exact hlt)
        subst hao
        have hLk := HKL.out k
        have hgl := World.block_lt_of_cell? wr _ hc
        by_cases h100 : (N.keys.getD k []).length ≤ 100
        · by_cases hk0 : k = 0
          · subst hk0
            have HOK : Hid (okK N.keys 0 = true) := by unfold Hid okK; rw [decide_eq_true h100]; rfl
            clear hs1
            generalize N.keys.getD 0 [] = K at *
            generalize K.length = kl at *
            have hc : wr.cell? ⟨g, o, none⟩ = some (.slice a kl d) := hc
            have q1 : ¬ (100 < kl) := by omega
            go_wp2
            go_roundw
            case rel => exact ⟨1, by omega, by go_num, trivial, below_one HOK.out⟩
            case measure => simp [intOf]; omega
          · obtain ⟨j, hjk⟩ : ∃ j, k = j + 1 := ⟨k - 1, by omega⟩
            obtain ⟨g', o', a', d', hao', hp, hs2, hd1', hd2'⟩ := (HK.out.belowW HB1.out).get j (by rw [HNK.out]; omega)
            injection hao' with hao'
            injection hao' with e1 e2
            subst e1 e2
            have hkj : (k : Int) - 1 = (j : Int) := by omega
            have hj1 : k - 1 = j := by omega
            have hjn : j < nk := by omega
            have hk1 : 1 ≤ k := by omega
            have HOKD : Hid (okK N.keys k = blt (N.keys.getD j []) (N.keys.getD k [])) := by unfold Hid okK; rw [decide_eq_true h100, hj1, decide_eq_false hk0]; rfl
            have HUF : Hid (okK N.keys k = false → upTo nk (okK N.keys) = false) := fun h => upTo_false k hlt h
            have q3 : decide (0 < k) = true := decide_eq_true (by omega)
            have HC := hide (compare_any hs2 hs1)
            have hcv := cmp_val (N.keys.getD j []) (N.keys.getD k [])
            generalize blt (N.keys.getD j []) (N.keys.getD k []) = bb at *
            generalize Lib.compareBytes (N.keys.getD j []) (N.keys.getD k []) = cm at *
            clear hs1 hs2
            generalize N.keys.getD k [] = K at *
            generalize N.keys.getD j [] = K' at *
            generalize K.length = kl at *
            generalize K'.length = kl' at *
            have q1 : ¬ (100 < kl) := by omega
            clear hjk hj1 hk0
            go_wp2_with fail
            refine HC.out.mono ?_
            rintro e W2 ⟨rfl, rfl⟩
            rcases hcv with ⟨rfl, rfl⟩ | ⟨hcm, rfl⟩
            · go_wp2
              clear hkj q3 hk1 hjn hc hp
              go_roundw
              case rel => exact ⟨k + 1, by omega, by go_num, trivial, below_succ HO.out HOKD.out⟩
              case measure => simp [intOf]; omega
            · have hcm2 : 0 ≤ cm := by omega
              have HN := hide (N2.out (HUF.out HOKD.out))
              go_wp2
              go_step3
              refine ⟨_, rfl, ?_⟩
              go_wp2
              rw [Exit.jumps_ret]
              go_ret
              refine ⟨?_, HB1.out⟩
              rw [HN.out]
              rfl

        · have HN : Hid (N.sound = false) := N2.out (upTo_false k hlt (by unfold okK; rw [decide_eq_false h100]; rfl))
          clear hs1
          generalize N.keys.getD k [] = K at *
          generalize K.length = kl at *
          have q1 : 100 < kl := by omega
          go_wp2
          go_step3
          refine ⟨_, rfl, ?_⟩
          go_wp2
          rw [Exit.jumps_ret]
          go_ret
          refine ⟨?_, HB1.out⟩
          rw [HN.out]
          rfl

      · have hkL : k = nk := by omega
        subst hkL
        have HKT : Hid (upTo k (okK N.keys) = true) := upTo_iff.2 HO.out
        clear HO
        generalize hW8 : wr = W8 at *
        have HW8 := hide hW8
        clear hW8
        go_wp2
        go_loopw [40] (fun i wr => ∃ j : Nat, j ≤ nv ∧ i = .int .i64 (j : Int) ∧ wr = W8 ∧ Hid (∀ q, q < j → okV N.vals q = true)) (fun i _ => nv - (intOf i).toNat)
        case atStart => exact ⟨0, by omega, rfl, rfl, fun j hj => by omega⟩
        case round =>
          obtain ⟨j, hj, rfl, rfl, HO⟩ := hrel
          by_cases hlt : j < nv
          · obtain ⟨g, o, a, d, hao, hc, hs1, hd1, hd2⟩ := (HV.out.belowW HB1.out).get j (by rw [HNV.out]; exact hlt)
            subst hao
            have hLk := HVLn.out j
            clear hs1
            by_cases h100 : (N.vals.getD j []).length ≤ 100
            · have HOK : Hid (okV N.vals j = true) := by unfold Hid okV; rw [decide_eq_true h100]
              generalize N.vals.getD j [] = K at *
              generalize K.length = kl at *
              have q1 : ¬ (100 < kl) := by omega
              go_wp2
              go_roundw
              case rel => exact ⟨j + 1, by omega, by go_num, trivial, below_succ HO.out HOK.out⟩
              case measure => simp [intOf]; omega
            · have HN : Hid (N.sound = false) := N3.out (upTo_false j hlt (by unfold okV; rw [decide_eq_false h100]))
              generalize N.vals.getD j [] = K at *
              generalize K.length = kl at *
              have q1 : 100 < kl := by omega
              go_wp2
              go_step3
              refine ⟨_, rfl, ?_⟩
              go_wp2
              rw [Exit.jumps_ret]
              go_ret
              refine ⟨?_, HB1.out⟩
              rw [HN.out]
              rfl

          · have hjL : j = nv := by omega
            subst hjL
            have HVT : Hid (upTo j (okV N.vals) = true) := upTo_iff.2 HO.out
            clear HO
            generalize hW9 : wr = W9 at *
            have HW9 := hide hW9
            clear hW9
            go_wp2
            go_loopw [51] (fun i wr => ∃ q : Nat, q ≤ ni ∧ i = .int .i64 (q : Int) ∧ wr = W9 ∧ Hid (∀ p, p < q → okI N.kids p = true)) (fun i _ => ni - (intOf i).toNat)
            case atStart => exact ⟨0, by omega, rfl, rfl, fun j hj => by omega⟩
            case round =>
              obtain ⟨q, hq, rfl, rfl, HO⟩ := hrel
              by_cases hlt : q < ni
              · obtain ⟨g, o, hao, hc⟩ := (HI.out.belowW HB1.out).get q (by rw [HNI.out]; exact hlt)
                subst hao
                have HN1 := hide (isPlace_any (N.kids.getD q 0) wr)
                have HOKD : Hid (okI N.kids q = place (N.kids.getD q 0)) := rfl
                have HUF : Hid (okI N.kids q = false → upTo ni (okI N.kids) = false) := fun h => upTo_false q hlt h
                generalize N.kids.getD q 0 = y at *
                go_wp2_with fail
                refine HN1.out.mono ?_
                rintro e W3 ⟨rfl, rfl⟩
                cases hpy : place y with
                | true =>
                  rw [hpy] at HOKD
                  go_wp2
                  go_roundw
                  case rel => exact ⟨q + 1, by omega, by go_num, trivial, below_succ HO.out HOKD.out⟩
                  case measure => simp [intOf]; omega
                | false =>
                  have HN := hide (N4.out (HUF.out (HOKD.out.trans hpy)))
                  go_wp2
                  go_step3
                  refine ⟨_, rfl, ?_⟩
                  go_wp2
                  rw [Exit.jumps_ret]
                  go_ret
                  refine ⟨?_, HB1.out⟩
                  rw [HN.out]
                  rfl

              · have hqL : q = ni := by omega
                subst hqL
                have HIT : Hid (upTo q (okI N.kids) = true) := upTo_iff.2 HO.out
                clear HO
                have HP := hide (isPlace_any x wr)
                go_wp2_with fail
                refine HP.out.mono ?_
                rintro e W3 ⟨rfl, rfl⟩
                cases hpx : place x with
                | false =>
                  have HN := hide (N5.out hpx)
                  go_wp2
                  go_step3
                  refine ⟨_, rfl, ?_⟩
                  go_wp2
                  rw [Exit.jumps_ret]
                  go_ret
                  refine ⟨?_, HB1.out⟩
                  rw [HN.out]
                  rfl

                | true =>
                  cases lf with
                  | true =>
                    have HN := hide (NY.out trivial HKT.out HVT.out HIT.out hpx (.inl rfl))
                    go_wp2
                    rw [Exit.jumps_ret]
                    go_ret
                    refine ⟨?_, HB1.out⟩
                    rw [HN.out]
                    rfl
                  | false =>
                    by_cases hx0 : x = 0
                    · have HN := hide (NY.out trivial HKT.out HVT.out HIT.out hpx (.inr hx0))
                      subst hx0
                      go_wp2
                      rw [Exit.jumps_ret]
                      go_ret
                      refine ⟨?_, HB1.out⟩
                      rw [HN.out]
                      rfl
                    · have HN := hide (N6.out rfl hx0)
                      go_wp2
                      go_step3
                      refine ⟨_, rfl, ?_⟩
                      go_wp2
                      rw [Exit.jumps_ret]
                      go_ret
                      refine ⟨?_, HB1.out⟩
                      rw [HN.out]
                      rfl

end Go.Proofs.Ytjcobejaldfibaa
