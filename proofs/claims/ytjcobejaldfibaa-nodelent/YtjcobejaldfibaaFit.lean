/- The document's number, fit, Size. -/
import Derived.Test.YtjcobejaldfibaaTo
namespace Go.Proofs.Ytjcobejaldfibaa
open Go.RowKit
set_option linter.unusedVariables false
set_option linter.unusedSimpArgs false

theorem strOf_toList' (t : List UInt8) : (strOf t).toList = t := by
  unfold strOf
  rw [ByteArray.toList_eq]
theorem strOf_size (t : List UInt8) : (strOf t).size = t.length := by
  simp [strOf, ByteArray.size]
set_option maxHeartbeats 400000 in
theorem rnumber_any (n : Int) (w : World) : Calls Try.prog 56 #[.int .i64 n] w fun e w' => e = .returned (.bool (place n)) ∧ w' = w := by
  have hp : place n = (decide (0 ≤ n) && decide (n ≤ 4294967295)) := rfl
  by_cases h0 : 0 ≤ n
  · by_cases h1 : n < 4294967296
    · have e : place n = true := by rw [hp]; simp; omega
      rw [e]
      go_enter Try.func56, Try.ntmps56
      go_wp2
      go_ret
      exact ⟨rfl, rfl⟩
    · have e : place n = false := by rw [hp]; simp; omega
      rw [e]
      go_enter Try.func56, Try.ntmps56
      go_wp2
      go_ret
      exact ⟨rfl, rfl⟩
  · have e : place n = false := by rw [hp]; simp; omega
    rw [e]
    go_enter Try.func56, Try.ntmps56
    go_wp2
    go_ret
    exact ⟨rfl, rfl⟩
theorem cmp_cases (K K' : List UInt8) : (blt K' K = true ∧ Op.bytesLess K K' = false ∧ (K == K') = false) ∨ (blt K' K = false ∧ Op.bytesLess K K' = true) ∨ (blt K' K = false ∧ Op.bytesLess K K' = false ∧ (K == K') = true) := by
  cases h1 : blt K' K with
  | true =>
    refine .inl ⟨rfl, blt_asymm h1, ?_⟩
    have : K ≠ K' := fun e => by rw [e, blt_irrefl] at h1; cases h1
    simpa using this
  | false =>
    cases h2 : Op.bytesLess K K' with
    | true => exact .inr (.inl ⟨rfl, rfl⟩)
    | false => exact .inr (.inr ⟨rfl, rfl, by rw [blt_total h2 h1]; simp⟩)
theorem below_succ {p : Nat → Bool} {k : Nat} (h : ∀ j, j < k → p j = true) (hk : p k = true) : ∀ j, j < k + 1 → p j = true := fun j hj => by
  rcases (by omega : j < k ∨ j = k) with h1 | h1
  · exact h j h1
  · subst h1; exact hk
theorem below_one {p : Nat → Bool} (hk : p 0 = true) : ∀ j, j < 1 → p j = true := below_succ (k := 0) (fun j hj => by omega) hk
theorem ref_sound {N : Nd} : N.sound = (upTo N.keys.length (okK N.keys) && place N.next && (if N.leaf then upTo N.vals.length (okV N.vals) && (decide (N.vals.length = N.keys.length) && decide (N.kids.length = 0)) else decide (N.next = 0) && upTo N.kids.length (okI N.kids) && (decide (N.kids.length = N.keys.length + 1) && decide (N.vals.length = 0)))) := by
  unfold Nd.sound Nd.matched
  cases hl : N.leaf with
  | true =>
    simp only [if_true, Bool.true_or, Bool.and_true]
    by_cases hk : N.kids.length = 0
    · have : upTo N.kids.length (okI N.kids) = true := by rw [hk]; rfl
      rw [this]
      cases upTo N.keys.length (okK N.keys) <;> cases upTo N.vals.length (okV N.vals) <;> cases place N.next <;> simp [hk]
    · simp [hk]
  | false =>
    simp only [Bool.false_eq_true, if_false, Bool.false_or]
    by_cases hk : N.vals.length = 0
    · have : upTo N.vals.length (okV N.vals) = true := by rw [hk]; rfl
      rw [this]
      cases upTo N.keys.length (okK N.keys) <;> cases upTo N.kids.length (okI N.kids) <;> cases place N.next <;> simp [hk, Bool.and_comm]
    · simp [hk]
set_option maxHeartbeats 1000000 in
theorem rfit_any {w : World} {N : Nd} {uk uv vi : Value} (h : RdAt w N uk uv vi) (hf : Fits N) :
    Calls Try.prog 38 #[.agg #[.bool N.leaf, uk, uv, vi, .int .i64 N.next]] w fun e w' => e = .returned (.bool N.sound) ∧ Below w.heap.size w w' := by
  obtain ⟨ak, ck, rfl, _, _⟩ := h.keys.len
  obtain ⟨av, cv, rfl, _, _⟩ := h.vals.len
  obtain ⟨ai, ci, rfl, _, _⟩ := h.kids.len
  have HB : Hid (Below w.heap.size w (w.alloc (.cells #[.bool N.leaf, .slice ak N.keys.length ck, .slice av N.vals.length cv, .slice ai N.kids.length ci, .int .i64 N.next] 43))) := (Below.refl _ _).alloc (Nat.le_refl _) _
  have HX := hide (Box.new (t := 43) w (.bool N.leaf) (.slice ak N.keys.length ck) (.slice av N.vals.length cv) (.slice ai N.kids.length ci) (.int .i64 N.next))
  have HK := hide h.keys
  have HV := hide h.vals
  have HI := hide h.kids
  have hk3 := hf.keys
  have hv3 := hf.vals
  have hi3 := hf.kids
  have HS := hide (ref_sound (N := N))
  clear h
  have HKL : Hid (∀ k, (N.keys.getD k []).length ≤ 140737488355328) := fun k => by
    by_cases hk : k < N.keys.length
    · exact hf.key _ (by simp [hk])
    · simp [Nat.le_of_not_lt hk]
  have HVLn : Hid (∀ k, (N.vals.getD k []).length ≤ 140737488355328) := fun k => by
    by_cases hk : k < N.vals.length
    · exact hf.val _ (by simp [hk])
    · simp [Nat.le_of_not_lt hk]
  clear hf
  generalize hnk : N.keys.length = nk at *
  generalize hnv : N.vals.length = nv at *
  generalize hni : N.kids.length = ni at *
  generalize N.next = x at *
  have HNK := hide hnk
  have HNV := hide hnv
  have HNI := hide hni
  clear hnk hnv hni
  have HNM : Hid (∀ W, Calls Try.prog 56 #[.int .i64 x] W fun e w' => e = .returned (.bool (place x)) ∧ w' = W) := fun W => rnumber_any x W
  generalize hlf : N.leaf = lf at *
  clear hlf
  go_enter Try.func38, Try.ntmps38
  go_upto_region 1 with fail
  generalize (w.alloc (.cells #[.bool lf, .slice ak nk ck, .slice av nv cv, .slice ai ni ci, .int .i64 x] 43)) = W0 at *
  obtain ⟨k0, k1, k2, k3, k4, f0, f1, f2, f3, f4⟩ := HX.out.cells
  go_wp2
  go_loopw [3] (fun i wr => ∃ k m : Nat, k ≤ nk ∧ i = .int .i64 (k : Int) ∧ wr = W0.drewN m ∧ Hid (∀ j, j < k → okK N.keys j = true)) (fun i _ => nk - (intOf i).toNat)
  case atStart => exact ⟨0, 0, by omega, rfl, rfl, fun j hj => by omega⟩
  case round =>
    obtain ⟨k, m, hk, rfl, rfl, HO⟩ := hrel
    by_cases hlt : k < nk
    · obtain ⟨g, o, hao, hc⟩ := (HK.out.belowW HB.out).get k (by rw [HNK.out]; exact hlt)
      subst hao
      have hLk := HKL.out k
      by_cases h100 : (N.keys.getD k []).length ≤ 100
      · by_cases hk0 : k = 0
        · subst hk0
          have HOK : Hid (okK N.keys 0 = true) := by unfold Hid okK; rw [decide_eq_true h100]; rfl
          have hsz := strOf_size (N.keys.getD 0 [])
          generalize N.keys.getD 0 [] = K at *
          generalize strOf K = s at *
          generalize K.length = kl at *
          have hc : W0.cell? ⟨g, o, none⟩ = some (.string s) := hc
          have q1 : decide ((100 : Int) < (kl : Int)) = false := decide_eq_false (by omega)
          go_upto_region 4 with fail
          go_quiet (fail)
          go_wp2
          go_roundw
          case rel => exact ⟨1, _, by omega, by go_num, rfl, below_one HOK.out⟩
          case measure => simp [intOf]; omega
        · obtain ⟨j, hjk⟩ : ∃ j, k = j + 1 := ⟨k - 1, by omega⟩
          obtain ⟨g', o', hao', hp⟩ := (HK.out.belowW HB.out).get j (by rw [HNK.out]; omega)
          injection hao' with hao'
          injection hao' with e1 e2
          subst e1 e2
          have hkj : (k : Int) - 1 = (j : Int) := by omega
          have hj1 : k - 1 = j := by omega
          have hjn : j < nk := by omega
          have hk1 : 1 ≤ k := by omega
          have HOKD : Hid (okK N.keys k = blt (N.keys.getD j []) (N.keys.getD k [])) := by unfold Hid okK; rw [decide_eq_true h100, hj1, decide_eq_false hk0]; rfl
          have hsz := strOf_size (N.keys.getD k [])
          have HUF : Hid (okK N.keys k = false → upTo nk (okK N.keys) = false) := fun h => upTo_false k hlt h
          have q3 : decide (0 < k) = true := decide_eq_true (by omega)
          have hcmp : (blt (N.keys.getD j []) (N.keys.getD k []) = true ∧ Op.bytesLess (strOf (N.keys.getD k [])).toList (strOf (N.keys.getD j [])).toList = false ∧ ((strOf (N.keys.getD k [])).toList == (strOf (N.keys.getD j [])).toList) = false) ∨ (blt (N.keys.getD j []) (N.keys.getD k []) = false ∧ Op.bytesLess (strOf (N.keys.getD k [])).toList (strOf (N.keys.getD j [])).toList = true) ∨ (blt (N.keys.getD j []) (N.keys.getD k []) = false ∧ Op.bytesLess (strOf (N.keys.getD k [])).toList (strOf (N.keys.getD j [])).toList = false ∧ ((strOf (N.keys.getD k [])).toList == (strOf (N.keys.getD j [])).toList) = true) := by
            rw [strOf_toList', strOf_toList']
            exact cmp_cases _ _
          generalize blt (N.keys.getD j []) (N.keys.getD k []) = bb at *
          generalize N.keys.getD k [] = K at *
          generalize N.keys.getD j [] = K' at *
          generalize strOf K = s at *
          generalize strOf K' = s' at *
          generalize K.length = kl at *
          have q1 : decide ((100 : Int) < (kl : Int)) = false := decide_eq_false (by omega)
          clear hjk hj1 hk0
          rcases hcmp with ⟨rfl, c1, c2⟩ | ⟨rfl, c1⟩ | ⟨rfl, c1, c2⟩
          · go_upto_region 4 with fail
            go_quiet (fail)
            clear hkj q3 hk1 hjn hsz hc hp c1 c2
            go_wp2
            go_roundw
            case rel => exact ⟨k + 1, _, by omega, by go_num, rfl, below_succ HO.out HOKD.out⟩
            case measure => simp [intOf]; omega
          · have HSF := hide (HUF.out HOKD.out)
            go_upto_region 4 with fail
            go_quiet (fail)
            go_wp2
            go_ret
            refine ⟨?_, by first | exact HB.out.trans (below_drewN _ _ _) | exact (HB.out.trans (below_drewN _ _ _)).trans (below_drewN _ _ _)⟩
            rw [HS.out, HSF.out]
            rfl
          · have HSF := hide (HUF.out HOKD.out)
            go_upto_region 4 with fail
            go_quiet (fail)
            go_wp2
            go_ret
            refine ⟨?_, by first | exact HB.out.trans (below_drewN _ _ _) | exact (HB.out.trans (below_drewN _ _ _)).trans (below_drewN _ _ _)⟩
            rw [HS.out, HSF.out]
            rfl
      · have HSF : Hid (upTo nk (okK N.keys) = false) := upTo_false k hlt (by unfold okK; rw [decide_eq_false h100]; rfl)
        have hsz := strOf_size (N.keys.getD k [])
        generalize N.keys.getD k [] = K at *
        generalize strOf K = s at *
        generalize K.length = kl at *
        have q1 : decide ((100 : Int) < (kl : Int)) = true := decide_eq_true (by omega)
        go_upto_region 4 with fail
        go_quiet (fail)
        go_wp2
        go_ret
        refine ⟨?_, by first | exact HB.out.trans (below_drewN _ _ _) | exact (HB.out.trans (below_drewN _ _ _)).trans (below_drewN _ _ _)⟩
        rw [HS.out, HSF.out]
        rfl
    · have hkL : k = nk := by omega
      subst hkL
      have HKT : Hid (upTo k (okK N.keys) = true) := upTo_iff.2 HO.out
      clear HO
      have HBD := hide (HB.out.trans (below_drewN w.heap.size W0 m))
      have HXD : Hid (Box 43 (W0.drewN m) w.heap.size (.bool lf) (.slice ak k ck) (.slice av nv cv) (.slice ai ni ci) (.int .i64 x)) := HX.out.belowW (below_drewN _ _ m)
      clear k0 k1 k2 k3 k4 f0 f1 f2 f3 f4 HX HB HK HKL
      generalize W0.drewN m = W1 at *
      obtain ⟨k0, k1, k2, k3, k4, f0, f1, f2, f3, f4⟩ := HXD.out.cells
      go_wp2_with fail
      refine (HNM.out W1).mono ?_
      rintro e W2 ⟨rfl, rfl⟩
      cases hpl : place x with
      | false =>
        go_wp2
        go_ret
        refine ⟨?_, HBD.out⟩
        rw [HS.out, HKT.out, hpl]
        rfl
      | true =>
        cases lf with
        | true =>
          go_wp2
          go_loopw [4] (fun i wr => ∃ j : Nat, j ≤ nv ∧ i = .int .i64 (j : Int) ∧ wr = W2 ∧ Hid (∀ q, q < j → okV N.vals q = true)) (fun i _ => nv - (intOf i).toNat)
          case atStart => exact ⟨0, by omega, rfl, rfl, fun j hj => by omega⟩
          case round =>
            obtain ⟨j, hj, rfl, rfl, HO⟩ := hrel
            by_cases hlt : j < nv
            · obtain ⟨g, o, hao, hc⟩ := (HV.out.belowW HBD.out).get j (by rw [HNV.out]; exact hlt)
              subst hao
              have hLk := HVLn.out j
              have hsz := strOf_size (N.vals.getD j [])
              by_cases h100 : (N.vals.getD j []).length ≤ 100
              · have HOK : Hid (okV N.vals j = true) := by unfold Hid okV; rw [decide_eq_true h100]
                generalize N.vals.getD j [] = K at *
                generalize strOf K = s at *
                generalize K.length = kl at *
                have q1 : decide ((100 : Int) < (kl : Int)) = false := decide_eq_false (by omega)
                go_wp2
                go_roundw
                case rel => exact ⟨j + 1, by omega, by go_num, trivial, below_succ HO.out HOK.out⟩
                case measure => simp [intOf]; omega
              · have HSF : Hid (upTo nv (okV N.vals) = false) := upTo_false j hlt (by unfold okV; rw [decide_eq_false h100])
                generalize N.vals.getD j [] = K at *
                generalize strOf K = s at *
                generalize K.length = kl at *
                have q1 : 100 < kl := by omega
                go_wp2
                go_ret
                refine ⟨?_, HBD.out⟩
                rw [HS.out, HKT.out, hpl, HSF.out]
                rfl
            · have hjL : j = nv := by omega
              subst hjL
              have HVT : Hid (upTo j (okV N.vals) = true) := upTo_iff.2 HO.out
              clear HO
              go_wp2
              all_goals go_ret
              all_goals refine ⟨?_, HBD.out⟩
              all_goals rw [HS.out, HKT.out, hpl, HVT.out]
              all_goals refine congrArg (fun b => Ending.returned (Value.bool b)) ?_
              all_goals first | (rw [Bool.eq_iff_iff]; simp; omega) | (rw [Bool.eq_iff_iff]; simp; intros; omega) | (simp; intros; omega) | (simp; done) | (simp; omega)
        | false =>
          by_cases hx0 : x = 0
          · subst hx0
            go_wp2
            go_loopw [5] (fun i wr => ∃ j : Nat, j ≤ ni ∧ i = .int .i64 (j : Int) ∧ wr = W2 ∧ Hid (∀ q, q < j → okI N.kids q = true)) (fun i _ => ni - (intOf i).toNat)
            case atStart => exact ⟨0, by omega, rfl, rfl, fun j hj => by omega⟩
            case round =>
              obtain ⟨j, hj, rfl, rfl, HO⟩ := hrel
              by_cases hlt : j < ni
              · obtain ⟨g, o, hao, hc⟩ := (HI.out.belowW HBD.out).get j (by rw [HNI.out]; exact hlt)
                subst hao
                have HN1 := hide (rnumber_any (N.kids.getD j 0) wr)
                have HOKD : Hid (okI N.kids j = place (N.kids.getD j 0)) := rfl
                have HUF : Hid (okI N.kids j = false → upTo ni (okI N.kids) = false) := fun h => upTo_false j hlt h
                generalize N.kids.getD j 0 = y at *
                go_wp2_with fail
                refine HN1.out.mono ?_
                rintro e W3 ⟨rfl, rfl⟩
                cases hpy : place y with
                | true =>
                  rw [hpy] at HOKD
                  go_wp2
                  go_roundw
                  case rel => exact ⟨j + 1, by omega, by go_num, trivial, below_succ HO.out HOKD.out⟩
                  case measure => simp [intOf]; omega
                | false =>
                  have HSF := hide (HUF.out (HOKD.out.trans hpy))
                  go_wp2
                  go_ret
                  refine ⟨?_, HBD.out⟩
                  rw [HS.out, HKT.out, hpl, HSF.out]
                  rfl
              · have hjL : j = ni := by omega
                subst hjL
                have HVT : Hid (upTo j (okI N.kids) = true) := upTo_iff.2 HO.out
                clear HO
                go_wp2
                all_goals go_ret
                all_goals refine ⟨?_, HBD.out⟩
                all_goals rw [HS.out, HKT.out, hpl, HVT.out]
                all_goals refine congrArg (fun b => Ending.returned (Value.bool b)) ?_
                all_goals first | (rw [Bool.eq_iff_iff]; simp; omega) | (rw [Bool.eq_iff_iff]; simp; intros; omega) | (simp; intros; omega) | (simp; done) | (simp; omega)
          · have hx1 : ¬ ((x : Int) = 0) := hx0
            go_wp2
            go_ret
            refine ⟨?_, HBD.out⟩
            rw [HS.out, HKT.out, hpl, decide_eq_false hx0]
            rfl
end Go.Proofs.Ytjcobejaldfibaa
