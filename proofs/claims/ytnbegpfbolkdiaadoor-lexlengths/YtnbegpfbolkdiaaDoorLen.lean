/- LexLengths: lengths near the bounds. -/
import Derived.Test.YtnbegpfbolkdiaaDoorAwk
import Derived.OwnWalk
namespace Go.Proofs.YtnbegpfbolkdiaaDoor
set_option maxRecDepth 100000
open Go.RowKit
set_option linter.unusedVariables false
set_option linter.unusedSimpArgs false

/-! ### What the three texts are -/
def ones : Nat → Nat
  | 0 => 0
  | n + 1 => 10 * ones n + 1
theorem q_words (n : Nat) (h1 : 1 ≤ n) (h2 : n ≤ 40) : (wordsF (List.replicate n 81)).2.1 = if n ≤ 32 then 0 else 180 := by
  have h : ∀ n : Fin 41, 1 ≤ n.val → (wordsF (List.replicate n.val 81)).2.1 = if n.val ≤ 32 then 0 else 180 := by decide +kernel
  exact h ⟨n, by omega⟩ h1
theorem one_words (n : Nat) (h1 : 1 ≤ n) (h2 : n ≤ 25) : wordsF (32 :: List.replicate n 49) = if n ≤ 19 then ([⟨2, [], ones n, 1⟩, ⟨5, [], 0, n + 1⟩], 0, 0) else ([], 180, 1) := by
  have h : ∀ n : Fin 26, 1 ≤ n.val → wordsF (32 :: List.replicate n.val 49) = if n.val ≤ 19 then ([⟨2, [], ones n.val, 1⟩, ⟨5, [], 0, n.val + 1⟩], 0, 0) else ([], 180, 1) := by decide +kernel
  exact h ⟨n, by omega⟩ h1
theorem ones_le (n : Nat) (h : n ≤ 18) : ones n ≤ 111111111111111111 := by
  have h' : ∀ n : Fin 19, ones n.val ≤ 111111111111111111 := by decide +kernel
  exact h' ⟨n, by omega⟩
theorem skip_blanks : ∀ n : Nat, skipS false (List.replicate n 32) = n
  | 0 => rfl
  | n + 1 => by
    rw [List.replicate_succ]
    simp only [skipS]
    rw [if_pos (by decide), skip_blanks n]
theorem white_words (n : Nat) : wordsF (List.replicate n 32) = if n ≤ 4096 then ([⟨5, [], 0, n⟩], 0, 0) else ([], 2, 0) := by
  unfold wordsF
  rw [List.length_replicate]
  by_cases h : n ≤ 4096
  · rw [if_neg (by omega), if_pos h]
    have hs : skipTo (List.replicate n 32) false 0 = n := by
      unfold skipTo
      rw [List.drop_zero, skip_blanks, Nat.zero_add]
    have hk : strF (List.replicate n 32) n = (5, n) := by
      have : kdAt (List.replicate n 32) n = 1 := kdAt_over (by simp)
      unfold strF
      rw [if_neg (by omega), if_neg (by omega), if_neg (by omega), if_neg (by omega), if_pos this]
    have ht : tokAt (List.replicate n 32) n = some (⟨5, [], 0, n⟩, n) := by
      unfold tokAt; rw [hk]; simp
    simp only [toks]
    rw [hs, ht]
    rfl
  · rw [if_pos (by omega), if_neg h]
theorem rep_snoc (n : Nat) (c : UInt8) : strOf (List.replicate n c) ++ ⟨#[c]⟩ = strOf (List.replicate (n + 1) c) := by
  have : (strOf (List.replicate n c) ++ (⟨#[c]⟩ : ByteArray)).data = (strOf (List.replicate (n + 1) c)).data := by
    rw [ByteArray.data_append]
    simp only [strOf]
    rw [List.replicate_succ']
    apply Array.toList_inj.1
    simp
  cases h1 : strOf (List.replicate n c) ++ (⟨#[c]⟩ : ByteArray)
  cases h2 : strOf (List.replicate (n + 1) c)
  rw [h1, h2] at this
  simp_all
set_option maxHeartbeats 4000000 in
theorem len_out (x y z : Int) (w : World) (hr : Ready w) (h : ¬ (1 ≤ x ∧ x ≤ 40 ∧ 1 ≤ y ∧ y ≤ 25 ∧ 0 ≤ z ∧ z ≤ 4200)) :
    Calls Tryd.prog 3 #[.int .i64 x, .int .i64 y, .int .i64 z] w fun e w' => e = .returned (.bool true) ∧ Below w.heap.size w w' := by
  have HA := hide (awake_any w hr)
  clear hr
  by_cases h1 : x < 1
  · clear h
    go_enter Tryd.func3, Tryd.ntmps3
    go_wp2_with (first | (go_at_call 7; refine HA.out.mono ?_; rintro e w' ⟨rfl, hb⟩))
    all_goals (go_ret; exact ⟨rfl, hb⟩)
  by_cases h2 : 40 < x
  · clear h
    go_enter Tryd.func3, Tryd.ntmps3
    go_wp2_with (first | (go_at_call 7; refine HA.out.mono ?_; rintro e w' ⟨rfl, hb⟩))
    all_goals (go_ret; exact ⟨rfl, hb⟩)
  by_cases h3 : y < 1
  · clear h
    go_enter Tryd.func3, Tryd.ntmps3
    go_wp2_with (first | (go_at_call 7; refine HA.out.mono ?_; rintro e w' ⟨rfl, hb⟩))
    all_goals (go_ret; exact ⟨rfl, hb⟩)
  by_cases h4 : 25 < y
  · clear h
    go_enter Tryd.func3, Tryd.ntmps3
    go_wp2_with (first | (go_at_call 7; refine HA.out.mono ?_; rintro e w' ⟨rfl, hb⟩))
    all_goals (go_ret; exact ⟨rfl, hb⟩)
  by_cases h5 : z < 0
  · clear h
    go_enter Tryd.func3, Tryd.ntmps3
    go_wp2_with (first | (go_at_call 7; refine HA.out.mono ?_; rintro e w' ⟨rfl, hb⟩))
    all_goals (go_ret; exact ⟨rfl, hb⟩)
  by_cases h6 : 4200 < z
  · clear h
    go_enter Tryd.func3, Tryd.ntmps3
    go_wp2_with (first | (go_at_call 7; refine HA.out.mono ?_; rintro e w' ⟨rfl, hb⟩))
    all_goals (go_ret; exact ⟨rfl, hb⟩)
  exact absurd ⟨by omega, by omega, by omega, by omega, by omega, by omega⟩ h
theorem made_row {W1 : World} {N t : Nat} {xs : List Value} (h : W1.ownsRow N 5 1 (.slice (some ⟨N, 0, none⟩) t t) t xs) : ∃ C : Array Value, W1.heap[N]? = some (.cells C 5 (0, 0)) ∧ C.size = t := by
  rcases h.2 with ⟨e, _⟩ | ⟨g, cap, cur, e, h0, hg, h1, h2, h3, h4⟩
  · cases e
  · injection e with e1 e2 e3
    injection e1 with e1
    injection e1 with e1
    subst e1 e3
    exact ⟨cur, hg, by omega⟩
theorem sl_full {w : World} {N t : Nat} {C : Array Value} (h : w.heap[N]? = some (.cells C 5 (0, 0))) (ha : ∀ j, j < t → C[j]? = some (bcell 32)) (ht : t ≤ 4200) : Sl w (.slice (some ⟨N, 0, none⟩) t t) (List.replicate t 32) := by
  refine ⟨_, t, by rw [List.length_replicate], by rw [List.length_replicate]; exact Nat.le_refl _, by simp only [maxLen]; omega, fun _ => ⟨N, 0, rfl, fun j u hu => ?_⟩⟩
  have hj : j < t := by
    have := (List.getElem?_eq_some_iff.1 hu).1
    rw [length_secCells, List.length_replicate] at this
    exact this
  rw [secCells_get _ _ (by rw [List.length_replicate]; exact hj)] at hu
  rw [Nat.zero_add, cell_row h, ha j hj, ← hu]
  simp [bcell]
theorem off_grown_none {w W1 : World} (h : w.grownBy W1 none) : Below w.heap.size w W1 := ⟨h.os, h.tape, h.output, h.size, fun k hk => h.block k hk (fun e => by cases e)⟩
theorem q_call (n : Nat) (h1 : 1 ≤ n) (h2 : n ≤ 40) (W : World) (hr : Ready W) : Calls Tryd.prog 8 #[.string (strOf (List.replicate n 81))] W fun e W' => ∃ u p, e = .returned (.tuple #[u, .int .i64 (if n ≤ 32 then 0 else 180), .int .i64 p]) ∧ Below W.heap.size W W' := by
  refine (words_any _ W hr).mono ?_
  rintro e W' ⟨u, rfl, h⟩
  rw [show (strOf (List.replicate n 81)).data.toList = List.replicate n 81 by simp [strOf], q_words n h1 h2]
  by_cases hn : n ≤ 32
  · rw [if_pos hn, if_pos hn]; exact ⟨u, _, rfl, h.below⟩
  · rw [if_neg hn, if_neg hn]; exact ⟨u, _, rfl, h.below⟩
theorem t_call (t : Nat) (W : World) (hr : Ready W) : Calls Tryd.prog 8 #[.string (strOf (List.replicate t 32))] W fun e W' => ∃ u p, e = .returned (.tuple #[u, .int .i64 (if t ≤ 4096 then 0 else 2), .int .i64 p]) ∧ Below W.heap.size W W' := by
  refine (words_any _ W hr).mono ?_
  rintro e W' ⟨u, rfl, h⟩
  rw [show (strOf (List.replicate t 32)).data.toList = List.replicate t 32 by simp [strOf], white_words t]
  by_cases hn : t ≤ 4096
  · simp only [if_pos hn]; exact ⟨u, _, rfl, h.below⟩
  · simp only [if_neg hn]; exact ⟨u, _, rfl, h.below⟩
theorem d_call (d : Nat) (h1 : 1 ≤ d) (h2 : d ≤ 25) (W : World) (hr : Ready W) : Calls Tryd.prog 8 #[.string (⟨#[32]⟩ ++ strOf (List.replicate d 49))] W fun e W' =>
    ∃ u, e = .returned (.tuple #[u, .int .i64 (if d ≤ 19 then 0 else 180), .int .i64 (if d ≤ 19 then 0 else 1)]) ∧ Below W.heap.size W W' ∧ (d ≤ 19 → Toks W W' u [⟨2, [], ones d, 1⟩, ⟨5, [], 0, d + 1⟩]) := by
  refine (words_any _ W hr).mono ?_
  rintro e W' ⟨u, rfl, h⟩
  have e1 : (⟨#[32]⟩ ++ strOf (List.replicate d 49) : ByteArray).data.toList = 32 :: List.replicate d 49 := by simp [strOf]
  rw [e1, one_words d h1 h2] at h ⊢
  refine ⟨u, ?_, h.below, fun hd => ?_⟩
  · by_cases hn : d ≤ 19
    · simp only [if_pos hn]; rfl
    · simp only [if_neg hn]; rfl
  · rw [if_pos hd] at h; exact h
set_option maxHeartbeats 16000000 in
theorem len_in (n d t : Nat) (w : World) (hr : Ready w) (h1 : 1 ≤ n) (h2 : n ≤ 40) (h3 : 1 ≤ d) (h4 : d ≤ 25) (h5 : t ≤ 4200) :
    Calls Tryd.prog 3 #[.int .i64 (n : Int), .int .i64 (d : Int), .int .i64 (t : Int)] w fun e w' => e = .returned (.bool true) ∧ Below w.heap.size w w' := by
  have HR := hide hr
  clear hr
  obtain ⟨ei, hi5, hz5, hs5, hb5⟩ := Tryd.info5'
  have hmk : ei.bytes * t ≤ 281474976710656 := by rw [hb5]; omega
  have hmx : t ≤ maxLen := by simp only [maxLen]; omega
  obtain ⟨N, hN⟩ : ∃ N, w.heap.size = N := ⟨_, rfl⟩
  have HN := hide hN
  clear hN
  go_enter Tryd.func3, Tryd.ntmps3
  go_wp2
  go_loopw [7, 9] (fun u z wr => ∃ i : Nat, i ≤ n ∧ z = .int .i64 (i : Int) ∧ u = .string (strOf (List.replicate i 81)) ∧ wr = w) (fun _ z _ => restOf n z)
  case atStart => exact ⟨0, Nat.zero_le _, rfl, rfl, rfl⟩
  case round =>
    obtain ⟨i, hi, rfl, rfl, rfl⟩ := hrel
    have HS := hide (rep_snoc i 81)
    have hz : (strOf (List.replicate i 81)).size ≤ 40 := by rw [Lib.size_eq]; simp [strOf]; omega
    by_cases hlt : i < n
    · have hlt' : (i : Int) < (n : Int) := by omega
      generalize strOf (List.replicate i 81) = S at *
      go_wp2
      go_roundw
      case rel => exact ⟨i + 1, hlt, by simp, by rw [HS.out], trivial⟩
      case measure => simp [restOf]; omega
    · obtain rfl : i = n := by omega
      clear hlt HS
      generalize hS : strOf (List.replicate i 81) = S at *
      have HSN := hide hS
      clear hS
      go_wp2
      go_loopw [8, 10] (fun u z wr' => ∃ j : Nat, j ≤ d ∧ z = .int .i64 (j : Int) ∧ u = .string (strOf (List.replicate j 49)) ∧ wr' = wr) (fun _ z _ => restOf d z)
      case atStart => exact ⟨0, Nat.zero_le _, rfl, rfl, rfl⟩
      case round =>
        obtain ⟨j, hj, rfl, rfl, rfl⟩ := hrel
        have HS := hide (rep_snoc j 49)
        have hz2 : (strOf (List.replicate j 49)).size ≤ 40 := by rw [Lib.size_eq]; simp [strOf]; omega
        by_cases hlt : j < d
        · have hlt' : (j : Int) < (d : Int) := by omega
          generalize strOf (List.replicate j 49) = S2 at *
          go_wp2
          go_roundw
          case rel => exact ⟨j + 1, hlt, by simp, by rw [HS.out], trivial⟩
          case measure => simp [restOf]; omega
        · obtain rfl : j = d := by omega
          clear hlt HS
          generalize hS : strOf (List.replicate j 49) = S2 at *
          have HSD := hide hS
          clear hS
          go_wp2_with (first | (at_make; refine wpList_make_full _ rfl _ _ 23 rfl wr.heap.size 5 ei (.int .u8 0) 1 Tryd.underlying23 hi5 hz5 hs5 _ _ _ _ t rfl rfl rfl rfl hmk hmx (Nat.le_refl _) ?_))
          intro W1 hown hgrow
          have hB1 := off_grown_none hgrow
          have hNn := HN.out
          rw [hNn] at hown hB1 ⊢
          clear hNn
          obtain ⟨C1, hC1, hCs1⟩ := made_row hown
          clear hown hgrow
          have HC1 := hide hC1
          have HB1 := hide hB1
          clear hC1 hB1
          go_wp2
          obtain ⟨w0, hw0⟩ : ∃ w0, w0 = wr := ⟨_, rfl⟩
          rw [← hw0] at HR HN HB1
          have HW0 := hide hw0
          clear hw0
          go_loopw [65] (fun z wr' => ∃ (k : Nat) (C : Array Value), k ≤ t ∧ z = .int .i64 (k : Int) ∧ wr'.heap[N]? = some (.cells C 5 (0, 0)) ∧ C.size = t ∧ (∀ m, m < k → C[m]? = some (bcell 32)) ∧ Below N w0 wr') (fun z _ => restOf t z)
          case atStart => exact ⟨0, C1, Nat.zero_le _, rfl, HC1.out, hCs1, fun m hm => by omega, HB1.out⟩
          case round =>
            obtain ⟨k, C, hk, rfl, hC, hCs, hall, hB⟩ := hrel
            by_cases hlt : k < t
            · have hlt' : (k : Int) < (t : Int) := by omega
              have hcell : wr.cell? ⟨N, k, none⟩ = some (C[k]'(by omega)) := by rw [cell_row hC]; simp [hCs, hlt]
              have hfz : wr.frozen? ⟨N, k, none⟩ = false := frozen_row hC
              have HC := hide hC
              have HALL := hide hall
              have HB := hide hB
              clear hC hall hB
              go_wp2
              go_roundw
              case rel =>
                refine ⟨k + 1, C.setIfInBounds k (bcell 32), hlt, by simp, heap_set_same _ HC.out, by simp [hCs], fun m hm => ?_, HB.out.setCell (Nat.le_refl _) _⟩
                by_cases e : m = k
                · subst e; simp [hCs, hlt]
                · rw [Array.getElem?_setIfInBounds_ne (by omega)]; exact HALL.out m (by omega)
              case measure => simp [restOf]; omega
            · obtain rfl : k = t := by omega
              have hSl := sl_full hC hall h5
              have HB := hide hB
              have HSl := hide hSl
              have hne : ¬ (k : Int) < (k : Int) := by omega
              clear hlt hall hC hSl hB
              have HQ := hide (q_call i h1 h2)
              have HD := hide (d_call j h3 h4)
              have HT := hide (t_call k)
              have HO := hide (ones_le)
              rw [HSN.out] at HQ
              rw [HSD.out] at HD
              have HRW := hide (HR.out.below (HN.out ▸ HB.out))
              by_cases c1 : i ≤ 32 <;> by_cases c3 : k ≤ 4096 <;> by_cases c2 : j ≤ 19
              all_goals first | rw [if_pos c1] at HQ | rw [if_neg c1] at HQ
              all_goals first | rw [if_pos c3] at HT | rw [if_neg c3] at HT
              all_goals first | (simp only [if_pos c2] at HD) | (simp only [if_neg c2] at HD)
              all_goals go_wp2_with fail
              all_goals refine (HQ.out _ HRW.out).mono ?_
              all_goals rintro e W1 ⟨u1, p1, rfl, hB1⟩
              all_goals have HB1 := hide hB1
              all_goals have HRW1 := hide (HRW.out.below hB1)
              all_goals clear hB1
              all_goals go_wp2_with fail
              all_goals refine (HD.out _ HRW1.out).mono ?_
              all_goals rintro e W2 ⟨u2, rfl, hB2, hT2⟩
              all_goals have hcv := run_str ((HSl.out.belowW HB1.out).belowW hB2)
              all_goals have HRW2 := hide (HRW1.out.below hB2)
              all_goals have HB2 := hide hB2
              all_goals have HT2 := hide hT2
              all_goals clear hB2 hT2
              all_goals go_wp2_with fail
              all_goals refine (HT.out _ HRW2.out).mono ?_
              all_goals rintro e W3 ⟨u3, p3, rfl, hB3⟩
              all_goals have HA := hide (awake_any W3 (HRW2.out.below hB3))
              all_goals have HB3 := hide (((HB1.out.trans (HB2.out.mono HB1.out.size)).trans (hB3.mono (Nat.le_trans HB1.out.size HB2.out.size))))
              all_goals have HB4 := hide (HB.out.trans (HB3.out.mono (by have := HB.out.size; rw [HN.out] at this; exact this)))
              all_goals have HT3 := hide (fun h => (HT2.out h).belowW hB3)
              all_goals clear hB3 hcv
              all_goals first
                | (have hng := c2; rw [Nat.not_le] at hng
                   go_wp2_with (first | (go_at_call 7; refine HA.out.mono ?_; rintro e W4 ⟨rfl, hb⟩))
                   go_ret
                   have hw0 := HW0.out
                   subst hw0
                   exact ⟨rfl, by rw [HN.out]; exact HB4.out.trans (hb.mono (by have := HB4.out.size; rw [HN.out] at this; exact this))⟩)
                | (obtain ⟨ao, c, rfl, hc1, hc2⟩ := (HT3.out c2).at.len
                   obtain ⟨g, o, rfl, k0⟩ := (HT3.out c2).at.get 0 (by simp)
                   have hcell := k0.c2
                   simp only [List.getD_cons_zero, List.length_cons, List.length_nil] at hcell hc1 ⊢
                   clear k0
                   go_wp2
                   go_loopw [22, 23] (fun v z wr' => ∃ m : Nat, m ≤ j ∧ z = .int .i64 (m : Int) ∧ v = .int .i64 (ones m : Int) ∧ wr' = W3) (fun _ z _ => restOf j z)
                   case atStart => exact ⟨0, Nat.zero_le _, rfl, rfl, rfl⟩
                   case round =>
                     obtain ⟨m, hm, rfl, rfl, rfl⟩ := hrel
                     have hst : 10 * (ones m : Int) + 1 = ((ones (m + 1) : Nat) : Int) := by simp [ones]
                     by_cases hlt : m < j
                     · have hlt' : (m : Int) < (j : Int) := by omega
                       have hb := HO.out m (by omega)
                       have HST := hide hst
                       clear hst
                       generalize ones (m + 1) = v1 at *
                       generalize hv0 : ones m = v0 at *
                       go_wp2
                       go_roundw
                       case rel => exact ⟨m + 1, hlt, by simp, by subst hv0; simp [ones], trivial⟩
                       case measure => simp [restOf]; omega
                     · obtain rfl : m = j := by omega
                       clear hlt hst
                       generalize (ones m : Int) = v at *
                       go_wp2_with (first | (go_at_call 7; refine HA.out.mono ?_; rintro e W4 ⟨rfl, hb⟩))
                       go_ret
                       have hw0 := HW0.out
                       subst hw0
                       exact ⟨rfl, by rw [HN.out]; exact HB4.out.trans (hb.mono (by have := HB4.out.size; rw [HN.out] at this; exact this))⟩)
theorem len_walk (x y z : Int) (w : World) (hr : Ready w) :
    Calls Tryd.prog 3 #[.int .i64 x, .int .i64 y, .int .i64 z] w fun e w' => e = .returned (.bool true) ∧ Below w.heap.size w w' := by
  by_cases h : 1 ≤ x ∧ x ≤ 40 ∧ 1 ≤ y ∧ y ≤ 25 ∧ 0 ≤ z ∧ z ≤ 4200
  · obtain ⟨n, rfl⟩ := Int.eq_ofNat_of_zero_le (show 0 ≤ x by omega)
    obtain ⟨d, rfl⟩ := Int.eq_ofNat_of_zero_le (show 0 ≤ y by omega)
    obtain ⟨t, rfl⟩ := Int.eq_ofNat_of_zero_le (show 0 ≤ z by omega)
    exact len_in n d t w hr (by omega) (by omega) (by omega) (by omega) (by omega)
  · exact len_out x y z w hr h
end Go.Proofs.YtnbegpfbolkdiaaDoor
