/- The document's sign. -/
import Derived.Test.YtnbegpfbolkdiaaDoorRtx
import Derived.Test.YtnbegpfbolkdiaaDoorLng
namespace Go.Proofs.YtnbegpfbolkdiaaDoor
set_option maxRecDepth 100000
open Go.RowKit
set_option linter.unusedVariables false
set_option linter.unusedSimpArgs false

def sgL : List UInt8 := [40, 41, 44, 46, 42, 43, 45, 47, 37, 61, 60, 62, 59]
theorem sg_kind : ∀ c : UInt8, (kdB c = 7 ∨ kdB c = 8) ↔ (c ∈ sgL ∨ c = 124) := by
  have h : ∀ i : Fin 256, (kdB (UInt8.ofNat i.val) = 7 ∨ kdB (UInt8.ofNat i.val) = 8) ↔ (UInt8.ofNat i.val ∈ sgL ∨ UInt8.ofNat i.val = 124) := by decide +kernel
  intro c
  have := h ⟨c.toNat, c.toNat_lt⟩
  simpa using this
theorem sg_no : (124 : UInt8) ∉ sgL := by decide
theorem sgnB_cases (c : UInt8) (d : Option UInt8) (h : sgnB c d ≠ 2) : sgnB c d = if c = 124 then 0 else 1 := by
  unfold sgnB at h ⊢
  split at h
  · exact absurd rfl h
  · rename_i hn
    rw [if_neg hn]
    simp only [toNat_is c 124 (by omega)]
    rfl
theorem sgnB_two {c : UInt8} {d : Option UInt8} (h : sgnB c d = 2) : kdB c = 7 ∨ kdB c = 8 := by
  unfold sgnB at h
  split at h
  · rename_i hn
    rcases hn with ⟨h, _⟩ | ⟨h, _⟩ | ⟨h, _⟩
    · have := (toNat_is c 60 (by omega)).1 h; subst this; exact .inr (by decide)
    · have := (toNat_is c 62 (by omega)).1 h; subst this; exact .inr (by decide)
    · have := (toNat_is c 124 (by omega)).1 h; subst this; exact .inr (by decide)
  · split at h <;> omega
theorem tok_sign {l : List UInt8} {i : Nat} (hi : i < l.length) (h4 : kdB l[i] ≠ 4) (h5 : kdB l[i] ≠ 5) (h6 : kdB l[i] ≠ 6) :
    (sgnB l[i] l[i + 1]? = 2 → tokAt l i = some (⟨4, seg l i (i + 2), 0, i⟩, i + 2)) ∧
    (sgnB l[i] l[i + 1]? ≠ 2 → l[i] ∈ sgL → tokAt l i = some (⟨4, seg l i (i + 1), 0, i⟩, i + 1)) ∧
    (sgnB l[i] l[i + 1]? ≠ 2 → l[i] ∉ sgL → tokAt l i = none) := by
  have hk : kdAt l i = kdB l[i] := kdAt_in hi
  have hs : sgnN (l.drop i) = sgnB l[i] l[i + 1]? := by
    rw [drop_of_lt hi]
    simp only [sgnN]
    congr 1
    rw [List.head?_drop]
  have hst : strF l i = if kdB l[i] = 7 ∨ kdB l[i] = 8 then (if sgnB l[i] l[i + 1]? = 0 then (0, 0) else (4, i + sgnB l[i] l[i + 1]?)) else (0, 0) := by
    unfold strF
    rw [hk, if_neg h4, if_neg h5, if_neg h6, hs]
    by_cases h : kdB l[i] = 7 ∨ kdB l[i] = 8
    · rw [if_pos h, if_pos h]
    · rw [if_neg h, if_neg h, if_neg (kdB_ne1 _)]
  refine ⟨fun h2 => ?_, fun h2 hm => ?_, fun h2 hm => ?_⟩
  · unfold tokAt
    rw [hst, if_pos (sgnB_two h2), h2]
    rfl
  · have h1 : sgnB l[i] l[i + 1]? = 1 := by
      rw [sgnB_cases _ _ h2, if_neg (fun e => sg_no (by rw [← e]; exact hm))]
    unfold tokAt
    rw [hst, if_pos ((sg_kind _).2 (.inl hm)), h1]
    rfl
  · unfold tokAt
    rw [hst]
    by_cases h : kdB l[i] = 7 ∨ kdB l[i] = 8
    · have hc : l[i] = 124 := by
        rcases (sg_kind _).1 h with h | h
        · exact absurd h hm
        · exact h
      rw [if_pos h, sgnB_cases _ _ h2, if_pos hc]
      rfl
    · rw [if_neg h]
      rfl
theorem sg_at (k : Nat) (h : k < 13) : ∀ h' : k < (⟨#[40, 41, 44, 46, 42, 43, 45, 47, 37, 61, 60, 62, 59]⟩ : ByteArray).size, (⟨#[40, 41, 44, 46, 42, 43, 45, 47, 37, 61, 60, 62, 59]⟩ : ByteArray)[k] = sgL.getD k 0 := by
  have : ∀ k : Fin 13, (⟨#[40, 41, 44, 46, 42, 43, 45, 47, 37, 61, 60, 62, 59]⟩ : ByteArray)[k.val]'(by have := k.isLt; exact this) = sgL.getD k.val 0 := by decide +kernel
  exact fun _ => this ⟨k, h⟩
theorem Tryd.results23 : Tryd.f23.results = #[.cell 4 29, .tmp 5, .tmp 6] := by kernel_rfl
set_option maxHeartbeats 4000000 in
theorem refSign_any (s : ByteArray) (i0 : Nat) (w : World) (hi : i0 < s.size) (hs : s.size ≤ 4096) (h4 : kdAt s.data.toList i0 ≠ 4) (h5 : kdAt s.data.toList i0 ≠ 5) (h6 : kdAt s.data.toList i0 ≠ 6) :
    Calls Tryd.prog 23 #[.string s, .int .i64 (i0 : Int)] w fun o w' => RefE s.data.toList i0 o ∧ Below w.heap.size w w' := by
  have hlen : s.data.toList.length = s.size := (Lib.size_eq s).symm
  obtain ⟨c, hc⟩ : ∃ c : UInt8, s[i0] = c := ⟨_, rfl⟩
  have hcl : s.data.toList[i0]'(by omega) = c := by rw [← hc]; rfl
  have hT := tok_sign (l := s.data.toList) (i := i0) (by omega) (by rw [kdAt_in (by omega)] at h4; exact h4) (by rw [kdAt_in (by omega)] at h5; exact h5) (by rw [kdAt_in (by omega)] at h6; exact h6)
  rw [hcl] at hT
  have hi' : (i0 : Int) < (s.size : Int) := by omega
  obtain ⟨N, hN⟩ : ∃ N, w.heap.size = N := ⟨_, rfl⟩
  have HW1 : Hid (Below N w (w.alloc (.cells #[.int .i64 0, .string ⟨#[]⟩, .int .i64 0, .int .i64 0] 29))) := by rw [← hN]; exact (Below.refl _ _).alloc (Nat.le_refl _) _
  have HBX : Hid ((w.alloc (.cells #[.int .i64 0, .string ⟨#[]⟩, .int .i64 0, .int .i64 0] 29)).heap[N]? = some (.cells #[.int .i64 0, .string ⟨#[]⟩, .int .i64 0, .int .i64 0] 29 (0, 0))) := by rw [← hN]; exact heap_alloc_new w _
  have HEXT : Hid (∀ k, strOf (seg s.data.toList i0 k) = s.extract i0 k) := fun k => by rw [← ext_list]; rfl
  have HLEN := hide hlen
  clear h4 h5 h6 hcl hlen
  by_cases hj1 : i0 + 1 < s.size
  · have hj1' : (i0 : Int) + 1 < (s.size : Int) := by omega
    have hj2' : (i0 : Int) + 2 ≤ (s.size : Int) := by omega
    obtain ⟨d, hd⟩ : ∃ d : UInt8, s[i0 + 1] = d := ⟨_, rfl⟩
    have hdl : s.data.toList[i0 + 1]? = some d := by
      rw [List.getElem?_eq_getElem (by rw [HLEN.out]; exact hj1), ← hd]; rfl
    rw [hdl] at hT
    have hst := sgn_two c d
    have HT2 := hide (show (s.extract i0 (i0 + 2)).toList = [c, d] by
      rw [Lib.toList_data, ext_list]
      unfold seg
      rw [drop_of_lt (by rw [HLEN.out]; exact hi), drop_of_lt (by rw [HLEN.out]; exact hj1)]
      have e1 : s.data.toList[i0]'(by rw [HLEN.out]; exact hi) = c := by rw [← hc]; rfl
      have e2 : s.data.toList[i0 + 1]'(by rw [HLEN.out]; exact hj1) = d := by rw [← hd]; rfl
      rw [e1, e2, show i0 + 2 - i0 = 2 by omega]
      rfl)
    by_cases h2 : sgnB c (some d) = 2
    · have HSOME := hide (hT.1 h2)
      have HCS : Hid ((c = 60 ∧ d = 62) ∨ (c = 60 ∧ d = 61) ∨ (c = 62 ∧ d = 61) ∨ (c = 124 ∧ d = 124)) := by
        rw [hst] at h2
        (repeat' split at h2) <;> first | omega | (rename_i h; simp [h]; done) | simp_all
      rcases HCS.out with ⟨rfl, rfl⟩ | ⟨rfl, rfl⟩ | ⟨rfl, rfl⟩ | ⟨rfl, rfl⟩
      all_goals
        (have ht2 := HT2.out
         clear hT hst h2 hdl
         go_enter Tryd.func23, Tryd.ntmps23
         go_wp2
         refine bodyPost_ret (results_rec Tryd.results23 _ _ N 29 #[.int .i64 4, .string (s.extract i0 (i0 + 2)), .int .i64 0, .int .i64 (i0 : Int)] (0, 0) _ rfl (by rw [← hN]; exact heap_alloc_new w _) Tryd.underlying29 rfl Tryd.size29) rfl ?_
         refine ⟨?_, by rw [← hN]; exact (Below.refl _ _).alloc (Nat.le_refl _) _⟩
         unfold RefE
         rw [HSOME.out]
         unfold tokV
         simp only [HEXT.out, Int.natCast_add]
         exact rfl)
    · have HNT : Hid (¬(c = 60 ∧ d = 62) ∧ ¬(c = 60 ∧ d = 61) ∧ ¬(c = 62 ∧ d = 61) ∧ ¬(c = 124 ∧ d = 124)) := by
        rw [hst] at h2
        refine ⟨fun h => h2 ?_, fun h => h2 ?_, fun h => h2 ?_, fun h => h2 ?_⟩ <;> simp [h]
      have HT := hide (And.intro (hT.2.1 h2) (hT.2.2 h2))
      have n1 : ([c, d] == [60, 62]) = false := by rw [two_beq]; exact decide_eq_false HNT.out.1
      have n2 : ([c, d] == [60, 61]) = false := by rw [two_beq]; exact decide_eq_false HNT.out.2.1
      have n3 : ([c, d] == [62, 61]) = false := by rw [two_beq]; exact decide_eq_false HNT.out.2.2.1
      have n4 : ([c, d] == [124, 124]) = false := by rw [two_beq]; exact decide_eq_false HNT.out.2.2.2
      have ht2 := HT2.out
      rw [← ht2] at n1 n2 n3 n4
      clear hT hst h2 hdl ht2
      go_enter Tryd.func23, Tryd.ntmps23
      go_wp2
      obtain ⟨w1, hw1⟩ : ∃ w1, w.alloc (.cells #[.int .i64 0, .string ⟨#[]⟩, .int .i64 0, .int .i64 0] 29) = w1 := ⟨_, rfl⟩
      rw [hw1] at HW1 HBX ⊢
      clear hw1
      go_loopw [8] (fun z wr => ∃ k : Nat, k ≤ 13 ∧ z = .int .i64 (k : Int) ∧ (∀ m, m < k → sgL.getD m 0 ≠ c) ∧ wr.heap[N]? = some (.cells #[.int .i64 0, .string ⟨#[]⟩, .int .i64 0, .int .i64 0] 29 (0, 0)) ∧ Below N w wr) (fun z _ => restQ 13 z)
      case atStart => exact ⟨0, by omega, rfl, fun m hm => by omega, HBX.out, HW1.out⟩
      case round =>
        clear HBX HW1
        obtain ⟨k, hk, rfl, hno, hbox, hW1⟩ := hrel
        have c0 := cell_row (o := 0) hbox
        have c1 := cell_row (o := 1) hbox
        have c2 := cell_row (o := 2) hbox
        have c3 := cell_row (o := 3) hbox
        have f0 : ∀ k, wr.frozen? ⟨N, k, none⟩ = false := fun k => frozen_row hbox
        simp only [List.getElem?_toArray, List.getElem?_cons_zero, List.getElem?_cons_succ] at c0 c1 c2 c3
        have HBX := hide hbox
        have HW1 := hide hW1
        clear hbox hW1
        by_cases hlt : k < 13
        · have hlt' : (k : Int) < 13 := by omega
          have hix := sg_at k hlt
          have HNX : Hid (sgL.getD k 0 ≠ c → ∀ m, m < k + 1 → sgL.getD m 0 ≠ c) := fun h m hm => by
            rcases Nat.lt_or_ge m k with h1 | h1
            · exact hno m h1
            · obtain rfl : m = k := by omega
              exact h
          have HIN : Hid (sgL.getD k 0 = c → c ∈ sgL) := fun h => by
            have hl : sgL.length = 13 := rfl
            rw [← h]
            have e : sgL.getD k 0 = sgL[k] := by rw [List.getD_eq_getElem?_getD, List.getElem?_eq_getElem (by rw [hl]; exact hlt)]; rfl
            rw [e]
            exact List.getElem_mem _
          clear hno
          generalize sgL.getD k 0 = g at *
          by_cases he : g = c
          · have HSOME := hide (HT.out.1 (HIN.out he))
            have hj3' : (i0 : Int) + 1 ≤ (s.size : Int) := by omega
            subst he
            clear HNX HIN
            go_wp2
            go_quiet (fail)
            go_wp2
            refine bodyPost_ret (results_rec Tryd.results23 _ _ N 29 _ (0, 0) _ rfl (set4 HBX.out _ _ _ _) Tryd.underlying29 rfl Tryd.size29) rfl ?_
            refine ⟨?_, by first | (rw [hN]; exact below4 HW1.out _ _ _ _) | exact below4 HW1.out _ _ _ _ | (rw [hN]; exact below4 (HW1.out.trans (below_drewN _ _ _)) _ _ _ _) | exact below4 (HW1.out.trans (below_drewN _ _ _)) _ _ _ _⟩
            unfold RefE
            rw [HSOME.out]
            unfold tokV
            simp only [HEXT.out, Int.natCast_add]
            exact rfl
          · have HN2 := hide (HNX.out he)
            have he' : ((g.toNat : Int) == (c.toNat : Int)) = false := beq_eq_false_iff_ne.2 (fun e => he (UInt8.toNat_inj.1 (by omega)))
            clear HNX HIN he
            go_wp2
            go_quiet (fail)
            go_wp2
            go_roundw
            case rel => exact ⟨k + 1, hlt, by simp, HN2.out, HBX.out, HW1.out.trans (below_drewN _ _ _)⟩
            case measure => simp [restQ]; omega
        · obtain rfl : k = 13 := by omega
          have HNONE : Hid (tokAt s.data.toList i0 = none) := HT.out.2 (fun hm => by
            obtain ⟨m, hm1, hm2⟩ := List.mem_iff_getElem.1 hm
            have hl : sgL.length = 13 := rfl
            refine hno m (by omega) ?_
            rw [List.getD_eq_getElem?_getD, List.getElem?_eq_getElem hm1, ← hm2]
            rfl)
          clear hno hlt
          go_wp2
          refine bodyPost_ret (results_rec Tryd.results23 _ _ N 29 _ (0, 0) _ rfl (set4 HBX.out _ _ _ _) Tryd.underlying29 rfl Tryd.size29) rfl ?_
          refine ⟨?_, by first | (rw [hN]; exact below4 HW1.out _ _ _ _) | exact below4 HW1.out _ _ _ _ | (rw [hN]; exact below4 (HW1.out.trans (below_drewN _ _ _)) _ _ _ _) | exact below4 (HW1.out.trans (below_drewN _ _ _)) _ _ _ _⟩
          unfold RefE
          rw [HNONE.out]
          exact ⟨_, _, _, _, _, rfl⟩
  · have hj1' : ¬ (i0 : Int) + 1 < (s.size : Int) := by omega
    rw [List.getElem?_eq_none (by rw [HLEN.out]; omega)] at hT
    have h2 : sgnB c none ≠ 2 := by
      unfold sgnB
      split
      · rename_i h; simp at h
      · split <;> omega
    have HT := hide (And.intro (hT.2.1 h2) (hT.2.2 h2))
    clear hT h2
    go_enter Tryd.func23, Tryd.ntmps23
    go_wp2
    obtain ⟨w1, hw1⟩ : ∃ w1, w.alloc (.cells #[.int .i64 0, .string ⟨#[]⟩, .int .i64 0, .int .i64 0] 29) = w1 := ⟨_, rfl⟩
    rw [hw1] at HW1 HBX ⊢
    clear hw1
    go_loopw [8] (fun z wr => ∃ k : Nat, k ≤ 13 ∧ z = .int .i64 (k : Int) ∧ (∀ m, m < k → sgL.getD m 0 ≠ c) ∧ wr.heap[N]? = some (.cells #[.int .i64 0, .string ⟨#[]⟩, .int .i64 0, .int .i64 0] 29 (0, 0)) ∧ Below N w wr) (fun z _ => restQ 13 z)
    case atStart => exact ⟨0, by omega, rfl, fun m hm => by omega, HBX.out, HW1.out⟩
    case round =>
      clear HBX HW1
      obtain ⟨k, hk, rfl, hno, hbox, hW1⟩ := hrel
      have c0 := cell_row (o := 0) hbox
      have c1 := cell_row (o := 1) hbox
      have c2 := cell_row (o := 2) hbox
      have c3 := cell_row (o := 3) hbox
      have f0 : ∀ k, wr.frozen? ⟨N, k, none⟩ = false := fun k => frozen_row hbox
      simp only [List.getElem?_toArray, List.getElem?_cons_zero, List.getElem?_cons_succ] at c0 c1 c2 c3
      have HBX := hide hbox
      have HW1 := hide hW1
      clear hbox hW1
      by_cases hlt : k < 13
      · have hlt' : (k : Int) < 13 := by omega
        have hix := sg_at k hlt
        have HNX : Hid (sgL.getD k 0 ≠ c → ∀ m, m < k + 1 → sgL.getD m 0 ≠ c) := fun h m hm => by
          rcases Nat.lt_or_ge m k with h1 | h1
          · exact hno m h1
          · obtain rfl : m = k := by omega
            exact h
        have HIN : Hid (sgL.getD k 0 = c → c ∈ sgL) := fun h => by
          have hl : sgL.length = 13 := rfl
          rw [← h]
          have e : sgL.getD k 0 = sgL[k] := by rw [List.getD_eq_getElem?_getD, List.getElem?_eq_getElem (by rw [hl]; exact hlt)]; rfl
          rw [e]
          exact List.getElem_mem _
        clear hno
        generalize sgL.getD k 0 = g at *
        by_cases he : g = c
        · have HSOME := hide (HT.out.1 (HIN.out he))
          have hj3' : (i0 : Int) + 1 ≤ (s.size : Int) := by omega
          subst he
          clear HNX HIN
          go_wp2
          go_quiet (fail)
          go_wp2
          refine bodyPost_ret (results_rec Tryd.results23 _ _ N 29 _ (0, 0) _ rfl (set4 HBX.out _ _ _ _) Tryd.underlying29 rfl Tryd.size29) rfl ?_
          refine ⟨?_, by first | (rw [hN]; exact below4 HW1.out _ _ _ _) | exact below4 HW1.out _ _ _ _ | (rw [hN]; exact below4 (HW1.out.trans (below_drewN _ _ _)) _ _ _ _) | exact below4 (HW1.out.trans (below_drewN _ _ _)) _ _ _ _⟩
          unfold RefE
          rw [HSOME.out]
          unfold tokV
          simp only [HEXT.out, Int.natCast_add]
          exact rfl
        · have HN2 := hide (HNX.out he)
          have he' : ((g.toNat : Int) == (c.toNat : Int)) = false := beq_eq_false_iff_ne.2 (fun e => he (UInt8.toNat_inj.1 (by omega)))
          clear HNX HIN he
          go_wp2
          go_quiet (fail)
          go_wp2
          go_roundw
          case rel => exact ⟨k + 1, hlt, by simp, HN2.out, HBX.out, HW1.out.trans (below_drewN _ _ _)⟩
          case measure => simp [restQ]; omega
      · obtain rfl : k = 13 := by omega
        have HNONE : Hid (tokAt s.data.toList i0 = none) := HT.out.2 (fun hm => by
          obtain ⟨m, hm1, hm2⟩ := List.mem_iff_getElem.1 hm
          have hl : sgL.length = 13 := rfl
          refine hno m (by omega) ?_
          rw [List.getD_eq_getElem?_getD, List.getElem?_eq_getElem hm1, ← hm2]
          rfl)
        clear hno hlt
        go_wp2
        refine bodyPost_ret (results_rec Tryd.results23 _ _ N 29 _ (0, 0) _ rfl (set4 HBX.out _ _ _ _) Tryd.underlying29 rfl Tryd.size29) rfl ?_
        refine ⟨?_, by first | (rw [hN]; exact below4 HW1.out _ _ _ _) | exact below4 HW1.out _ _ _ _ | (rw [hN]; exact below4 (HW1.out.trans (below_drewN _ _ _)) _ _ _ _) | exact below4 (HW1.out.trans (below_drewN _ _ _)) _ _ _ _⟩
        unfold RefE
        rw [HNONE.out]
        exact ⟨_, _, _, _, _, rfl⟩
end Go.Proofs.YtnbegpfbolkdiaaDoor
