/- Names: the program's and the document's. -/
import Derived.Test.YtnbegpfbolkdiaaDoorRsv
import Derived.Test.YtnbegpfbolkdiaaDoorKds
import Derived.Test.YtnbegpfbolkdiaaDoorAwk
namespace Go.Proofs.YtnbegpfbolkdiaaDoor
set_option maxRecDepth 100000
open Go.RowKit
set_option linter.unusedVariables false
set_option linter.unusedSimpArgs false

/-! ### The document's reserved words -/
def resC : Array Value := (resL.map fun l => Value.string (strOf l)).toArray
theorem resC_get (i : Nat) (h : i < 58) : resC[i]? = some (.string (strOf (resL.getD i []))) := by
  have hl : resL.length = 58 := by decide
  have : i < resL.length := by omega
  simp [resC, this]
theorem contains_at {l : List UInt8} {i : Nat} (hi : i < 58) (h : resL.getD i [] = l) : resL.contains l = true := by
  have hl : resL.length = 58 := by decide
  have hi' : i < resL.length := by omega
  have e : resL.getD i [] = resL[i] := by simp [hi']
  rw [List.contains_iff_mem, ← h, e]
  exact List.getElem_mem _
theorem contains_not {l : List UInt8} (h : ∀ i, i < 58 → resL.getD i [] ≠ l) : resL.contains l = false := by
  have hl : resL.length = 58 := by decide
  rw [Bool.eq_false_iff]
  intro hc
  rw [List.contains_iff_mem] at hc
  obtain ⟨i, hi, rfl⟩ := List.mem_iff_getElem.1 hc
  exact h i (by omega) (by simp [hi])
theorem refReserved_any (s : ByteArray) (w : World) : Calls Tryd.prog 12 #[.string s] w fun e w' => e = .returned (.bool (resL.contains s.toList)) ∧ Below w.heap.size w w' := by
  obtain ⟨l, hl⟩ : ∃ l, s.toList = l := ⟨_, rfl⟩
  obtain ⟨N, hN⟩ : ∃ N, w.heap.size = N := ⟨_, rfl⟩
  have HN := hide hN
  go_enter Tryd.func12, Tryd.ntmps12
  go_wp2
  go_loopw [4] (fun z wr => ∃ i : Nat, i ≤ 58 ∧ z = .int .i64 (i : Int) ∧ wr.heap[N]? = some (.cells resC 9 (0, 0)) ∧ (∀ j, j < i → resL.getD j [] ≠ l) ∧ Below N w wr) (fun z _ => restOf 58 z)
  case atStart => exact ⟨0, by omega, rfl, by rw [← hN]; exact heap_alloc_new w _, fun j hj => by omega, by rw [← hN]; exact (Below.refl _ _).alloc (Nat.le_refl _) _⟩
  case round =>
    obtain ⟨i, hi, rfl, hC, hno, hB⟩ := hrel
    by_cases hlt : i < 58
    · have hlt' : (i : Int) < 58 := by omega
      have hcell : wr.cell? ⟨N, i, none⟩ = some (.string (strOf (resL.getD i []))) := by rw [cell_row hC]; exact resC_get i hlt
      have ht : (strOf (resL.getD i [])).toList = resL.getD i [] := by rw [Lib.toList_data]; simp [strOf]
      have HNX : Hid (resL.getD i [] ≠ l → ∀ j, j < i + 1 → resL.getD j [] ≠ l) := fun h j hj => by
        rcases Nat.lt_or_ge j i with h1 | h1
        · exact hno j h1
        · obtain rfl : j = i := by omega
          exact h
      have HC := hide hC
      have HB := hide hB
      have HAT := hide (@contains_at l i hlt)
      clear hno hC hB
      generalize resL.getD i [] = m at *
      obtain ⟨S, hS⟩ : ∃ S, strOf m = S := ⟨_, rfl⟩
      rw [hS] at ht hcell
      clear hS
      by_cases he : m = l
      · have he' : (m == l) = true := beq_iff_eq.2 he
        have HR : Hid (resL.contains l = true) := HAT.out he
        clear HAT he
        go_wp2
        go_ret
        rw [hl, HR.out]
        exact ⟨rfl, by rw [hN]; exact HB.out⟩
      · have he' : (m == l) = false := beq_eq_false_iff_ne.2 he
        have HN2 := hide (HNX.out he)
        clear HNX HAT he
        go_wp2
        go_roundw
        case rel => exact ⟨i + 1, hlt, by simp, HC.out, HN2.out, HB.out⟩
        case measure => simp [restOf]; omega
    · obtain rfl : i = 58 := by omega
      have HR := hide (contains_not hno)
      have HB := hide hB
      clear hno hB hC hlt
      go_wp2
      go_ret
      rw [hl, HR.out]
      exact ⟨rfl, by rw [hN]; exact HB.out⟩

/-! ### Names -/
def nameF (l : List UInt8) : Bool :=
  match tokAt l (skipTo l false 0) with
  | none => false
  | some (t, _) => t.k == 1 && t.t == l && !(resL.contains l)
def lowB (c : UInt8) : Bool := isD c || (isL c && !(decide (65 ≤ c.toNat) && decide (c.toNat ≤ 90)))
def nameR (l : List UInt8) : Bool := l.all lowB && decide (0 < l.length) && decide (l.length ≤ 32) && !(isD (l.getD 0 0)) && !(resL.contains l)
theorem seg_all (l : List UInt8) : seg l 0 l.length = l := by simp [seg]
theorem lower_id : ∀ c : UInt8, wd (kdB c) = true → (Lib.lowerB c = c ↔ lowB c = true) := by
  have h : ∀ i : Fin 256, wd (kdB (UInt8.ofNat i.val)) = true → (Lib.lowerB (UInt8.ofNat i.val) = UInt8.ofNat i.val ↔ lowB (UInt8.ofNat i.val) = true) := by decide +kernel
  intro c
  have := h ⟨c.toNat, c.toNat_lt⟩
  simpa using this
theorem low_wd : ∀ c : UInt8, lowB c = true → wd (kdB c) = true ∧ Lib.lowerB c = c := by
  have h : ∀ i : Fin 256, lowB (UInt8.ofNat i.val) = true → wd (kdB (UInt8.ofNat i.val)) = true ∧ Lib.lowerB (UInt8.ofNat i.val) = UInt8.ofNat i.val := by decide +kernel
  intro c
  have := h ⟨c.toNat, c.toNat_lt⟩
  simpa using this
theorem low_nd : ∀ c : UInt8, lowB c = true → isD c = false → kdB c = 4 := by
  have h : ∀ i : Fin 256, lowB (UInt8.ofNat i.val) = true → isD (UInt8.ofNat i.val) = false → kdB (UInt8.ofNat i.val) = 4 := by decide +kernel
  intro c
  have := h ⟨c.toNat, c.toNat_lt⟩
  simpa using this
theorem run_whole (p : Nat → Bool) : ∀ l : List UInt8, (∀ c ∈ l, p (kdB c) = true) → runN p l = l.length
  | [], _ => rfl
  | c :: r, h => by
    simp only [runN, List.length_cons]
    rw [if_pos (h c (by simp)), run_whole p r (fun c hc => h c (by simp [hc]))]
theorem name_same (l : List UInt8) : nameF l = nameR l := by
  rw [Bool.eq_iff_iff]
  constructor
  · intro h
    unfold nameF at h
    have hp := skipTo_le (l := l) (b := false) (i := 0) (Nat.zero_le _)
    generalize skipTo l false 0 = p at *
    cases ht : tokAt l p with
    | none => rw [ht] at h; cases h
    | some q =>
      obtain ⟨t, e⟩ := q
      rw [ht] at h
      simp only [Bool.and_eq_true, beq_iff_eq, Bool.not_eq_true'] at h
      obtain ⟨⟨h1, h2⟩, h3⟩ := h
      obtain ⟨⟨k, e'⟩, hs⟩ : ∃ x, strF l p = x := ⟨_, rfl⟩
      have ht' := ht
      unfold tokAt at ht'
      rw [hs] at ht'
      simp only at ht'
      split at ht'
      · rename_i hk
        subst hk
        split at ht'
        · rename_i h32
          simp only [Option.some.injEq, Prod.mk.injEq] at ht'
          obtain ⟨rfl, rfl⟩ := ht'
          simp only at h2
          obtain ⟨_, h6, h7, h8, _⟩ := strF_in hp hs (by omega)
          have h8 := h8 (by omega)
          have hlen : e' - p = l.length := by
            have := congrArg List.length h2
            rw [Lib.toLowerA, List.length_map, seg_length h6] at this
            exact this
          obtain rfl : p = 0 := by omega
          obtain rfl : e' = l.length := by omega
          have h4 : kdAt l 0 = 4 ∧ l.length = runTo wd l 1 := by
            have hcase := hs
            unfold strF at hcase
            split at hcase
            · injection hcase with a b; exact ⟨by assumption, b.symm⟩
            · (repeat' split at hcase) <;> (injection hcase with a b; omega)
          have hw := seg_run (p := wd) (l := l) (i := 0) (by omega) (by simp [h4.1, wd])
          rw [show (0 : Nat) + 1 = 1 from rfl, ← h4.2, seg_all] at hw
          rw [seg_all] at h2
          have hlow : ∀ c ∈ l, lowB c = true := fun c hc => by
            refine (lower_id c (hw c hc)).1 ?_
            have := (List.map_eq_map_iff (f := Lib.lowerB) (g := id) (l := l)).1 (by rw [List.map_id]; exact h2)
            exact this c hc
          have hd : isD (l.getD 0 0) = false := by
            have hk0 := h4.1
            rw [kdAt_in (by omega)] at hk0
            have e0 : l.getD 0 0 = l[0]'(by omega) := by simp [show 0 < l.length by omega]
            rw [e0, Bool.eq_false_iff]
            intro hc
            have := ((kd_all _).2.1).1 hc
            omega
          unfold nameR
          simp only [Bool.and_eq_true, decide_eq_true_eq, Bool.not_eq_true', List.all_eq_true]
          exact ⟨⟨⟨⟨hlow, by omega⟩, by omega⟩, hd⟩, h3⟩
        · cases ht'
      · (repeat' split at ht') <;> first | (cases ht'; done) | (simp only [Option.some.injEq, Prod.mk.injEq] at ht'; obtain ⟨rfl, rfl⟩ := ht'; simp at h1)
  · intro h
    unfold nameR at h
    simp only [Bool.and_eq_true, decide_eq_true_eq, Bool.not_eq_true', List.all_eq_true] at h
    obtain ⟨⟨⟨⟨hlow, h0⟩, h32⟩, hd⟩, hres⟩ := h
    have e0 : l.getD 0 0 = l[0]'(by omega) := by simp [h0]
    rw [e0] at hd
    have hk0 : kdAt l 0 = 4 := by rw [kdAt_in h0]; exact low_nd _ (hlow _ (List.getElem_mem _)) hd
    have hs0 : skipTo l false 0 = 0 := skip_stop (by omega) (by omega) (by omega)
    have hr : runTo wd l 1 = l.length := by
      have : runTo wd l 0 = l.length := by
        unfold runTo
        rw [List.drop_zero, run_whole wd l (fun c hc => (low_wd c (hlow c hc)).1), Nat.zero_add]
      rw [← this]
      exact (runTo_in (by simp [hk0, wd]) (by omega)).symm
    have hst : strF l 0 = (1, l.length) := by
      unfold strF
      rw [if_pos hk0]
      rw [show (0 : Nat) + 1 = 1 from rfl, hr]
    have hlw : Lib.toLowerA l = l := by
      have := (List.map_eq_map_iff (f := Lib.lowerB) (g := id) (l := l)).2 (fun c hc => (low_wd c (hlow c hc)).2)
      rw [List.map_id] at this
      exact this
    have ht : tokAt l 0 = some (⟨1, l, 0, 0⟩, l.length) := by
      unfold tokAt
      rw [hst]
      simp [h32, seg_all, hlw]
    unfold nameF
    rw [hs0, ht]
    simpa using hres
set_option maxHeartbeats 4000000 in
theorem name_any (s : ByteArray) (w : World) (hs : s.size ≤ 1073741824) (hr : Ready w) : Calls Tryd.prog 13 #[.string s] w fun e w' => e = .returned (.bool (nameF s.data.toList)) ∧ Below w.heap.size w w' := by
  have HRs := hide (fun w => reserved_any s w)
  have HN := hide (next_any s 0 w (Nat.zero_le _) hs hr)
  have HF : Hid (nameF s.data.toList = match tokAt s.data.toList (skipTo s.data.toList false 0) with
    | none => false
    | some (t, _) => t.k == 1 && t.t == s.data.toList && !(resL.contains s.toList)) := by rw [Hid, Lib.toList_data]; rfl
  obtain ⟨F, hF⟩ : ∃ F, nameF s.data.toList = F := ⟨_, rfl⟩
  rw [hF] at HF ⊢
  clear hF hr
  unfold NextE at HN
  generalize skipTo s.data.toList false 0 = P at *
  generalize resL.contains s.toList = B at *
  cases ht : tokAt s.data.toList P with
  | none =>
    rw [ht] at HN HF
    dsimp only at HN HF
    go_enter Tryd.func13, Tryd.ntmps13
    go_wp2_with fail
    refine HN.out.mono ?_
    rintro o W2 ⟨⟨k, x, n, e', rfl⟩, hB2⟩
    have HB2 := hide hB2
    clear hB2
    go_wp2
    go_ret
    rw [HF.out]
    exact ⟨rfl, HB2.out.alloc HB2.out.size _⟩
  | some q =>
    obtain ⟨t, e⟩ := q
    rw [ht] at HN HF
    dsimp only at HN HF
    unfold tokV at HN
    have hq : (strOf t.t).toList = t.t := by rw [Lib.toList_data]; simp [strOf]
    obtain ⟨S, hS⟩ : ∃ S, strOf t.t = S := ⟨_, rfl⟩
    rw [hS] at HN hq
    have hsl : s.toList = s.data.toList := Lib.toList_data s
    obtain ⟨l, hl⟩ : ∃ l, s.data.toList = l := ⟨_, rfl⟩
    rw [hl] at hsl HF
    clear hS ht hl
    by_cases hk : t.k = 1
    · have hk1 : ((t.k : Int) == 1) = true := beq_iff_eq.2 (by omega)
      by_cases he : t.t = l
      · have he1 : (t.t == l) = true := beq_iff_eq.2 he
        have HF2 : Hid (F = !B) := by rw [Hid, HF.out, beq_iff_eq.2 hk, he1]; simp
        clear HF hk he
        cases B
        all_goals
          (skip
           go_enter Tryd.func13, Tryd.ntmps13
           go_wp2_with fail
           refine HN.out.mono ?_
           rintro o W2 ⟨rfl, hB2⟩
           have HB2 := hide hB2
           clear hB2
           go_wp2_with (first | (go_at_call 11; refine (HRs.out _).mono ?_; rintro e w' ⟨rfl, hw⟩; have hw := hw.symm; subst hw))
           go_ret
           rw [HF2.out]
           exact ⟨rfl, HB2.out.alloc HB2.out.size _⟩)
      · have he1 : (t.t == l) = false := beq_eq_false_iff_ne.2 he
        have HF2 : Hid (F = false) := by rw [Hid, HF.out, beq_iff_eq.2 hk, he1]; rfl
        clear HF hk he
        go_enter Tryd.func13, Tryd.ntmps13
        go_wp2_with fail
        refine HN.out.mono ?_
        rintro o W2 ⟨rfl, hB2⟩
        have HB2 := hide hB2
        clear hB2
        go_wp2
        go_ret
        rw [HF2.out]
        exact ⟨rfl, HB2.out.alloc HB2.out.size _⟩
    · have hk1 : ((t.k : Int) == 1) = false := beq_eq_false_iff_ne.2 (by omega)
      have HF2 : Hid (F = false) := by rw [Hid, HF.out, beq_eq_false_iff_ne.2 hk]; rfl
      clear HF hk
      go_enter Tryd.func13, Tryd.ntmps13
      go_wp2_with fail
      refine HN.out.mono ?_
      rintro o W2 ⟨rfl, hB2⟩
      have HB2 := hide hB2
      clear hB2
      go_wp2
      go_ret
      rw [HF2.out]
      exact ⟨rfl, HB2.out.alloc HB2.out.size _⟩
set_option maxHeartbeats 4000000 in
theorem refName_any (s : ByteArray) (w : World) (hs : s.size ≤ 1073741824) : Calls Tryd.prog 14 #[.string s] w fun e w' => e = .returned (.bool (nameR s.data.toList)) ∧ Below w.heap.size w w' := by
  have hlen : s.data.toList.length = s.size := (Lib.size_eq s).symm
  have HRs := hide (fun w => refReserved_any s w)
  rw [Lib.toList_data] at HRs
  have HF : Hid (nameR s.data.toList = (s.data.toList.all lowB && decide (0 < s.size) && decide (s.size ≤ 32) && !(isD (s.data.toList.getD 0 0)) && !(resL.contains s.data.toList))) := by rw [Hid, ← hlen]; rfl
  obtain ⟨F, hF⟩ : ∃ F, nameR s.data.toList = F := ⟨_, rfl⟩
  rw [hF] at HF ⊢
  have HLEN := hide hlen
  clear hF hlen
  go_enter Tryd.func14, Tryd.ntmps14
  go_wp2
  go_loopw [3] (fun z wr => ∃ i : Nat, i ≤ s.size ∧ z = .int .i64 (i : Int) ∧ (∀ j, j < i → lowB (s.data.toList.getD j 0) = true) ∧ wr = w) (fun z _ => restOf s.size z)
  case atStart => exact ⟨0, Nat.zero_le _, rfl, fun j hj => by omega, rfl⟩
  case round =>
    obtain ⟨i, hi, rfl, hall, rfl⟩ := hrel
    by_cases hlt : i < s.size
    · have hlt' : (i : Int) < (s.size : Int) := by omega
      obtain ⟨c, hc⟩ : ∃ c : UInt8, s[i] = c := ⟨_, rfl⟩
      have hgd : s.data.toList.getD i 0 = c := by rw [← hc]; simp [ByteArray.getElem_eq_getElem_data, hlt, HLEN.out]
      have HD := hide (digit_any c)
      have HL := hide (letter_any c)
      have HNX : Hid (lowB c = true → ∀ j, j < i + 1 → lowB (s.data.toList.getD j 0) = true) := fun h j hj => by
        rcases Nat.lt_or_ge j i with h1 | h1
        · exact hall j h1
        · obtain rfl : j = i := by omega
          rw [hgd]; exact h
      have HNO : Hid (lowB c = false → F = false) := fun h => by
        rw [HF.out]
        have : s.data.toList.all lowB = false := by
          rw [List.all_eq_false]
          exact ⟨c, by rw [← hgd]; simp [HLEN.out, hlt], by simp [h]⟩
        rw [this]; simp
      have hLB : Hid (lowB c = (isD c || (isL c && !(decide (65 ≤ (c.toNat : Int)) && decide ((c.toNat : Int) ≤ 90))))) := by
        unfold Hid lowB
        congr 3
        congr 1
        · exact decide_eq_decide.2 (by omega)
        · exact decide_eq_decide.2 (by omega)
      have h256 := c.toNat_lt
      generalize lowB c = b at *
      generalize isD c = bd at *
      generalize isL c = bl at *
      obtain ⟨x, hx⟩ : ∃ x : Int, (c.toNat : Int) = x := ⟨_, rfl⟩
      rw [hx] at HD HL hLB
      clear hall hgd
      cases bd
      · cases bl
        · have h2 : Hid (F = false) := HNO.out (by rw [hLB.out]; rfl)
          go_wp2_with (first | (go_at_call 20; refine (HD.out _).mono ?_; rintro e w' ⟨rfl, hw⟩; have hw := hw.symm; subst hw) | (go_at_call 18; refine (HL.out _).mono ?_; rintro e w' ⟨rfl, hw⟩; have hw := hw.symm; subst hw))
          go_ret
          rw [h2.out]
          exact ⟨rfl, Below.refl _ _⟩
        · by_cases h65 : x < 65
          · have hb := HNX.out (by rw [hLB.out, decide_eq_false (show ¬ 65 ≤ x by omega)]; rfl)
            have HB := hide hb
            clear hb
            go_wp2_with (first | (go_at_call 20; refine (HD.out _).mono ?_; rintro e w' ⟨rfl, hw⟩; have hw := hw.symm; subst hw) | (go_at_call 18; refine (HL.out _).mono ?_; rintro e w' ⟨rfl, hw⟩; have hw := hw.symm; subst hw))
            go_roundw
            case rel => exact ⟨i + 1, hlt, by simp, HB.out, trivial⟩
            case measure => simp [restOf]; omega
          · by_cases h90 : 90 < x
            · have hb := HNX.out (by rw [hLB.out, decide_eq_false (show ¬ x ≤ 90 by omega)]; simp)
              have HB := hide hb
              clear hb
              go_wp2_with (first | (go_at_call 20; refine (HD.out _).mono ?_; rintro e w' ⟨rfl, hw⟩; have hw := hw.symm; subst hw) | (go_at_call 18; refine (HL.out _).mono ?_; rintro e w' ⟨rfl, hw⟩; have hw := hw.symm; subst hw))
              go_roundw
              case rel => exact ⟨i + 1, hlt, by simp, HB.out, trivial⟩
              case measure => simp [restOf]; omega
            · have h2 : Hid (F = false) := HNO.out (by rw [hLB.out, decide_eq_true (show x ≤ 90 by omega), decide_eq_true (show 65 ≤ x by omega)]; rfl)
              go_wp2_with (first | (go_at_call 20; refine (HD.out _).mono ?_; rintro e w' ⟨rfl, hw⟩; have hw := hw.symm; subst hw) | (go_at_call 18; refine (HL.out _).mono ?_; rintro e w' ⟨rfl, hw⟩; have hw := hw.symm; subst hw))
              go_ret
              rw [h2.out]
              exact ⟨rfl, Below.refl _ _⟩
      · have hb := HNX.out (by rw [hLB.out]; rfl)
        have HB := hide hb
        clear hb
        go_wp2_with (first | (go_at_call 20; refine (HD.out _).mono ?_; rintro e w' ⟨rfl, hw⟩; have hw := hw.symm; subst hw) | (go_at_call 18; refine (HL.out _).mono ?_; rintro e w' ⟨rfl, hw⟩; have hw := hw.symm; subst hw))
        go_roundw
        case rel => exact ⟨i + 1, hlt, by simp, HB.out, trivial⟩
        case measure => simp [restOf]; omega
    · obtain rfl : i = s.size := by omega
      have hlow : s.data.toList.all lowB = true := by
        rw [List.all_eq_true]
        intro c hc
        obtain ⟨j, hj, rfl⟩ := List.mem_iff_getElem.1 hc
        have := hall j (by rw [← HLEN.out]; exact hj)
        have e : s.data.toList.getD j 0 = s.data.toList[j] := by rw [List.getD_eq_getElem?_getD, List.getElem?_eq_getElem hj]; rfl
        rw [e] at this
        exact this
      rw [hlow] at HF
      clear hall hlow hlt
      by_cases h0 : s.size = 0
      · have h2 : Hid (F = false) := by rw [Hid, HF.out, h0]; rfl
        clear HF
        go_wp2
        go_ret
        rw [h2.out]
        exact ⟨rfl, Below.refl _ _⟩
      have h0' : 0 < s.size := by omega
      have h0'' : (0 : Int) < (s.size : Int) := by omega
      by_cases h32 : s.size ≤ 32
      · have h32' : (s.size : Int) ≤ 32 := by omega
        obtain ⟨c, hc⟩ : ∃ c : UInt8, s[0] = c := ⟨_, rfl⟩
        have hgd : s.data.toList.getD 0 0 = c := by rw [← hc]; simp [ByteArray.getElem_eq_getElem_data, h0', HLEN.out]
        have HD := hide (digit_any c)
        rw [hgd, decide_eq_true h0', decide_eq_true h32] at HF
        clear hgd
        generalize isD c = bd at *
        generalize resL.contains s.data.toList = B at *
        obtain ⟨x, hx⟩ : ∃ x : Int, (c.toNat : Int) = x := ⟨_, rfl⟩
        rw [hx] at HD
        cases bd
        · have h2 : Hid (F = !B) := by rw [Hid, HF.out]; simp
          clear HF
          cases B
          all_goals
            (go_wp2_with (first | (go_at_call 20; refine (HD.out _).mono ?_; rintro e w' ⟨rfl, hw⟩; have hw := hw.symm; subst hw) | (go_at_call 12; refine (HRs.out _).mono ?_; rintro e w' ⟨rfl, hb⟩))
             go_ret
             rw [h2.out]
             exact ⟨rfl, hb⟩)
        · have h2 : Hid (F = false) := by rw [Hid, HF.out]; simp
          clear HF
          go_wp2_with (first | (go_at_call 20; refine (HD.out _).mono ?_; rintro e w' ⟨rfl, hw⟩; have hw := hw.symm; subst hw))
          go_ret
          rw [h2.out]
          exact ⟨rfl, Below.refl _ _⟩
      · have h32' : ¬ (s.size : Int) ≤ 32 := by omega
        have h2 : Hid (F = false) := by rw [Hid, HF.out, decide_eq_false h32]; simp
        clear HF
        go_wp2
        go_ret
        rw [h2.out]
        exact ⟨rfl, Below.refl _ _⟩
set_option maxHeartbeats 4000000 in
/-- LexNames. -/
theorem names_walk (s : ByteArray) (w : World) (hs : s.size ≤ 1073741824) (hr : Ready w) : Calls Tryd.prog 5 #[.string s] w fun e w' => e = .returned (.bool true) ∧ Below w.heap.size w w' := by
  have H1 := hide (fun w => reserved_any s w)
  have H2 := hide (fun w => refReserved_any s w)
  have H3 := hide (fun w hr => name_any s w hs hr)
  have H4 := hide (fun w => refName_any s w hs)
  rw [name_same] at H3
  have HA := hide (fun w hr => awake_any w hr)
  have HR := hide hr
  clear hr
  generalize resL.contains s.toList = B at *
  generalize nameR s.data.toList = F at *
  go_enter Tryd.func5, Tryd.ntmps5
  go_wp2_with (first | (go_at_call 11; refine (H1.out _).mono ?_; rintro e w' ⟨rfl, hw⟩; have hw := hw.symm; subst hw))
  refine (H2.out _).mono ?_
  rintro e W1 ⟨rfl, hB1⟩
  have HR1 := hide (HR.out.below hB1)
  have HB1 := hide hB1
  clear hB1
  go_wp2_with fail
  refine (H3.out _ HR1.out).mono ?_
  rintro e W2 ⟨rfl, hB2⟩
  have HR2 := hide (HR1.out.below hB2)
  have HB2 := hide (HB1.out.trans (hB2.mono HB1.out.size))
  clear hB2
  go_wp2_with fail
  refine (H4.out _).mono ?_
  rintro e W3 ⟨rfl, hB3⟩
  have HR3 := hide (HR2.out.below hB3)
  have HB3 := hide (HB2.out.trans (hB3.mono HB2.out.size))
  clear hB3
  go_wp2_with fail
  refine (HA.out _ HR3.out).mono ?_
  rintro e W4 ⟨rfl, hB4⟩
  have HB4 := hide (HB3.out.trans (hB4.mono HB3.out.size))
  clear hB4
  go_wp2
  go_ret
  exact ⟨rfl, HB4.out⟩
end Go.Proofs.YtnbegpfbolkdiaaDoor
