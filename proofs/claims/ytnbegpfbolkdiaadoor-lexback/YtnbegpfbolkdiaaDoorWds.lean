/- Words: the tokens of a text. -/
import Derived.Test.YtnbegpfbolkdiaaDoorVls
namespace Go.Proofs.YtnbegpfbolkdiaaDoor
set_option maxRecDepth 100000
open Go.RowKit
set_option linter.unusedVariables false
set_option linter.unusedSimpArgs false

/-- What Words tells. -/
def WordsE (w : World) (l : List UInt8) (o : Ending) (w' : World) : Prop :=
  ∃ u, o = .returned (.tuple #[u, .int .i64 ((wordsF l).2.1 : Int), .int .i64 ((wordsF l).2.2 : Int)]) ∧ Toks w w' u (wordsF l).1
def restOf (n : Nat) : Value → Nat
  | .int _ z => n - z.toNat
  | _ => 0
theorem box_grown {w0 W2 W3 : World} {u : Value} {acc : List Tk} {C : Array Value} {T : TypeId} {o2 : Obj} (h : Toks w0 W2 u acc) (hg : ((W2.alloc (.cells C T)).alloc o2).grownBy W3 u.ownBlock) : W3.heap[W2.heap.size]? = some (.cells C T (0, 0)) := by
  have h1 := hg.block W2.heap.size (by simp; omega) (fun e => by have := (h.own.lt _ e.symm).2; omega)
  refine h1.trans ?_
  have h2 : ((W2.alloc (.cells C T)).alloc o2).heap[W2.heap.size]? = (W2.alloc (.cells C T)).heap[W2.heap.size]? := Below.heap_alloc _ _ _ (by simp)
  exact h2.trans (heap_alloc_new _ _)
set_option maxHeartbeats 4000000 in
theorem words_any (s : ByteArray) (w : World) (hr : Ready w) :
    Calls Tryd.prog 8 #[.string s] w (WordsE w s.data.toList) := by
  have hlen : s.data.toList.length = s.size := (Lib.size_eq s).symm
  by_cases hbig : 4096 < s.size
  · have hw : wordsF s.data.toList = ([], 2, 0) := by unfold wordsF; rw [if_pos (by omega)]
    have h' : (4096 : Int) < (s.size : Int) := by omega
    go_enter Tryd.func8, Tryd.ntmps8
    go_wp2
    go_ret3
    unfold WordsE
    rw [hw]
    exact ⟨_, rfl, Toks.nil (Below.refl _ _)⟩
  have hsz : s.size ≤ 4096 := by omega
  have h' : ¬ (4096 : Int) < (s.size : Int) := by omega
  have HR := hide hr
  have HLEN := hide hlen
  have HW : Hid (∀ x, toks s.data.toList (s.data.toList.length + 1) 0 [] = x → wordsF s.data.toList = (match x with | .inl ts => (ts, 0, 0) | .inr p => ([], 180, p))) := fun x hx => by
    unfold wordsF; rw [if_neg (by omega), hx]
    cases x <;> rfl
  obtain ⟨T0, hT0⟩ : ∃ x, toks s.data.toList (s.data.toList.length + 1) 0 [] = x := ⟨_, rfl⟩
  have HT0 := hide hT0
  clear hr hlen hbig hT0
  go_enter Tryd.func8, Tryd.ntmps8
  go_wp2
  go_loopw [5, 6] (fun u z wr => ∃ (i : Nat) (acc : List Tk) (f : Nat), z = .int .i64 (i : Int) ∧ i ≤ s.size ∧ s.size + 1 ≤ f + i ∧ acc.length ≤ i ∧ toks s.data.toList f i acc = T0 ∧ Toks w wr u acc) (fun _ z _ => restOf s.size z)
  case atStart => exact ⟨0, [], s.size + 1, rfl, Nat.zero_le _, by omega, Nat.le_refl _, by rw [← HLEN.out]; exact HT0.out, Toks.nil (Below.refl _ _)⟩
  case round =>
    obtain ⟨i, acc, f, rfl, hi, hf, hacc, ht, hV⟩ := hrel
    obtain ⟨f, rfl⟩ : ∃ g, f = g + 1 := ⟨f - 1, by omega⟩
    have HV := hide hV
    have HN := hide (next_any s i wr hi (by omega) (HR.out.below hV.below))
    have hp : skipTo s.data.toList false i ≤ s.data.toList.length := skipTo_le (by rw [HLEN.out]; exact hi)
    have HTT : Hid (match tokAt s.data.toList (skipTo s.data.toList false i) with
        | none => T0 = .inr (skipTo s.data.toList false i)
        | some (t, e) => if t.k = 5 then T0 = .inl (acc ++ [t]) else toks s.data.toList f e (acc ++ [t]) = T0) := by
      rw [Hid, ← ht]
      simp only [toks]
      cases tokAt s.data.toList (skipTo s.data.toList false i) with
      | none => rfl
      | some p =>
        obtain ⟨t, e⟩ := p
        by_cases hk : t.k = 5
        · simp only [hk, if_true]
        · simp only [hk, if_false]
    have HTI : Hid (∀ t e, tokAt s.data.toList (skipTo s.data.toList false i) = some (t, e) → e ≤ s.size ∧ (t.k ≠ 5 → i < e)) := fun t e h => by
      have := tokAt_in hp h
      have h2 := skipTo_ge s.data.toList false i
      rw [HLEN.out] at this
      exact ⟨this.1, fun h => by have := this.2.2.2.1 h; omega⟩
    have hP32 : skipTo s.data.toList false i ≤ 4096 := by rw [HLEN.out] at hp; omega
    clear hV ht hp
    unfold NextE at HN
    generalize skipTo s.data.toList false i = P at *
    cases htk : tokAt s.data.toList P with
    | none =>
      rw [htk] at HN HTT
      dsimp only at HN HTT
      have HWF := hide (HW.out _ (HT0.out.trans HTT.out))
      clear HTI htk
      go_wp2_with fail
      refine HN.out.mono ?_
      rintro o W2 ⟨⟨k, x, n, e', rfl⟩, hB2⟩
      have HB2 := hide (HV.out.below.trans (hB2.mono HV.out.below.size))
      clear hB2
      go_wp2
      go_quiet (fail)
      go_wp2
      go_ret3
      unfold WordsE
      rw [HWF.out]
      exact ⟨_, rfl, Toks.nil ((HB2.out.alloc HB2.out.size _).trans (below_drewN _ _ _))⟩
    | some q =>
      obtain ⟨t, e⟩ := q
      have hti := HTI.out t e htk
      rw [htk] at HN HTT
      dsimp only at HN HTT
      clear HTI htk
      have hbv := buildT t
      have HX : Hid (∀ (W : World) (o : Obj), TsAt ((W.alloc o).alloc (.cells #[.int .i64 (t.k : Int), .string (strOf t.t), .int .i64 (t.n : Int), .int .i64 (t.p : Int)] 29)) (.slice (some ⟨W.heap.size + 1, 0, none⟩) 1 1) [t]) := fun W o => tsAt2 W o t
      unfold tokV at HN
      by_cases hk : t.k = 5
      · have HWF : Hid (wordsF s.data.toList = (acc ++ [t], 0, 0)) := HW.out (.inl (acc ++ [t])) (HT0.out.trans (by have := HTT.out; rw [if_pos hk] at this; exact this))
        have hk5 : ((t.k : Int) == 5) = true := beq_iff_eq.2 (by omega)
        have hal : acc.length + [t].length ≤ 1000000000 := by simp; omega
        clear HTT hti hk
        generalize (t.k : Int) = tk at *
        go_wp2_with fail
        refine HN.out.mono ?_
        rintro o W2 ⟨rfl, hB2⟩
        have HV2 := hide (HV.out.belowW hB2)
        clear hB2
        go_wp2_with (refine wpList_append_toks rfl (.tmp 24) (.tmp 26) rfl w _ _ _ _ rfl rfl ((HV2.out.alloc _).alloc _) (HX.out _ _) hal ?_; intro u3 W3 hV3 hg3; have hc3 := cell_row (o := 0) (box_grown HV2.out hg3); simp only [List.getElem?_toArray, List.getElem?_cons_zero] at hc3)
        go_ret3
        unfold WordsE
        rw [HWF.out]
        exact ⟨_, rfl, hV3⟩
      · have HT3 : Hid (toks s.data.toList f e (acc ++ [t]) = T0) := by have := HTT.out; rw [if_neg hk] at this; exact this
        have hk5 : ((t.k : Int) == 5) = false := beq_eq_false_iff_ne.2 (by omega)
        have hie := hti.2 hk
        have hes := hti.1
        have hal : acc.length + [t].length ≤ 1000000000 := by simp; omega
        have HAL2 : Hid ((acc ++ [t]).length ≤ e) := by rw [Hid, List.length_append, List.length_singleton]; omega
        clear HTT hti hk
        generalize (t.k : Int) = tk at *
        go_wp2_with fail
        refine HN.out.mono ?_
        rintro o W2 ⟨rfl, hB2⟩
        have HV2 := hide (HV.out.belowW hB2)
        clear hB2
        go_wp2_with (refine wpList_append_toks rfl (.tmp 24) (.tmp 26) rfl w _ _ _ _ rfl rfl ((HV2.out.alloc _).alloc _) (HX.out _ _) hal ?_; intro u3 W3 hV3 hg3; have hc3 := cell_row (o := 0) (box_grown HV2.out hg3); simp only [List.getElem?_toArray, List.getElem?_cons_zero] at hc3)
        go_roundw
        case rel => exact ⟨e, acc ++ [t], f, rfl, hes, by omega, HAL2.out, HT3.out, hV3⟩
        case measure => simp [restOf]; omega
end Go.Proofs.YtnbegpfbolkdiaaDoor
