/- The document's Words. -/
import Derived.Test.YtnbegpfbolkdiaaDoorRsg
import Derived.Test.YtnbegpfbolkdiaaDoorWds
namespace Go.Proofs.YtnbegpfbolkdiaaDoor
set_option maxRecDepth 100000
open Go.RowKit
set_option linter.unusedVariables false
set_option linter.unusedSimpArgs false

theorem refWord_E (s : ByteArray) (i0 : Nat) (w : World) (hi : i0 < s.size) (hs : s.size ≤ 4096) (h4 : kdAt s.data.toList i0 = 4) :
    Calls Tryd.prog 19 #[.string s, .int .i64 (i0 : Int)] w fun o w' => RefE s.data.toList i0 o ∧ Below w.heap.size w w' := by
  have e : runTo wd s.data.toList (i0 + 1) = runTo wd s.data.toList i0 := (runTo_in (by simp [h4, wd]) (by omega)).symm
  have hst : strF s.data.toList i0 = (1, runTo wd s.data.toList i0) := by
    unfold strF
    rw [if_pos h4, e]
  have ht : tokAt s.data.toList i0 = if runTo wd s.data.toList i0 - i0 ≤ 32 then some (⟨1, Lib.toLowerA (seg s.data.toList i0 (runTo wd s.data.toList i0)), 0, i0⟩, runTo wd s.data.toList i0) else none := by
    unfold tokAt
    rw [hst]
    rfl
  refine (refWord_any s i0 w (by omega) hs).mono ?_
  rintro o w' ⟨rfl, hb⟩
  refine ⟨?_, hb⟩
  unfold RefE
  rw [ht]
  by_cases h : runTo wd s.data.toList i0 - i0 ≤ 32
  · rw [if_pos h, decide_eq_true h]
  · rw [if_neg h, decide_eq_false h]
    exact ⟨_, _, _, _, _, rfl⟩
theorem setRow_heap (w : World) (b : Nat) (C D : Array Value) (t : TypeId) (fr : Nat × Nat) (h : w.heap[b]? = some (.cells C t fr)) : (w.setRow b D).heap[b]? = some (.cells D t fr) := by
  simp [World.setRow, Array.getElem?_modify, h]
theorem off_setRow {fp : List Nat} {a w : World} (h : Off fp a w) (b : Nat) (C : Array Value) (hb : b ∈ fp ∨ a.heap.size ≤ b) : Off fp a (w.setRow b C) :=
  ⟨h.os, h.tape, h.output, by have := h.size; simpa [World.setRow] using this, fun k hk hn => by
    have e : (w.setRow b C).heap[k]? = w.heap[k]? := by
      have : b ≠ k := fun e => by subst e; rcases hb with hb | hb; exact hn hb; omega
      simp [World.setRow, Array.getElem?_modify, this]
    exact e.trans (h.block k hk hn)⟩
/-- A whole token is stored in its box. -/
theorem wpList_store_tok {ops : Array Oper} {rest : List Oper} {op : Oper} {a : Act} {w : World} {Q : Exit → Act → World → Prop} (hgd : op.guard = none) (x y : Operand) (ho : op.op = .store 29 x y) (hd : op.dst = none)
    (r : Nat) (C : Array Value) (v0 v2 v3 : Int) (v1 : ByteArray) (hx : a.eval x = .pointer (some ⟨r, 0, none⟩)) (hy : a.eval y = .agg #[.int .i64 v0, .string v1, .int .i64 v2, .int .i64 v3]) (hb : w.heap[r]? = some (.cells C 29 (0, 0))) (hC : C.size = 4)
    (h : ∀ w2, Off [r] w w2 → w2.heap[r]? = some (.cells #[.int .i64 v0, .string v1, .int .i64 v2, .int .i64 v3] 29 (0, 0)) → wpList Tryd.prog ops Q rest a w2) : wpList Tryd.prog ops Q (op :: rest) a w := by
  have hr := run_storeAt_in (P := Tryd.prog) w r 0 29 29 C [.int .i64 v0, .string v1, .int .i64 v2, .int .i64 v3] hb (by simp [hC]) Tryd.size29 (fun v hv => by
    simp at hv
    rcases hv with rfl | rfl | rfl | rfl <;> rfl)
  have hd2 : List.drop 4 C.toList = [] := List.drop_of_length_le (by simp [hC])
  have hr2 : (Instr.storeAt 29 (.pointer (some ⟨r, 0, none⟩)) (.agg [.int .i64 v0, .string v1, .int .i64 v2, .int .i64 v3].toArray)).run Tryd.prog w = .ok () (w.setRow r #[.int .i64 v0, .string v1, .int .i64 v2, .int .i64 v3]) := by
    simpa [hd2] using hr
  exact wpList_store_in hgd 29 x y ho hd r 0 [.int .i64 v0, .string v1, .int .i64 v2, .int .i64 v3] _ hx hy hr2 (h _ (off_setRow (Off.refl _ _) _ _ (.inl (by simp))) (setRow_heap _ _ _ _ _ _ hb))
theorem Toks.off {w0 w w' : World} {u : Value} {l : List Tk} {r : Nat} (h : Toks w0 w u l) (ho : Off [r] w w') (hr : w0.heap.size ≤ r) (hn : u.ownBlock ≠ some r) : Toks w0 w' u l :=
  ⟨h.below.trans (ho.below h.below.size (fun k hk => by simp at hk; omega)), owns_off h.own ho (fun k hk => by simp at hk; subst hk; exact hn)⟩
theorem set3 {w : World} {b : Nat} {a0 a1 a2 : Value} (h : w.heap[b]? = some (.cells #[a0, a1, a2] 32 (0, 0))) (v0 v1 v2 : Value) :
    (((w.setCell ⟨b, 0, none⟩ v0).setCell ⟨b, 1, none⟩ v1).setCell ⟨b, 2, none⟩ v2).heap[b]? = some (.cells #[v0, v1, v2] 32 (0, 0)) := by
  rw [heap_set_same _ (heap_set_same _ (heap_set_same _ h))]
  rfl
theorem off3 (w : World) (b : Nat) (v0 v1 v2 : Value) : Off [b] w (((w.setCell ⟨b, 0, none⟩ v0).setCell ⟨b, 1, none⟩ v1).setCell ⟨b, 2, none⟩ v2) :=
  (((Off.refl [b] w).setCell _ _ (.inl (by simp))).setCell _ _ (.inl (by simp))).setCell _ _ (.inl (by simp))
theorem Tryd.results9 : Tryd.f9.results = #[.cell 2 32] := by kernel_rfl
theorem Tryd.size32 : (Tryd.prog.info? 32).map (·.size) = some 3 := by kernel_rfl
/-- What the document's Words tells. -/
def RefW (w : World) (l : List UInt8) (o : Ending) (w' : World) : Prop :=
  ∃ u, o = .returned (.agg #[u, .int .i64 ((wordsF l).2.1 : Int), .int .i64 ((wordsF l).2.2 : Int)]) ∧ Toks w w' u (wordsF l).1
/-- Tokens behind another world's box. -/
theorem Toks.from {w w1 w' : World} {u : Value} {l : List Tk} (h : Toks w1 w' u l) (hb : Below w.heap.size w w1) : Toks w w' u l :=
  ⟨hb.trans (h.below.mono hb.size), owns_mono h.own hb.size⟩
set_option maxHeartbeats 8000000 in
theorem refWords_any (s : ByteArray) (w : World) :
    Calls Tryd.prog 9 #[.string s] w (RefW w s.data.toList) := by
  have hlen : s.data.toList.length = s.size := (Lib.size_eq s).symm
  obtain ⟨N, hN⟩ : ∃ N, w.heap.size = N := ⟨_, rfl⟩
  by_cases hbig : 4096 < s.size
  · have hw : wordsF s.data.toList = ([], 2, 0) := by unfold wordsF; rw [if_pos (by omega)]
    have h' : (4096 : Int) < (s.size : Int) := by omega
    go_enter Tryd.func9, Tryd.ntmps9
    go_wp2
    refine bodyPost_ret (results_cell_row Tryd.results9 _ _ N 32 #[.slice none 0 0, .int .i64 2, .int .i64 0] (0, 0) _ rfl (by rw [← hN]; exact heap_alloc_new w _) Tryd.underlying32 rfl Tryd.size32) rfl ?_
    unfold RefW
    rw [hw]
    exact ⟨_, rfl, Toks.nil ((Below.refl _ _).alloc (Nat.le_refl _) _)⟩
  have hsz : s.size ≤ 4096 := by omega
  have h' : ¬ (4096 : Int) < (s.size : Int) := by omega
  have HLEN := hide hlen
  have HW : Hid (∀ x, toks s.data.toList (s.data.toList.length + 1) 0 [] = x → wordsF s.data.toList = (match x with | .inl ts => (ts, 0, 0) | .inr p => ([], 180, p))) := fun x hx => by
    unfold wordsF; rw [if_neg (by omega), hx]
    cases x <;> rfl
  obtain ⟨T0, hT0⟩ : ∃ x, toks s.data.toList (s.data.toList.length + 1) 0 [] = x := ⟨_, rfl⟩
  have HT0 := hide hT0
  have HSK := hide (fun i w hi => refSkip_any s i w hi (by omega))
  have HSK0 := hide (HSK.out 0 (w.alloc (.cells #[.slice none 0 0, .int .i64 0, .int .i64 0] 32)) (Nat.zero_le _))
  clear hlen hbig hT0
  have HW1 : Hid (Below N w (w.alloc (.cells #[.slice none 0 0, .int .i64 0, .int .i64 0] 32))) := by rw [← hN]; exact (Below.refl _ _).alloc (Nat.le_refl _) _
  have HBX : Hid ((w.alloc (.cells #[.slice none 0 0, .int .i64 0, .int .i64 0] 32)).heap[N]? = some (.cells #[.slice none 0 0, .int .i64 0, .int .i64 0] 32 (0, 0))) := by rw [← hN]; exact heap_alloc_new w _
  go_enter Tryd.func9, Tryd.ntmps9
  go_wp2_with fail
  refine HSK0.out.mono ?_
  rintro e W0 ⟨rfl, hw⟩
  have hw := hw.symm
  subst hw
  obtain ⟨w1, hw1⟩ : ∃ w1, w.alloc (.cells #[.slice none 0 0, .int .i64 0, .int .i64 0] 32) = w1 := ⟨_, rfl⟩
  rw [hw1] at HW1 HBX ⊢
  clear hw1 HSK0
  have hNw1 := lt_of_heap HBX.out
  go_wp2
  go_loopw [3, 4] (fun u z wr => ∃ (i p : Nat) (acc : List Tk) (f : Nat), skipTo s.data.toList false i = p ∧ z = .int .i64 (p : Int) ∧ i ≤ s.size ∧ s.size + 1 ≤ f + i ∧ acc.length ≤ i ∧ toks s.data.toList f i acc = T0 ∧ Toks w1 wr u acc) (fun _ z _ => restQ s.size z)
  case atStart => exact ⟨0, _, [], s.size + 1, rfl, rfl, Nat.zero_le _, by omega, Nat.le_refl _, by rw [← HLEN.out]; exact HT0.out, Toks.nil (Below.refl _ _)⟩
  case round =>
    obtain ⟨i, p, acc, f, hp, rfl, hi, hf, hacc, ht, hV⟩ := hrel
    obtain ⟨f, rfl⟩ : ∃ g, f = g + 1 := ⟨f - 1, by omega⟩
    have hple : p ≤ s.size := by rw [← hp, ← HLEN.out]; exact skipTo_le (by rw [HLEN.out]; exact hi)
    have hip : i ≤ p := by rw [← hp]; exact skipTo_ge _ _ _
    have HTT : Hid (match tokAt s.data.toList p with
        | none => T0 = .inr p
        | some (t, e) => if t.k = 5 then T0 = .inl (acc ++ [t]) else toks s.data.toList f e (acc ++ [t]) = T0) := by
      rw [Hid, ← ht, ← hp]
      simp only [toks]
      cases tokAt s.data.toList (skipTo s.data.toList false i) with
      | none => rfl
      | some p =>
        obtain ⟨t, e⟩ := p
        by_cases hk : t.k = 5
        · simp only [hk, if_true]
        · simp only [hk, if_false]
    have HTI : Hid (∀ t e, tokAt s.data.toList p = some (t, e) → e ≤ s.size ∧ p ≤ e ∧ t.p = p ∧ (t.k ≠ 5 → p < e) ∧ (t.k = 5 → e = s.size ∧ p = s.size) ∧ 1 ≤ t.k ∧ t.k ≤ 5) := fun t e h => by
      have := tokAt_in (by rw [HLEN.out]; exact hple) h
      rw [HLEN.out] at this
      exact this
    have HV := hide hV
    have hM : ∃ M, wr.heap.size = M := ⟨_, rfl⟩
    obtain ⟨M, hM⟩ := hM
    clear hV ht hp
    by_cases hlt : p < s.size
    · have hlt' : (p : Int) < (s.size : Int) := by omega
      obtain ⟨c, hc⟩ : ∃ c : UInt8, s[p] = c := ⟨_, rfl⟩
      have hk : kdAt s.data.toList p = kdB c := by rw [kd_at_byte s p hlt, hc]
      have hkd := kd_all c
      have HL := hide (letter_any c)
      have HD := hide (digit_any c)
      obtain ⟨x, hx⟩ : ∃ x : Int, (c.toNat : Int) = x := ⟨_, rfl⟩
      have hx39 : x = 39 ↔ kdB c = 6 := by rw [← hx, show (39 : Int) = ((39 : Nat) : Int) from rfl, byte_is c 39 (by omega)]; exact hkd.2.2.2.1
      rw [hx] at HL HD
      have HF : Hid ((isL c = true → ∀ W, Calls Tryd.prog 19 #[.string s, .int .i64 (p : Int)] W fun o w' => RefE s.data.toList p o ∧ Below W.heap.size W w') ∧
          (isD c = true → ∀ W, Calls Tryd.prog 21 #[.string s, .int .i64 (p : Int)] W fun o w' => RefE s.data.toList p o ∧ Below W.heap.size W w') ∧
          (x = 39 → ∀ W, Calls Tryd.prog 22 #[.string s, .int .i64 (p : Int)] W fun o w' => RefE s.data.toList p o ∧ Below W.heap.size W w') ∧
          (isL c = false → isD c = false → ¬ x = 39 → ∀ W, Calls Tryd.prog 23 #[.string s, .int .i64 (p : Int)] W fun o w' => RefE s.data.toList p o ∧ Below W.heap.size W w')) :=
        ⟨fun h W => refWord_E s p W hlt hsz (by rw [hk]; exact hkd.1.1 h), fun h W => refNumber_any s p W hlt hsz (by rw [hk]; exact hkd.2.1.1 h), fun h W => refText_any s p W hlt hsz (by rw [hk]; exact hx39.1 h),
          fun h1 h2 h3 W => refSign_any s p W hlt hsz (by rw [hk]; intro e; rw [hkd.1.2 e] at h1; cases h1) (by rw [hk]; intro e; rw [hkd.2.1.2 e] at h2; cases h2) (by rw [hk]; intro e; exact h3 (hx39.2 e))⟩
      clear hk hkd hx39
      have HMZ : Hid ((wr.alloc (.cells #[.int .i64 0, .string ⟨#[]⟩, .int .i64 0, .int .i64 0] 29)).heap[M]? = some (.cells #[.int .i64 0, .string ⟨#[]⟩, .int .i64 0, .int .i64 0] 29 (0, 0))) := by rw [← hM]; exact heap_alloc_new wr _
      have HNM : Hid (N < M) := by rw [Hid, ← hM]; exact Nat.lt_of_lt_of_le hNw1 HV.out.below.size
      generalize isL c = bl at *
      generalize isD c = bd at *
      have HF19 := hide HF.out.1
      have HF21 := hide HF.out.2.1
      have HF22 := hide HF.out.2.2.1
      have HF23 := hide HF.out.2.2.2
      clear HF
      unfold RefE at HF19 HF21 HF22 HF23
      cases htk : tokAt s.data.toList p with
      | none =>
        rw [htk] at HTT HF19 HF21 HF22 HF23
        dsimp only at HTT HF19 HF21 HF22 HF23
        have HWF := hide (HW.out (.inr p) (HT0.out.trans HTT.out))
        clear HTI htk
        cases bl
        · cases bd
          · by_cases h39 : x = 39
            · have HC := hide (HF22.out h39)
              subst h39
              go_wp2_with (first | (go_at_call 18; refine (HL.out _).mono ?_; rintro e w' ⟨rfl, hw⟩; have hw := hw.symm; subst hw) | (go_at_call 20; refine (HD.out _).mono ?_; rintro e w' ⟨rfl, hw⟩; have hw := hw.symm; subst hw))
              refine (HC.out _).mono ?_
              rintro o W2 ⟨⟨tk, tx, tn, tp, te, rfl⟩, hB2⟩
              have hM2 := (hB2.block M (by have := lt_of_heap HMZ.out; exact this)).trans HMZ.out
              have hA0 := (Below.refl wr.heap.size wr).alloc (Nat.le_refl _) (.cells #[.int .i64 0, .string ⟨#[]⟩, .int .i64 0, .int .i64 0] 29)
              have hA1 := hA0.trans (hB2.mono hA0.size)
              have hV2 := HV.out.belowW hA1
              have hbox0 := (hV2.below.block N hNw1).trans HBX.out
              have hNM := HNM.out
              have HV2 := hide hV2
              clear hV2 hA0 hA1 hB2
              go_wp2_with (refine wpList_store_tok rfl (.tmp 5) (.tmp 59) rfl rfl M _ _ _ _ _ rfl rfl hM2 rfl ?_; intro w2 ho2 hb2; have d0 := cell_row (o := 0) hb2; have d1 := cell_row (o := 1) hb2; have d2 := cell_row (o := 2) hb2; have d3 := cell_row (o := 3) hb2; simp only [List.getElem?_toArray, List.getElem?_cons_zero, List.getElem?_cons_succ] at d0 d1 d2 d3; have hbox := (ho2.block N (lt_of_heap hbox0) (by simp; omega)).trans hbox0; have c0 := cell_row (o := 0) hbox; have c1 := cell_row (o := 1) hbox; have c2 := cell_row (o := 2) hbox; have f0 : ∀ k, w2.frozen? ⟨N, k, none⟩ = false := fun k => frozen_row hbox; simp only [List.getElem?_toArray, List.getElem?_cons_zero, List.getElem?_cons_succ] at c0 c1 c2)
              refine bodyPost_ret (results_cell_row Tryd.results9 _ _ N 32 _ (0, 0) _ rfl (set3 hbox _ _ _) Tryd.underlying32 rfl Tryd.size32) rfl ?_
              unfold RefW
              rw [HWF.out]
              refine ⟨_, rfl, Toks.nil ?_⟩
              have hb1 : Below w.heap.size w w1 := by rw [hN]; exact HW1.out
              have hb2' := hb1.trans (HV2.out.below.mono hb1.size)
              exact hb2'.trans ((ho2.below (B := w.heap.size) (by have := hb2'.size; exact this) (fun k hk => by simp at hk; omega)).trans ((off3 w2 N _ _ _).below (by have := hb2'.size; have := ho2.size; omega) (fun k hk => by simp at hk; omega)))
            · have HC := hide (HF23.out rfl rfl h39)
              have h39' : (x == 39) = false := beq_eq_false_iff_ne.2 h39
              go_wp2_with (first | (go_at_call 18; refine (HL.out _).mono ?_; rintro e w' ⟨rfl, hw⟩; have hw := hw.symm; subst hw) | (go_at_call 20; refine (HD.out _).mono ?_; rintro e w' ⟨rfl, hw⟩; have hw := hw.symm; subst hw))
              refine (HC.out _).mono ?_
              rintro o W2 ⟨⟨tk, tx, tn, tp, te, rfl⟩, hB2⟩
              have hM2 := (hB2.block M (by have := lt_of_heap HMZ.out; exact this)).trans HMZ.out
              have hA0 := (Below.refl wr.heap.size wr).alloc (Nat.le_refl _) (.cells #[.int .i64 0, .string ⟨#[]⟩, .int .i64 0, .int .i64 0] 29)
              have hA1 := hA0.trans (hB2.mono hA0.size)
              have hV2 := HV.out.belowW hA1
              have hbox0 := (hV2.below.block N hNw1).trans HBX.out
              have hNM := HNM.out
              have HV2 := hide hV2
              clear hV2 hA0 hA1 hB2
              go_wp2_with (refine wpList_store_tok rfl (.tmp 5) (.tmp 23) rfl rfl M _ _ _ _ _ rfl rfl hM2 rfl ?_; intro w2 ho2 hb2; have d0 := cell_row (o := 0) hb2; have d1 := cell_row (o := 1) hb2; have d2 := cell_row (o := 2) hb2; have d3 := cell_row (o := 3) hb2; simp only [List.getElem?_toArray, List.getElem?_cons_zero, List.getElem?_cons_succ] at d0 d1 d2 d3; have hbox := (ho2.block N (lt_of_heap hbox0) (by simp; omega)).trans hbox0; have c0 := cell_row (o := 0) hbox; have c1 := cell_row (o := 1) hbox; have c2 := cell_row (o := 2) hbox; have f0 : ∀ k, w2.frozen? ⟨N, k, none⟩ = false := fun k => frozen_row hbox; simp only [List.getElem?_toArray, List.getElem?_cons_zero, List.getElem?_cons_succ] at c0 c1 c2)
              refine bodyPost_ret (results_cell_row Tryd.results9 _ _ N 32 _ (0, 0) _ rfl (set3 hbox _ _ _) Tryd.underlying32 rfl Tryd.size32) rfl ?_
              unfold RefW
              rw [HWF.out]
              refine ⟨_, rfl, Toks.nil ?_⟩
              have hb1 : Below w.heap.size w w1 := by rw [hN]; exact HW1.out
              have hb2' := hb1.trans (HV2.out.below.mono hb1.size)
              exact hb2'.trans ((ho2.below (B := w.heap.size) (by have := hb2'.size; exact this) (fun k hk => by simp at hk; omega)).trans ((off3 w2 N _ _ _).below (by have := hb2'.size; have := ho2.size; omega) (fun k hk => by simp at hk; omega)))
          · have HC := hide (HF21.out rfl)
            go_wp2_with (first | (go_at_call 18; refine (HL.out _).mono ?_; rintro e w' ⟨rfl, hw⟩; have hw := hw.symm; subst hw) | (go_at_call 20; refine (HD.out _).mono ?_; rintro e w' ⟨rfl, hw⟩; have hw := hw.symm; subst hw))
            refine (HC.out _).mono ?_
            rintro o W2 ⟨⟨tk, tx, tn, tp, te, rfl⟩, hB2⟩
            have hM2 := (hB2.block M (by have := lt_of_heap HMZ.out; exact this)).trans HMZ.out
            have hA0 := (Below.refl wr.heap.size wr).alloc (Nat.le_refl _) (.cells #[.int .i64 0, .string ⟨#[]⟩, .int .i64 0, .int .i64 0] 29)
            have hA1 := hA0.trans (hB2.mono hA0.size)
            have hV2 := HV.out.belowW hA1
            have hbox0 := (hV2.below.block N hNw1).trans HBX.out
            have hNM := HNM.out
            have HV2 := hide hV2
            clear hV2 hA0 hA1 hB2
            go_wp2_with (refine wpList_store_tok rfl (.tmp 5) (.tmp 47) rfl rfl M _ _ _ _ _ rfl rfl hM2 rfl ?_; intro w2 ho2 hb2; have d0 := cell_row (o := 0) hb2; have d1 := cell_row (o := 1) hb2; have d2 := cell_row (o := 2) hb2; have d3 := cell_row (o := 3) hb2; simp only [List.getElem?_toArray, List.getElem?_cons_zero, List.getElem?_cons_succ] at d0 d1 d2 d3; have hbox := (ho2.block N (lt_of_heap hbox0) (by simp; omega)).trans hbox0; have c0 := cell_row (o := 0) hbox; have c1 := cell_row (o := 1) hbox; have c2 := cell_row (o := 2) hbox; have f0 : ∀ k, w2.frozen? ⟨N, k, none⟩ = false := fun k => frozen_row hbox; simp only [List.getElem?_toArray, List.getElem?_cons_zero, List.getElem?_cons_succ] at c0 c1 c2)
            refine bodyPost_ret (results_cell_row Tryd.results9 _ _ N 32 _ (0, 0) _ rfl (set3 hbox _ _ _) Tryd.underlying32 rfl Tryd.size32) rfl ?_
            unfold RefW
            rw [HWF.out]
            refine ⟨_, rfl, Toks.nil ?_⟩
            have hb1 : Below w.heap.size w w1 := by rw [hN]; exact HW1.out
            have hb2' := hb1.trans (HV2.out.below.mono hb1.size)
            exact hb2'.trans ((ho2.below (B := w.heap.size) (by have := hb2'.size; exact this) (fun k hk => by simp at hk; omega)).trans ((off3 w2 N _ _ _).below (by have := hb2'.size; have := ho2.size; omega) (fun k hk => by simp at hk; omega)))
        · have HC := hide (HF19.out rfl)
          go_wp2_with (first | (go_at_call 18; refine (HL.out _).mono ?_; rintro e w' ⟨rfl, hw⟩; have hw := hw.symm; subst hw) | (go_at_call 20; refine (HD.out _).mono ?_; rintro e w' ⟨rfl, hw⟩; have hw := hw.symm; subst hw))
          refine (HC.out _).mono ?_
          rintro o W2 ⟨⟨tk, tx, tn, tp, te, rfl⟩, hB2⟩
          have hM2 := (hB2.block M (by have := lt_of_heap HMZ.out; exact this)).trans HMZ.out
          have hA0 := (Below.refl wr.heap.size wr).alloc (Nat.le_refl _) (.cells #[.int .i64 0, .string ⟨#[]⟩, .int .i64 0, .int .i64 0] 29)
          have hA1 := hA0.trans (hB2.mono hA0.size)
          have hV2 := HV.out.belowW hA1
          have hbox0 := (hV2.below.block N hNw1).trans HBX.out
          have hNM := HNM.out
          have HV2 := hide hV2
          clear hV2 hA0 hA1 hB2
          go_wp2_with (refine wpList_store_tok rfl (.tmp 5) (.tmp 35) rfl rfl M _ _ _ _ _ rfl rfl hM2 rfl ?_; intro w2 ho2 hb2; have d0 := cell_row (o := 0) hb2; have d1 := cell_row (o := 1) hb2; have d2 := cell_row (o := 2) hb2; have d3 := cell_row (o := 3) hb2; simp only [List.getElem?_toArray, List.getElem?_cons_zero, List.getElem?_cons_succ] at d0 d1 d2 d3; have hbox := (ho2.block N (lt_of_heap hbox0) (by simp; omega)).trans hbox0; have c0 := cell_row (o := 0) hbox; have c1 := cell_row (o := 1) hbox; have c2 := cell_row (o := 2) hbox; have f0 : ∀ k, w2.frozen? ⟨N, k, none⟩ = false := fun k => frozen_row hbox; simp only [List.getElem?_toArray, List.getElem?_cons_zero, List.getElem?_cons_succ] at c0 c1 c2)
          refine bodyPost_ret (results_cell_row Tryd.results9 _ _ N 32 _ (0, 0) _ rfl (set3 hbox _ _ _) Tryd.underlying32 rfl Tryd.size32) rfl ?_
          unfold RefW
          rw [HWF.out]
          refine ⟨_, rfl, Toks.nil ?_⟩
          have hb1 : Below w.heap.size w w1 := by rw [hN]; exact HW1.out
          have hb2' := hb1.trans (HV2.out.below.mono hb1.size)
          exact hb2'.trans ((ho2.below (B := w.heap.size) (by have := hb2'.size; exact this) (fun k hk => by simp at hk; omega)).trans ((off3 w2 N _ _ _).below (by have := hb2'.size; have := ho2.size; omega) (fun k hk => by simp at hk; omega)))
      | some q =>
        obtain ⟨t, e⟩ := q
        have hti := HTI.out t e htk
        rw [htk] at HTT HF19 HF21 HF22 HF23
        dsimp only at HTT HF19 HF21 HF22 HF23
        have hk5 : t.k ≠ 5 := fun h => by have := hti.2.2.2.2.1 h; omega
        rw [if_neg hk5] at HTT
        have hpe := hti.2.2.2.1 hk5
        have hes := hti.1
        unfold tokV at HF19 HF21 HF22 HF23
        have hbv := buildT t
        have HX : Hid (∀ (W : World), TsAt (W.alloc (.cells #[.int .i64 (t.k : Int), .string (strOf t.t), .int .i64 (t.n : Int), .int .i64 (t.p : Int)] 29)) (.slice (some ⟨W.heap.size, 0, none⟩) 1 1) [t]) := fun W => tsAt1 W t
        have hal : acc.length + [t].length ≤ 1000000000 := by simp; omega
        have HAL2 : Hid ((acc ++ [t]).length ≤ e) := by rw [Hid, List.length_append, List.length_singleton]; omega
        have HSKE := hide (fun w => HSK.out e w hes)
        have hge : e ≤ skipTo s.data.toList false e := skipTo_ge _ _ _
        have hle : skipTo s.data.toList false e ≤ s.size := by rw [← HLEN.out]; exact skipTo_le (by rw [HLEN.out]; exact hes)
        obtain ⟨p2, hp2⟩ : ∃ p2, skipTo s.data.toList false e = p2 := ⟨_, rfl⟩
        rw [hp2] at HSKE hge hle
        have HP2 := hide hp2
        clear HTI htk hti hk5 hp2
        cases bl
        · cases bd
          · by_cases h39 : x = 39
            · have HC := hide (HF22.out h39)
              subst h39
              go_wp2_with (first | (go_at_call 18; refine (HL.out _).mono ?_; rintro e w' ⟨rfl, hw⟩; have hw := hw.symm; subst hw) | (go_at_call 20; refine (HD.out _).mono ?_; rintro e w' ⟨rfl, hw⟩; have hw := hw.symm; subst hw))
              refine (HC.out _).mono ?_
              rintro o W2 ⟨rfl, hB2⟩
              have hM2 := (hB2.block M (by have := lt_of_heap HMZ.out; exact this)).trans HMZ.out
              have hA0 := (Below.refl wr.heap.size wr).alloc (Nat.le_refl _) (.cells #[.int .i64 0, .string ⟨#[]⟩, .int .i64 0, .int .i64 0] 29)
              have hA1 := hA0.trans (hB2.mono hA0.size)
              have hV2 := HV.out.belowW hA1
              have hbox0 := (hV2.below.block N hNw1).trans HBX.out
              have hNM := HNM.out
              have HV2 := hide hV2
              clear hV2 hA0 hA1 hB2
              have hun : ∀ u, Toks w1 W2 u acc → u.ownBlock ≠ some M ∨ True := fun _ _ => .inr trivial
              go_wp2_with (first | (refine wpList_store_tok rfl (.tmp 5) (.tmp 59) rfl rfl M _ _ _ _ _ rfl rfl hM2 rfl ?_; intro w2 ho2 hb2; have d0 := cell_row (o := 0) hb2; have d1 := cell_row (o := 1) hb2; have d2 := cell_row (o := 2) hb2; have d3 := cell_row (o := 3) hb2; simp only [List.getElem?_toArray, List.getElem?_cons_zero, List.getElem?_cons_succ] at d0 d1 d2 d3; have hbox := (ho2.block N (lt_of_heap hbox0) (by simp; omega)).trans hbox0; have c0 := cell_row (o := 0) hbox; have c1 := cell_row (o := 1) hbox; have c2 := cell_row (o := 2) hbox; have f0 : ∀ k, w2.frozen? ⟨N, k, none⟩ = false := fun k => frozen_row hbox; simp only [List.getElem?_toArray, List.getElem?_cons_zero, List.getElem?_cons_succ] at c0 c1 c2) | (refine wpList_append_toks rfl (.tmp 66) (.tmp 68) rfl w1 _ _ _ _ rfl rfl ((HV2.out.off ho2 (by have := HV.out.below.size; omega) (fun e => by have := (HV.out.own.lt _ e).2; omega)).alloc _) (HX.out _) hal ?_; intro u3 W3 hV3 hg3) | (go_at_call 17; refine (HSKE.out _).mono ?_; rintro e w' ⟨rfl, hw⟩; have hw := hw.symm; subst hw))
              go_roundw
              case rel => exact ⟨e, p2, acc ++ [t], f, HP2.out, rfl, hes, by omega, HAL2.out, HTT.out, hV3⟩
              case measure => simp [restQ]; omega
            · have HC := hide (HF23.out rfl rfl h39)
              have h39' : (x == 39) = false := beq_eq_false_iff_ne.2 h39
              go_wp2_with (first | (go_at_call 18; refine (HL.out _).mono ?_; rintro e w' ⟨rfl, hw⟩; have hw := hw.symm; subst hw) | (go_at_call 20; refine (HD.out _).mono ?_; rintro e w' ⟨rfl, hw⟩; have hw := hw.symm; subst hw))
              refine (HC.out _).mono ?_
              rintro o W2 ⟨rfl, hB2⟩
              have hM2 := (hB2.block M (by have := lt_of_heap HMZ.out; exact this)).trans HMZ.out
              have hA0 := (Below.refl wr.heap.size wr).alloc (Nat.le_refl _) (.cells #[.int .i64 0, .string ⟨#[]⟩, .int .i64 0, .int .i64 0] 29)
              have hA1 := hA0.trans (hB2.mono hA0.size)
              have hV2 := HV.out.belowW hA1
              have hbox0 := (hV2.below.block N hNw1).trans HBX.out
              have hNM := HNM.out
              have HV2 := hide hV2
              clear hV2 hA0 hA1 hB2
              have hun : ∀ u, Toks w1 W2 u acc → u.ownBlock ≠ some M ∨ True := fun _ _ => .inr trivial
              go_wp2_with (first | (refine wpList_store_tok rfl (.tmp 5) (.tmp 23) rfl rfl M _ _ _ _ _ rfl rfl hM2 rfl ?_; intro w2 ho2 hb2; have d0 := cell_row (o := 0) hb2; have d1 := cell_row (o := 1) hb2; have d2 := cell_row (o := 2) hb2; have d3 := cell_row (o := 3) hb2; simp only [List.getElem?_toArray, List.getElem?_cons_zero, List.getElem?_cons_succ] at d0 d1 d2 d3; have hbox := (ho2.block N (lt_of_heap hbox0) (by simp; omega)).trans hbox0; have c0 := cell_row (o := 0) hbox; have c1 := cell_row (o := 1) hbox; have c2 := cell_row (o := 2) hbox; have f0 : ∀ k, w2.frozen? ⟨N, k, none⟩ = false := fun k => frozen_row hbox; simp only [List.getElem?_toArray, List.getElem?_cons_zero, List.getElem?_cons_succ] at c0 c1 c2) | (refine wpList_append_toks rfl (.tmp 66) (.tmp 68) rfl w1 _ _ _ _ rfl rfl ((HV2.out.off ho2 (by have := HV.out.below.size; omega) (fun e => by have := (HV.out.own.lt _ e).2; omega)).alloc _) (HX.out _) hal ?_; intro u3 W3 hV3 hg3) | (go_at_call 17; refine (HSKE.out _).mono ?_; rintro e w' ⟨rfl, hw⟩; have hw := hw.symm; subst hw))
              go_roundw
              case rel => exact ⟨e, p2, acc ++ [t], f, HP2.out, rfl, hes, by omega, HAL2.out, HTT.out, hV3⟩
              case measure => simp [restQ]; omega
          · have HC := hide (HF21.out rfl)
            go_wp2_with (first | (go_at_call 18; refine (HL.out _).mono ?_; rintro e w' ⟨rfl, hw⟩; have hw := hw.symm; subst hw) | (go_at_call 20; refine (HD.out _).mono ?_; rintro e w' ⟨rfl, hw⟩; have hw := hw.symm; subst hw))
            refine (HC.out _).mono ?_
            rintro o W2 ⟨rfl, hB2⟩
            have hM2 := (hB2.block M (by have := lt_of_heap HMZ.out; exact this)).trans HMZ.out
            have hA0 := (Below.refl wr.heap.size wr).alloc (Nat.le_refl _) (.cells #[.int .i64 0, .string ⟨#[]⟩, .int .i64 0, .int .i64 0] 29)
            have hA1 := hA0.trans (hB2.mono hA0.size)
            have hV2 := HV.out.belowW hA1
            have hbox0 := (hV2.below.block N hNw1).trans HBX.out
            have hNM := HNM.out
            have HV2 := hide hV2
            clear hV2 hA0 hA1 hB2
            have hun : ∀ u, Toks w1 W2 u acc → u.ownBlock ≠ some M ∨ True := fun _ _ => .inr trivial
            go_wp2_with (first | (refine wpList_store_tok rfl (.tmp 5) (.tmp 47) rfl rfl M _ _ _ _ _ rfl rfl hM2 rfl ?_; intro w2 ho2 hb2; have d0 := cell_row (o := 0) hb2; have d1 := cell_row (o := 1) hb2; have d2 := cell_row (o := 2) hb2; have d3 := cell_row (o := 3) hb2; simp only [List.getElem?_toArray, List.getElem?_cons_zero, List.getElem?_cons_succ] at d0 d1 d2 d3; have hbox := (ho2.block N (lt_of_heap hbox0) (by simp; omega)).trans hbox0; have c0 := cell_row (o := 0) hbox; have c1 := cell_row (o := 1) hbox; have c2 := cell_row (o := 2) hbox; have f0 : ∀ k, w2.frozen? ⟨N, k, none⟩ = false := fun k => frozen_row hbox; simp only [List.getElem?_toArray, List.getElem?_cons_zero, List.getElem?_cons_succ] at c0 c1 c2) | (refine wpList_append_toks rfl (.tmp 66) (.tmp 68) rfl w1 _ _ _ _ rfl rfl ((HV2.out.off ho2 (by have := HV.out.below.size; omega) (fun e => by have := (HV.out.own.lt _ e).2; omega)).alloc _) (HX.out _) hal ?_; intro u3 W3 hV3 hg3) | (go_at_call 17; refine (HSKE.out _).mono ?_; rintro e w' ⟨rfl, hw⟩; have hw := hw.symm; subst hw))
            go_roundw
            case rel => exact ⟨e, p2, acc ++ [t], f, HP2.out, rfl, hes, by omega, HAL2.out, HTT.out, hV3⟩
            case measure => simp [restQ]; omega
        · have HC := hide (HF19.out rfl)
          go_wp2_with (first | (go_at_call 18; refine (HL.out _).mono ?_; rintro e w' ⟨rfl, hw⟩; have hw := hw.symm; subst hw) | (go_at_call 20; refine (HD.out _).mono ?_; rintro e w' ⟨rfl, hw⟩; have hw := hw.symm; subst hw))
          refine (HC.out _).mono ?_
          rintro o W2 ⟨rfl, hB2⟩
          have hM2 := (hB2.block M (by have := lt_of_heap HMZ.out; exact this)).trans HMZ.out
          have hA0 := (Below.refl wr.heap.size wr).alloc (Nat.le_refl _) (.cells #[.int .i64 0, .string ⟨#[]⟩, .int .i64 0, .int .i64 0] 29)
          have hA1 := hA0.trans (hB2.mono hA0.size)
          have hV2 := HV.out.belowW hA1
          have hbox0 := (hV2.below.block N hNw1).trans HBX.out
          have hNM := HNM.out
          have HV2 := hide hV2
          clear hV2 hA0 hA1 hB2
          have hun : ∀ u, Toks w1 W2 u acc → u.ownBlock ≠ some M ∨ True := fun _ _ => .inr trivial
          go_wp2_with (first | (refine wpList_store_tok rfl (.tmp 5) (.tmp 35) rfl rfl M _ _ _ _ _ rfl rfl hM2 rfl ?_; intro w2 ho2 hb2; have d0 := cell_row (o := 0) hb2; have d1 := cell_row (o := 1) hb2; have d2 := cell_row (o := 2) hb2; have d3 := cell_row (o := 3) hb2; simp only [List.getElem?_toArray, List.getElem?_cons_zero, List.getElem?_cons_succ] at d0 d1 d2 d3; have hbox := (ho2.block N (lt_of_heap hbox0) (by simp; omega)).trans hbox0; have c0 := cell_row (o := 0) hbox; have c1 := cell_row (o := 1) hbox; have c2 := cell_row (o := 2) hbox; have f0 : ∀ k, w2.frozen? ⟨N, k, none⟩ = false := fun k => frozen_row hbox; simp only [List.getElem?_toArray, List.getElem?_cons_zero, List.getElem?_cons_succ] at c0 c1 c2) | (refine wpList_append_toks rfl (.tmp 66) (.tmp 68) rfl w1 _ _ _ _ rfl rfl ((HV2.out.off ho2 (by have := HV.out.below.size; omega) (fun e => by have := (HV.out.own.lt _ e).2; omega)).alloc _) (HX.out _) hal ?_; intro u3 W3 hV3 hg3) | (go_at_call 17; refine (HSKE.out _).mono ?_; rintro e w' ⟨rfl, hw⟩; have hw := hw.symm; subst hw))
          go_roundw
          case rel => exact ⟨e, p2, acc ++ [t], f, HP2.out, rfl, hes, by omega, HAL2.out, HTT.out, hV3⟩
          case measure => simp [restQ]; omega
    · obtain rfl : p = s.size := by omega
      have htk : tokAt s.data.toList s.size = some (⟨5, [], 0, s.size⟩, s.size) := by
        have hk : kdAt s.data.toList s.size = 1 := kdAt_over (by rw [HLEN.out]; exact Nat.le_refl _)
        have hst : strF s.data.toList s.size = (5, s.size) := by
          unfold strF
          rw [if_neg (by omega), if_neg (by omega), if_neg (by omega), if_neg (by omega), if_pos hk]
        unfold tokAt; rw [hst]; rfl
      rw [htk] at HTT
      have HWF := hide (HW.out (.inl (acc ++ [⟨5, [], 0, s.size⟩])) (HT0.out.trans (by have := HTT.out; dsimp only at this; rw [if_pos rfl] at this; exact this)))
      have hal : acc.length + [(⟨5, [], 0, s.size⟩ : Tk)].length ≤ 1000000000 := by simp; omega
      have HX : Hid (TsAt (wr.alloc (.cells #[.int .i64 5, .string ⟨#[]⟩, .int .i64 0, .int .i64 (s.size : Int)] 29)) (.slice (some ⟨M, 0, none⟩) 1 1) [⟨5, [], 0, s.size⟩]) := by rw [← hM]; exact tsAt1 wr ⟨5, [], 0, s.size⟩
      have hbv : ∀ W, (Instr.buildSlice 24 1 #[(0, .agg #[.int .i64 5, .string ⟨#[]⟩, .int .i64 0, .int .i64 (s.size : Int)])]).run Tryd.prog W = .ok (.slice (some ⟨W.heap.size, 0, none⟩) 1 1) (W.alloc (.cells #[.int .i64 5, .string ⟨#[]⟩, .int .i64 0, .int .i64 (s.size : Int)] 29)) := fun W => buildT ⟨5, [], 0, s.size⟩ W
      clear htk HTI hlt
      go_wp2_with (refine wpList_append_toks rfl (.tmp 73) (.tmp 77) rfl w1 _ _ _ _ rfl rfl (HV.out.alloc _) HX.out hal ?_; intro u3 W3 hV3 hg3; obtain ⟨uo, uc, ue⟩ := owns_len hV3.own; subst ue; have hbox := (hV3.below.block N hNw1).trans HBX.out; have c0 := cell_row (o := 0) hbox; have c1 := cell_row (o := 1) hbox; have c2 := cell_row (o := 2) hbox; have f0 : ∀ k, W3.frozen? ⟨N, k, none⟩ = false := fun k => frozen_row hbox; simp only [List.getElem?_toArray, List.getElem?_cons_zero, List.getElem?_cons_succ] at c0 c1 c2)
      refine bodyPost_ret (results_cell_row Tryd.results9 _ _ N 32 _ (0, 0) _ rfl (set3 hbox _ _ _) Tryd.underlying32 rfl Tryd.size32) rfl ?_
      unfold RefW
      rw [HWF.out]
      have hb1 : Below w.heap.size w w1 := by rw [hN]; exact HW1.out
      refine ⟨_, rfl, ?_⟩
      have h9 := (hV3.from hb1).off (off3 W3 N (.slice uo (acc.length + 1) uc) (.int .i64 0) (.int .i64 0)) (by rw [hN]; exact Nat.le_refl _) (fun e => by have := (hV3.own.lt _ e).1; omega)
      rw [show (acc ++ [(⟨5, [], 0, s.size⟩ : Tk)]).length = acc.length + 1 by simp] at h9
      exact h9
end Go.Proofs.YtnbegpfbolkdiaaDoor
