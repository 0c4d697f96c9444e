/- The document's answer: Decode, walked. -/
import Derived.Test.YtmfiafdhflaafaaRefAt
namespace Go.Proofs.Ytmfiafdhflaafaa
open Go.RowKit
set_option linter.unusedVariables false
set_option linter.unusedSimpArgs false

theorem Try.size36 {cs : Array Value} (h : cs.size = 13) : (Try.prog.info? 36).map (·.size) = some cs.size := by rw [h]; kernel_rfl
theorem one_zero13 : zero13.all (·.oneCell') = true := by simp [zero13, Value.oneCell']
theorem Try.built36 : Try.prog.built 36 [] = some zero13 := by kernel_rfl

theorem RdS.flag {w0 w : World} {r : Nat} {st : Option (List UInt8)} (h : RdS w0 w r st) : w.cell? ⟨r, 1, none⟩ = some (.bool st.isNone) := by
  cases st with
  | none => obtain ⟨v, hv⟩ := h; rw [cell_row hv]; rfl
  | some l => obtain ⟨v, hv, _⟩ := h; rw [cell_row hv]; rfl
theorem RAt.other {w a : World} {r x t : Nat} {st : Option (List UInt8)} {R : Rc} {vb va vt vd : Value} {C : Array Value} {T : TypeId} (h : RAt w a r x st R vb va vt vd) (i : Nat) (v : Value) (ht : a.heap[t]? = some (.cells C T (0, 0))) (h0 : w.heap.size ≤ t)
    (h1 : T ≠ 61) (h2 : T ≠ 28) (h3 : T ≠ 36) (h4 : T ≠ 5) (h5 : vt.ownBlock ≠ some t) (h6 : vd.ownBlock ≠ some t) : RAt w (a.setCell ⟨t, i, none⟩ v) r x st R vb va vt vd := by
  obtain ⟨Cr, hCr⟩ := h.rd.lt
  exact ⟨h.below.setCell h0 _, h.rd.stay (heap_set_other (fun e => heap_ne ht hCr h1 e.symm)), (heap_set_other (fun e => heap_ne ht h.cell h2 e.symm)).trans h.cell, (heap_set_other (fun e => heap_ne ht h.got h3 e.symm)).trans h.got,
    owns_stay h.ob (fun k hk => heap_set_other (fun e => owns_ne h.ob ht h4 (by rw [hk]; exact congrArg some e))), owns_stay h.oa (fun k hk => heap_set_other (fun e => owns_ne h.oa ht h4 (by rw [hk]; exact congrArg some e))), owns_stay h.ot (fun k hk => heap_set_other (fun e => h5 (by rw [hk]; exact congrArg some e))), owns_stay h.od (fun k hk => heap_set_other (fun e => h6 (by rw [hk]; exact congrArg some e))), h.hr, h.hx⟩
/-- An append to the list of Txns, stored. -/
theorem RAt.pushT {w a b : World} {r x : Nat} {st : Option (List UInt8)} {R : Rc} {vb va vt vd v' : Value} {o : Obj} (h : RAt w a r x st R vb va vt vd) (t : Int × Int × Int) (ho : b.ownsRow w.heap.size 43 3 v' (R.txns.length + 1) (txCells R.txns ++ [.int .i64 t.1, .int .i64 t.2.1, .int .i64 t.2.2])) (hg : (a.alloc o).grownBy b vt.ownBlock) :
    RAt w (b.setCell ⟨x, 8, none⟩ v') r x st { R with txns := R.txns ++ [t] } vb va v' vd ∧ b.cell? ⟨x, 8, none⟩ = some vt ∧ b.frozen? ⟨x, 8, none⟩ = false := by
  have h1 := h.alloc o
  obtain ⟨Cr, hCr⟩ := h1.rd.lt
  have keep : ∀ k, k < (a.alloc o).heap.size → vt.ownBlock ≠ some k → b.heap[k]? = (a.alloc o).heap[k]? := fun k hk hn => hg.block k hk (fun e => hn e.symm)
  have kr := keep r (lt_of_heap hCr) (owns_ne h1.ot hCr (by decide))
  have kx := (keep x (lt_of_heap h1.cell) (owns_ne h1.ot h1.cell (by decide))).trans h1.cell
  have kg := (keep _ (lt_of_heap h1.got) (owns_ne h1.ot h1.got (by decide))).trans h1.got
  have ne_of : ∀ {e : TypeId} {size n : Nat} {u : Value} {xs : List Value}, (a.alloc o).ownsRow w.heap.size e size u n xs → (43 : TypeId) ≠ e → b.ownsRow w.heap.size e size u n xs := fun hv he => owns_stay hv (fun k hk => keep k (hv.lt k hk).2 (fun e => by
    rcases h1.ot.2 with ⟨rfl, _⟩ | ⟨g, cap, cur, rfl, _, hgg, _⟩
    · simp [Value.ownBlock] at e
    · have : g = k := by simpa [Value.ownBlock] using e
      subst this
      exact owns_ne hv hgg he hk))
  have e : txCells (R.txns ++ [t]) = txCells R.txns ++ [.int .i64 t.1, .int .i64 t.2.1, .int .i64 t.2.2] := by simp [txCells, icell]
  have hb : RAt w b r x st R vb va vt vd → True := fun _ => trivial
  refine ⟨⟨(h1.below.grown hg h1.below.size (fun k hk => (h1.ot.lt k hk).1)).setCell h.hx _, ?_, by rw [heap_set_same _ kx]; rfl, (heap_set_other (fun e => heap_ne kg kx (by decide) e)).trans kg, ?_, ?_, ?_, ?_, h.hr, h.hx⟩, by rw [cell_row kx]; rfl, frozen_row kx⟩
  · exact (h1.rd.stay kr).stay (heap_set_other (fun e => heap_ne (kr.trans hCr) kx (by decide) e))
  · exact owns_stay (ne_of h1.ob (by decide)) (fun k hk => heap_set_other (fun e => owns_ne (ne_of h1.ob (by decide)) kx (by decide) (by rw [hk]; exact congrArg some e)))
  · exact owns_stay (ne_of h1.oa (by decide)) (fun k hk => heap_set_other (fun e => owns_ne (ne_of h1.oa (by decide)) kx (by decide) (by rw [hk]; exact congrArg some e)))
  · show World.ownsRow _ _ 43 3 v' (R.txns ++ [t]).length (txCells (R.txns ++ [t]))
    rw [e, List.length_append]
    exact owns_stay ho (fun k hk => heap_set_other (fun e => owns_ne ho kx (by decide) (by rw [hk]; exact congrArg some e)))
  · exact owns_stay (ne_of h1.od (by decide)) (fun k hk => heap_set_other (fun e => owns_ne (ne_of h1.od (by decide)) kx (by decide) (by rw [hk]; exact congrArg some e)))
/-- An append to the list of Dirty, stored. -/
theorem RAt.pushD {w a b : World} {r x : Nat} {st : Option (List UInt8)} {R : Rc} {vb va vt vd v' : Value} {o : Obj} (h : RAt w a r x st R vb va vt vd) (t : Int × Int) (ho : b.ownsRow w.heap.size 45 2 v' (R.dirty.length + 1) (dtCells R.dirty ++ [.int .i64 t.1, .int .i64 t.2])) (hg : (a.alloc o).grownBy b vd.ownBlock) :
    RAt w (b.setCell ⟨x, 9, none⟩ v') r x st { R with dirty := R.dirty ++ [t] } vb va vt v' ∧ b.cell? ⟨x, 9, none⟩ = some vd ∧ b.frozen? ⟨x, 9, none⟩ = false := by
  have h1 := h.alloc o
  obtain ⟨Cr, hCr⟩ := h1.rd.lt
  have keep : ∀ k, k < (a.alloc o).heap.size → vd.ownBlock ≠ some k → b.heap[k]? = (a.alloc o).heap[k]? := fun k hk hn => hg.block k hk (fun e => hn e.symm)
  have kr := keep r (lt_of_heap hCr) (owns_ne h1.od hCr (by decide))
  have kx := (keep x (lt_of_heap h1.cell) (owns_ne h1.od h1.cell (by decide))).trans h1.cell
  have kg := (keep _ (lt_of_heap h1.got) (owns_ne h1.od h1.got (by decide))).trans h1.got
  have ne_of : ∀ {e : TypeId} {size n : Nat} {u : Value} {xs : List Value}, (a.alloc o).ownsRow w.heap.size e size u n xs → (45 : TypeId) ≠ e → b.ownsRow w.heap.size e size u n xs := fun hv he => owns_stay hv (fun k hk => keep k (hv.lt k hk).2 (fun e => by
    rcases h1.od.2 with ⟨rfl, _⟩ | ⟨g, cap, cur, rfl, _, hgg, _⟩
    · simp [Value.ownBlock] at e
    · have : g = k := by simpa [Value.ownBlock] using e
      subst this
      exact owns_ne hv hgg he hk))
  have e : dtCells (R.dirty ++ [t]) = dtCells R.dirty ++ [.int .i64 t.1, .int .i64 t.2] := by simp [dtCells, icell]
  have hb : RAt w b r x st R vb va vt vd → True := fun _ => trivial
  refine ⟨⟨(h1.below.grown hg h1.below.size (fun k hk => (h1.od.lt k hk).1)).setCell h.hx _, ?_, by rw [heap_set_same _ kx]; rfl, (heap_set_other (fun e => heap_ne kg kx (by decide) e)).trans kg, ?_, ?_, ?_, ?_, h.hr, h.hx⟩, by rw [cell_row kx]; rfl, frozen_row kx⟩
  · exact (h1.rd.stay kr).stay (heap_set_other (fun e => heap_ne (kr.trans hCr) kx (by decide) e))
  · exact owns_stay (ne_of h1.ob (by decide)) (fun k hk => heap_set_other (fun e => owns_ne (ne_of h1.ob (by decide)) kx (by decide) (by rw [hk]; exact congrArg some e)))
  · exact owns_stay (ne_of h1.oa (by decide)) (fun k hk => heap_set_other (fun e => owns_ne (ne_of h1.oa (by decide)) kx (by decide) (by rw [hk]; exact congrArg some e)))
  · exact owns_stay (ne_of h1.ot (by decide)) (fun k hk => heap_set_other (fun e => owns_ne (ne_of h1.ot (by decide)) kx (by decide) (by rw [hk]; exact congrArg some e)))
  · show World.ownsRow _ _ 45 2 v' (R.dirty ++ [t]).length (dtCells (R.dirty ++ [t]))
    rw [e, List.length_append]
    exact owns_stay ho (fun k hk => heap_set_other (fun e => owns_ne ho kx (by decide) (by rw [hk]; exact congrArg some e)))

def endOf (R : Rc) (n : Int) : Option (List UInt8) → Option Rc
  | none => none
  | some rest => if rest = [] then some { R with count := n } else none
theorem cont_end (R : Rc) (st : Option (List UInt8)) : cont atCount R st = endOf R (nx st).1 (nx st).2 := by
  rw [cont_count]
  cases (nx st).2 <;> rfl
theorem built36_got (a0 a1 a2 a3 a4 a5 a6 a7 a8 a9 a10 : Value) (n : Int) : Try.prog.built 36 [(0, .agg #[a0, a1, a2, a3, a4, a5, a6, a7, a8, a9, a10]), (1, .int .i64 n), (2, .bool true)] = some #[a0, a1, a2, a3, a4, a5, a6, a7, a8, a9, a10, .int .i64 n, .bool true] := by kernel_rfl
theorem left_three (st : Option (List UInt8)) (h : (nx (nx (nx st).2).2).2 ≠ none) : leftOf (nx (nx (nx st).2).2).2 + 24 ≤ leftOf st := by
  have h1 := (left_nx (nx (nx st).2).2).2 h
  have n2 : (nx (nx st).2).2 ≠ none := fun e => h (by rw [e]; rfl)
  have h2 := (left_nx (nx st).2).2 n2
  have n1 : (nx st).2 ≠ none := fun e => n2 (by rw [e]; rfl)
  have h3 := (left_nx st).2 n1
  omega
theorem left_two (st : Option (List UInt8)) (h : (nx (nx st).2).2 ≠ none) : leftOf (nx (nx st).2).2 + 16 ≤ leftOf st := by
  have h2 := (left_nx (nx st).2).2 h
  have n1 : (nx st).2 ≠ none := fun e => h (by rw [e]; rfl)
  have h3 := (left_nx st).2 n1
  omega

set_option maxHeartbeats 8000000 in
set_option maxRecDepth 100000 in
theorem refDecode_any {w : World} {v : Value} {bs : List UInt8} (hb : Sl w v bs) (hlen : bs.length ≤ 1000000000000) :
    Calls Try.prog 13 #[v] w fun e w' => GotEnd w bs e w' := by
  obtain ⟨ao, c, rfl, hc1, hc2⟩ := hb.len
  have hB1 : Below w.heap.size w ((w.alloc (.cells zero13 36)).alloc (.cells #[.slice ao bs.length c, .bool false] 61)) := ((Below.refl _ w).alloc (Nat.le_refl _) _).alloc (by simp) _
  have hR1 : RdS w ((w.alloc (.cells zero13 36)).alloc (.cells #[.slice ao bs.length c, .bool false] 61)) (w.heap.size + 1) (some bs) := by
    have h := heap_alloc_new (w.alloc (.cells zero13 36)) (.cells #[.slice ao bs.length c, .bool false] 61)
    rw [show (w.alloc (.cells zero13 36)).heap.size = w.heap.size + 1 by simp] at h
    exact ⟨_, h, hb⟩
  have hQ1 : ((w.alloc (.cells zero13 36)).alloc (.cells #[.slice ao bs.length c, .bool false] 61)).heap[w.heap.size]? = some (.cells zero13 36 (0, 0)) := by
    rw [Below.heap_alloc _ _ _ (by simp)]
    exact heap_alloc_new _ _
  have HC1 := hide (refNum_any hB1 (by omega) hR1)
  have HB1 := hide hB1
  have HQ1 := hide hQ1
  have hnb := nx_le (some bs)
  have HOL : Hid ((pc (some bs)).1.length ≤ 1000000000000) := by
    show _ ≤ _
    simp only [pc]
    cases h : getPiece bs with
    | none => simp
    | some y => obtain ⟨p, r'⟩ := y; have := getPiece_len h; simp only; omega
  have HLEN := hide hlen
  have HDS : Hid (∀ R, dec bs = some R → (nx (some bs)).1 + 8 = (R.size : Nat)) := fun R hR => by
    obtain ⟨own, r0, h1, h2⟩ := dec_size hR
    unfold getPiece at h1
    cases hn : getNum bs with
    | none => rw [hn] at h1; cases h1
    | some y =>
      obtain ⟨n, r1⟩ := y
      have := getNum_len hn
      rw [hn] at h1
      simp only at h1
      split at h1
      · cases h1
      · simp only [Option.some.injEq, Prod.mk.injEq] at h1
        obtain ⟨rfl, rfl⟩ := h1
        rw [List.length_take] at h2
        simp only [nx, hn]
        omega
  clear hb hB1 hR1 hQ1 hc1 hc2
  unfold zero13 at HC1
  generalize bs.length = L at *
  go_enter Try.func13, Try.ntmps13
  go_wp2_with fail
  refine HC1.out.mono ?_
  rintro e w2 ⟨rfl, hR2, hO2⟩
  have HC2 := hide (take_pc hR2)
  have hB2 : Below w.heap.size w w2 := HB1.out.trans (hO2.below HB1.out.size (fun k hk => by simp at hk; omega))
  have hG2 : w2.heap[w.heap.size]? = some (.cells zero13 36 (0, 0)) := (hO2.block _ (by simp; omega) (by simp)).trans HQ1.out
  generalize hN : (nx (some bs)).1 = n0 at *
  clear hN HC1 HB1 HQ1 hR2 hO2
  go_wp2_with fail
  refine HC2.out.mono ?_
  rintro e w3 ⟨vp, rfl, hs3, hR3, hO3⟩
  have hB3 : Below w.heap.size w w3 := hB2.trans (hO3.below hB2.size (fun k hk => by simp at hk; omega))
  have hG3 : w3.heap[w.heap.size]? = some (.cells zero13 36 (0, 0)) := (hO3.block _ (lt_of_heap hG2) (by simp)).trans hG2
  have hfl := hR3.flag
  obtain ⟨Ch, hCh⟩ := hR3.lt
  have hh3 := lt_of_heap hCh
  clear HC2 hB2 hG2 hO3 hR3 hCh
  cases hp : getPiece bs with
  | none =>
    have HD : Hid (dec bs = none) := by show _ = _; simp [dec, hp]
    have hpc : pc (some bs) = ([], none) := by simp [pc, hp]
    rw [hpc] at hfl hs3
    have hfl : w3.cell? ⟨w.heap.size + 1, 1, none⟩ = some (.bool true) := hfl
    obtain ⟨av, cv, hvp, _, _⟩ := hs3.len
    have HGOT := hide hG3
    have HBE := hide hB3
    subst hvp
    clear hs3 hG3 hB3 hp hpc
    go_wp2_with (first
      | (refine wpList_build_is rfl 36 _ rfl zero13 Try.built36 ?_)
      | (refine wpList_store_row rfl 36 _ _ rfl w.heap.size zero13 rfl rfl 36 _ HGOT.out (Try.size36 rfl) rfl one_zero13 ?_))
    refine bodyPost_ret (v := .agg zero13) (results_cell_row Try.results13 _ _ w.heap.size 36 _ (0, 0) _ rfl (setRow_heap _ _ _ _ _ _ HGOT.out) Try.underlying36 rfl (Try.size36 rfl)) rfl ?_
    refine ⟨below_setRow HBE.out (Nat.le_refl _) _, ?_⟩
    rw [HD.out]
  | some y =>
    obtain ⟨own, rb⟩ := y
    have hpc : pc (some bs) = (own, some rb) := by simp [pc, hp]
    rw [hpc] at hfl hs3 HOL
    have hfl : w3.cell? ⟨w.heap.size + 1, 1, none⟩ = some (.bool false) := hfl
    have hs3 : Sl w vp own := hs3
    have HD0 : Hid (dec bs = contH [] (some own)) := by
      show _ = _
      simp only [dec, hp, contH, atHead]
      rfl
    obtain ⟨av, cv, hvp, _, _⟩ := hs3.len
    have hB4 : Below w.heap.size w (w3.alloc (.cells #[vp, .bool false] 61)) := hB3.alloc hB3.size _
    have hR4 : RdS w (w3.alloc (.cells #[vp, .bool false] 61)) w3.heap.size (some own) := ⟨_, heap_alloc_new _ _, hs3⟩
    have HC4 := hide (refNum_any hB4 hB3.size hR4)
    have HB4 := hide hB4
    have HG4 : Hid ((w3.alloc (.cells #[vp, .bool false] 61)).heap[w.heap.size]? = some (.cells zero13 36 (0, 0))) := by
      show _ = _
      rw [Below.heap_alloc _ _ _ (lt_of_heap hG3)]; exact hG3
    have HB3s := hide hB3.size
    have HOWN : Hid (own.length ≤ 1000000000000) := HOL.out
    have HD1 : Hid (dec bs = contH [(nx (some own)).1] (nx (some own)).2) := by show _ = _; rw [HD0.out, contH_step [] _ (by simp)]; rfl
    have HLF1 : Hid (leftOf (nx (some own)).2 ≤ 1000000000000) := by have := (left_nx (some own)).1; have := HOWN.out; simp only [leftOf] at *; show _ ≤ _; omega
    subst hvp
    clear hs3 hG3 hB3 hp hpc hB4 hR4 HD0 HOL
    generalize own.length = LO at *
    go_wp2_with fail
    refine HC4.out.mono ?_
    rintro e w5 ⟨rfl, hR5, hO5⟩
    have hB5 : Below w.heap.size w w5 := HB4.out.trans (hO5.below HB4.out.size (fun k hk => by simp at hk; rw [hk]; exact HB3s.out))
    have hG5 : w5.heap[w.heap.size]? = some (.cells zero13 36 (0, 0)) := (hO5.block _ (lt_of_heap HG4.out) (by simp; have := hh3; omega)).trans HG4.out
    obtain ⟨r, hr⟩ : ∃ r, w3.heap.size = r := ⟨_, rfl⟩
    rw [hr] at hR5 ⊢ hO5
    have hrs : w.heap.size ≤ r := by rw [← hr]; exact HB3s.out
    generalize (nx (some own)).1 = n1 at *
    generalize (nx (some own)).2 = st1 at *
    clear HC4 HB4 HG4 hr hO5 hfl hh3
    have A1 : RAt w (w5.alloc (.cells #[.int .i64 n1, .int .i64 0, .int .i64 0, .int .i64 0, .int .i64 0, .int .i64 0, .slice none 0 0, .slice none 0 0, .slice none 0 0, .slice none 0 0, .int .i64 0] 28)) r w5.heap.size st1 ⟨n1, 0, 0, 0, 0, 0, [], [], [], [], 0⟩ (.slice none 0 0) (.slice none 0 0) (.slice none 0 0) (.slice none 0 0) := by
      obtain ⟨Cr, hCr⟩ := hR5.lt
      exact ⟨hB5.alloc hB5.size _, hR5.stay (Below.heap_alloc _ _ _ (lt_of_heap hCr)), heap_alloc_new _ _, by rw [Below.heap_alloc _ _ _ (lt_of_heap hG5)]; exact hG5, World.ownsRow_nil _ _ _ _, World.ownsRow_nil _ _ _ _, World.ownsRow_nil _ _ _ _, World.ownsRow_nil _ _ _ _, hrs, hB5.size⟩
    have HC6 := hide A1.number
    have HD2 : Hid (dec bs = contH [n1, (nx st1).1] (nx st1).2) := by show _ = _; rw [HD1.out, contH_step [n1] _ (by simp)]; rfl
    have HLF2 : Hid (leftOf (nx st1).2 ≤ 1000000000000) := by have := (left_nx st1).1; have := HLF1.out; show _ ≤ _; omega
    clear hB5 hG5 hR5 hrs A1
    go_wp2_with fail
    refine HC6.out.mono ?_
    rintro e w6 ⟨rfl, A6, hO6⟩
    obtain ⟨x, hx⟩ : ∃ x, w5.heap.size = x := ⟨_, rfl⟩
    rw [hx] at A6 ⊢
    generalize (nx st1).1 = n2 at *
    generalize (nx st1).2 = st2 at *
    clear HC6 hO6 hx HD1 HLF1
    have c2 : w6.cell? ⟨x, 1, none⟩ = some (.int .i64 0) := by rw [cell_row A6.cell]; rfl
    have f2 : w6.frozen? ⟨x, 1, none⟩ = false := frozen_row A6.cell
    have B2 := A6.num (R' := ⟨n1, n2, 0, 0, 0, 0, [], [], [], [], 0⟩) 1 n2 rfl rfl rfl rfl rfl
    have HC7 := hide B2.number
    have HD3 : Hid (dec bs = contH [n1, n2, (nx st2).1] (nx st2).2) := by show _ = _; rw [HD2.out, contH_step [n1, n2] _ (by simp)]; rfl
    have HLF3 : Hid (leftOf (nx st2).2 ≤ 1000000000000) := by have := (left_nx st2).1; have := HLF2.out; show _ ≤ _; omega
    clear A6 B2
    go_wp2_with fail
    refine HC7.out.mono ?_
    rintro e w7 ⟨rfl, A7, hO7⟩
    generalize (nx st2).1 = n3 at *
    generalize (nx st2).2 = st3 at *
    clear HC7 hO7 c2 f2 HD2 HLF2
    have c3 : w7.cell? ⟨x, 2, none⟩ = some (.int .i64 0) := by rw [cell_row A7.cell]; rfl
    have f3 : w7.frozen? ⟨x, 2, none⟩ = false := frozen_row A7.cell
    have B3 := A7.num (R' := ⟨n1, n2, n3, 0, 0, 0, [], [], [], [], 0⟩) 2 n3 rfl rfl rfl rfl rfl
    have HC8 := hide B3.number
    have HD4 : Hid (dec bs = contH [n1, n2, n3, (nx st3).1] (nx st3).2) := by show _ = _; rw [HD3.out, contH_step [n1, n2, n3] _ (by simp)]; rfl
    have HLF4 : Hid (leftOf (nx st3).2 ≤ 1000000000000) := by have := (left_nx st3).1; have := HLF3.out; show _ ≤ _; omega
    clear A7 B3
    go_wp2_with fail
    refine HC8.out.mono ?_
    rintro e w8 ⟨rfl, A8, hO8⟩
    generalize (nx st3).1 = n4 at *
    generalize (nx st3).2 = st4 at *
    clear HC8 hO8 c3 f3 HD3 HLF3
    have c4 : w8.cell? ⟨x, 3, none⟩ = some (.int .i64 0) := by rw [cell_row A8.cell]; rfl
    have f4 : w8.frozen? ⟨x, 3, none⟩ = false := frozen_row A8.cell
    have B4 := A8.num (R' := ⟨n1, n2, n3, n4, 0, 0, [], [], [], [], 0⟩) 3 n4 rfl rfl rfl rfl rfl
    have HC9 := hide B4.number
    have HD5 : Hid (dec bs = contH [n1, n2, n3, n4, (nx st4).1] (nx st4).2) := by show _ = _; rw [HD4.out, contH_step [n1, n2, n3, n4] _ (by simp)]; rfl
    have HLF5 : Hid (leftOf (nx st4).2 ≤ 1000000000000) := by have := (left_nx st4).1; have := HLF4.out; show _ ≤ _; omega
    clear A8 B4
    go_wp2_with fail
    refine HC9.out.mono ?_
    rintro e w9 ⟨rfl, A9, hO9⟩
    generalize (nx st4).1 = n5 at *
    generalize (nx st4).2 = st5 at *
    clear HC9 hO9 c4 f4 HD4 HLF4
    have c5 : w9.cell? ⟨x, 4, none⟩ = some (.int .i64 0) := by rw [cell_row A9.cell]; rfl
    have f5 : w9.frozen? ⟨x, 4, none⟩ = false := frozen_row A9.cell
    have B5 := A9.num (R' := ⟨n1, n2, n3, n4, n5, 0, [], [], [], [], 0⟩) 4 n5 rfl rfl rfl rfl rfl
    have HC10 := hide B5.number
    have HD6 : Hid (dec bs = contH [n1, n2, n3, n4, n5, (nx st5).1] (nx st5).2) := by show _ = _; rw [HD5.out, contH_step [n1, n2, n3, n4, n5] _ (by simp)]; rfl
    have HLF6 : Hid (leftOf (nx st5).2 ≤ 1000000000000) := by have := (left_nx st5).1; have := HLF5.out; show _ ≤ _; omega
    clear A9 B5
    go_wp2_with fail
    refine HC10.out.mono ?_
    rintro e w10 ⟨rfl, A10, hO10⟩
    generalize (nx st5).1 = n6 at *
    generalize (nx st5).2 = st6 at *
    clear HC10 hO10 c5 f5 HD5 HLF5
    have c6 : w10.cell? ⟨x, 5, none⟩ = some (.int .i64 0) := by rw [cell_row A10.cell]; rfl
    have f6 : w10.frozen? ⟨x, 5, none⟩ = false := frozen_row A10.cell
    have B6 := A10.num (R' := ⟨n1, n2, n3, n4, n5, n6, [], [], [], [], 0⟩) 5 n6 rfl rfl rfl rfl rfl
    have HC11 := hide (B6.bytes HLF6.out)
    have HD7 : Hid (dec bs = cont atAfter ⟨n1, n2, n3, n4, n5, n6, (pc st6).1, [], [], [], 0⟩ (pc st6).2) := by show _ = _; rw [HD6.out, contH_end _ _ rfl, cont_before]; rfl
    have HLF7 : Hid (leftOf (pc st6).2 ≤ 1000000000000) := by have := left_pc st6; have := HLF6.out; show _ ≤ _; omega
    clear A10 B6
    go_wp2_with fail
    refine HC11.out.mono ?_
    rintro e w11 ⟨vb, rfl, hob, A11⟩
    generalize (pc st6).1 = pb at *
    generalize (pc st6).2 = st7 at *
    clear HC11 c6 f6 HD6 HLF6
    have c7 : w11.cell? ⟨x, 6, none⟩ = some (.slice none 0 0) := by rw [cell_row A11.cell]; rfl
    have f7 : w11.frozen? ⟨x, 6, none⟩ = false := frozen_row A11.cell
    have B7 := A11.store (R' := ⟨n1, n2, n3, n4, n5, n6, pb, [], [], [], 0⟩) (vb' := vb) (va' := (.slice none 0 0)) (vt' := (.slice none 0 0)) (vd' := (.slice none 0 0)) 6 vb rfl hob A11.oa A11.ot A11.od
    have HC12 := hide (B7.bytes HLF7.out)
    have HD8 : Hid (dec bs = cont atTxns ⟨n1, n2, n3, n4, n5, n6, pb, (pc st7).1, [], [], 0⟩ (pc st7).2) := by show _ = _; rw [HD7.out, cont_after]
    have HLF8 : Hid (leftOf (pc st7).2 ≤ 1000000000000) := by have := left_pc st7; have := HLF7.out; show _ ≤ _; omega
    obtain ⟨ab, cb, hvb⟩ := owns_len hob
    generalize pb.length = Lb at hvb
    subst hvb
    clear A11 B7 hob
    go_wp2_with fail
    refine HC12.out.mono ?_
    rintro e w12 ⟨va, rfl, hoa, A12⟩
    generalize (pc st7).1 = pa at *
    generalize (pc st7).2 = st8 at *
    clear HC12 c7 f7 HD7 HLF7
    have c8 : w12.cell? ⟨x, 7, none⟩ = some (.slice none 0 0) := by rw [cell_row A12.cell]; rfl
    have f8 : w12.frozen? ⟨x, 7, none⟩ = false := frozen_row A12.cell
    have B8 := A12.store (R' := ⟨n1, n2, n3, n4, n5, n6, pb, pa, [], [], 0⟩) (vb' := .slice ab Lb cb) (va' := va) (vt' := (.slice none 0 0)) (vd' := (.slice none 0 0)) 7 va rfl A12.ob hoa A12.ot A12.od
    have HC13 := hide B8.number
    have HD9 : Hid (dec bs = contTL ⟨n1, n2, n3, n4, n5, n6, pb, pa, [], [], 0⟩ (nx st8).1.toNat [] (nx st8).2) := by show _ = _; rw [HD8.out, cont_txns]
    have HLF9 : Hid (leftOf (nx st8).2 ≤ 1000000000000) := by have := (left_nx st8).1; have := HLF8.out; show _ ≤ _; omega
    have hkb := nx_le st8
    obtain ⟨aa, ca, hva⟩ := owns_len hoa
    generalize pa.length = La at hva
    subst hva
    clear A12 B8 hoa
    go_wp2_with fail
    refine HC13.out.mono ?_
    rintro e w13 ⟨rfl, A13, hO13⟩
    generalize (nx st8).1 = kn at *
    generalize (nx st8).2 = st9 at *
    obtain ⟨K, rfl⟩ : ∃ K : Nat, kn = (K : Int) := ⟨kn.toNat, by omega⟩
    have HA13 := hide A13
    have hK : (K : Int) ≤ 4611686018427387904 := hkb.2
    have HD9 : Hid (dec bs = contTL ⟨n1, n2, n3, n4, n5, n6, pb, pa, [], [], 0⟩ K [] st9) := by have := HD9.out; rwa [Int.toNat_natCast] at this
    clear HC13 c8 f8 HD8 HLF8 hkb hO13 A13
    go_wp2
    go_loopw [9] (fun i wr => ∃ (j : Nat) (d : List (Int × Int × Int)) (st : Option (List UInt8)) (vl : Value), j ≤ K ∧ i = .int .i64 j ∧ d.length = j ∧ dec bs = contTL ⟨n1, n2, n3, n4, n5, n6, pb, pa, [], [], 0⟩ (K - j) d st ∧ 24 * j ≤ 1000000000000 + 24 ∧ (st ≠ none → 24 * j + leftOf st ≤ 1000000000000) ∧ RAt w wr r x st ⟨n1, n2, n3, n4, n5, n6, pb, pa, d, [], 0⟩ (.slice ab Lb cb) (.slice aa La ca) vl (.slice none 0 0)) (fun i _ => K - (intOf i).toNat)
    case atStart => exact ⟨0, [], st9, (.slice none 0 0), by omega, rfl, rfl, HD9.out, by omega, fun _ => by have := HLF9.out; omega, HA13.out⟩
    case round =>
      obtain ⟨j, d, st, vl, hj, rfl, hd, hD, hw1, hw2, A⟩ := hrel
      have hflag := A.rd.flag
      obtain ⟨al, cl, hvl⟩ := owns_len A.ot
      by_cases hgo : j < K ∧ st ≠ none
      · obtain ⟨hlt, hne⟩ := hgo
        have hfl : wr.cell? ⟨r, 1, none⟩ = some (.bool false) := by
          rw [hflag]
          cases st with
          | none => exact absurd rfl hne
          | some l => rfl
        clear hflag
        have hw3 := hw2 hne
        have HDN : Hid (dec bs = contTL ⟨n1, n2, n3, n4, n5, n6, pb, pa, [], [], 0⟩ (K - (j + 1)) (d ++ [((nx st).1, (nx (nx st).2).1, (nx (nx (nx st).2).2).1)]) (nx (nx (nx st).2).2).2) := by
          show _ = _
          rw [hD, show K - j = (K - (j + 1)) + 1 by omega, contTL_step]
        have HLN : Hid ((nx (nx (nx st).2).2).2 ≠ none → leftOf (nx (nx (nx st).2).2).2 + 24 ≤ leftOf st) := left_three st
        have HLF := hide hw3
        have HDL := hide hd
        have HC1 := hide A.number
        have hvs : ∀ k, vl.ownBlock = some k → k < wr.heap.size := fun k hk => (A.ot.lt k hk).2
        have HVS := hide hvs
        have hws := A.below.size
        clear A hD hd hw1 hw2 hw3 hne hvs
        subst hvl
        go_wp2_with fail
        refine HC1.out.mono ?_
        rintro e u1 ⟨rfl, A1, O1⟩
        generalize (nx st).1 = xa at *
        generalize (nx st).2 = s1 at *
        have A1' := A1.alloc (.cells #[.int .i64 xa, .int .i64 0, .int .i64 0] 43)
        have ht1 : (u1.alloc (.cells #[.int .i64 xa, .int .i64 0, .int .i64 0] 43)).heap[u1.heap.size]? = some (.cells #[.int .i64 xa, .int .i64 0, .int .i64 0] 43 (0, 0)) := heap_alloc_new _ _
        have hvt : ∀ k, (Value.slice al d.length cl).ownBlock = some k → k ≠ u1.heap.size := fun k hk => by have := HVS.out k hk; have := O1.size; omega
        have hts : w.heap.size ≤ u1.heap.size := by have := O1.size; omega
        have HC2 := hide A1'.number
        clear HC1 A1 O1 hfl
        go_wp2_with fail
        refine HC2.out.mono ?_
        rintro e u2 ⟨rfl, A2, O2⟩
        generalize (nx s1).1 = xb at *
        generalize (nx s1).2 = s2 at *
        obtain ⟨Cr2, hCr2⟩ := A1'.rd.lt
        have ht2 : u2.heap[u1.heap.size]? = some (.cells #[.int .i64 xa, .int .i64 0, .int .i64 0] 43 (0, 0)) := (O2.block _ (lt_of_heap ht1) (by simp; exact heap_ne ht1 hCr2 (by decide))).trans ht1
        obtain ⟨t, ht⟩ : ∃ t, u1.heap.size = t := ⟨_, rfl⟩
        rw [ht] at ht2 hvt hts ⊢
        have hv5 : (Value.slice al d.length cl).ownBlock ≠ some t := fun e => hvt t e rfl
        have m21 : u2.cell? ⟨t, 1, none⟩ = some (.int .i64 0) := by rw [cell_row ht2]; rfl
        have g21 : u2.frozen? ⟨t, 1, none⟩ = false := frozen_row ht2
        have A2' := A2.other 1 (.int .i64 xb) ht2 hts (by decide) (by decide) (by decide) (by decide) hv5 (by simp [Value.ownBlock])
        have ht2' := heap_set_same (o := 1) (.int .i64 xb) ht2
        have HC3 := hide A2'.number
        clear HC2 A2 O2 A1' ht1 hCr2 ht2 ht
        go_wp2_with fail
        refine HC3.out.mono ?_
        rintro e u3 ⟨rfl, A3, O3⟩
        generalize (nx s2).1 = xc at *
        generalize (nx s2).2 = s3 at *
        obtain ⟨Cr3, hCr3⟩ := A2'.rd.lt
        have ht3 : u3.heap[t]? = some (.cells #[.int .i64 xa, .int .i64 xb, .int .i64 0] 43 (0, 0)) := (O3.block _ (lt_of_heap ht2') (by simp; exact heap_ne ht2' hCr3 (by decide))).trans ht2'
        have m3 : u3.cell? ⟨t, 2, none⟩ = some (.int .i64 0) := by rw [cell_row ht3]; rfl
        have m30 : u3.cell? ⟨t, 0, none⟩ = some (.int .i64 xa) := by rw [cell_row ht3]; rfl
        have m31 : u3.cell? ⟨t, 1, none⟩ = some (.int .i64 xb) := by rw [cell_row ht3]; rfl
        have g3 : u3.frozen? ⟨t, 2, none⟩ = false := frozen_row ht3
        have A3' := A3.other 2 (.int .i64 xc) ht3 hts (by decide) (by decide) (by decide) (by decide) hv5 (by simp [Value.ownBlock])
        have ht3' := heap_set_same (o := 2) (.int .i64 xc) ht3
        have hxt : x ≠ t := heap_ne A3.cell ht3 (by decide)
        have k3 : u3.cell? ⟨x, 8, none⟩ = some (.slice al d.length cl) := by rw [cell_row A3.cell]; rfl
        clear HC3 A3 O3 A2' hCr3 ht3 ht2' m21 g21
        have HAF := hide A3'
        have HOA : Hid (((u3.setCell ⟨t, 2, none⟩ (.int .i64 xc)).alloc (.cells #[.int .i64 xa, .int .i64 xb, .int .i64 xc] 43)).ownsRow w.heap.size 43 3 (.slice al d.length cl) d.length (txCells d)) := owns_below A3'.ot ((Below.refl _ _).alloc (Nat.le_refl _) _) (Nat.le_refl _)
        have HROW : Hid (Row ((u3.setCell ⟨t, 2, none⟩ (.int .i64 xc)).alloc (.cells #[.int .i64 xa, .int .i64 xb, .int .i64 xc] 43)) (.slice (some ⟨u3.heap.size, 0, none⟩) 1 1) 1 [.int .i64 xa, .int .i64 xb, .int .i64 xc]) := by
          refine ⟨_, _, rfl, Nat.le_refl _, by simp only [maxLen]; omega, fun _ => ⟨u3.heap.size, 0, rfl, fun i v hv => ?_⟩⟩
          have e : ((u3.setCell ⟨t, 2, none⟩ (.int .i64 xc)).alloc (.cells #[.int .i64 xa, .int .i64 xb, .int .i64 xc] 43)).heap[u3.heap.size]? = some (.cells #[.int .i64 xa, .int .i64 xb, .int .i64 xc] 43) := by
            have := heap_alloc_new (u3.setCell ⟨t, 2, none⟩ (.int .i64 xc)) (.cells #[.int .i64 xa, .int .i64 xb, .int .i64 xc] 43)
            rw [show (u3.setCell ⟨t, 2, none⟩ (.int .i64 xc)).heap.size = u3.heap.size by simp [World.setCell]] at this
            exact this
          rw [Nat.zero_add, cell_row e]; simpa using hv
        have HN1 : Hid ((d.length + 1) * 24 ≤ 140737488355328) := by have := HLF.out; have := HDL.out; show _ ≤ _; omega
        have HN2 : Hid (d.length + 1 ≤ 140737488355328) := by have := HLF.out; have := HDL.out; show _ ≤ _; omega
        have HBS : Hid (w.heap.size ≤ ((u3.setCell ⟨t, 2, none⟩ (.int .i64 xc)).alloc (.cells #[.int .i64 xa, .int .i64 xb, .int .i64 xc] 43)).heap.size) := by have := A3'.below.size; show _ ≤ _; simp only [World.alloc, Array.size_push] at *; omega
        clear A3'
        go_wp2_with (first
          | (refine wpList_append_row rfl (.tmp 77) (.tmp 79) 25 rfl w.heap.size 43 _ 3 24 Try.underlying25 Try.info43 rfl (by omega) (.slice al d.length cl) d.length (txCells d) _ 1 [.int .i64 xa, .int .i64 xb, .int .i64 xc] rfl rfl HOA.out HROW.out rfl (by simp [Value.oneCell']) HN1.out HN2.out HBS.out ?_
             intro v5 w5 ho5 hg5
             obtain ⟨A5, kc5, kf5⟩ := HAF.out.pushT (xa, xb, xc) ho5 hg5
             have HA5 := hide A5
             obtain ⟨a5, c5, hv5'⟩ := owns_len ho5
             clear ho5 hg5 A5
             generalize d.length + 1 = L5 at hv5'
             subst hv5')
          | fail)
        go_roundw
        case rel => exact ⟨j + 1, d ++ [(xa, xb, xc)], s3, _, by omega, by go_num, by rw [List.length_append, HDL.out]; rfl, HDN.out, by have := HLF.out; omega, fun h => by have := HLF.out; have := HLN.out h; omega, HA5.out⟩
        case measure => simp [intOf]; omega
      · have HDX : Hid (dec bs = cont atDirty ⟨n1, n2, n3, n4, n5, n6, pb, pa, d, [], 0⟩ st) := by
          show _ = _
          by_cases hlt : j < K
          · have hst : st = none := Classical.byContradiction fun h => hgo ⟨hlt, h⟩
            subst hst
            rw [hD, contTL_none]
          · rw [hD, show K - j = 0 by omega, contTL_end]
        have HLX : Hid (leftOf st ≤ 1000000000000) := by
          cases st with
          | none => simp [leftOf, Hid]
          | some l => have := hw2 (by simp); show _ ≤ _; omega
        have HA := hide A
        have hcs : (K ≤ j ∨ (j < K ∧ st.isNone = true)) := by
          by_cases hlt : j < K
          · have hst : st = none := Classical.byContradiction fun h => hgo ⟨hlt, h⟩
            subst hst
            exact .inr ⟨hlt, rfl⟩
          · exact .inl (by omega)
        generalize st.isNone = bad at *
        generalize d.length = Ld at hvl
        clear hgo hD hw1 hw2 hd HA13
        have HC14 := hide HA.out.number
        have HD10 : Hid (dec bs = contDL ⟨n1, n2, n3, n4, n5, n6, pb, pa, d, [], 0⟩ (nx st).1.toNat [] (nx st).2) := by show _ = _; rw [HDX.out, cont_dirty]
        have HLF10 : Hid (leftOf (nx st).2 ≤ 1000000000000) := by have := (left_nx st).1; have := HLX.out; show _ ≤ _; omega
        have hkb := nx_le st
        subst hvl
        clear HA HDX HLX hK HD9 HLF9
        rcases hcs with hge | ⟨hlt, hbd⟩
        rotate_left
        subst hbd
        all_goals
          go_wp2_with fail
          refine HC14.out.mono ?_
          rintro e w14 ⟨rfl, A14, hO14⟩
          generalize (nx st).1 = kn at *
          generalize (nx st).2 = st10 at *
          obtain ⟨K2, rfl⟩ : ∃ K : Nat, kn = (K : Int) := ⟨kn.toNat, by omega⟩
          have HA14 := hide A14
          have hK : (K2 : Int) ≤ 4611686018427387904 := hkb.2
          have HD11 : Hid (dec bs = contDL ⟨n1, n2, n3, n4, n5, n6, pb, pa, d, [], 0⟩ K2 [] st10) := by have := HD10.out; rwa [Int.toNat_natCast] at this
          generalize d = dT at *
          clear HC14 HD10 hkb hO14 A14 hflag
          go_wp2
          go_loopw [11] (fun i wr => ∃ (j : Nat) (d : List (Int × Int)) (st : Option (List UInt8)) (vl : Value), j ≤ K2 ∧ i = .int .i64 j ∧ d.length = j ∧ dec bs = contDL ⟨n1, n2, n3, n4, n5, n6, pb, pa, dT, [], 0⟩ (K2 - j) d st ∧ 16 * j ≤ 1000000000000 + 16 ∧ (st ≠ none → 16 * j + leftOf st ≤ 1000000000000) ∧ RAt w wr r x st ⟨n1, n2, n3, n4, n5, n6, pb, pa, dT, d, 0⟩ (.slice ab Lb cb) (.slice aa La ca) (.slice al Ld cl) vl) (fun i _ => K2 - (intOf i).toNat)
          case atStart => exact ⟨0, [], st10, (.slice none 0 0), by omega, rfl, rfl, HD11.out, by omega, fun _ => by have := HLF10.out; omega, HA14.out⟩
          case round =>
            obtain ⟨j, d, st, vl, hj, rfl, hd, hD, hw1, hw2, A⟩ := hrel
            have hflag := A.rd.flag
            obtain ⟨bl, dl, hvl⟩ := owns_len A.od
            by_cases hgo : j < K2 ∧ st ≠ none
            · obtain ⟨hlt, hne⟩ := hgo
              have hfl : wr.cell? ⟨r, 1, none⟩ = some (.bool false) := by
                rw [hflag]
                cases st with
                | none => exact absurd rfl hne
                | some l => rfl
              clear hflag
              have hw3 := hw2 hne
              have HDN : Hid (dec bs = contDL ⟨n1, n2, n3, n4, n5, n6, pb, pa, dT, [], 0⟩ (K2 - (j + 1)) (d ++ [((nx st).1, (nx (nx st).2).1)]) (nx (nx st).2).2) := by
                show _ = _
                rw [hD, show K2 - j = (K2 - (j + 1)) + 1 by omega, contDL_step]
              have HLN : Hid ((nx (nx st).2).2 ≠ none → leftOf (nx (nx st).2).2 + 16 ≤ leftOf st) := left_two st
              have HLF := hide hw3
              have HDL := hide hd
              have HC1 := hide A.number
              have hvs : ∀ k, vl.ownBlock = some k → k < wr.heap.size := fun k hk => (A.od.lt k hk).2
              have HVS := hide hvs
              have HVT2 := hide (fun k (hk : (Value.slice al Ld cl).ownBlock = some k) => (A.ot.lt k hk).2)
              have hws := A.below.size
              clear A hD hd hw1 hw2 hw3 hne hvs
              subst hvl
              go_wp2_with fail
              refine HC1.out.mono ?_
              rintro e u1 ⟨rfl, A1, O1⟩
              generalize (nx st).1 = xa at *
              generalize (nx st).2 = s1 at *
              have A1' := A1.alloc (.cells #[.int .i64 xa, .int .i64 0] 45)
              have ht1 : (u1.alloc (.cells #[.int .i64 xa, .int .i64 0] 45)).heap[u1.heap.size]? = some (.cells #[.int .i64 xa, .int .i64 0] 45 (0, 0)) := heap_alloc_new _ _
              have hvt : ∀ k, (Value.slice bl d.length dl).ownBlock = some k → k ≠ u1.heap.size := fun k hk => by have := HVS.out k hk; have := O1.size; omega
              have hvt6 : ∀ k, (Value.slice al Ld cl).ownBlock = some k → k ≠ u1.heap.size := fun k hk => by have := HVT2.out k hk; have := O1.size; omega
              have hts : w.heap.size ≤ u1.heap.size := by have := O1.size; omega
              have HC2 := hide A1'.number
              clear HC1 A1 O1 hfl
              go_wp2_with fail
              refine HC2.out.mono ?_
              rintro e u2 ⟨rfl, A2, O2⟩
              generalize (nx s1).1 = xb at *
              generalize (nx s1).2 = s2 at *
              obtain ⟨Cr2, hCr2⟩ := A1'.rd.lt
              have ht2 : u2.heap[u1.heap.size]? = some (.cells #[.int .i64 xa, .int .i64 0] 45 (0, 0)) := (O2.block _ (lt_of_heap ht1) (by simp; exact heap_ne ht1 hCr2 (by decide))).trans ht1
              obtain ⟨t, ht⟩ : ∃ t, u1.heap.size = t := ⟨_, rfl⟩
              rw [ht] at ht2 hvt hts ⊢ hvt6
              have hv5 : (Value.slice bl d.length dl).ownBlock ≠ some t := fun e => hvt t e rfl
              have m21 : u2.cell? ⟨t, 1, none⟩ = some (.int .i64 0) := by rw [cell_row ht2]; rfl
              have g21 : u2.frozen? ⟨t, 1, none⟩ = false := frozen_row ht2
              have A2' := A2.other 1 (.int .i64 xb) ht2 hts (by decide) (by decide) (by decide) (by decide) (fun e => hvt6 t e rfl) hv5
              have m20 : u2.cell? ⟨t, 0, none⟩ = some (.int .i64 xa) := by rw [cell_row ht2]; rfl
              have ht2' := heap_set_same (o := 1) (.int .i64 xb) ht2
              have hxt : x ≠ t := heap_ne A2.cell ht2 (by decide)
              have k3 : u2.cell? ⟨x, 9, none⟩ = some (.slice bl d.length dl) := by rw [cell_row A2.cell]; rfl
              clear HC2 A2 O2 A1' ht1 hCr2 ht2 ht
              have HAF := hide A2'
              have HOA : Hid (((u2.setCell ⟨t, 1, none⟩ (.int .i64 xb)).alloc (.cells #[.int .i64 xa, .int .i64 xb] 45)).ownsRow w.heap.size 45 2 (.slice bl d.length dl) d.length (dtCells d)) := owns_below A2'.od ((Below.refl _ _).alloc (Nat.le_refl _) _) (Nat.le_refl _)
              have HROW : Hid (Row ((u2.setCell ⟨t, 1, none⟩ (.int .i64 xb)).alloc (.cells #[.int .i64 xa, .int .i64 xb] 45)) (.slice (some ⟨u2.heap.size, 0, none⟩) 1 1) 1 [.int .i64 xa, .int .i64 xb]) := by
                refine ⟨_, _, rfl, Nat.le_refl _, by simp only [maxLen]; omega, fun _ => ⟨u2.heap.size, 0, rfl, fun i v hv => ?_⟩⟩
                have e : ((u2.setCell ⟨t, 1, none⟩ (.int .i64 xb)).alloc (.cells #[.int .i64 xa, .int .i64 xb] 45)).heap[u2.heap.size]? = some (.cells #[.int .i64 xa, .int .i64 xb] 45) := by
                  have := heap_alloc_new (u2.setCell ⟨t, 1, none⟩ (.int .i64 xb)) (.cells #[.int .i64 xa, .int .i64 xb] 45)
                  rw [show (u2.setCell ⟨t, 1, none⟩ (.int .i64 xb)).heap.size = u2.heap.size by simp [World.setCell]] at this
                  exact this
                rw [Nat.zero_add, cell_row e]; simpa using hv
              have HN1 : Hid ((d.length + 1) * 16 ≤ 140737488355328) := by have := HLF.out; have := HDL.out; show _ ≤ _; omega
              have HN2 : Hid (d.length + 1 ≤ 140737488355328) := by have := HLF.out; have := HDL.out; show _ ≤ _; omega
              have HBS : Hid (w.heap.size ≤ ((u2.setCell ⟨t, 1, none⟩ (.int .i64 xb)).alloc (.cells #[.int .i64 xa, .int .i64 xb] 45)).heap.size) := by have := A2'.below.size; show _ ≤ _; simp only [World.alloc, Array.size_push] at *; omega
              clear A2'
              go_wp2_with (first
                | (refine wpList_append_row rfl (.tmp 103) (.tmp 105) 26 rfl w.heap.size 45 _ 2 16 Try.underlying26 Try.info45 rfl (by omega) (.slice bl d.length dl) d.length (dtCells d) _ 1 [.int .i64 xa, .int .i64 xb] rfl rfl HOA.out HROW.out rfl (by simp [Value.oneCell']) HN1.out HN2.out HBS.out ?_
                   intro v5 w5 ho5 hg5
                   obtain ⟨A5, kc5, kf5⟩ := HAF.out.pushD (xa, xb) ho5 hg5
                   have HA5 := hide A5
                   obtain ⟨a5, c5, hv5'⟩ := owns_len ho5
                   clear ho5 hg5 A5
                   generalize d.length + 1 = L5 at hv5'
                   subst hv5')
                | fail)
              go_roundw
              case rel => exact ⟨j + 1, d ++ [(xa, xb)], s2, _, by omega, by go_num, by rw [List.length_append, HDL.out]; rfl, HDN.out, by have := HLF.out; omega, fun h => by have := HLF.out; have := HLN.out h; omega, HA5.out⟩
              case measure => simp [intOf]; omega
            · have HDX : Hid (dec bs = cont atCount ⟨n1, n2, n3, n4, n5, n6, pb, pa, dT, d, 0⟩ st) := by
                show _ = _
                by_cases hlt : j < K2
                · have hst : st = none := Classical.byContradiction fun h => hgo ⟨hlt, h⟩
                  subst hst
                  rw [hD, contDL_none]
                · rw [hD, show K2 - j = 0 by omega, contDL_end]
              have HLX : Hid (leftOf st ≤ 1000000000000) := by
                cases st with
                | none => simp [leftOf, Hid]
                | some l => have := hw2 (by simp); show _ ≤ _; omega
              have HA := hide A
              have hcs : (K2 ≤ j ∨ (j < K2 ∧ st.isNone = true)) := by
                by_cases hlt : j < K2
                · have hst : st = none := Classical.byContradiction fun h => hgo ⟨hlt, h⟩
                  subst hst
                  exact .inr ⟨hlt, rfl⟩
                · exact .inl (by omega)
              generalize st.isNone = bad at *
              generalize d.length = Le at hvl
              clear hgo hD hw1 hw2 hd HA14
              have HC16 := hide HA.out.number
              have HDF : Hid (dec bs = endOf ⟨n1, n2, n3, n4, n5, n6, pb, pa, dT, d, 0⟩ (nx st).1 (nx st).2) := by show _ = _; rw [HDX.out, cont_end]
              subst hvl
              clear HA HDX HLX hK HD11 HLF10
              rcases hcs with hge2 | ⟨hlt2, hbd⟩
              rotate_left
              subst hbd
              all_goals
                go_wp2_with fail
                refine HC16.out.mono ?_
                rintro e w16 ⟨rfl, A16, hO16⟩
                generalize (nx st).1 = cn at *
                generalize (nx st).2 = sf at *
                clear HC16 hO16 hflag
                have c16 : w16.cell? ⟨x, 10, none⟩ = some (.int .i64 0) := by rw [cell_row A16.cell]; rfl
                have f16 : w16.frozen? ⟨x, 10, none⟩ = false := frozen_row A16.cell
                obtain ⟨Cr, hCr⟩ := A16.rd.lt
                have hxr : x ≠ r := heap_ne A16.cell hCr (by decide)
                have B16 := A16.num (R' := ⟨n1, n2, n3, n4, n5, n6, pb, pa, dT, d, cn⟩) 10 cn rfl rfl rfl rfl rfl
                have HGOT := hide B16.got
                have HBE := hide B16.below
                have hfl := A16.rd.flag
                cases sf with
                | none =>
                  have HD : Hid (dec bs = none) := HDF.out
                  have hfl : w16.cell? ⟨r, 1, none⟩ = some (.bool true) := hfl
                  clear A16 B16 hCr HDF
                  go_wp2_with (first
                    | (refine wpList_build_is rfl 36 _ rfl zero13 Try.built36 ?_)
                    | (refine wpList_store_row rfl 36 _ _ rfl w.heap.size zero13 rfl rfl 36 _ HGOT.out (Try.size36 rfl) rfl one_zero13 ?_))
                  refine bodyPost_ret (v := .agg zero13) (results_cell_row Try.results13 _ _ w.heap.size 36 _ (0, 0) _ rfl (setRow_heap _ _ _ _ _ _ HGOT.out) Try.underlying36 rfl (Try.size36 rfl)) rfl ?_
                  refine ⟨below_setRow HBE.out (Nat.le_refl _) _, ?_⟩
                  rw [HD.out]
                | some rest =>
                  have hfl : w16.cell? ⟨r, 1, none⟩ = some (.bool false) := hfl
                  obtain ⟨v16, hv16, hs16⟩ := A16.rd
                  obtain ⟨ar, cr, rfl, l1, l2⟩ := hs16.len
                  simp only [maxLen] at l2
                  have c0 : w16.cell? ⟨r, 0, none⟩ = some (.slice ar rest.length cr) := by rw [cell_row hv16]; rfl
                  by_cases hz : rest = []
                  · have HD : Hid (dec bs = some ⟨n1, n2, n3, n4, n5, n6, pb, pa, dT, d, cn⟩) := by have := HDF.out; simp only [endOf] at this; rwa [if_pos hz] at this
                    have HDSZ := hide (HDS.out _ HD.out)
                    subst hz
                    have c00 : w16.cell? ⟨r, 0, none⟩ = some (.slice ar 0 cr) := c0
                    clear c0 l1
                    have HOWN : Hid (RecOwn w.heap.size (w16.setCell ⟨x, 10, none⟩ (.int .i64 cn)) (.agg (recCells ⟨n1, n2, n3, n4, n5, n6, pb, pa, dT, d, cn⟩ (.slice ab Lb cb) (.slice aa La ca) (.slice al Ld cl) (.slice bl Le dl))) ⟨n1, n2, n3, n4, n5, n6, pb, pa, dT, d, cn⟩) := ⟨_, _, _, _, rfl, B16.ob, B16.oa, B16.ot, B16.od⟩
                    have HRNG : Hid ((w16.setCell ⟨x, 10, none⟩ (.int .i64 cn)).rangeAt x 0 [.int .i64 n1, .int .i64 n2, .int .i64 n3, .int .i64 n4, .int .i64 n5, .int .i64 n6, .slice ab Lb cb, .slice aa La ca, .slice al Ld cl, .slice bl Le dl, .int .i64 cn]) := fun j v hv => by rw [Nat.zero_add, cell_row B16.cell]; simpa [recCells] using hv
                    have HBU : Hid (Try.prog.built 36 [(0, .agg #[.int .i64 n1, .int .i64 n2, .int .i64 n3, .int .i64 n4, .int .i64 n5, .int .i64 n6, .slice ab Lb cb, .slice aa La ca, .slice al Ld cl, .slice bl Le dl, .int .i64 cn]), (1, .int .i64 (8 + n0)), (2, .bool true)] = some #[.int .i64 n1, .int .i64 n2, .int .i64 n3, .int .i64 n4, .int .i64 n5, .int .i64 n6, .slice ab Lb cb, .slice aa La ca, .slice al Ld cl, .slice bl Le dl, .int .i64 cn, .int .i64 (8 + n0), .bool true]) := built36_got _ _ _ _ _ _ _ _ _ _ _ _
                    have HONE : Hid ((#[.int .i64 n1, .int .i64 n2, .int .i64 n3, .int .i64 n4, .int .i64 n5, .int .i64 n6, .slice ab Lb cb, .slice aa La ca, .slice al Ld cl, .slice bl Le dl, .int .i64 cn, .int .i64 (8 + n0), .bool true] : Array Value).all (·.oneCell') = true) := by show _ = _; simp [Value.oneCell']
                    have y0 : w16.cell? ⟨x, 0, none⟩ = some (.int .i64 n1) := by rw [cell_row A16.cell]; rfl
                    have y1 : w16.cell? ⟨x, 1, none⟩ = some (.int .i64 n2) := by rw [cell_row A16.cell]; rfl
                    have y2 : w16.cell? ⟨x, 2, none⟩ = some (.int .i64 n3) := by rw [cell_row A16.cell]; rfl
                    have y3 : w16.cell? ⟨x, 3, none⟩ = some (.int .i64 n4) := by rw [cell_row A16.cell]; rfl
                    have y4 : w16.cell? ⟨x, 4, none⟩ = some (.int .i64 n5) := by rw [cell_row A16.cell]; rfl
                    have y5 : w16.cell? ⟨x, 5, none⟩ = some (.int .i64 n6) := by rw [cell_row A16.cell]; rfl
                    have y6 : w16.cell? ⟨x, 6, none⟩ = some (.slice ab Lb cb) := by rw [cell_row A16.cell]; rfl
                    have y7 : w16.cell? ⟨x, 7, none⟩ = some (.slice aa La ca) := by rw [cell_row A16.cell]; rfl
                    have y8 : w16.cell? ⟨x, 8, none⟩ = some (.slice al Ld cl) := by rw [cell_row A16.cell]; rfl
                    have y9 : w16.cell? ⟨x, 9, none⟩ = some (.slice bl Le dl) := by rw [cell_row A16.cell]; rfl
                    have hn0a : 0 ≤ n0 := hnb.1
                    have hn0b : n0 ≤ 4611686018427387904 := hnb.2
                    have HNE : Hid (x ≠ w.heap.size) := heap_ne B16.cell B16.got (by decide)
                    clear A16 B16 hCr HDF hs16 hv16
                    go_wp2_with (first
                      | (refine wpList_store_row rfl 36 (.tmp 2) (.tmp 127) rfl w.heap.size #[.int .i64 n1, .int .i64 n2, .int .i64 n3, .int .i64 n4, .int .i64 n5, .int .i64 n6, .slice ab Lb cb, .slice aa La ca, .slice al Ld cl, .slice bl Le dl, .int .i64 cn, .int .i64 (8 + n0), .bool true] rfl rfl 36 _ HGOT.out (Try.size36 rfl) rfl HONE.out ?_))
                    refine bodyPost_ret (v := .agg #[.int .i64 n1, .int .i64 n2, .int .i64 n3, .int .i64 n4, .int .i64 n5, .int .i64 n6, .slice ab Lb cb, .slice aa La ca, .slice al Ld cl, .slice bl Le dl, .int .i64 cn, .int .i64 (8 + n0), .bool true]) (results_cell_row Try.results13 _ _ w.heap.size 36 _ (0, 0) _ rfl (setRow_heap _ _ _ _ _ _ HGOT.out) Try.underlying36 rfl (Try.size36 rfl)) rfl ?_
                    refine ⟨below_setRow HBE.out (Nat.le_refl _) _, ?_⟩
                    rw [HD.out]
                    refine ⟨.slice ab Lb cb, .slice aa La ca, .slice al Ld cl, .slice bl Le dl, ?_, ?_⟩
                    · have e : 8 + n0 = ((Rc.size ⟨n1, n2, n3, n4, n5, n6, pb, pa, dT, d, cn⟩ : Nat) : Int) := by have := HDSZ.out; omega
                      rw [e]
                      rfl
                    · obtain ⟨vb', va', vt', vd', ee, o1, o2, o3, o4⟩ := HOWN.out
                      refine ⟨vb', va', vt', vd', ee, ?_, ?_, ?_, ?_⟩
                      · exact owns_stay o1 (fun k hk => setRow_other _ _ _ _ (fun e => owns_ne o1 HGOT.out (by decide) (by rw [hk, e])))
                      · exact owns_stay o2 (fun k hk => setRow_other _ _ _ _ (fun e => owns_ne o2 HGOT.out (by decide) (by rw [hk, e])))
                      · exact owns_stay o3 (fun k hk => setRow_other _ _ _ _ (fun e => owns_ne o3 HGOT.out (by decide) (by rw [hk, e])))
                      · exact owns_stay o4 (fun k hk => setRow_other _ _ _ _ (fun e => owns_ne o4 HGOT.out (by decide) (by rw [hk, e])))
                  · have HD : Hid (dec bs = none) := by have := HDF.out; simp only [endOf] at this; rwa [if_neg hz] at this
                    have hl7 : (0 : Int) < (rest.length : Int) := by
                      have := List.length_pos_iff.2 hz
                      omega
                    clear A16 B16 hCr HDF hs16 hv16 hz
                    generalize rest.length = L7 at *
                    go_wp2_with (first
                      | (refine wpList_build_is rfl 36 _ rfl zero13 Try.built36 ?_)
                      | (refine wpList_store_row rfl 36 _ _ rfl w.heap.size zero13 rfl rfl 36 _ HGOT.out (Try.size36 rfl) rfl one_zero13 ?_))
                    refine bodyPost_ret (v := .agg zero13) (results_cell_row Try.results13 _ _ w.heap.size 36 _ (0, 0) _ rfl (setRow_heap _ _ _ _ _ _ HGOT.out) Try.underlying36 rfl (Try.size36 rfl)) rfl ?_
                    refine ⟨below_setRow HBE.out (Nat.le_refl _) _, ?_⟩
                    rw [HD.out]
end Go.Proofs.Ytmfiafdhflaafaa
