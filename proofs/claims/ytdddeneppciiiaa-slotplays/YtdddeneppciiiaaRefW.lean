/- The document's answer: a page with a record. -/
import Derived.Test.YtdddeneppciiiaaRefA
namespace Go.Proofs.Ytdddeneppciiiaa
open Go.RowKit
set_option linter.unusedVariables false
set_option linter.unusedSimpArgs false

theorem rsCells_take : ∀ (S : List Slt) (i : Nat), (rsCells S).take (i * 2) = rsCells (S.take i)
  | [], i => by simp [rsCells]
  | y :: S, 0 => by simp [rsCells]
  | y :: S, i + 1 => by
    rw [rsCells_cons, show (i + 1) * 2 = i * 2 + 1 + 1 by omega, List.take_succ_cons, List.take_succ_cons, rsCells_take S i, List.take_succ_cons, rsCells_cons]
theorem rsCells_drop : ∀ (S : List Slt) (i : Nat), (rsCells S).drop (i * 2) = rsCells (S.drop i)
  | [], i => by simp [rsCells]
  | y :: S, 0 => by simp
  | y :: S, i + 1 => by
    rw [rsCells_cons, show (i + 1) * 2 = i * 2 + 1 + 1 by omega, List.drop_succ_cons, List.drop_succ_cons, rsCells_drop S i, List.drop_succ_cons]
theorem rsCells_set (S : List Slt) (i : Nat) (s : Slt) (h : i < S.length) : (rsCells S).take (i * 2) ++ [.bool s.isSome, .string (strOf (s.getD []))] ++ (rsCells S).drop (i * 2 + 2) = rsCells (S.set i s) := by
  rw [show i * 2 + 2 = (i + 1) * 2 by omega, rsCells_take, rsCells_drop, List.set_eq_take_append_cons_drop, if_pos h, rsCells_append, rsCells_cons, List.append_assoc]
  rfl
theorem RBox.set {w0 w : World} {b : Nat} {nx : Int} {v : Value} {S : List Slt} (h : RBox w0 w b nx v S) (i : Nat) (hi : i < S.length) (s : Slt) :
    ∃ G cap w', v = .slice (some ⟨G, 0, none⟩) S.length cap ∧ (Instr.storeAt 71 (.pointer (some ⟨G, i * 2, none⟩)) (.agg #[.bool s.isSome, .string (strOf (s.getD []))])).run Try.prog w = .ok () w' ∧ RBox w0 w' b nx v (S.set i s) ∧ (∀ (k : Nat) (C : Array Value), w.heap[k]? = some (Obj.cells C 67 (0, 0)) → w'.heap[k]? = some (Obj.cells C 67 (0, 0))) := by
  obtain ⟨⟨hb0, h1⟩, hbase, hbox⟩ := h
  have h1' := h1
  obtain ⟨hl, h3⟩ := h1
  rcases h3 with ⟨rfl, h4⟩ | ⟨G, cap, cur, rfl, hG, hg, k1, k2, k3, k4⟩
  · omega
  have hst := run_storeAt_in (P := Try.prog) w G (i * 2) 71 71 cur [.bool s.isSome, .string (strOf (s.getD []))] hg (by simp; omega) Try.size71 (by intro u hu; simp at hu; rcases hu with rfl | rfl <;> rfl)
  have hother : ∀ (k : Nat) (C : Array Value), w.heap[k]? = some (.cells C 67 (0, 0)) → k ≠ G := fun k C hk e => by
    subst e
    rw [hg] at hk
    simp at hk
  have hcs : cur.toList.length = cap * 2 := by simpa using k3
  refine ⟨G, cap, _, rfl, hst, ⟨⟨below_setRow hb0 hG _, ⟨by rw [length_rsCells, List.length_set], .inr ⟨G, cap, _, by rw [List.length_set], hG, setRow_heap _ _ _ _ _ _ hg, by rw [List.length_set]; exact k1, k2, ?_, ?_⟩⟩⟩, hbase, ?_⟩, fun k C hk => ?_⟩
  · simp only [List.size_toArray, List.length_append, List.length_take, List.length_drop, List.length_cons, List.length_nil, hcs]
    omega
  · rw [List.length_set]
    have hsplit : cur.toList = rsCells S ++ cur.toList.drop (S.length * 2) := by rw [← k4, List.take_append_drop]
    have hlen : (rsCells S).length = S.length * 2 := length_rsCells S
    simp only [List.length_cons, List.length_nil]
    rw [← rsCells_set S i s hi]
    generalize cur.toList.drop (S.length * 2) = tl at hsplit
    have e1 : (rsCells S ++ tl).take (i * 2) = (rsCells S).take (i * 2) := List.take_append_of_le_length (by omega)
    have e2 : (rsCells S ++ tl).drop (i * 2 + 2) = (rsCells S).drop (i * 2 + 2) ++ tl := List.drop_append_of_le_length (by omega)
    rw [hsplit, e1, e2, ← List.append_assoc]
    refine List.take_left' ?_
    simp only [List.length_append, List.length_take, List.length_drop, List.length_cons, List.length_nil, hlen]
    omega
  · rw [setRow_other _ _ _ _ (hother _ _ hbox)]; exact hbox
  · rw [setRow_other _ _ _ _ (hother _ _ hk)]; exact hk
theorem RSOwn.cut {w0 w : World} {ao : Option Addr} {n c : Nat} {S : List Slt} (h : RSOwn w0 w (.slice ao n c) S) (m : Nat) (hm : m ≤ S.length) : RSOwn w0 w (.slice ao m c) (S.take m) := by
  obtain ⟨hb0, h1⟩ := h
  have hl : (S.take m).length = m := by rw [List.length_take]; omega
  obtain ⟨_, h3⟩ := h1
  refine ⟨hb0, ⟨by rw [length_rsCells, hl], ?_⟩⟩
  rcases h3 with ⟨e, h4⟩ | ⟨G, cap, cur, e, hG, hg, k1, k2, k3, k4⟩
  · injection e with e1 e2 e3
    subst e1 e3
    have : m = 0 := by omega
    subst this
    exact .inl ⟨rfl, hl⟩
  · injection e with e1 e2 e3
    subst e1 e3
    refine .inr ⟨G, c, cur, by rw [hl], hG, hg, by omega, k2, k3, ?_⟩
    rw [hl, ← rsCells_take, ← k4, List.take_take, Nat.min_eq_left (by omega)]
/-- A copy of slots, appended to nothing. -/
theorem copy_slots {w0 w : World} {x : Value} {S : List Slt} (hb : Below w0.heap.size w0 w) (hx : RSAt w x S) (hl : S.length ≤ 1000) :
    ∃ a3 c3 w3, (Builtin.append_ #[65, 65] 65 #[.slice none 0 0, x]).run Try.prog w = .ok (.slice a3 S.length c3) w3 ∧ RSOwn w0 w3 (.slice a3 S.length c3) S ∧ Below w.heap.size w w3 := by
  obtain ⟨v', w', hr, ho, hg⟩ := run_append_row (P := Try.prog) w w.heap.size 65 65 71 (.agg #[.bool false, .string ByteArray.empty]) 2 24 Try.underlying65 Try.info71 rfl (by omega) (.slice none 0 0) 0 [] (World.ownsRow_nil _ _ _ _) x S.length (rsCells S) hx (length_rsCells S) (one_rsCells S) (by omega) (by omega) (Nat.le_refl _)
  rw [Nat.zero_add, List.nil_append] at ho
  obtain ⟨a3, c3, rfl⟩ := owns_len ho
  have hb3 : Below w.heap.size w w' := ⟨hg.os, hg.tape, hg.output, hg.size, fun k hk => hg.block k hk (by simp [Value.ownBlock])⟩
  exact ⟨a3, c3, w', hr, ⟨hb.trans (hb3.mono hb.size), owns_mono ho hb.size⟩, hb3⟩
def withS (S : List Slt) (k : Nat) (d : List UInt8) : List Slt := if k = S.length then S ++ [some d] else S.set k (some d)
def WithEnd (w : World) (nx : Int) (S S' : List Slt) (ao : Option Addr) (c : Nat) (e : Ending) (w' : World) : Prop :=
  Below w.heap.size w w' ∧ if 504 < tsize S' then e = .returned (.tuple #[.agg #[.int .i64 nx, .slice ao S.length c], .int .i64 60])
    else ∃ a' c', e = .returned (.tuple #[.agg #[.int .i64 nx, .slice a' S'.length c'], .int .i64 0]) ∧ RSOwn w w' (.slice a' S'.length c') S'
theorem Try.results35 : Try.f35.results = #[.cell 6 67, .tmp 7] := rfl
set_option maxHeartbeats 2000000 in
set_option maxRecDepth 100000 in
theorem with_app {w : World} {ao : Option Addr} {c : Nat} {S : List Slt} {dv : Value} {d : List UInt8} (h : RSAt w (.slice ao S.length c) S) (hd : Sl w dv d) (nx : Int) (k : Nat) (hk : k = S.length) (hS : S.length ≤ 200) (htz : tsize (withS S k d) ≤ 100000) :
    Calls Try.prog 35 #[.agg #[.int .i64 nx, .slice ao S.length c], .int .i64 (k : Int), dv] w fun e w' => WithEnd w nx S (withS S k d) ao c e w' := by
  have HD := hide hd
  obtain ⟨da, dc, rfl, _, _⟩ := hd.len
  have HRS := hide h
  have HWS : Hid (withS S k d = (S ++ [none]).set k (some d)) := by unfold withS; rw [Hid, if_pos hk, hk, List.set_append_right _ _ (Nat.le_refl _)]; simp
  have HLW : Hid ((withS S k d).length = S.length + 1) := by rw [Hid, HWS.out]; simp
  have hb1 : Below w.heap.size w (((w.alloc (.cells #[.int .i64 nx, .slice ao S.length c] 67)).alloc (.cells #[.int .i64 0, .slice none 0 0] 67)).alloc (.cells #[.int .i64 nx, .slice none 0 0] 67)) := (((Below.refl _ _).alloc (Nat.le_refl _) _).alloc (by simp) _).alloc (by simp; omega) _
  have hp1 : (((w.alloc (.cells #[.int .i64 nx, .slice ao S.length c] 67)).alloc (.cells #[.int .i64 0, .slice none 0 0] 67)).alloc (.cells #[.int .i64 nx, .slice none 0 0] 67)).heap[w.heap.size]? = some (.cells #[.int .i64 nx, .slice ao S.length c] 67 (0, 0)) := by
    rw [Below.heap_alloc _ _ _ (by simp; omega), Below.heap_alloc _ _ _ (by simp)]
    exact heap_alloc_new w _
  have hr1 : (((w.alloc (.cells #[.int .i64 nx, .slice ao S.length c] 67)).alloc (.cells #[.int .i64 0, .slice none 0 0] 67)).alloc (.cells #[.int .i64 nx, .slice none 0 0] 67)).heap[w.heap.size + 1]? = some (.cells zeroPg 67 (0, 0)) := by
    rw [Below.heap_alloc _ _ _ (by simp)]
    have := heap_alloc_new (w.alloc (.cells #[.int .i64 nx, .slice ao S.length c] 67)) (.cells #[.int .i64 0, .slice none 0 0] 67)
    rw [World.size_alloc] at this
    exact this
  have hq1 : (((w.alloc (.cells #[.int .i64 nx, .slice ao S.length c] 67)).alloc (.cells #[.int .i64 0, .slice none 0 0] 67)).alloc (.cells #[.int .i64 nx, .slice none 0 0] 67)).heap[w.heap.size + 1 + 1]? = some (.cells #[.int .i64 nx, .slice none 0 0] 67 (0, 0)) := by
    have := heap_alloc_new ((w.alloc (.cells #[.int .i64 nx, .slice ao S.length c] 67)).alloc (.cells #[.int .i64 0, .slice none 0 0] 67)) (.cells #[.int .i64 nx, .slice none 0 0] 67)
    rw [World.size_alloc, World.size_alloc] at this
    exact this
  obtain ⟨a3, c3, w3, hrun, hown, hb3⟩ := copy_slots hb1 (h.below hb1) (by omega)
  have hp3 := (hb3.block _ (lt_of_heap hp1)).trans hp1
  have hr3 := (hb3.block _ (lt_of_heap hr1)).trans hr1
  have hq3 := (hb3.block _ (lt_of_heap hq1)).trans hq1
  have HX4 := hide (RBox.put (nx := nx) (by omega) hq3 hown)
  have HP4 : Hid ((w3.setCell ⟨w.heap.size + 1 + 1, 1, none⟩ (.slice a3 S.length c3)).heap[w.heap.size]? = some (.cells #[.int .i64 nx, .slice ao S.length c] 67 (0, 0))) := (Below.heap_setCell _ _ _ _ (by first | (simp; omega) | simp)).trans hp3
  have HR4 : Hid ((w3.setCell ⟨w.heap.size + 1 + 1, 1, none⟩ (.slice a3 S.length c3)).heap[w.heap.size + 1]? = some (.cells zeroPg 67 (0, 0))) := (Below.heap_setCell _ _ _ _ (by first | (simp; omega) | simp)).trans hr3
  have x1 : (((w.alloc (.cells #[.int .i64 nx, .slice ao S.length c] 67)).alloc (.cells #[.int .i64 0, .slice none 0 0] 67)).alloc (.cells #[.int .i64 nx, .slice none 0 0] 67)).cell? ⟨w.heap.size, 1, none⟩ = some (.slice ao S.length c) := by rw [cell_row hp1]; rfl
  have y1 : (((w.alloc (.cells #[.int .i64 nx, .slice ao S.length c] 67)).alloc (.cells #[.int .i64 0, .slice none 0 0] 67)).alloc (.cells #[.int .i64 nx, .slice none 0 0] 67)).cell? ⟨w.heap.size + 1 + 1, 1, none⟩ = some (.slice none 0 0) := by rw [cell_row hq1]; rfl
  have z3 : w3.cell? ⟨w.heap.size + 1 + 1, 1, none⟩ = some (.slice none 0 0) := by rw [cell_row hq3]; rfl
  have zf : w3.frozen? ⟨w.heap.size + 1 + 1, 1, none⟩ = false := frozen_row hq3
  have HRUN := hide hrun
  have HRSZ : Hid (∀ W v, RSAt W v (withS S k d) → Calls Try.prog 46 #[v] W fun e w' => e = .returned (.int .i64 (tsize (withS S k d) : Nat)) ∧ w' = W) := fun W v h => rsize_any h htz
  clear h hd hrun hp1 hr1 hq1 hp3 hr3 hq3 hown hb3
  generalize hSL : S.length = L at *
  have hk := hk.symm
  subst hk
  go_enter Try.func35, Try.ntmps35
  have X1 := hide x1
  have Y1 := hide y1
  clear x1 y1
  go_upto_region 2 with fail
  generalize ((w.alloc (.cells #[.int .i64 nx, .slice ao L c] 67)).alloc (.cells #[.int .i64 0, .slice none 0 0] 67)).alloc (.cells #[.int .i64 nx, .slice none 0 0] 67) = w1 at *
  have x1 := X1.out
  have y1 := Y1.out
  go_upto_region 3 with (refine wpList_append_is rfl (.tmp 13) (.tmp 15) 65 rfl (.slice none 0 0) (.slice ao L c) _ rfl rfl HRUN.out ?_)
  clear x1 y1 z3 zf HRUN X1 Y1
  generalize w3.setCell ⟨w.heap.size + 1 + 1, 1, none⟩ (.slice a3 L c3) = w4 at *
  have x1 := HX4.out.c1
  have hbr := buildRec false { data := #[] } w4
  obtain ⟨a5, c5, w5, hrun, hbox5, hown5, hkeep⟩ := (HX4.out.below ((Below.refl _ _).alloc (Nat.le_refl _) (.cells #[.bool false, .string { data := #[] }] 71))).push (by omega) none _ (row_rec w4 none)
  have hsz4 : w4.heap.size < (w4.alloc (.cells #[.bool false, .string { data := #[] }] 71)).heap.size := by simp
  have hp5 := hkeep w.heap.size _ (by have := lt_of_heap HP4.out; omega) ((Below.heap_alloc _ _ _ (lt_of_heap HP4.out)).trans HP4.out)
  have hr5 := hkeep (w.heap.size + 1) _ (by have := lt_of_heap HR4.out; omega) ((Below.heap_alloc _ _ _ (lt_of_heap HR4.out)).trans HR4.out)
  have hrun : (Builtin.append_ #[65, 65] 65 #[.slice a3 L c3, .slice (some ⟨w4.heap.size, 0, none⟩) 1 1]).run Try.prog (w4.alloc (.cells #[.bool false, .string { data := #[] }] 71)) = .ok (.slice a5 (S.length + 1) c5) w5 := hrun
  rw [hSL] at hrun hown5
  have HRUN := hide hrun
  have HX6 := hide (RBox.put HX4.out.base hbox5 hown5)
  have z5 : w5.cell? ⟨w.heap.size + 1 + 1, 1, none⟩ = some (.slice a3 L c3) := by rw [cell_row hbox5]; rfl
  have zf : w5.frozen? ⟨w.heap.size + 1 + 1, 1, none⟩ = false := frozen_row hbox5
  have HP6 : Hid ((w5.setCell ⟨w.heap.size + 1 + 1, 1, none⟩ (.slice a5 (L + 1) c5)).heap[w.heap.size]? = some (.cells #[.int .i64 nx, .slice ao L c] 67 (0, 0))) := (Below.heap_setCell _ _ _ _ (by first | (simp; omega) | simp)).trans hp5
  have HR6 : Hid ((w5.setCell ⟨w.heap.size + 1 + 1, 1, none⟩ (.slice a5 (L + 1) c5)).heap[w.heap.size + 1]? = some (.cells zeroPg 67 (0, 0))) := (Below.heap_setCell _ _ _ _ (by first | (simp; omega) | simp)).trans hr5
  clear hrun hbox5 hown5 hp5 hr5 hkeep hsz4
  go_upto_region 5 with (refine wpList_append_is rfl (.tmp 24) (.tmp 26) 65 rfl (.slice a3 L c3) (.slice (some ⟨w4.heap.size, 0, none⟩) 1 1) _ rfl rfl HRUN.out ?_)
  clear z5 zf HRUN hbr x1 HX4 HP4 HR4
  generalize w5.setCell ⟨w.heap.size + 1 + 1, 1, none⟩ (.slice a5 (L + 1) c5) = w6 at *
  obtain ⟨G, cap, w7, hv, hst, hX7, hkp⟩ := HX6.out.set L (by simp [hSL]) (some d)
  rw [List.length_append, hSL] at hv
  injection hv with hv1 hv2 hv3
  subst hv1 hv3
  clear hv2
  have x1 := HX6.out.c1
  have hcv := run_str (HD.out.belowW HX6.out.bw)
  have HP7 := hide (hkp _ _ HP6.out)
  have HR7 := hide (hkp _ _ HR6.out)
  rw [← HWS.out] at hX7
  have HX7 := hide hX7
  have y1 := hX7.c1
  have y0 := hX7.c0
  have hst : (Instr.storeAt 71 (.pointer (some ⟨G, L * 2, none⟩)) (.agg #[.bool true, .string (strOf d)])).run Try.prog w6 = .ok () w7 := hst
  have HST := hide hst
  have p0 : w7.cell? ⟨w.heap.size, 0, none⟩ = some (.int .i64 nx) := by rw [cell_row HP7.out]; rfl
  have p1 : w7.cell? ⟨w.heap.size, 1, none⟩ = some (.slice ao L c) := by rw [cell_row HP7.out]; rfl
  clear hst hX7 hkp
  generalize hTT : tsize (withS S L d) = T at *
  generalize strOf d = sd at *
  generalize d.length = dl at *
  by_cases hT : 504 < T
  · have hTI : (504 : Int) < (T : Int) := by omega
    go_wp2_with (first | (refine wpList_store_in rfl 71 (.tmp 35) (.tmp 34) rfl rfl G (L * 2) [.bool true, .string sd] w7 rfl rfl HST.out ?_) | (go_at_call 46; refine (HRSZ.out _ _ HX7.out.own.at).mono ?_; rintro e W8 ⟨rfl, hw8⟩; have hw8 := hw8.symm; subst hw8) | (refine wpList_store_row rfl 67 _ _ rfl (w.heap.size + 1) #[.int .i64 nx, .slice ao L c] rfl rfl 67 _ HR7.out (Try.size67 rfl) rfl (one_pg _ _ _ _) ?_))
    refine bodyPost_ret (v := .tuple #[.agg #[.int .i64 nx, .slice ao L c], .int .i64 60]) (results_pg Try.results35 _ _ (w.heap.size + 1) 67 _ (0, 0) _ rfl (setRow_heap _ _ _ _ _ _ HR7.out) Try.underlying67 rfl (Try.size67 rfl)) rfl ?_
    refine ⟨below_setRow HX7.out.bw (by omega) _, ?_⟩
    rw [hTT, if_pos hT, hSL]
  · have hTI : ¬ ((504 : Int) < (T : Int)) := by omega
    go_wp2_with (first | (refine wpList_store_in rfl 71 (.tmp 35) (.tmp 34) rfl rfl G (L * 2) [.bool true, .string sd] w7 rfl rfl HST.out ?_) | (go_at_call 46; refine (HRSZ.out _ _ HX7.out.own.at).mono ?_; rintro e W8 ⟨rfl, hw8⟩; have hw8 := hw8.symm; subst hw8) | (refine wpList_store_row rfl 67 _ _ rfl (w.heap.size + 1) #[.int .i64 nx, .slice (some ⟨G, 0, none⟩) (L + 1) c5] rfl rfl 67 _ HR7.out (Try.size67 rfl) rfl (one_pg _ _ _ _) ?_))
    refine bodyPost_ret (v := .tuple #[.agg #[.int .i64 nx, .slice (some ⟨G, 0, none⟩) (L + 1) c5], .int .i64 0]) (results_pg Try.results35 _ _ (w.heap.size + 1) 67 _ (0, 0) _ rfl (setRow_heap _ _ _ _ _ _ HR7.out) Try.underlying67 rfl (Try.size67 rfl)) rfl ?_
    refine ⟨below_setRow HX7.out.bw (by omega) _, ?_⟩
    rw [hTT, if_neg hT, HLW.out]
    exact ⟨_, _, rfl, HX7.out.own.stay HR7.out (by decide) (by omega) ⟨rfl, rfl, rfl, by simp [World.setRow], fun kk hkk hn => setRow_other _ _ kk _ (by intro e; subst e; exact hn (by simp))⟩⟩
set_option maxHeartbeats 2000000 in
set_option maxRecDepth 100000 in
theorem with_set {w : World} {ao : Option Addr} {c : Nat} {S : List Slt} {dv : Value} {d : List UInt8} (h : RSAt w (.slice ao S.length c) S) (hd : Sl w dv d) (nx : Int) (k : Nat) (hk : k < S.length) (hS : S.length ≤ 200) (htz : tsize (withS S k d) ≤ 100000) :
    Calls Try.prog 35 #[.agg #[.int .i64 nx, .slice ao S.length c], .int .i64 (k : Int), dv] w fun e w' => WithEnd w nx S (withS S k d) ao c e w' := by
  have HD := hide hd
  obtain ⟨da, dc, rfl, _, _⟩ := hd.len
  have HRS := hide h
  have HWS : Hid (withS S k d = S.set k (some d)) := by unfold withS; rw [Hid, if_neg (by omega)]
  have HLW : Hid ((withS S k d).length = S.length) := by rw [Hid, HWS.out]; simp
  have hb1 : Below w.heap.size w (((w.alloc (.cells #[.int .i64 nx, .slice ao S.length c] 67)).alloc (.cells #[.int .i64 0, .slice none 0 0] 67)).alloc (.cells #[.int .i64 nx, .slice none 0 0] 67)) := (((Below.refl _ _).alloc (Nat.le_refl _) _).alloc (by simp) _).alloc (by simp; omega) _
  have hp1 : (((w.alloc (.cells #[.int .i64 nx, .slice ao S.length c] 67)).alloc (.cells #[.int .i64 0, .slice none 0 0] 67)).alloc (.cells #[.int .i64 nx, .slice none 0 0] 67)).heap[w.heap.size]? = some (.cells #[.int .i64 nx, .slice ao S.length c] 67 (0, 0)) := by
    rw [Below.heap_alloc _ _ _ (by simp; omega), Below.heap_alloc _ _ _ (by simp)]
    exact heap_alloc_new w _
  have hr1 : (((w.alloc (.cells #[.int .i64 nx, .slice ao S.length c] 67)).alloc (.cells #[.int .i64 0, .slice none 0 0] 67)).alloc (.cells #[.int .i64 nx, .slice none 0 0] 67)).heap[w.heap.size + 1]? = some (.cells zeroPg 67 (0, 0)) := by
    rw [Below.heap_alloc _ _ _ (by simp)]
    have := heap_alloc_new (w.alloc (.cells #[.int .i64 nx, .slice ao S.length c] 67)) (.cells #[.int .i64 0, .slice none 0 0] 67)
    rw [World.size_alloc] at this
    exact this
  have hq1 : (((w.alloc (.cells #[.int .i64 nx, .slice ao S.length c] 67)).alloc (.cells #[.int .i64 0, .slice none 0 0] 67)).alloc (.cells #[.int .i64 nx, .slice none 0 0] 67)).heap[w.heap.size + 1 + 1]? = some (.cells #[.int .i64 nx, .slice none 0 0] 67 (0, 0)) := by
    have := heap_alloc_new ((w.alloc (.cells #[.int .i64 nx, .slice ao S.length c] 67)).alloc (.cells #[.int .i64 0, .slice none 0 0] 67)) (.cells #[.int .i64 nx, .slice none 0 0] 67)
    rw [World.size_alloc, World.size_alloc] at this
    exact this
  obtain ⟨a3, c3, w3, hrun, hown, hb3⟩ := copy_slots hb1 (h.below hb1) (by omega)
  have hp3 := (hb3.block _ (lt_of_heap hp1)).trans hp1
  have hr3 := (hb3.block _ (lt_of_heap hr1)).trans hr1
  have hq3 := (hb3.block _ (lt_of_heap hq1)).trans hq1
  have HX4 := hide (RBox.put (nx := nx) (by omega) hq3 hown)
  have HP4 : Hid ((w3.setCell ⟨w.heap.size + 1 + 1, 1, none⟩ (.slice a3 S.length c3)).heap[w.heap.size]? = some (.cells #[.int .i64 nx, .slice ao S.length c] 67 (0, 0))) := (Below.heap_setCell _ _ _ _ (by first | (simp; omega) | simp)).trans hp3
  have HR4 : Hid ((w3.setCell ⟨w.heap.size + 1 + 1, 1, none⟩ (.slice a3 S.length c3)).heap[w.heap.size + 1]? = some (.cells zeroPg 67 (0, 0))) := (Below.heap_setCell _ _ _ _ (by first | (simp; omega) | simp)).trans hr3
  have x1 : (((w.alloc (.cells #[.int .i64 nx, .slice ao S.length c] 67)).alloc (.cells #[.int .i64 0, .slice none 0 0] 67)).alloc (.cells #[.int .i64 nx, .slice none 0 0] 67)).cell? ⟨w.heap.size, 1, none⟩ = some (.slice ao S.length c) := by rw [cell_row hp1]; rfl
  have y1 : (((w.alloc (.cells #[.int .i64 nx, .slice ao S.length c] 67)).alloc (.cells #[.int .i64 0, .slice none 0 0] 67)).alloc (.cells #[.int .i64 nx, .slice none 0 0] 67)).cell? ⟨w.heap.size + 1 + 1, 1, none⟩ = some (.slice none 0 0) := by rw [cell_row hq1]; rfl
  have z3 : w3.cell? ⟨w.heap.size + 1 + 1, 1, none⟩ = some (.slice none 0 0) := by rw [cell_row hq3]; rfl
  have zf : w3.frozen? ⟨w.heap.size + 1 + 1, 1, none⟩ = false := frozen_row hq3
  have HRUN := hide hrun
  have HRSZ : Hid (∀ W v, RSAt W v (withS S k d) → Calls Try.prog 46 #[v] W fun e w' => e = .returned (.int .i64 (tsize (withS S k d) : Nat)) ∧ w' = W) := fun W v h => rsize_any h htz
  clear h hd hrun hp1 hr1 hq1 hp3 hr3 hq3 hown hb3
  generalize hSL : S.length = L at *
  go_enter Try.func35, Try.ntmps35
  have X1 := hide x1
  have Y1 := hide y1
  clear x1 y1
  go_upto_region 2 with fail
  generalize ((w.alloc (.cells #[.int .i64 nx, .slice ao L c] 67)).alloc (.cells #[.int .i64 0, .slice none 0 0] 67)).alloc (.cells #[.int .i64 nx, .slice none 0 0] 67) = w1 at *
  have x1 := X1.out
  have y1 := Y1.out
  go_upto_region 3 with (refine wpList_append_is rfl (.tmp 13) (.tmp 15) 65 rfl (.slice none 0 0) (.slice ao L c) _ rfl rfl HRUN.out ?_)
  clear x1 y1 z3 zf HRUN X1 Y1
  generalize w3.setCell ⟨w.heap.size + 1 + 1, 1, none⟩ (.slice a3 L c3) = w4 at *
  have x1 := HX4.out.c1
  have hkI : ¬ ((k : Int) = (L : Int)) := by omega
  go_upto_region 5 with fail
  clear hkI
  obtain ⟨G, cap, w7, hv, hst, hX7, hkp⟩ := HX4.out.set k (by omega) (some d)
  rw [hSL] at hv
  injection hv with hv1 hv2 hv3
  subst hv1 hv3
  clear hv2
  have hcv := run_str (HD.out.belowW HX4.out.bw)
  have HP7 := hide (hkp _ _ HP4.out)
  have HR7 := hide (hkp _ _ HR4.out)
  rw [← HWS.out] at hX7
  have hkl : k < L := by omega
  have HX7 := hide hX7
  have y1 := hX7.c1
  have y0 := hX7.c0
  have hst : (Instr.storeAt 71 (.pointer (some ⟨G, k * 2, none⟩)) (.agg #[.bool true, .string (strOf d)])).run Try.prog w4 = .ok () w7 := hst
  have HST := hide hst
  have p0 : w7.cell? ⟨w.heap.size, 0, none⟩ = some (.int .i64 nx) := by rw [cell_row HP7.out]; rfl
  have p1 : w7.cell? ⟨w.heap.size, 1, none⟩ = some (.slice ao L c) := by rw [cell_row HP7.out]; rfl
  clear hst hX7 hkp
  generalize hTT : tsize (withS S k d) = T at *
  generalize strOf d = sd at *
  generalize d.length = dl at *
  by_cases hT : 504 < T
  · have hTI : (504 : Int) < (T : Int) := by omega
    go_wp2_with (first | (refine wpList_store_in rfl 71 (.tmp 35) (.tmp 34) rfl rfl G (k * 2) [.bool true, .string sd] w7 rfl rfl HST.out ?_) | (go_at_call 46; refine (HRSZ.out _ _ HX7.out.own.at).mono ?_; rintro e W8 ⟨rfl, hw8⟩; have hw8 := hw8.symm; subst hw8) | (refine wpList_store_row rfl 67 _ _ rfl (w.heap.size + 1) #[.int .i64 nx, .slice ao L c] rfl rfl 67 _ HR7.out (Try.size67 rfl) rfl (one_pg _ _ _ _) ?_))
    refine bodyPost_ret (v := .tuple #[.agg #[.int .i64 nx, .slice ao L c], .int .i64 60]) (results_pg Try.results35 _ _ (w.heap.size + 1) 67 _ (0, 0) _ rfl (setRow_heap _ _ _ _ _ _ HR7.out) Try.underlying67 rfl (Try.size67 rfl)) rfl ?_
    refine ⟨below_setRow HX7.out.bw (by omega) _, ?_⟩
    rw [hTT, if_pos hT, hSL]
  · have hTI : ¬ ((504 : Int) < (T : Int)) := by omega
    go_wp2_with (first | (refine wpList_store_in rfl 71 (.tmp 35) (.tmp 34) rfl rfl G (k * 2) [.bool true, .string sd] w7 rfl rfl HST.out ?_) | (go_at_call 46; refine (HRSZ.out _ _ HX7.out.own.at).mono ?_; rintro e W8 ⟨rfl, hw8⟩; have hw8 := hw8.symm; subst hw8) | (refine wpList_store_row rfl 67 _ _ rfl (w.heap.size + 1) #[.int .i64 nx, .slice (some ⟨G, 0, none⟩) L c3] rfl rfl 67 _ HR7.out (Try.size67 rfl) rfl (one_pg _ _ _ _) ?_))
    refine bodyPost_ret (v := .tuple #[.agg #[.int .i64 nx, .slice (some ⟨G, 0, none⟩) L c3], .int .i64 0]) (results_pg Try.results35 _ _ (w.heap.size + 1) 67 _ (0, 0) _ rfl (setRow_heap _ _ _ _ _ _ HR7.out) Try.underlying67 rfl (Try.size67 rfl)) rfl ?_
    refine ⟨below_setRow HX7.out.bw (by omega) _, ?_⟩
    rw [hTT, if_neg hT, HLW.out]
    exact ⟨_, _, rfl, HX7.out.own.stay HR7.out (by decide) (by omega) ⟨rfl, rfl, rfl, by simp [World.setRow], fun kk hkk hn => setRow_other _ _ kk _ (by intro e; subst e; exact hn (by simp))⟩⟩
theorem with_any {w : World} {ao : Option Addr} {c : Nat} {S : List Slt} {dv : Value} {d : List UInt8} (h : RSAt w (.slice ao S.length c) S) (hd : Sl w dv d) (nx : Int) (k : Nat) (hk : k ≤ S.length) (hS : S.length ≤ 200) (htz : tsize (withS S k d) ≤ 100000) :
    Calls Try.prog 35 #[.agg #[.int .i64 nx, .slice ao S.length c], .int .i64 (k : Int), dv] w fun e w' => WithEnd w nx S (withS S k d) ao c e w' := by
  by_cases hkl : k = S.length
  · exact with_app h hd nx k hkl hS htz
  · exact with_set h hd nx k (by omega) hS htz
end Go.Proofs.Ytdddeneppciiiaa
