/- The document's answer: Encode. -/
import Derived.Test.YtmfiafdhflaafaaRefN
namespace Go.Proofs.Ytmfiafdhflaafaa
open Go.RowKit
set_option linter.unusedVariables false
set_option linter.unusedSimpArgs false

theorem EncAt.grow {w a b : World} {q : Nat} {C : Array Value} {v v' : Value} {B more : List UInt8} {m : Nat} (h : EncAt w a q C v B) (hm : more.length = m) (ho : b.ownsRow w.heap.size 5 1 v' (B.length + m) (secCells B ++ secCells more)) (hg : a.grownBy b v.ownBlock) : EncAt w b q C v' (B ++ more) := by
  refine h.keeps (Keeps.grown h.own hg) ?_
  rw [List.length_append, secCells_append, hm]
  exact ho
theorem EncAt.later {w a b : World} {q : Nat} {C : Array Value} {v : Value} {B : List UInt8} (h : EncAt w a q C v B) (hb : Below a.heap.size a b) : EncAt w b q C v B :=
  h.keeps (Keeps.of_below hb) (owns_below h.own hb (Nat.le_refl _))
theorem encRef_parts (R : Rc) : encNums [((encNums [R.kind, R.txn, R.prev, R.next, R.page, R.off, (R.before.length : Int)] ++ R.before ++ num (R.after.length : Int) ++ R.after ++ num (R.txns.length : Int) ++ encTxs R.txns ++ num (R.dirty.length : Int) ++ encDts R.dirty ++ num R.count).length : Int)] ++ (encNums [R.kind, R.txn, R.prev, R.next, R.page, R.off, (R.before.length : Int)] ++ R.before ++ num (R.after.length : Int) ++ R.after ++ num (R.txns.length : Int) ++ encTxs R.txns ++ num (R.dirty.length : Int) ++ encDts R.dirty ++ num R.count) = R.enc := by
  have e : encNums [R.kind, R.txn, R.prev, R.next, R.page, R.off, (R.before.length : Int)] ++ R.before ++ num (R.after.length : Int) ++ R.after ++ num (R.txns.length : Int) ++ encTxs R.txns ++ num (R.dirty.length : Int) ++ encDts R.dirty ++ num R.count = R.body := by
    simp [Rc.body, Rc.head, encNums, encBytes]
  rw [e]
  simp [Rc.enc, encNums]
theorem Try.enters28 (args : Array Value) (w : World) : (callFunc 28 args).run Try.prog w = .ok (.enter 28 args) w := by kernel_rfl

set_option maxHeartbeats 4000000 in
set_option maxRecDepth 100000 in
theorem refEncode_any {w : World} {V : Value} {R : Rc} (hV : RecVal w V R) (hs : R.size ≤ 100000000000) (hwf : R.wf) :
    Calls Try.prog 14 #[V] w fun e w' => ∃ v, e = .returned v ∧ w'.ownsRow w.heap.size 5 1 v R.enc.length (secCells R.enc) ∧ Below w.heap.size w w' := by
  have hv0 := hV
  obtain ⟨vb, va, vt, vd, rfl, h1, h2, h3, h4⟩ := hV
  obtain ⟨ab, cb, rfl, b1, b2⟩ := h1.len
  obtain ⟨aa, ca, rfl, a1, a2⟩ := h2.len
  obtain ⟨at', ct, rfl, t1, t2⟩ := h3.len
  obtain ⟨ad, cd, rfl, d1, d2⟩ := h4.len
  have hs' : 96 + R.before.length + R.after.length + 24 * R.txns.length + 16 * R.dirty.length ≤ 100000000000 := hs
  simp only [maxLen] at b2 a2 t2 d2
  have HSS := hide hs'
  have H1 := hide h1
  have H2 := hide h2
  have H3 := hide h3
  have H4 := hide h4
  have HWF := hide hwf
  have hwh := hwf.head
  have hl1 : (R.before.length : Int) ≤ 100000000000 := by omega
  have hl2 : (R.after.length : Int) ≤ 100000000000 := by omega
  have hl3 : (R.txns.length : Int) ≤ 100000000000 := by omega
  have hl4 : (R.dirty.length : Int) ≤ 100000000000 := by omega
  have hb1 : Below w.heap.size w (w.alloc (.cells #[.int .i64 R.kind, .int .i64 R.txn, .int .i64 R.prev, .int .i64 R.next, .int .i64 R.page, .int .i64 R.off, .slice ab R.before.length cb, .slice aa R.after.length ca, .slice at' R.txns.length ct, .slice ad R.dirty.length cd, .int .i64 R.count] 28)) := (Below.refl _ w).alloc (Nat.le_refl _) _
  have hq1 : (w.alloc (.cells #[.int .i64 R.kind, .int .i64 R.txn, .int .i64 R.prev, .int .i64 R.next, .int .i64 R.page, .int .i64 R.off, .slice ab R.before.length cb, .slice aa R.after.length ca, .slice at' R.txns.length ct, .slice ad R.dirty.length cd, .int .i64 R.count] 28)).heap[w.heap.size]? = some (.cells #[.int .i64 R.kind, .int .i64 R.txn, .int .i64 R.prev, .int .i64 R.next, .int .i64 R.page, .int .i64 R.off, .slice ab R.before.length cb, .slice aa R.after.length ca, .slice at' R.txns.length ct, .slice ad R.dirty.length cd, .int .i64 R.count] 28 (0, 0)) := heap_alloc_new _ _
  have hb2 : Below (w.alloc (.cells #[.int .i64 R.kind, .int .i64 R.txn, .int .i64 R.prev, .int .i64 R.next, .int .i64 R.page, .int .i64 R.off, .slice ab R.before.length cb, .slice aa R.after.length ca, .slice at' R.txns.length ct, .slice ad R.dirty.length cd, .int .i64 R.count] 28)).heap.size (w.alloc (.cells #[.int .i64 R.kind, .int .i64 R.txn, .int .i64 R.prev, .int .i64 R.next, .int .i64 R.page, .int .i64 R.off, .slice ab R.before.length cb, .slice aa R.after.length ca, .slice at' R.txns.length ct, .slice ad R.dirty.length cd, .int .i64 R.count] 28)) ((w.alloc (.cells #[.int .i64 R.kind, .int .i64 R.txn, .int .i64 R.prev, .int .i64 R.next, .int .i64 R.page, .int .i64 R.off, .slice ab R.before.length cb, .slice aa R.after.length ca, .slice at' R.txns.length ct, .slice ad R.dirty.length cd, .int .i64 R.count] 28)).alloc (.cells (intCells [R.kind, R.txn, R.prev, R.next, R.page, R.off, (R.before.length : Int)]).toArray 3)) := (Below.refl _ _).alloc (Nat.le_refl _) _
  have HC1 := hide (refAll_any (heap_alloc_new (w.alloc (.cells #[.int .i64 R.kind, .int .i64 R.txn, .int .i64 R.prev, .int .i64 R.next, .int .i64 R.page, .int .i64 R.off, .slice ab R.before.length cb, .slice aa R.after.length ca, .slice at' R.txns.length ct, .slice ad R.dirty.length cd, .int .i64 R.count] 28)) (.cells (intCells [R.kind, R.txn, R.prev, R.next, R.page, R.off, (R.before.length : Int)]).toArray 3)) (by simp) (by
    intro x hx
    by_cases hxe : x = (R.before.length : Int)
    · subst hxe; omega
    · refine hwh x ?_
      simp [Rc.head]
      simp at hx
      omega))
  rw [show (w.alloc (.cells #[.int .i64 R.kind, .int .i64 R.txn, .int .i64 R.prev, .int .i64 R.next, .int .i64 R.page, .int .i64 R.off, .slice ab R.before.length cb, .slice aa R.after.length ca, .slice at' R.txns.length ct, .slice ad R.dirty.length cd, .int .i64 R.count] 28)).heap.size = w.heap.size + 1 by simp] at HC1
  have HB12 : Hid (Below w.heap.size w ((w.alloc (.cells #[.int .i64 R.kind, .int .i64 R.txn, .int .i64 R.prev, .int .i64 R.next, .int .i64 R.page, .int .i64 R.off, .slice ab R.before.length cb, .slice aa R.after.length ca, .slice at' R.txns.length ct, .slice ad R.dirty.length cd, .int .i64 R.count] 28)).alloc (.cells (intCells [R.kind, R.txn, R.prev, R.next, R.page, R.off, (R.before.length : Int)]).toArray 3))) := hb1.trans (hb2.mono hb1.size)
  have HQ2 : Hid (((w.alloc (.cells #[.int .i64 R.kind, .int .i64 R.txn, .int .i64 R.prev, .int .i64 R.next, .int .i64 R.page, .int .i64 R.off, .slice ab R.before.length cb, .slice aa R.after.length ca, .slice at' R.txns.length ct, .slice ad R.dirty.length cd, .int .i64 R.count] 28)).alloc (.cells (intCells [R.kind, R.txn, R.prev, R.next, R.page, R.off, (R.before.length : Int)]).toArray 3)).heap[w.heap.size]? = some (.cells #[.int .i64 R.kind, .int .i64 R.txn, .int .i64 R.prev, .int .i64 R.next, .int .i64 R.page, .int .i64 R.off, .slice ab R.before.length cb, .slice aa R.after.length ca, .slice at' R.txns.length ct, .slice ad R.dirty.length cd, .int .i64 R.count] 28 (0, 0))) := (hb2.block _ (lt_of_heap hq1)).trans hq1
  clear h1 h2 h3 h4 hs hs' hwf hwh hv0 hb1 hq1 hb2
  unfold recCells
  go_enter Try.func14, Try.ntmps14
  go_wp2_with fail
  refine HC1.out.mono ?_
  rintro e w2 ⟨v2, rfl, ho2, hb2⟩
  have A2 : EncAt w w2 w.heap.size #[.int .i64 R.kind, .int .i64 R.txn, .int .i64 R.prev, .int .i64 R.next, .int .i64 R.page, .int .i64 R.off, .slice ab R.before.length cb, .slice aa R.after.length ca, .slice at' R.txns.length ct, .slice ad R.dirty.length cd, .int .i64 R.count] v2 (encNums [R.kind, R.txn, R.prev, R.next, R.page, R.off, (R.before.length : Int)]) := ⟨HB12.out.trans (hb2.mono HB12.out.size), (hb2.block _ (lt_of_heap HQ2.out)).trans HQ2.out, owns_mono ho2 HB12.out.size⟩
  have HL2 : Hid ((encNums [R.kind, R.txn, R.prev, R.next, R.page, R.off, (R.before.length : Int)]).length = 56) := by show _ = _; rw [length_encNums]; rfl
  clear HC1 HB12 HQ2 ho2 hb2
  obtain ⟨q, hq⟩ : ∃ q, w.heap.size = q := ⟨_, rfl⟩
  have A2 : EncAt w w2 q #[.int .i64 R.kind, .int .i64 R.txn, .int .i64 R.prev, .int .i64 R.next, .int .i64 R.page, .int .i64 R.off, .slice ab R.before.length cb, .slice aa R.after.length ca, .slice at' R.txns.length ct, .slice ad R.dirty.length cd, .int .i64 R.count] v2 (encNums [R.kind, R.txn, R.prev, R.next, R.page, R.off, (R.before.length : Int)]) := by rw [← hq]; exact A2
  rw [hq]
  clear hq
  generalize hB2 : encNums [R.kind, R.txn, R.prev, R.next, R.page, R.off, (R.before.length : Int)] = B2 at *
  have HB2 := hide hB2
  clear hB2
  have HA2 := hide A2
  obtain ⟨e2, f2, hv2⟩ := A2.len
  have kk2 : w2.cell? ⟨q, 6, none⟩ = some (.slice ab R.before.length cb) := by rw [cell_row A2.rec_]; rfl
  have HROW2 : Hid (Row w2 (.slice ab R.before.length cb) R.before.length (secCells R.before)) := H1.out.below A2.below (Nat.le_refl _)
  have HM2 : Hid ((secCells R.before).length = R.before.length * 1) := by show _ = _; rw [length_secCells]; omega
  have HN2 : Hid (B2.length + R.before.length ≤ 140737488355328) := by have := HL2.out; have := HSS.out; show _ ≤ _; omega
  have HNN2 : Hid ((B2.length + R.before.length) * 1 ≤ 140737488355328) := by have := HL2.out; have := HSS.out; show _ ≤ _; omega
  subst hv2
  clear A2
  go_wp2_with (first
    | (refine wpList_append_row rfl (.tmp 23) (.tmp 25) 23 rfl w.heap.size 5 _ 1 1 Try.underlying23 Try.info5 rfl (by omega) _ _ _ _ _ _ rfl rfl HA2.out.own HROW2.out HM2.out (one_secCells _) HNN2.out HN2.out HA2.out.below.size ?_
       intro v3 w3 ho3 hg3
       have A3 := HA2.out.grow (more := R.before) rfl ho3 hg3
       clear ho3 hg3
       have HL3 : Hid ((B2 ++ R.before).length = 56 + R.before.length) := by show _ = _; rw [List.length_append, HL2.out] <;> omega
       generalize hB3 : B2 ++ R.before = B3 at *
       have HB3 := hide hB3
       clear hB3
       have HA3 := hide A3
       obtain ⟨e3, f3, hv3⟩ := A3.len
       have kk3 : w3.cell? ⟨q, 7, none⟩ = some (.slice aa R.after.length ca) := by rw [cell_row A3.rec_]; rfl
       have HC3 := hide (refNumber_any (R.after.length : Int) (by omega) w3)
       have HN3 : Hid (B3.length + 8 ≤ 140737488355328) := by have := HL3.out; have := HSS.out; show _ ≤ _; omega
       have HNN3 : Hid ((B3.length + 8) * 1 ≤ 140737488355328) := by have := HL3.out; have := HSS.out; show _ ≤ _; omega
       have HM3 : Hid ((secCells (num (R.after.length : Int))).length = 8 * 1) := by show _ = _; rw [length_secCells, length_num]
       subst hv3
       clear A3)
    | fail)
  refine HC3.out.mono ?_
  rintro e u3 ⟨x3, rfl, ho3, hb3⟩
  have HAA3 := hide (HA3.out.later hb3)
  have HROW3 := hide (Row.of_owns ho3)
  obtain ⟨y3, z3, hx3⟩ := owns_len ho3
  clear ho3 hb3 HC3 kk3 HA3
  subst hx3
  go_wp2_with (first
    | (refine wpList_append_row rfl (.tmp 27) (.tmp 31) 23 rfl w.heap.size 5 _ 1 1 Try.underlying23 Try.info5 rfl (by omega) _ _ _ _ _ _ rfl rfl HAA3.out.own HROW3.out HM3.out (one_secCells _) HNN3.out HN3.out HAA3.out.below.size ?_
       intro v4 w4 ho4 hg4
       have A4 := HAA3.out.grow (more := num (R.after.length : Int)) (length_num _) ho4 hg4
       clear ho4 hg4
       have HL4 : Hid ((B3 ++ num (R.after.length : Int)).length = 56 + R.before.length + 8) := by show _ = _; rw [List.length_append, HL3.out, length_num]
       generalize hB4 : B3 ++ num (R.after.length : Int) = B4 at *
       have HB4 := hide hB4
       clear hB4
       have HA4 := hide A4
       obtain ⟨e4, f4, hv4⟩ := A4.len
       have kk4 : w4.cell? ⟨q, 7, none⟩ = some (.slice aa R.after.length ca) := by rw [cell_row A4.rec_]; rfl
       have HROW4 : Hid (Row w4 (.slice aa R.after.length ca) R.after.length (secCells R.after)) := H2.out.below A4.below (Nat.le_refl _)
       have HM4 : Hid ((secCells R.after).length = R.after.length * 1) := by show _ = _; rw [length_secCells]; omega
       have HN4 : Hid (B4.length + R.after.length ≤ 140737488355328) := by have := HL4.out; have := HSS.out; show _ ≤ _; omega
       have HNN4 : Hid ((B4.length + R.after.length) * 1 ≤ 140737488355328) := by have := HL4.out; have := HSS.out; show _ ≤ _; omega
       subst hv4
       clear A4)
    | (refine wpList_append_row rfl (.tmp 33) (.tmp 35) 23 rfl w.heap.size 5 _ 1 1 Try.underlying23 Try.info5 rfl (by omega) _ _ _ _ _ _ rfl rfl HA4.out.own HROW4.out HM4.out (one_secCells _) HNN4.out HN4.out HA4.out.below.size ?_
       intro v5 w5 ho5 hg5
       have A5 := HA4.out.grow (more := R.after) rfl ho5 hg5
       clear ho5 hg5
       have HL5 : Hid ((B4 ++ R.after).length = 56 + R.before.length + 8 + R.after.length) := by show _ = _; rw [List.length_append, HL4.out] <;> omega
       generalize hB5 : B4 ++ R.after = B5 at *
       have HB5 := hide hB5
       clear hB5
       have HA5 := hide A5
       obtain ⟨e5, f5, hv5⟩ := A5.len
       have kk5 : w5.cell? ⟨q, 8, none⟩ = some (.slice at' R.txns.length ct) := by rw [cell_row A5.rec_]; rfl
       have HC5 := hide (refNumber_any (R.txns.length : Int) (by omega) w5)
       have HN5 : Hid (B5.length + 8 ≤ 140737488355328) := by have := HL5.out; have := HSS.out; show _ ≤ _; omega
       have HNN5 : Hid ((B5.length + 8) * 1 ≤ 140737488355328) := by have := HL5.out; have := HSS.out; show _ ≤ _; omega
       have HM5 : Hid ((secCells (num (R.txns.length : Int))).length = 8 * 1) := by show _ = _; rw [length_secCells, length_num]
       subst hv5
       clear A5)
    | fail)
  refine HC5.out.mono ?_
  rintro e u5 ⟨x5, rfl, ho5, hb5⟩
  have HAA5 := hide (HA5.out.later hb5)
  have HROW5 := hide (Row.of_owns ho5)
  obtain ⟨y5, z5, hx5⟩ := owns_len ho5
  clear ho5 hb5 HC5 kk5 HA5
  subst hx5
  go_wp2_with (first
    | (refine wpList_append_row rfl (.tmp 37) (.tmp 41) 23 rfl w.heap.size 5 _ 1 1 Try.underlying23 Try.info5 rfl (by omega) _ _ _ _ _ _ rfl rfl HAA5.out.own HROW5.out HM5.out (one_secCells _) HNN5.out HN5.out HAA5.out.below.size ?_
       intro v6 w6 ho6 hg6
       have A6 := HAA5.out.grow (more := num (R.txns.length : Int)) (length_num _) ho6 hg6
       clear ho6 hg6
       have HL6 : Hid ((B5 ++ num (R.txns.length : Int)).length = 56 + R.before.length + 8 + R.after.length + 8) := by show _ = _; rw [List.length_append, HL5.out, length_num]
       generalize hB6 : B5 ++ num (R.txns.length : Int) = B6 at *
       have HB6 := hide hB6
       clear hB6
       have HA6 := hide A6
       obtain ⟨e6, f6, hv6⟩ := A6.len
       subst hv6
       clear A6)
    | fail)
  go_loopw [3, 4] (fun b i wr => ∃ j : Nat, j ≤ R.txns.length ∧ i = .int .i64 j ∧ EncAt w wr q #[.int .i64 R.kind, .int .i64 R.txn, .int .i64 R.prev, .int .i64 R.next, .int .i64 R.page, .int .i64 R.off, .slice ab R.before.length cb, .slice aa R.after.length ca, .slice at' R.txns.length ct, .slice ad R.dirty.length cd, .int .i64 R.count] b (B6 ++ encTxs (R.txns.take j))) (fun _ i _ => R.txns.length - (intOf i).toNat)
  case atStart => exact ⟨0, by omega, rfl, by simpa [encTxs] using HA6.out⟩
  case round =>
    obtain ⟨j, hj, rfl, A⟩ := hrel
    have k8 : wr.cell? ⟨q, 8, none⟩ = some (.slice at' R.txns.length ct) := by rw [cell_row A.rec_]; rfl
    obtain ⟨av, cv, hvj⟩ := A.len
    by_cases hlt : j < R.txns.length
    · obtain ⟨gt, ot, eat, hgt, t0', t1', t2'⟩ := tx_at H3.out j hlt
      have x0 := ((A.below).cell (p := ⟨gt, ot + j * 3, none⟩) hgt).trans t0'
      have x1 := ((A.below).cell (p := ⟨gt, ot + j * 3 + 1, none⟩) hgt).trans t1'
      have x2 := ((A.below).cell (p := ⟨gt, ot + j * 3 + 2, none⟩) hgt).trans t2'
      have HE : Hid (B6 ++ encTxs (R.txns.take (j + 1)) = (B6 ++ encTxs (R.txns.take j)) ++ encNums [(R.txns.getD j (0, 0, 0)).1, (R.txns.getD j (0, 0, 0)).2.1, (R.txns.getD j (0, 0, 0)).2.2]) := by
        show _ = _
        have e : R.txns.getD j (0, 0, 0) = R.txns[j] := by simp [hlt]
        rw [e, List.take_succ_eq_append_getElem hlt, encTxs_snoc, List.append_assoc]
      have HLL : Hid ((B6 ++ encTxs (R.txns.take j)).length ≤ 1000000000000) := by show _ ≤ _; rw [List.length_append, HL6.out, length_encTxs, List.length_take]; have := HSS.out; omega
      have hwx := HWF.out.txns (R.txns.getD j (0, 0, 0)) (by simp [hlt])
      generalize R.txns.getD j (0, 0, 0) = X at *
      obtain ⟨xa, xb, xc⟩ := X
      have hwx : ∀ x ∈ [xa, xb, xc], -9223372036854775808 ≤ x ∧ x ≤ 9223372036854775807 := hwx
      have HA := hide A
      have hgr : gt < wr.heap.size := Nat.lt_of_lt_of_le hgt A.below.size
      have hql : q < wr.heap.size := lt_of_heap A.rec_
      have HWS := hide A.below.size
      have HWX := hide hwx
      clear A t0' t1' t2' HA6 hwx
      generalize B6 ++ encTxs (R.txns.take j) = B at *
      obtain ⟨L, hL⟩ : ∃ L, B.length = L := ⟨_, rfl⟩
      rw [hL] at hvj
      have HL := hide hL
      clear hL
      subst hvj eat
      go_wp2
      refine wp_region_held_drew (S := fun w' => w'.cell? ⟨q, 8, none⟩ = some (.slice (some ⟨gt, ot, none⟩) R.txns.length ct) ∧ w'.cell? ⟨gt, ot + j * 3, none⟩ = some (.int .i64 xa) ∧ w'.cell? ⟨gt, ot + j * 3 + 1, none⟩ = some (.int .i64 xb) ∧ w'.cell? ⟨gt, ot + j * 3 + 2, none⟩ = some (.int .i64 xc)) (by kernel_rfl) ⟨k8, x0, x1, x2⟩ (fun hH => ?_)
      refine take_to 0 50 (.slice av L cv) rfl (by kernel_rfl) (by kernel_rfl) (by kernel_rfl) (fun _ _ _ h => h) rfl (by rfl) (fun w _ => by rfl) hH ?_
      simp only [Act.put, List.setIfInBounds_toArray, List.set_cons_zero, List.set_cons_succ]
      refine take_to 1 51 (.pointer (some ⟨q, 8, none⟩)) rfl (by kernel_rfl) (by kernel_rfl) (by kernel_rfl) (fun _ _ _ h => h) rfl (by rfl) (fun w _ => by kernel_rfl) hH ?_
      simp only [Act.put, List.setIfInBounds_toArray, List.set_cons_zero, List.set_cons_succ]
      refine take_to 2 52 (.slice (some ⟨gt, ot, none⟩) R.txns.length ct) rfl (by kernel_rfl) (by kernel_rfl) (by kernel_rfl) (fun _ _ _ h => h) rfl (by rfl) (fun W hW => by exact load_next25 W q 8 _ hW.1) hH ?_
      simp only [Act.put, List.setIfInBounds_toArray, List.set_cons_zero, List.set_cons_succ]
      refine take_to 3 53 (.int .i64 (j : Int)) rfl (by kernel_rfl) (by kernel_rfl) (by kernel_rfl) (fun _ _ _ h => h) rfl (by rfl) (fun w _ => by rfl) hH ?_
      simp only [Act.put, List.setIfInBounds_toArray, List.set_cons_zero, List.set_cons_succ]
      refine take_to 4 54 (.pointer (some ⟨gt, ot + j * 3, none⟩)) rfl (by kernel_rfl) (by kernel_rfl) (by kernel_rfl) (fun _ _ _ h => h) rfl (by rfl) (fun W _ => by exact index_next25 W gt ot R.txns.length _ j hlt) hH ?_
      simp only [Act.put, List.setIfInBounds_toArray, List.set_cons_zero, List.set_cons_succ]
      refine take_to 5 55 (.pointer (some ⟨gt, ot + j * 3, none⟩)) rfl (by kernel_rfl) (by kernel_rfl) (by kernel_rfl) (fun _ _ _ h => h) rfl (by rfl) (fun w _ => by kernel_rfl) hH ?_
      simp only [Act.put, List.setIfInBounds_toArray, List.set_cons_zero, List.set_cons_succ]
      refine take_to 6 56 (.int .i64 xa) rfl (by kernel_rfl) (by kernel_rfl) (by kernel_rfl) (fun _ _ _ h => h) rfl (by rfl) (fun W hW => by exact load_next3 W gt (ot + j * 3) _ (hW.2.1)) hH ?_
      simp only [Act.put, List.setIfInBounds_toArray, List.set_cons_zero, List.set_cons_succ]
      refine take_to 7 57 (.pointer (some ⟨q, 8, none⟩)) rfl (by kernel_rfl) (by kernel_rfl) (by kernel_rfl) (fun _ _ _ h => h) rfl (by rfl) (fun w _ => by kernel_rfl) hH ?_
      simp only [Act.put, List.setIfInBounds_toArray, List.set_cons_zero, List.set_cons_succ]
      refine take_to 8 58 (.slice (some ⟨gt, ot, none⟩) R.txns.length ct) rfl (by kernel_rfl) (by kernel_rfl) (by kernel_rfl) (fun _ _ _ h => h) rfl (by rfl) (fun W hW => by exact load_next25 W q 8 _ hW.1) hH ?_
      simp only [Act.put, List.setIfInBounds_toArray, List.set_cons_zero, List.set_cons_succ]
      refine take_to 9 59 (.int .i64 (j : Int)) rfl (by kernel_rfl) (by kernel_rfl) (by kernel_rfl) (fun _ _ _ h => h) rfl (by rfl) (fun w _ => by rfl) hH ?_
      simp only [Act.put, List.setIfInBounds_toArray, List.set_cons_zero, List.set_cons_succ]
      refine take_to 10 60 (.pointer (some ⟨gt, ot + j * 3, none⟩)) rfl (by kernel_rfl) (by kernel_rfl) (by kernel_rfl) (fun _ _ _ h => h) rfl (by rfl) (fun W _ => by exact index_next25 W gt ot R.txns.length _ j hlt) hH ?_
      simp only [Act.put, List.setIfInBounds_toArray, List.set_cons_zero, List.set_cons_succ]
      refine take_to 11 61 (.pointer (some ⟨gt, ot + j * 3 + 1, none⟩)) rfl (by kernel_rfl) (by kernel_rfl) (by kernel_rfl) (fun _ _ _ h => h) rfl (by rfl) (fun w _ => by kernel_rfl) hH ?_
      simp only [Act.put, List.setIfInBounds_toArray, List.set_cons_zero, List.set_cons_succ]
      refine take_to 12 62 (.int .i64 xb) rfl (by kernel_rfl) (by kernel_rfl) (by kernel_rfl) (fun _ _ _ h => h) rfl (by rfl) (fun W hW => by exact load_next3 W gt (ot + j * 3 + 1) _ (hW.2.2.1)) hH ?_
      simp only [Act.put, List.setIfInBounds_toArray, List.set_cons_zero, List.set_cons_succ]
      refine take_to 13 63 (.pointer (some ⟨q, 8, none⟩)) rfl (by kernel_rfl) (by kernel_rfl) (by kernel_rfl) (fun _ _ _ h => h) rfl (by rfl) (fun w _ => by kernel_rfl) hH ?_
      simp only [Act.put, List.setIfInBounds_toArray, List.set_cons_zero, List.set_cons_succ]
      refine take_to 14 64 (.slice (some ⟨gt, ot, none⟩) R.txns.length ct) rfl (by kernel_rfl) (by kernel_rfl) (by kernel_rfl) (fun _ _ _ h => h) rfl (by rfl) (fun W hW => by exact load_next25 W q 8 _ hW.1) hH ?_
      simp only [Act.put, List.setIfInBounds_toArray, List.set_cons_zero, List.set_cons_succ]
      refine take_to 15 65 (.int .i64 (j : Int)) rfl (by kernel_rfl) (by kernel_rfl) (by kernel_rfl) (fun _ _ _ h => h) rfl (by rfl) (fun w _ => by rfl) hH ?_
      simp only [Act.put, List.setIfInBounds_toArray, List.set_cons_zero, List.set_cons_succ]
      refine take_to 16 66 (.pointer (some ⟨gt, ot + j * 3, none⟩)) rfl (by kernel_rfl) (by kernel_rfl) (by kernel_rfl) (fun _ _ _ h => h) rfl (by rfl) (fun W _ => by exact index_next25 W gt ot R.txns.length _ j hlt) hH ?_
      simp only [Act.put, List.setIfInBounds_toArray, List.set_cons_zero, List.set_cons_succ]
      refine take_to 17 67 (.pointer (some ⟨gt, ot + j * 3 + 2, none⟩)) rfl (by kernel_rfl) (by kernel_rfl) (by kernel_rfl) (fun _ _ _ h => h) rfl (by rfl) (fun w _ => by kernel_rfl) hH ?_
      simp only [Act.put, List.setIfInBounds_toArray, List.set_cons_zero, List.set_cons_succ]
      refine take_to 18 68 (.int .i64 xc) rfl (by kernel_rfl) (by kernel_rfl) (by kernel_rfl) (fun _ _ _ h => h) rfl (by rfl) (fun W hW => by exact load_next3 W gt (ot + j * 3 + 2) _ (hW.2.2.2)) hH ?_
      simp only [Act.put, List.setIfInBounds_toArray, List.set_cons_zero, List.set_cons_succ]
      have hbd : Below wr.heap.size wr (wr.drew.alloc (.cells (intCells [xa, xb, xc]).toArray 3)) := ((Below.refl _ wr).drew).alloc (Nat.le_refl _) _
      have hSB : ∀ W : World, Below wr.heap.size wr W → W.cell? ⟨q, 8, none⟩ = some (.slice (some ⟨gt, ot, none⟩) R.txns.length ct) ∧ W.cell? ⟨gt, ot + j * 3, none⟩ = some (.int .i64 xa) ∧ W.cell? ⟨gt, ot + j * 3 + 1, none⟩ = some (.int .i64 xb) ∧ W.cell? ⟨gt, ot + j * 3 + 2, none⟩ = some (.int .i64 xc) := fun W hW => ⟨(hW.cell (p := ⟨q, 8, none⟩) hql).trans k8, (hW.cell (p := ⟨gt, ot + j * 3, none⟩) hgr).trans x0, (hW.cell (p := ⟨gt, ot + j * 3 + 1, none⟩) hgr).trans x1, (hW.cell (p := ⟨gt, ot + j * 3 + 2, none⟩) hgr).trans x2⟩
      refine step_to 19 69 (.slice (some ⟨wr.heap.size, 0, none⟩) 3 3) (wr.drew.alloc (.cells (intCells [xa, xb, xc]).toArray 3)) rfl (by kernel_rfl) rfl (by rfl) (by rw [buildSlice_op3 _ _ 46 3 0 1 2 (.tmp 56) (.tmp 62) (.tmp 68) rfl (.int .i64 xa) (.int .i64 xb) (.int .i64 xc) rfl rfl rfl, Sem.run_bind, Try.built46_3]; rfl) (hSB _ hbd) ?_
      simp only [Act.put, List.setIfInBounds_toArray, List.set_cons_zero, List.set_cons_succ]
      refine step_call1_to 20 70 28 rfl (by kernel_rfl) rfl (by rfl) (.tmp 69) _ rfl (.slice (some ⟨wr.heap.size, 0, none⟩) 3 3) rfl Try.enters28 (refAll_any (l := [xa, xb, xc]) (heap_alloc_new wr.drew _) (by simp) HWX.out) (fun e w6 h6 => ?_)
      obtain ⟨v6, rfl, ho6, hb6⟩ := h6
      have hb06 : Below wr.heap.size wr w6 := hbd.trans (hb6.mono hbd.size)
      refine ⟨v6, rfl, hSB _ hb06, ?_⟩
      simp only [Act.put, List.setIfInBounds_toArray, List.set_cons_zero, List.set_cons_succ]
      have A6 := HA.out.later hb06
      have HN6 : Hid (B.length + (encNums [xa, xb, xc]).length ≤ 140737488355328) := by have := HLL.out; show _ ≤ _; rw [length_encNums]; simp; omega
      have HNN6 : Hid ((B.length + (encNums [xa, xb, xc]).length) * 1 ≤ 140737488355328) := by have := HN6.out; show _ ≤ _; omega
      refine step_append_to 21 71 rfl (by kernel_rfl) rfl rfl (.tmp 50) (.tmp 70) 23 rfl w.heap.size 5 _ 1 1 Try.underlying23 Try.info5 rfl (by omega) (.slice av L cv) B.length (secCells B) v6 (encNums [xa, xb, xc]).length (secCells (encNums [xa, xb, xc])) rfl rfl A6.own (Row.of_owns ho6) (by rw [length_secCells]; omega) (one_secCells _) HNN6.out HN6.out A6.below.size (fun v7 w7 ho7 hg7 => ⟨?_, ?_⟩)
      · have hk7 : Keeps w.heap.size w6 w7 := Keeps.grown A6.own hg7
        have hS := hSB _ hb06
        have e1 := hk7.cells A6.rec_ (by decide)
        have hg1 : ∀ o, w7.cell? ⟨gt, o, none⟩ = w6.cell? ⟨gt, o, none⟩ := fun o => (hk7.below A6.below.size).cell (p := ⟨gt, o, none⟩) hgt
        exact ⟨by rw [cell_row e1, ← cell_row A6.rec_]; exact hS.1, (hg1 _).trans (hS.2.1), (hg1 _).trans (hS.2.2.1), (hg1 _).trans (hS.2.2.2)⟩
      simp only [Act.put, List.setIfInBounds_toArray, List.set_cons_zero, List.set_cons_succ]
      have HA7 := hide (A6.grow (more := encNums [xa, xb, xc]) rfl ho7 hg7)
      have hS7 : w7.cell? ⟨q, 8, none⟩ = some (.slice (some ⟨gt, ot, none⟩) R.txns.length ct) ∧ w7.cell? ⟨gt, ot + j * 3, none⟩ = some (.int .i64 xa) ∧ w7.cell? ⟨gt, ot + j * 3 + 1, none⟩ = some (.int .i64 xb) ∧ w7.cell? ⟨gt, ot + j * 3 + 2, none⟩ = some (.int .i64 xc) := by
        have hk7 : Keeps w.heap.size w6 w7 := Keeps.grown A6.own hg7
        have hS := hSB _ hb06
        have e1 := hk7.cells A6.rec_ (by decide)
        have hg1 : ∀ o, w7.cell? ⟨gt, o, none⟩ = w6.cell? ⟨gt, o, none⟩ := fun o => (hk7.below A6.below.size).cell (p := ⟨gt, o, none⟩) hgt
        exact ⟨by rw [cell_row e1, ← cell_row A6.rec_]; exact hS.1, (hg1 _).trans (hS.2.1), (hg1 _).trans (hS.2.2.1), (hg1 _).trans (hS.2.2.2)⟩
      obtain ⟨a7, c7, hv7⟩ := owns_len ho7
      generalize B.length + (encNums [xa, xb, xc]).length = L7 at hv7
      subst hv7
      refine step_to 22 3 (.slice a7 L7 c7) w7 rfl (by kernel_rfl) rfl (by rfl) rfl hS7 ?_
      simp only [Act.put, List.setIfInBounds_toArray, List.set_cons_zero, List.set_cons_succ]
      refine wpAnyH_done (by kernel_rfl) ?_ _
      clear hSB hS7 ho7 hg7 A6 hH hbd hb06 ho6 hb6
      go_wp2
      go_roundw
      case rel => exact ⟨j + 1, by omega, by go_num, by rw [HE.out]; exact HA7.out⟩
      case measure => simp [intOf]; omega
    · have hjn : j = R.txns.length := by omega
      subst hjn
      rw [List.take_length] at A hvj
      have A7 := A
      have HL7 : Hid ((B6 ++ encTxs R.txns).length = 56 + R.before.length + 8 + R.after.length + 8 + 24 * R.txns.length) := by show _ = _; rw [List.length_append, HL6.out, length_encTxs]
      clear A HA6
      generalize hB7 : B6 ++ encTxs R.txns = B7 at *
      have HB7 := hide hB7
      clear hB7
      have HA7 := hide A7
      generalize hw7 : wr = w7 at *
      clear hw7
      have hv7 := hvj
      clear hvj
      have kk7 : w7.cell? ⟨q, 9, none⟩ = some (.slice ad R.dirty.length cd) := by rw [cell_row A7.rec_]; rfl
      have HC7 := hide (refNumber_any (R.dirty.length : Int) (by omega) w7)
      have HN7 : Hid (B7.length + 8 ≤ 140737488355328) := by have := HL7.out; have := HSS.out; show _ ≤ _; omega
      have HNN7 : Hid ((B7.length + 8) * 1 ≤ 140737488355328) := by have := HL7.out; have := HSS.out; show _ ≤ _; omega
      have HM7 : Hid ((secCells (num (R.dirty.length : Int))).length = 8 * 1) := by show _ = _; rw [length_secCells, length_num]
      subst hv7
      clear A7
      go_wp2_with fail
      refine HC7.out.mono ?_
      rintro e u7 ⟨x7, rfl, ho7, hb7⟩
      have HAA7 := hide (HA7.out.later hb7)
      have HROW7 := hide (Row.of_owns ho7)
      obtain ⟨y7, z7, hx7⟩ := owns_len ho7
      clear ho7 hb7 HC7 kk7 HA7
      subst hx7
      go_wp2_with (first
        | (refine wpList_append_row rfl (.tmp 72) (.tmp 76) 23 rfl w.heap.size 5 _ 1 1 Try.underlying23 Try.info5 rfl (by omega) _ _ _ _ _ _ rfl rfl HAA7.out.own HROW7.out HM7.out (one_secCells _) HNN7.out HN7.out HAA7.out.below.size ?_
           intro v8 w8 ho8 hg8
           have A8 := HAA7.out.grow (more := num (R.dirty.length : Int)) (length_num _) ho8 hg8
           clear ho8 hg8
           have HL8 : Hid ((B7 ++ num (R.dirty.length : Int)).length = 56 + R.before.length + 8 + R.after.length + 8 + 24 * R.txns.length + 8) := by show _ = _; rw [List.length_append, HL7.out, length_num]
           generalize hB8 : B7 ++ num (R.dirty.length : Int) = B8 at *
           have HB8 := hide hB8
           clear hB8
           have HA8 := hide A8
           obtain ⟨e8, f8, hv8⟩ := A8.len
           subst hv8
           clear A8)
        | fail)
      go_loopw [3, 5] (fun b i wr => ∃ j : Nat, j ≤ R.dirty.length ∧ i = .int .i64 j ∧ EncAt w wr q #[.int .i64 R.kind, .int .i64 R.txn, .int .i64 R.prev, .int .i64 R.next, .int .i64 R.page, .int .i64 R.off, .slice ab R.before.length cb, .slice aa R.after.length ca, .slice at' R.txns.length ct, .slice ad R.dirty.length cd, .int .i64 R.count] b (B8 ++ encDts (R.dirty.take j))) (fun _ i _ => R.dirty.length - (intOf i).toNat)
      case atStart => exact ⟨0, by omega, rfl, by simpa [encDts] using HA8.out⟩
      case round =>
        obtain ⟨j, hj, rfl, A⟩ := hrel
        have k8 : wr.cell? ⟨q, 9, none⟩ = some (.slice ad R.dirty.length cd) := by rw [cell_row A.rec_]; rfl
        obtain ⟨av, cv, hvj⟩ := A.len
        by_cases hlt : j < R.dirty.length
        · obtain ⟨gt, ot, eat, hgt, t0', t1'⟩ := dt_at H4.out j hlt
          have x0 := ((A.below).cell (p := ⟨gt, ot + j * 2, none⟩) hgt).trans t0'
          have x1 := ((A.below).cell (p := ⟨gt, ot + j * 2 + 1, none⟩) hgt).trans t1'
          have HE : Hid (B8 ++ encDts (R.dirty.take (j + 1)) = (B8 ++ encDts (R.dirty.take j)) ++ encNums [(R.dirty.getD j (0, 0)).1, (R.dirty.getD j (0, 0)).2]) := by
            show _ = _
            have e : R.dirty.getD j (0, 0) = R.dirty[j] := by simp [hlt]
            rw [e, List.take_succ_eq_append_getElem hlt, encDts_snoc, List.append_assoc]
          have HLL : Hid ((B8 ++ encDts (R.dirty.take j)).length ≤ 1000000000000) := by show _ ≤ _; rw [List.length_append, HL8.out, length_encDts, List.length_take]; have := HSS.out; omega
          have hwx := HWF.out.dirty (R.dirty.getD j (0, 0)) (by simp [hlt])
          generalize R.dirty.getD j (0, 0) = X at *
          obtain ⟨xa, xb⟩ := X
          have hwx : ∀ x ∈ [xa, xb], -9223372036854775808 ≤ x ∧ x ≤ 9223372036854775807 := hwx
          have HA := hide A
          have hgr : gt < wr.heap.size := Nat.lt_of_lt_of_le hgt A.below.size
          have hql : q < wr.heap.size := lt_of_heap A.rec_
          have HWS := hide A.below.size
          have HWX := hide hwx
          clear A t0' t1' HA8 hwx
          generalize B8 ++ encDts (R.dirty.take j) = B at *
          obtain ⟨L, hL⟩ : ∃ L, B.length = L := ⟨_, rfl⟩
          rw [hL] at hvj
          have HL := hide hL
          clear hL
          subst hvj eat
          go_wp2
          refine wp_region_held_drew (S := fun w' => w'.cell? ⟨q, 9, none⟩ = some (.slice (some ⟨gt, ot, none⟩) R.dirty.length cd) ∧ w'.cell? ⟨gt, ot + j * 2, none⟩ = some (.int .i64 xa) ∧ w'.cell? ⟨gt, ot + j * 2 + 1, none⟩ = some (.int .i64 xb)) (by kernel_rfl) ⟨k8, x0, x1⟩ (fun hH => ?_)
          refine take_to 0 85 (.slice av L cv) rfl (by kernel_rfl) (by kernel_rfl) (by kernel_rfl) (fun _ _ _ h => h) rfl (by rfl) (fun w _ => by rfl) hH ?_
          simp only [Act.put, List.setIfInBounds_toArray, List.set_cons_zero, List.set_cons_succ]
          refine take_to 1 86 (.pointer (some ⟨q, 9, none⟩)) rfl (by kernel_rfl) (by kernel_rfl) (by kernel_rfl) (fun _ _ _ h => h) rfl (by rfl) (fun w _ => by kernel_rfl) hH ?_
          simp only [Act.put, List.setIfInBounds_toArray, List.set_cons_zero, List.set_cons_succ]
          refine take_to 2 87 (.slice (some ⟨gt, ot, none⟩) R.dirty.length cd) rfl (by kernel_rfl) (by kernel_rfl) (by kernel_rfl) (fun _ _ _ h => h) rfl (by rfl) (fun W hW => by exact load_next26 W q 9 _ hW.1) hH ?_
          simp only [Act.put, List.setIfInBounds_toArray, List.set_cons_zero, List.set_cons_succ]
          refine take_to 3 88 (.int .i64 (j : Int)) rfl (by kernel_rfl) (by kernel_rfl) (by kernel_rfl) (fun _ _ _ h => h) rfl (by rfl) (fun w _ => by rfl) hH ?_
          simp only [Act.put, List.setIfInBounds_toArray, List.set_cons_zero, List.set_cons_succ]
          refine take_to 4 89 (.pointer (some ⟨gt, ot + j * 2, none⟩)) rfl (by kernel_rfl) (by kernel_rfl) (by kernel_rfl) (fun _ _ _ h => h) rfl (by rfl) (fun W _ => by exact index_next26 W gt ot R.dirty.length _ j hlt) hH ?_
          simp only [Act.put, List.setIfInBounds_toArray, List.set_cons_zero, List.set_cons_succ]
          refine take_to 5 90 (.pointer (some ⟨gt, ot + j * 2, none⟩)) rfl (by kernel_rfl) (by kernel_rfl) (by kernel_rfl) (fun _ _ _ h => h) rfl (by rfl) (fun w _ => by kernel_rfl) hH ?_
          simp only [Act.put, List.setIfInBounds_toArray, List.set_cons_zero, List.set_cons_succ]
          refine take_to 6 91 (.int .i64 xa) rfl (by kernel_rfl) (by kernel_rfl) (by kernel_rfl) (fun _ _ _ h => h) rfl (by rfl) (fun W hW => by exact load_next3 W gt (ot + j * 2) _ (hW.2.1)) hH ?_
          simp only [Act.put, List.setIfInBounds_toArray, List.set_cons_zero, List.set_cons_succ]
          refine take_to 7 92 (.pointer (some ⟨q, 9, none⟩)) rfl (by kernel_rfl) (by kernel_rfl) (by kernel_rfl) (fun _ _ _ h => h) rfl (by rfl) (fun w _ => by kernel_rfl) hH ?_
          simp only [Act.put, List.setIfInBounds_toArray, List.set_cons_zero, List.set_cons_succ]
          refine take_to 8 93 (.slice (some ⟨gt, ot, none⟩) R.dirty.length cd) rfl (by kernel_rfl) (by kernel_rfl) (by kernel_rfl) (fun _ _ _ h => h) rfl (by rfl) (fun W hW => by exact load_next26 W q 9 _ hW.1) hH ?_
          simp only [Act.put, List.setIfInBounds_toArray, List.set_cons_zero, List.set_cons_succ]
          refine take_to 9 94 (.int .i64 (j : Int)) rfl (by kernel_rfl) (by kernel_rfl) (by kernel_rfl) (fun _ _ _ h => h) rfl (by rfl) (fun w _ => by rfl) hH ?_
          simp only [Act.put, List.setIfInBounds_toArray, List.set_cons_zero, List.set_cons_succ]
          refine take_to 10 95 (.pointer (some ⟨gt, ot + j * 2, none⟩)) rfl (by kernel_rfl) (by kernel_rfl) (by kernel_rfl) (fun _ _ _ h => h) rfl (by rfl) (fun W _ => by exact index_next26 W gt ot R.dirty.length _ j hlt) hH ?_
          simp only [Act.put, List.setIfInBounds_toArray, List.set_cons_zero, List.set_cons_succ]
          refine take_to 11 96 (.pointer (some ⟨gt, ot + j * 2 + 1, none⟩)) rfl (by kernel_rfl) (by kernel_rfl) (by kernel_rfl) (fun _ _ _ h => h) rfl (by rfl) (fun w _ => by kernel_rfl) hH ?_
          simp only [Act.put, List.setIfInBounds_toArray, List.set_cons_zero, List.set_cons_succ]
          refine take_to 12 97 (.int .i64 xb) rfl (by kernel_rfl) (by kernel_rfl) (by kernel_rfl) (fun _ _ _ h => h) rfl (by rfl) (fun W hW => by exact load_next3 W gt (ot + j * 2 + 1) _ (hW.2.2)) hH ?_
          simp only [Act.put, List.setIfInBounds_toArray, List.set_cons_zero, List.set_cons_succ]
          have hbd : Below wr.heap.size wr (wr.drew.alloc (.cells (intCells [xa, xb]).toArray 3)) := ((Below.refl _ wr).drew).alloc (Nat.le_refl _) _
          have hSB : ∀ W : World, Below wr.heap.size wr W → W.cell? ⟨q, 9, none⟩ = some (.slice (some ⟨gt, ot, none⟩) R.dirty.length cd) ∧ W.cell? ⟨gt, ot + j * 2, none⟩ = some (.int .i64 xa) ∧ W.cell? ⟨gt, ot + j * 2 + 1, none⟩ = some (.int .i64 xb) := fun W hW => ⟨(hW.cell (p := ⟨q, 9, none⟩) hql).trans k8, (hW.cell (p := ⟨gt, ot + j * 2, none⟩) hgr).trans x0, (hW.cell (p := ⟨gt, ot + j * 2 + 1, none⟩) hgr).trans x1⟩
          refine step_to 13 98 (.slice (some ⟨wr.heap.size, 0, none⟩) 2 2) (wr.drew.alloc (.cells (intCells [xa, xb]).toArray 3)) rfl (by kernel_rfl) rfl (by rfl) (by rw [buildSlice_op2 _ _ 46 2 0 1 (.tmp 91) (.tmp 97) rfl (.int .i64 xa) (.int .i64 xb) rfl rfl, Sem.run_bind, Try.built46_2]; rfl) (hSB _ hbd) ?_
          simp only [Act.put, List.setIfInBounds_toArray, List.set_cons_zero, List.set_cons_succ]
          refine step_call1_to 14 99 28 rfl (by kernel_rfl) rfl (by rfl) (.tmp 98) _ rfl (.slice (some ⟨wr.heap.size, 0, none⟩) 2 2) rfl Try.enters28 (refAll_any (l := [xa, xb]) (heap_alloc_new wr.drew _) (by simp) HWX.out) (fun e w6 h6 => ?_)
          obtain ⟨v6, rfl, ho6, hb6⟩ := h6
          have hb06 : Below wr.heap.size wr w6 := hbd.trans (hb6.mono hbd.size)
          refine ⟨v6, rfl, hSB _ hb06, ?_⟩
          simp only [Act.put, List.setIfInBounds_toArray, List.set_cons_zero, List.set_cons_succ]
          have A6 := HA.out.later hb06
          have HN6 : Hid (B.length + (encNums [xa, xb]).length ≤ 140737488355328) := by have := HLL.out; show _ ≤ _; rw [length_encNums]; simp; omega
          have HNN6 : Hid ((B.length + (encNums [xa, xb]).length) * 1 ≤ 140737488355328) := by have := HN6.out; show _ ≤ _; omega
          refine step_append_to 15 100 rfl (by kernel_rfl) rfl rfl (.tmp 85) (.tmp 99) 23 rfl w.heap.size 5 _ 1 1 Try.underlying23 Try.info5 rfl (by omega) (.slice av L cv) B.length (secCells B) v6 (encNums [xa, xb]).length (secCells (encNums [xa, xb])) rfl rfl A6.own (Row.of_owns ho6) (by rw [length_secCells]; omega) (one_secCells _) HNN6.out HN6.out A6.below.size (fun v7 w7 ho7 hg7 => ⟨?_, ?_⟩)
          · have hk7 : Keeps w.heap.size w6 w7 := Keeps.grown A6.own hg7
            have hS := hSB _ hb06
            have e1 := hk7.cells A6.rec_ (by decide)
            have hg1 : ∀ o, w7.cell? ⟨gt, o, none⟩ = w6.cell? ⟨gt, o, none⟩ := fun o => (hk7.below A6.below.size).cell (p := ⟨gt, o, none⟩) hgt
            exact ⟨by rw [cell_row e1, ← cell_row A6.rec_]; exact hS.1, (hg1 _).trans (hS.2.1), (hg1 _).trans (hS.2.2)⟩
          simp only [Act.put, List.setIfInBounds_toArray, List.set_cons_zero, List.set_cons_succ]
          have HA7 := hide (A6.grow (more := encNums [xa, xb]) rfl ho7 hg7)
          have hS7 : w7.cell? ⟨q, 9, none⟩ = some (.slice (some ⟨gt, ot, none⟩) R.dirty.length cd) ∧ w7.cell? ⟨gt, ot + j * 2, none⟩ = some (.int .i64 xa) ∧ w7.cell? ⟨gt, ot + j * 2 + 1, none⟩ = some (.int .i64 xb) := by
            have hk7 : Keeps w.heap.size w6 w7 := Keeps.grown A6.own hg7
            have hS := hSB _ hb06
            have e1 := hk7.cells A6.rec_ (by decide)
            have hg1 : ∀ o, w7.cell? ⟨gt, o, none⟩ = w6.cell? ⟨gt, o, none⟩ := fun o => (hk7.below A6.below.size).cell (p := ⟨gt, o, none⟩) hgt
            exact ⟨by rw [cell_row e1, ← cell_row A6.rec_]; exact hS.1, (hg1 _).trans (hS.2.1), (hg1 _).trans (hS.2.2)⟩
          obtain ⟨a7, c7, hv7⟩ := owns_len ho7
          generalize B.length + (encNums [xa, xb]).length = L7 at hv7
          subst hv7
          refine step_to 16 3 (.slice a7 L7 c7) w7 rfl (by kernel_rfl) rfl (by rfl) rfl hS7 ?_
          simp only [Act.put, List.setIfInBounds_toArray, List.set_cons_zero, List.set_cons_succ]
          refine wpAnyH_done (by kernel_rfl) ?_ _
          clear hSB hS7 ho7 hg7 A6 hH hbd hb06 ho6 hb6
          go_wp2
          go_roundw
          case rel => exact ⟨j + 1, by omega, by go_num, by rw [HE.out]; exact HA7.out⟩
          case measure => simp [intOf]; omega
        · have hjn : j = R.dirty.length := by omega
          subst hjn
          rw [List.take_length] at A hvj
          have A9 := A
          have HL9 : Hid ((B8 ++ encDts R.dirty).length = 56 + R.before.length + 8 + R.after.length + 8 + 24 * R.txns.length + 8 + 16 * R.dirty.length) := by show _ = _; rw [List.length_append, HL8.out, length_encDts]
          clear A HA8
          generalize hB9 : B8 ++ encDts R.dirty = B9 at *
          have HB9 := hide hB9
          clear hB9
          have HA9 := hide A9
          generalize hw9 : wr = w9 at *
          clear hw9
          have hv9 := hvj
          clear hvj
          have kk9 : w9.cell? ⟨q, 10, none⟩ = some (.int .i64 R.count) := by rw [cell_row A9.rec_]; rfl
          have HC9 := hide (refNumber_any R.count HWF.out.count w9)
          have HN9 : Hid (B9.length + 8 ≤ 140737488355328) := by have := HL9.out; have := HSS.out; show _ ≤ _; omega
          have HNN9 : Hid ((B9.length + 8) * 1 ≤ 140737488355328) := by have := HL9.out; have := HSS.out; show _ ≤ _; omega
          have HM9 : Hid ((secCells (num R.count)).length = 8 * 1) := by show _ = _; rw [length_secCells, length_num]
          subst hv9
          clear A9
          go_wp2_with fail
          refine HC9.out.mono ?_
          rintro e u9 ⟨x9, rfl, ho9, hb9⟩
          have HAA9 := hide (HA9.out.later hb9)
          have HROW9 := hide (Row.of_owns ho9)
          obtain ⟨y9, z9, hx9⟩ := owns_len ho9
          clear ho9 hb9 HC9 kk9 HA9
          subst hx9
          go_wp2_with (first
            | (refine wpList_append_row rfl (.tmp 101) (.tmp 104) 23 rfl w.heap.size 5 _ 1 1 Try.underlying23 Try.info5 rfl (by omega) _ _ _ _ _ _ rfl rfl HAA9.out.own HROW9.out HM9.out (one_secCells _) HNN9.out HN9.out HAA9.out.below.size ?_
               intro v10 w10 ho10 hg10
               have A10 := HAA9.out.grow (more := num R.count) (length_num _) ho10 hg10
               clear ho10 hg10
               have HL10 : Hid ((B9 ++ num R.count).length = 56 + R.before.length + 8 + R.after.length + 8 + 24 * R.txns.length + 8 + 16 * R.dirty.length + 8) := by show _ = _; rw [List.length_append, HL9.out, length_num]
               generalize hB10 : B9 ++ num R.count = B10 at *
               have HB10 := hide hB10
               clear hB10
               have HA10 := hide A10
               obtain ⟨e10, f10, hv10⟩ := A10.len
               have hl10 : ((B10.length : Nat) : Int) ≤ 1000000000000 := by have := HL10.out; have := HSS.out; omega
               have HC10 := hide (refNumber_any (B10.length : Int) (by omega) w10)
               subst hv10
               clear A10)
            | fail)
          have HM10 : Hid ((secCells B10).length = B10.length * 1) := by show _ = _; rw [length_secCells]; omega
          have HN10 : Hid (8 + B10.length ≤ 140737488355328) := by show _ ≤ _; omega
          have HNN10 : Hid ((8 + B10.length) * 1 ≤ 140737488355328) := by show _ ≤ _; omega
          have HFIN : Hid (num (B10.length : Int) ++ B10 = R.enc) := by
            show _ = _
            have h := encRef_parts R
            rw [HB2.out, HB3.out, HB4.out, HB5.out, HB6.out, HB7.out, HB8.out, HB9.out, HB10.out] at h
            simpa [encNums] using h
          refine HC10.out.mono ?_
          rintro e u10 ⟨x10, rfl, ho10, hb10⟩
          have HAA := hide (HA10.out.later hb10)
          have HO10 := hide (owns_mono ho10 HA10.out.below.size)
          have HROW10 := hide (Row.of_owns HAA.out.own)
          obtain ⟨y10, z10, hx10⟩ := owns_len ho10
          subst hx10
          clear ho10 hb10 HC10 HA10
          go_wp2_with (first
            | (refine wpList_append_row rfl (.tmp 108) (.tmp 109) 23 rfl w.heap.size 5 _ 1 1 Try.underlying23 Try.info5 rfl (by omega) _ _ _ _ _ _ rfl rfl HO10.out HROW10.out HM10.out (one_secCells _) HNN10.out HN10.out HAA.out.below.size ?_
               intro v11 w11 ho11 hg11
               have HO11 := hide ho11
               have HG11 := hide hg11
               obtain ⟨a11, c11, hv11⟩ := owns_len ho11
               clear ho11 hg11
               subst hv11)
            | fail)
          go_ret
          refine ⟨_, rfl, ?_, HAA.out.below.trans ((Keeps.grown HO10.out HG11.out).below HAA.out.below.size)⟩
          rw [← HFIN.out, secCells_append, List.length_append, length_num]
          exact HO11.out
end Go.Proofs.Ytmfiafdhflaafaa
