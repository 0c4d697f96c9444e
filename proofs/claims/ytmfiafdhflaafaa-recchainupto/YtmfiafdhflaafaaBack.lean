/- The walk of the law RecBack: it returns true and writes nothing that was there. -/
import Derived.Test.YtmfiafdhflaafaaBad
namespace Go.Proofs.Ytmfiafdhflaafaa
open Go.RowKit
set_option linter.unusedVariables false
set_option linter.unusedSimpArgs false

theorem Try.built0 (w : World) : (Instr.buildSlice 23 0 #[]).run Try.prog w = .ok (.slice (some ⟨w.heap.size, 0, none⟩) 0 0) (w.alloc (.cells #[] 5)) := by kernel_rfl
theorem owns_empty (w : World) : (w.alloc (.cells #[] 5)).ownsRow w.heap.size 5 1 (.slice (some ⟨w.heap.size, 0, none⟩) 0 0) 0 [] :=
  ⟨rfl, .inr ⟨w.heap.size, 0, #[], rfl, Nat.le_refl _, heap_alloc_new _ _, Nat.le_refl _, by simp only [maxLen]; omega, rfl, rfl⟩⟩
theorem owns_sl {w : World} {base : Nat} {v : Value} {n : Nat} {bs : List UInt8} (h : w.ownsRow base 5 1 v n (secCells bs)) : Sl w v bs := by
  have e : bs.length = n := by have := h.1; rwa [length_secCells, Nat.mul_one] at this
  have := Row.of_owns h
  rw [← e] at this
  exact this

set_option maxHeartbeats 4000000 in
set_option maxRecDepth 100000 in
theorem back_walk {w : World} {V vm : Value} {R : Rc} {more : List UInt8} (hV : RecVal w V R) (hm : Sl w vm more) (hs : R.size ≤ 100000000) (hml : more.length ≤ 100000000) (hwf : R.wf) :
    Calls Try.prog 6 #[V, vm] w fun e w' => e = .returned (.bool true) ∧ Below w.heap.size w w' := by
  have HV := hide hV
  have HM := hide hm
  obtain ⟨am, cm, rfl, m1, m2⟩ := hm.len
  obtain ⟨vb, va, vt, vd, rfl, h1, h2, h3, h4⟩ := hV
  obtain ⟨ab, cb, rfl, b1, b2⟩ := h1.len
  obtain ⟨aa, ca, rfl, a1, a2⟩ := h2.len
  obtain ⟨at', ct, rfl, t1, t2⟩ := h3.len
  obtain ⟨ad, cd, rfl, d1, d2⟩ := h4.len
  have HSZ := hide hs
  have HML := hide hml
  have hs' : 96 + R.before.length + R.after.length + 24 * R.txns.length + 16 * R.dirty.length ≤ 100000000 := hs
  simp only [maxLen] at b2 a2 t2 d2 m2
  have HSS := hide hs'
  have HWF := hide hwf
  have hq1 : (w.alloc (.cells #[.int .i64 R.kind, .int .i64 R.txn, .int .i64 R.prev, .int .i64 R.next, .int .i64 R.page, .int .i64 R.off, .slice ab R.before.length cb, .slice aa R.after.length ca, .slice at' R.txns.length ct, .slice ad R.dirty.length cd, .int .i64 R.count] 28)).heap[w.heap.size]? = some (.cells #[.int .i64 R.kind, .int .i64 R.txn, .int .i64 R.prev, .int .i64 R.next, .int .i64 R.page, .int .i64 R.off, .slice ab R.before.length cb, .slice aa R.after.length ca, .slice at' R.txns.length ct, .slice ad R.dirty.length cd, .int .i64 R.count] 28 (0, 0)) := heap_alloc_new _ _
  have hB1 : Below w.heap.size w (w.alloc (.cells #[.int .i64 R.kind, .int .i64 R.txn, .int .i64 R.prev, .int .i64 R.next, .int .i64 R.page, .int .i64 R.off, .slice ab R.before.length cb, .slice aa R.after.length ca, .slice at' R.txns.length ct, .slice ad R.dirty.length cd, .int .i64 R.count] 28)) := (Below.refl _ w).alloc (Nat.le_refl _) _
  have HBAD := hide (bad_any (HV.out.below hB1 (Nat.le_refl _)) (by omega))
  have H1 := hide hq1
  have HB1 := hide hB1
  unfold recCells at HV HBAD ⊢
  clear h1 h2 h3 h4 hm hs hs' hwf hq1 hB1 hml b1 a1 t1 d1 m1
  generalize hW1 : w.alloc (.cells #[.int .i64 R.kind, .int .i64 R.txn, .int .i64 R.prev, .int .i64 R.next, .int .i64 R.page, .int .i64 R.off, .slice ab R.before.length cb, .slice aa R.after.length ca, .slice at' R.txns.length ct, .slice ad R.dirty.length cd, .int .i64 R.count] 28) = w1 at *
  cases hbd : badB R with
  | true =>
    rw [hbd] at HBAD
    clear hbd
    subst hW1
    go_enter Try.func6, Try.ntmps6
    go_wp2_with fail
    refine HBAD.out.mono ?_
    rintro e w2 ⟨rfl, hb2⟩
    have HB2 := hide hb2
    clear hb2
    go_wp2_with (go_at_call 9; refine (awake_true _).mono ?_; rintro e w3 ⟨rfl, hb3⟩; have HB3 := hide hb3; clear hb3)
    go_ret
    have b12 := HB1.out.trans (HB2.out.mono HB1.out.size)
    exact ⟨rfl, b12.trans (HB3.out.mono b12.size)⟩
  | false =>
    rw [hbd] at HBAD
    have HGOOD := hide (good_of hbd)
    clear hbd
    subst hW1
    go_enter Try.func6, Try.ntmps6
    go_wp2_with fail
    refine HBAD.out.mono ?_
    rintro e w2 ⟨rfl, hb2⟩
    have b12 := HB1.out.trans (hb2.mono HB1.out.size)
    have hq2 : w2.heap[w.heap.size]? = some (.cells #[.int .i64 R.kind, .int .i64 R.txn, .int .i64 R.prev, .int .i64 R.next, .int .i64 R.page, .int .i64 R.off, .slice ab R.before.length cb, .slice aa R.after.length ca, .slice at' R.txns.length ct, .slice ad R.dirty.length cd, .int .i64 R.count] 28 (0, 0)) := (hb2.block _ (by simp)).trans H1.out
    have HENC := hide (encode_any (HV.out.below b12 (Nat.le_refl _)) (by have := HSZ.out; omega) HWF.out)
    obtain ⟨q, hq⟩ : ∃ q, w.heap.size = q := ⟨_, rfl⟩
    rw [hq] at hq2 ⊢
    have HQ := hide hq
    clear hq HBAD H1 HB1
    have HB12 := hide b12
    have HQ2 := hide hq2
    have k0 : w2.cell? ⟨q, 0, none⟩ = some (.int .i64 R.kind) := by rw [cell_row hq2]; rfl
    have k1 : w2.cell? ⟨q, 1, none⟩ = some (.int .i64 R.txn) := by rw [cell_row hq2]; rfl
    have k2 : w2.cell? ⟨q, 2, none⟩ = some (.int .i64 R.prev) := by rw [cell_row hq2]; rfl
    have k3 : w2.cell? ⟨q, 3, none⟩ = some (.int .i64 R.next) := by rw [cell_row hq2]; rfl
    have k4 : w2.cell? ⟨q, 4, none⟩ = some (.int .i64 R.page) := by rw [cell_row hq2]; rfl
    have k5 : w2.cell? ⟨q, 5, none⟩ = some (.int .i64 R.off) := by rw [cell_row hq2]; rfl
    have k6 : w2.cell? ⟨q, 6, none⟩ = some (.slice ab R.before.length cb) := by rw [cell_row hq2]; rfl
    have k7 : w2.cell? ⟨q, 7, none⟩ = some (.slice aa R.after.length ca) := by rw [cell_row hq2]; rfl
    have k8 : w2.cell? ⟨q, 8, none⟩ = some (.slice at' R.txns.length ct) := by rw [cell_row hq2]; rfl
    have k9 : w2.cell? ⟨q, 9, none⟩ = some (.slice ad R.dirty.length cd) := by rw [cell_row hq2]; rfl
    have k10 : w2.cell? ⟨q, 10, none⟩ = some (.int .i64 R.count) := by rw [cell_row hq2]; rfl
    clear hb2 b12 hq2
    go_wp2_with fail
    refine HENC.out.mono ?_
    rintro e w3 ⟨v3, rfl, ho3, hb3⟩
    clear k0 k1 k2 k3 k4 k5 k6 k7 k8 k9 k10 HENC
    have HO3 := hide ho3
    have HB3 : Hid (Below w.heap.size w w3) := HB12.out.trans (hb3.mono HB12.out.size)
    have HQ3 : Hid (w3.heap[q]? = some (.cells #[.int .i64 R.kind, .int .i64 R.txn, .int .i64 R.prev, .int .i64 R.next, .int .i64 R.page, .int .i64 R.off, .slice ab R.before.length cb, .slice aa R.after.length ca, .slice at' R.txns.length ct, .slice ad R.dirty.length cd, .int .i64 R.count] 28 (0, 0))) := (hb3.block _ (lt_of_heap HQ2.out)).trans HQ2.out
    have hle := length_enc R
    rw [hle] at ho3
    obtain ⟨a3, c3, hv3⟩ := owns_len ho3
    have h96 : 96 ≤ R.size := by simp only [Rc.size]; omega
    have HROW3 : Hid (Row (w3.alloc (.cells #[] 5)) v3 R.size (secCells R.enc)) := (Row.of_owns ho3).below ((Below.refl _ w3).alloc (Nat.le_refl _) _) (Nat.le_refl _)
    have HE0 := hide (owns_empty w3)
    have HL3 : Hid ((secCells R.enc).length = R.size * 1) := by show _ = _; rw [length_secCells, hle]; omega
    have HN3 : Hid (0 + R.size ≤ 140737488355328) := by have := HSZ.out; show _ ≤ _; omega
    have HN3' : Hid ((0 + R.size) * 1 ≤ 140737488355328) := by have := HSZ.out; show _ ≤ _; omega
    have HBS3 : Hid (w3.heap.size ≤ (w3.alloc (.cells #[] 5)).heap.size) := by show _ ≤ _; simp
    have hbu0 := Try.built0
    have HLE := hide hle
    clear ho3 hb3 hle HQ2 HB12
    have hsz1 : (R.size : Int) ≤ 100000000 := by have := HSZ.out; omega
    have HRS : Hid (R.size = 96 + R.before.length + R.after.length + 24 * R.txns.length + 16 * R.dirty.length) := rfl
    obtain ⟨N, hN⟩ : ∃ N, R.size = N := ⟨_, rfl⟩
    have HN := hide hN
    rw [hN] at hv3 HROW3 HL3 HN3 HN3' hsz1 h96
    clear hN
    subst hv3
    have HAFT : Hid (∀ v4 w4, w4.ownsRow w3.heap.size 5 1 v4 (0 + N) ([] ++ secCells R.enc) → (w3.alloc (.cells #[] 5)).grownBy w4 (Value.slice (some ⟨w3.heap.size, 0, none⟩) 0 0).ownBlock → Below w3.heap.size w3 w4 ∧ Row w4 (.slice am more.length cm) more.length (secCells more) ∧ w3.heap.size ≤ w4.heap.size) := fun v4 w4 ho hg => by
      have hb4 : Below w3.heap.size w3 w4 := ((Below.refl _ w3).alloc (Nat.le_refl _) _).grown hg (by simp) (fun k hk => by simp [Value.ownBlock] at hk; omega)
      exact ⟨hb4, HM.out.below (HB3.out.trans (hb4.mono HB3.out.size)) (Nat.le_refl _), hb4.size⟩
    have HLM : Hid ((secCells more).length = more.length * 1) := by show _ = _; rw [length_secCells]; omega
    have HN4 : Hid (0 + N + more.length ≤ 140737488355328) := by have := HML.out; show _ ≤ _; omega
    have HN4' : Hid ((0 + N + more.length) * 1 ≤ 140737488355328) := by have := HML.out; show _ ≤ _; omega
    have HFIN : Hid (∀ v4 w4 v5 w5, w4.ownsRow w3.heap.size 5 1 v4 (0 + N) ([] ++ secCells R.enc) → (w3.alloc (.cells #[] 5)).grownBy w4 (Value.slice (some ⟨w3.heap.size, 0, none⟩) 0 0).ownBlock → w5.ownsRow w3.heap.size 5 1 v5 (0 + N + more.length) ([] ++ secCells R.enc ++ secCells more) → w4.grownBy w5 v4.ownBlock → Below w3.heap.size w3 w5 ∧ Sl w5 v5 (R.enc ++ more)) := fun v4 w4 v5 w5 ho hg ho5 hg5 => by
      have hb4 := (HAFT.out v4 w4 ho hg).1
      refine ⟨hb4.grown hg5 hb4.size (fun k hk => (ho.lt k hk).1), ?_⟩
      rw [List.nil_append, ← secCells_append] at ho5
      exact owns_sl ho5
    have hmi : ((more.length : Nat) : Int) ≤ 100000000 := by have := HML.out; omega
    go_wp2_with (first
      | (refine wpList_append_row rfl (.tmp 20) (.tmp 21) 23 rfl w3.heap.size 5 _ 1 1 Try.underlying23 Try.info5 rfl (by omega) _ 0 [] _ _ _ rfl rfl HE0.out HROW3.out HL3.out (one_secCells _) HN3'.out HN3.out HBS3.out ?_
         intro v4 w4 ho4 hg4
         have HO4 := hide ho4
         have HG4 := hide hg4
         clear ho4 hg4)
      | (refine wpList_append_row rfl (.tmp 22) (.tmp 23) 23 rfl w3.heap.size 5 _ 1 1 Try.underlying23 Try.info5 rfl (by omega) _ _ _ _ _ _ rfl rfl HO4.out (HAFT.out _ _ HO4.out HG4.out).2.1 HLM.out (one_secCells _) HN4'.out HN4.out (HAFT.out _ _ HO4.out HG4.out).2.2 ?_
         intro v5 w5 ho5 hg5
         obtain ⟨hb5, hs5⟩ := HFIN.out _ _ _ _ HO4.out HG4.out ho5 hg5
         have HB5 := hide hb5
         have HS5 := hide hs5
         clear ho5 hg5 hb5 hs5)
      | fail)
    have hdl : (R.enc ++ more).length ≤ 1000000000000 := by rw [List.length_append, HLE.out]; have := HSZ.out; have := HML.out; omega
    refine (decode_any HS5.out hdl).mono ?_
    rintro e w6 ⟨hb6, he⟩
    rw [dec_enc R HGOOD.out (by have := HSZ.out; omega) more] at he
    obtain ⟨X, rfl, xb, xa, xt, xd, rfl, g1, g2, g3, g4⟩ := he
    obtain ⟨xab, xcb, rfl⟩ := owns_len g1
    obtain ⟨xaa, xca, rfl⟩ := owns_len g2
    obtain ⟨xat, xct, rfl⟩ := owns_len g3
    obtain ⟨xad, xcd, rfl⟩ := owns_len g4
    unfold recCells
    rw [HN.out]
    have hb36 : Below w3.heap.size w3 w6 := HB5.out.trans (hb6.mono HB5.out.size)
    have hb36s := hb36.size
    have hb7 : Below w6.heap.size w6 (w6.alloc (.cells #[.int .i64 R.kind, .int .i64 R.txn, .int .i64 R.prev, .int .i64 R.next, .int .i64 R.page, .int .i64 R.off, .slice xab R.before.length xcb, .slice xaa R.after.length xca, .slice xat R.txns.length xct, .slice xad R.dirty.length xcd, .int .i64 R.count] 28)) := (Below.refl _ w6).alloc (Nat.le_refl _) _
    have hb37 : Below w3.heap.size w3 (w6.alloc (.cells #[.int .i64 R.kind, .int .i64 R.txn, .int .i64 R.prev, .int .i64 R.next, .int .i64 R.page, .int .i64 R.off, .slice xab R.before.length xcb, .slice xaa R.after.length xca, .slice xat R.txns.length xct, .slice xad R.dirty.length xcd, .int .i64 R.count] 28)) := hb36.trans (hb7.mono hb36.size)
    have hx7 : (w6.alloc (.cells #[.int .i64 R.kind, .int .i64 R.txn, .int .i64 R.prev, .int .i64 R.next, .int .i64 R.page, .int .i64 R.off, .slice xab R.before.length xcb, .slice xaa R.after.length xca, .slice xat R.txns.length xct, .slice xad R.dirty.length xcd, .int .i64 R.count] 28)).heap[w6.heap.size]? = some (.cells #[.int .i64 R.kind, .int .i64 R.txn, .int .i64 R.prev, .int .i64 R.next, .int .i64 R.page, .int .i64 R.off, .slice xab R.before.length xcb, .slice xaa R.after.length xca, .slice xat R.txns.length xct, .slice xad R.dirty.length xcd, .int .i64 R.count] 28 (0, 0)) := heap_alloc_new _ _
    have hq7 : (w6.alloc (.cells #[.int .i64 R.kind, .int .i64 R.txn, .int .i64 R.prev, .int .i64 R.next, .int .i64 R.page, .int .i64 R.off, .slice xab R.before.length xcb, .slice xaa R.after.length xca, .slice xat R.txns.length xct, .slice xad R.dirty.length xcd, .int .i64 R.count] 28)).heap[q]? = some (.cells #[.int .i64 R.kind, .int .i64 R.txn, .int .i64 R.prev, .int .i64 R.next, .int .i64 R.page, .int .i64 R.off, .slice ab R.before.length cb, .slice aa R.after.length ca, .slice at' R.txns.length ct, .slice ad R.dirty.length cd, .int .i64 R.count] 28 (0, 0)) := (hb37.block q (lt_of_heap HQ3.out)).trans HQ3.out
    have f1 := owns_below g1 hb7 (Nat.le_refl _)
    have f2 := owns_below g2 hb7 (Nat.le_refl _)
    have f3 := owns_below g3 hb7 (Nat.le_refl _)
    have f4 := owns_below g4 hb7 (Nat.le_refl _)
    clear HE0 HROW3 HL3 HN3 HN3' HBS3 hbu0 HAFT HFIN HO4 HG4 HLM HN4 HN4' HS5 hdl g1 g2 g3 g4 hb36 hb6 hb7 HB5
    have hq6 : w6.heap[q]? = some (.cells #[.int .i64 R.kind, .int .i64 R.txn, .int .i64 R.prev, .int .i64 R.next, .int .i64 R.page, .int .i64 R.off, .slice ab R.before.length cb, .slice aa R.after.length ca, .slice at' R.txns.length ct, .slice ad R.dirty.length cd, .int .i64 R.count] 28 (0, 0)) := by rw [← Below.heap_alloc w6 (.cells #[.int .i64 R.kind, .int .i64 R.txn, .int .i64 R.prev, .int .i64 R.next, .int .i64 R.page, .int .i64 R.off, .slice xab R.before.length xcb, .slice xaa R.after.length xca, .slice xat R.txns.length xct, .slice xad R.dirty.length xcd, .int .i64 R.count] 28) q (Nat.lt_of_lt_of_le (lt_of_heap HQ3.out) hb36s)]; exact hq7
    have hql6 := lt_of_heap hq6
    have k0 : w6.cell? ⟨q, 0, none⟩ = some (.int .i64 R.kind) := by rw [cell_row hq6]; rfl
    have k1 : w6.cell? ⟨q, 1, none⟩ = some (.int .i64 R.txn) := by rw [cell_row hq6]; rfl
    have k2 : w6.cell? ⟨q, 2, none⟩ = some (.int .i64 R.prev) := by rw [cell_row hq6]; rfl
    have k3 : w6.cell? ⟨q, 3, none⟩ = some (.int .i64 R.next) := by rw [cell_row hq6]; rfl
    have k4 : w6.cell? ⟨q, 4, none⟩ = some (.int .i64 R.page) := by rw [cell_row hq6]; rfl
    have k5 : w6.cell? ⟨q, 5, none⟩ = some (.int .i64 R.off) := by rw [cell_row hq6]; rfl
    have k6 : w6.cell? ⟨q, 6, none⟩ = some (.slice ab R.before.length cb) := by rw [cell_row hq6]; rfl
    have k7 : w6.cell? ⟨q, 7, none⟩ = some (.slice aa R.after.length ca) := by rw [cell_row hq6]; rfl
    have k8 : w6.cell? ⟨q, 8, none⟩ = some (.slice at' R.txns.length ct) := by rw [cell_row hq6]; rfl
    have k9 : w6.cell? ⟨q, 9, none⟩ = some (.slice ad R.dirty.length cd) := by rw [cell_row hq6]; rfl
    have k10 : w6.cell? ⟨q, 10, none⟩ = some (.int .i64 R.count) := by rw [cell_row hq6]; rfl
    go_wp2_with fail
    refine (size_any (HV.out.below (HB3.out.trans (hb37.mono HB3.out.size)) (Nat.le_refl _)) (by have := HSZ.out; omega)).mono ?_
    rintro e w8 ⟨he8, hw8⟩
    rw [HN.out] at he8
    subst he8
    obtain ⟨x, hx⟩ : ∃ x, w6.heap.size = x := ⟨_, rfl⟩
    rw [hx] at hx7 ⊢
    have hb8 : Below (w6.alloc (.cells #[.int .i64 R.kind, .int .i64 R.txn, .int .i64 R.prev, .int .i64 R.next, .int .i64 R.page, .int .i64 R.off, .slice xab R.before.length xcb, .slice xaa R.after.length xca, .slice xat R.txns.length xct, .slice xad R.dirty.length xcd, .int .i64 R.count] 28)).heap.size (w6.alloc (.cells #[.int .i64 R.kind, .int .i64 R.txn, .int .i64 R.prev, .int .i64 R.next, .int .i64 R.page, .int .i64 R.off, .slice xab R.before.length xcb, .slice xaa R.after.length xca, .slice xat R.txns.length xct, .slice xad R.dirty.length xcd, .int .i64 R.count] 28)) w8 := by rw [hw8]; exact (Below.refl _ _).alloc (Nat.le_refl _) _
    have hq8 : w8.heap[q]? = some (.cells #[.int .i64 R.kind, .int .i64 R.txn, .int .i64 R.prev, .int .i64 R.next, .int .i64 R.page, .int .i64 R.off, .slice ab R.before.length cb, .slice aa R.after.length ca, .slice at' R.txns.length ct, .slice ad R.dirty.length cd, .int .i64 R.count] 28 (0, 0)) := (hb8.block q (lt_of_heap hq7)).trans hq7
    have hx8 : w8.heap[x]? = some (.cells #[.int .i64 R.kind, .int .i64 R.txn, .int .i64 R.prev, .int .i64 R.next, .int .i64 R.page, .int .i64 R.off, .slice xab R.before.length xcb, .slice xaa R.after.length xca, .slice xat R.txns.length xct, .slice xad R.dirty.length xcd, .int .i64 R.count] 28 (0, 0)) := (hb8.block x (lt_of_heap hx7)).trans hx7
    have f1 := owns_below f1 hb8 (Nat.le_refl _)
    have f2 := owns_below f2 hb8 (Nat.le_refl _)
    have f3 := owns_below f3 hb8 (Nat.le_refl _)
    have f4 := owns_below f4 hb8 (Nat.le_refl _)
    have hb38 : Below w3.heap.size w3 w8 := hb37.trans (hb8.mono hb37.size)
    have hb08 : Below w.heap.size w w8 := HB3.out.trans (hb38.mono HB3.out.size)
    obtain ⟨vb0, va0, vt0, vd0, ev, r1, r2, r3, r4⟩ := HV.out.below hb08 (Nat.le_refl _)
    have ev' := ev
    unfold recCells at ev'
    simp only [Value.agg.injEq, Array.mk.injEq, List.cons.injEq, true_and, and_true] at ev'
    obtain ⟨rfl, rfl, rfl, rfl⟩ := ev'
    have hc1 := run_str (owns_sl f1)
    have hc2 := run_str (owns_sl f2)
    have hc3 := run_str r1
    have hc4 := run_str r2
    have HF3 := hide (Row.of_owns f3)
    have HF4 := hide (Row.of_owns f4)
    have HR3 := hide r3
    have HR4 := hide r4
    have HB08 := hide hb08
    have HB38 := hide hb38
    clear k0 k1 k2 k3 k4 k5 k6 k7 k8 k9 k10 hw8 hb8 hx7 hq7 hq6 hql6 hx f1 f2 f3 f4 r1 r2 r3 r4 ev hb37 hb38 hb08
    have k0 : w8.cell? ⟨q, 0, none⟩ = some (.int .i64 R.kind) := by rw [cell_row hq8]; rfl
    have k1 : w8.cell? ⟨q, 1, none⟩ = some (.int .i64 R.txn) := by rw [cell_row hq8]; rfl
    have k2 : w8.cell? ⟨q, 2, none⟩ = some (.int .i64 R.prev) := by rw [cell_row hq8]; rfl
    have k3 : w8.cell? ⟨q, 3, none⟩ = some (.int .i64 R.next) := by rw [cell_row hq8]; rfl
    have k4 : w8.cell? ⟨q, 4, none⟩ = some (.int .i64 R.page) := by rw [cell_row hq8]; rfl
    have k5 : w8.cell? ⟨q, 5, none⟩ = some (.int .i64 R.off) := by rw [cell_row hq8]; rfl
    have k6 : w8.cell? ⟨q, 6, none⟩ = some (.slice ab R.before.length cb) := by rw [cell_row hq8]; rfl
    have k7 : w8.cell? ⟨q, 7, none⟩ = some (.slice aa R.after.length ca) := by rw [cell_row hq8]; rfl
    have k8 : w8.cell? ⟨q, 8, none⟩ = some (.slice at' R.txns.length ct) := by rw [cell_row hq8]; rfl
    have k9 : w8.cell? ⟨q, 9, none⟩ = some (.slice ad R.dirty.length cd) := by rw [cell_row hq8]; rfl
    have k10 : w8.cell? ⟨q, 10, none⟩ = some (.int .i64 R.count) := by rw [cell_row hq8]; rfl
    have y0 : w8.cell? ⟨x, 0, none⟩ = some (.int .i64 R.kind) := by rw [cell_row hx8]; rfl
    have y1 : w8.cell? ⟨x, 1, none⟩ = some (.int .i64 R.txn) := by rw [cell_row hx8]; rfl
    have y2 : w8.cell? ⟨x, 2, none⟩ = some (.int .i64 R.prev) := by rw [cell_row hx8]; rfl
    have y3 : w8.cell? ⟨x, 3, none⟩ = some (.int .i64 R.next) := by rw [cell_row hx8]; rfl
    have y4 : w8.cell? ⟨x, 4, none⟩ = some (.int .i64 R.page) := by rw [cell_row hx8]; rfl
    have y5 : w8.cell? ⟨x, 5, none⟩ = some (.int .i64 R.off) := by rw [cell_row hx8]; rfl
    have y6 : w8.cell? ⟨x, 6, none⟩ = some (.slice xab R.before.length xcb) := by rw [cell_row hx8]; rfl
    have y7 : w8.cell? ⟨x, 7, none⟩ = some (.slice xaa R.after.length xca) := by rw [cell_row hx8]; rfl
    have y8 : w8.cell? ⟨x, 8, none⟩ = some (.slice xat R.txns.length xct) := by rw [cell_row hx8]; rfl
    have y9 : w8.cell? ⟨x, 9, none⟩ = some (.slice xad R.dirty.length xcd) := by rw [cell_row hx8]; rfl
    have y10 : w8.cell? ⟨x, 10, none⟩ = some (.int .i64 R.count) := by rw [cell_row hx8]; rfl
    have ht62 : (R.txns.length : Int) ≤ 100000000 := by have := HSS.out; omega
    have hd62 : (R.dirty.length : Int) ≤ 100000000 := by have := HSS.out; omega
    generalize strOf R.before = S1 at *
    generalize strOf R.after = S2 at *
    go_wp2
    go_loopw [9] (fun i wr => ∃ (j m : Nat), j ≤ R.txns.length ∧ i = .int .i64 j ∧ wr = w8.drewN m) (fun i _ => R.txns.length - (intOf i).toNat)
    case atStart => exact ⟨0, 0, by omega, rfl, rfl⟩
    case round =>
      obtain ⟨j, m, hj, rfl, hw⟩ := hrel
      by_cases hlt : j < R.txns.length
      · obtain ⟨gt, ot, eat, hgt, t0, t1', t2'⟩ := tx_at HR3.out j hlt
        obtain ⟨gx, ox, eax, hgx, x0, x1, x2⟩ := tx_at HF3.out j hlt
        subst eat eax hw
        have hlt' : (j : Int) < (R.txns.length : Int) := by omega
        generalize R.txns.getD j (0, 0, 0) = X at *
        obtain ⟨xa, xb, xc⟩ := X
        go_wp2
        go_quiet (fail)
        go_wp2
        go_roundw
        case rel => exact ⟨j + 1, _, by omega, by go_num, rfl⟩
        case measure => simp [intOf]; omega
      · subst hw
        clear hc1 hc2 hc3 hc4 y0 y1 y2 y3 y4 y5 y6 y7 y8 y10 k0 k1 k2 k3 k4 k5 k6 k7 k10
        go_wp2
        go_loopw [10] (fun i wr => ∃ (j m : Nat), j ≤ R.dirty.length ∧ i = .int .i64 j ∧ wr = w8.drewN m) (fun i _ => R.dirty.length - (intOf i).toNat)
        case atStart => exact ⟨0, _, by omega, rfl, rfl⟩
        case round =>
          obtain ⟨j, m, hj, rfl, hw⟩ := hrel
          by_cases hlt : j < R.dirty.length
          · obtain ⟨gt, ot, eat, hgt, t0, t1'⟩ := dt_at HR4.out j hlt
            obtain ⟨gx, ox, eax, hgx, x0, x1⟩ := dt_at HF4.out j hlt
            subst eat eax hw
            have hlt' : (j : Int) < (R.dirty.length : Int) := by omega
            generalize R.dirty.getD j (0, 0) = X at *
            obtain ⟨xa, xb⟩ := X
            go_wp2
            go_quiet (fail)
            go_wp2
            go_roundw
            case rel => exact ⟨j + 1, _, by omega, by go_num, rfl⟩
            case measure => simp [intOf]; omega
          · subst hw
            have hs3 : Sl (w8.drewN m) (.slice a3 N c3) R.enc := (owns_sl HO3.out).below (HB38.out.trans ⟨rfl, rfl, rfl, Nat.le_refl _, fun _ _ => rfl⟩) (Nat.le_refl _)
            obtain ⟨a3', c3', e3, l3, l3'⟩ := hs3.len
            injection e3 with e31 e32 e33
            subst e31 e33
            clear e32
            have hel : R.enc.length = N := by rw [HLE.out, HN.out]
            have hcut : ∀ u, (Instr.sliceAt 23 (.slice a3 N c3) none (some (.int .i64 ((N : Int) - 1))) none).run Try.prog u = .ok (.slice a3 (N - 1) c3) u := fun u => by
              have := run_cut_to u a3 N c3 (N - 1) (by omega)
              rw [show ((N - 1 : Nat) : Int) = (N : Int) - 1 by omega] at this
              exact this
            have HD := hide (decode_any (hs3.to (N - 1) (by omega)) (by rw [List.length_take]; omega))
            have hsn : dec (R.enc.take (N - 1)) = none := dec_short R (by have := HSZ.out; omega) (N - 1) (by omega)
            have HSN := hide hsn
            have HB8 : Hid (Below w.heap.size w (w8.drewN m)) := HB08.out.trans ⟨rfl, rfl, rfl, Nat.le_refl _, fun _ _ => rfl⟩
            have hnm : (96 : Int) ≤ (N : Int) := by omega
            have k99 : (w8.drewN m).cell? ⟨q, 9, none⟩ = some (.slice ad R.dirty.length cd) := k9
            clear hs3 l3 l3' hel hsn k9 y9 k8
            generalize w8.drewN m = w9 at *
            go_wp2_with fail
            refine HD.out.mono ?_
            rintro e w10 ⟨hb10, he⟩
            rw [HSN.out] at he
            subst he
            unfold zeroCells11
            have HB10 : Hid (Below w.heap.size w w10) := HB8.out.trans (hb10.mono HB8.out.size)
            clear hb10 HD hcut
            go_wp2_with (go_at_call 9; refine (awake_true _).mono ?_; rintro e w11 ⟨rfl, hb11⟩; have HB11 := hide hb11; clear hb11)
            go_ret
            have hb := HB10.out.alloc (HB10.out.size) (.cells zeroCells11 28)
            exact ⟨rfl, hb.trans (HB11.out.mono hb.size)⟩
end Go.Proofs.Ytmfiafdhflaafaa
