/- The walk of the law RecLent: it returns true and writes nothing that was there. -/
import Derived.Test.YtmfiafdhflaafaaLentAt
namespace Go.Proofs.Ytmfiafdhflaafaa
open Go.RowKit
set_option linter.unusedVariables false
set_option linter.unusedSimpArgs false

theorem Try.built77 (w : World) : (Instr.buildSlice 23 1 #[(0, .int .u8 77)]).run Try.prog w = .ok (.slice (some ⟨w.heap.size, 0, none⟩) 1 1) (w.alloc (.cells #[.int .u8 77] 5)) := by kernel_rfl

set_option maxHeartbeats 8000000 in
set_option maxRecDepth 100000 in
theorem lent_walk {w : World} {V : Value} {R : Rc} (hV : RecVal w V R) (hs : R.size ≤ 100000000) (hwf : R.wf) :
    Calls Try.prog 7 #[V] w fun e w' => e = .returned (.bool true) ∧ Below w.heap.size w w' := by
    have HV0 := hide hV
    obtain ⟨vb, va, vt, vd, rfl, h1, h2, h3, h4⟩ := hV
    obtain ⟨ab, cb, rfl, b1, b2⟩ := h1.len
    obtain ⟨aa, ca, rfl, a1, a2⟩ := h2.len
    obtain ⟨at', ct, rfl, t1, t2⟩ := h3.len
    obtain ⟨ad, cd, rfl, d1, d2⟩ := h4.len
    have hB1 : Below w.heap.size w (w.alloc (.cells #[.int .i64 R.kind, .int .i64 R.txn, .int .i64 R.prev, .int .i64 R.next, .int .i64 R.page, .int .i64 R.off, .slice ab R.before.length cb, .slice aa R.after.length ca, .slice at' R.txns.length ct, .slice ad R.dirty.length cd, .int .i64 R.count] 28)) := (Below.refl _ w).alloc (Nat.le_refl _) _
    have HENC := hide (encode_any (HV0.out.below hB1 (Nat.le_refl _)) (by omega) hwf)
    have HSZ := hide hs
    have HB1 := hide hB1
    unfold recCells at HV0 HENC ⊢
    clear h1 h2 h3 h4 hs hwf hB1 b1 a1 t1 d1 b2 a2 t2 d2
    go_enter Try.func7, Try.ntmps7
    go_wp2_with fail
    refine HENC.out.mono ?_
    rintro e w3 ⟨v3, rfl, ho3, hb3⟩
    clear HENC
    have HB3 : Hid (Below w.heap.size w w3) := HB1.out.trans (hb3.mono HB1.out.size)
    have HO3 := hide ho3
    have hle := length_enc R
    rw [hle] at ho3
    obtain ⟨a3, c3, hv3⟩ := owns_len ho3
    have h96 : 96 ≤ R.size := by simp only [Rc.size]; omega
    have HROW3 : Hid (Row (w3.alloc (.cells #[] 5)) v3 R.size (secCells R.enc)) := (Row.of_owns ho3).below ((Below.refl _ w3).alloc (Nat.le_refl _) _) (Nat.le_refl _)
    have HE0 := hide (owns_empty w3)
    have HL3 : Hid ((secCells R.enc).length = R.size * 1) := by show _ = _; rw [length_secCells, hle]; omega
    have HN3 : Hid (0 + R.size ≤ 140737488355328) := by have := HSZ.out; show _ ≤ _; omega
    have HN3' : Hid ((0 + R.size) * 1 ≤ 140737488355328) := by have := HSZ.out; show _ ≤ _; omega
    have HBS3 : Hid (w3.heap.size ≤ (w3.alloc (.cells #[] 5)).heap.size) := by show _ ≤ _; simp
    have hbu0 := Try.built0
    have hbu7 := Try.built77
    have HLE := hide hle
    have HLEE : Hid (R.enc.length = R.size) := hle
    clear ho3 hb3 hle HB1
    have hsz1 : (R.size : Int) ≤ 100000000 := by have := HSZ.out; omega
    obtain ⟨N, hN⟩ : ∃ N, R.size = N := ⟨_, rfl⟩
    have HN := hide hN
    rw [hN] at hv3 HROW3 HL3 HN3 HN3' hsz1 h96 HLEE
    clear hN
    subst hv3
    have HAFT : Hid (∀ v4 w4, w4.ownsRow w3.heap.size 5 1 v4 (0 + N) ([] ++ secCells R.enc) → (w3.alloc (.cells #[] 5)).grownBy w4 (Value.slice (some ⟨w3.heap.size, 0, none⟩) 0 0).ownBlock → Below w3.heap.size w3 w4 ∧ (w4.alloc (.cells #[.int .u8 77] 5)).ownsRow w3.heap.size 5 1 v4 (0 + N) ([] ++ secCells R.enc) ∧ w3.heap.size ≤ (w4.alloc (.cells #[.int .u8 77] 5)).heap.size) := fun v4 w4 ho hg => by
      have hb4 : Below w3.heap.size w3 w4 := ((Below.refl _ w3).alloc (Nat.le_refl _) _).grown hg (by simp) (fun k hk => by simp [Value.ownBlock] at hk; omega)
      exact ⟨hb4, owns_below ho ((Below.refl _ w4).alloc (Nat.le_refl _) _) (Nat.le_refl _), by have := hb4.size; simp; omega⟩
    have HN4 : Hid (0 + N + 1 ≤ 140737488355328) := by show _ ≤ _; omega
    have HN4' : Hid ((0 + N + 1) * 1 ≤ 140737488355328) := by show _ ≤ _; omega
    have HFIN : Hid (∀ v4 w4 v5 w5, w4.ownsRow w3.heap.size 5 1 v4 (0 + N) ([] ++ secCells R.enc) → (w3.alloc (.cells #[] 5)).grownBy w4 (Value.slice (some ⟨w3.heap.size, 0, none⟩) 0 0).ownBlock → w5.ownsRow w3.heap.size 5 1 v5 (0 + N + 1) ([] ++ secCells R.enc ++ [.int .u8 77]) → (w4.alloc (.cells #[.int .u8 77] 5)).grownBy w5 v4.ownBlock → Below w3.heap.size w3 w5 ∧ w5.ownsRow w3.heap.size 5 1 v5 (N + 1) (secCells (R.enc ++ [77])) ∧ ∃ g c, v5 = .slice (some ⟨g, 0, none⟩) (N + 1) c ∧ N + 1 ≤ c) := fun v4 w4 v5 w5 ho hg ho5 hg5 => by
      have hb4 := (HAFT.out v4 w4 ho hg).1
      have hb4' : Below w3.heap.size w3 (w4.alloc (.cells #[.int .u8 77] 5)) := hb4.alloc hb4.size _
      refine ⟨hb4'.grown hg5 hb4'.size (fun k hk => (ho.lt k hk).1), ?_, ?_⟩
      · rw [secCells_append]
        rw [List.nil_append, Nat.zero_add] at ho5
        exact ho5
      · rcases ho5.2 with ⟨_, h0⟩ | ⟨g, cap, cur, hv, _, _, h1, _⟩
        · omega
        · rw [Nat.zero_add] at hv h1
          exact ⟨g, cap, hv, h1⟩
    go_wp2_with (first
      | (refine wpList_append_row rfl (.tmp 17) (.tmp 18) 23 rfl w3.heap.size 5 _ 1 1 Try.underlying23 Try.info5 rfl (by omega) _ 0 [] _ _ _ rfl rfl HE0.out HROW3.out HL3.out (one_secCells _) HN3'.out HN3.out HBS3.out ?_
         intro v4 w4 ho4 hg4
         have HO4 := hide ho4
         have HG4 := hide hg4
         clear ho4 hg4)
      | (refine wpList_append_row rfl (.tmp 19) (.tmp 20) 23 rfl w3.heap.size 5 _ 1 1 Try.underlying23 Try.info5 rfl (by omega) _ _ _ _ 1 [.int .u8 77] rfl rfl (HAFT.out _ _ HO4.out HG4.out).2.1 (row_new _ _ _) rfl (by simp [Value.oneCell']) HN4'.out HN4.out (HAFT.out _ _ HO4.out HG4.out).2.2 ?_
         intro v5 w5 ho5 hg5
         obtain ⟨hb5, hs5, g, c5, hv5, hc5⟩ := HFIN.out _ _ _ _ HO4.out HG4.out ho5 hg5
         have HB5 := hide hb5
         have HS5 := hide hs5
         have hcut : ∀ u, (Instr.sliceAt 23 (.slice (some ⟨g, 0, none⟩) (N + 1) c5) none (some (.int .i64 (N : Int))) none).run Try.prog u = .ok (.slice (some ⟨g, 0, none⟩) N c5) u := fun u => run_cut_to u _ (N + 1) c5 N (by omega)
         clear ho5 hg5 hb5 hs5
         subst hv5)
      | fail)
    have hso : Sl w5 (.slice (some ⟨g, 0, none⟩) (N + 1) c5) (R.enc ++ [77]) := owns_sl HS5.out
    have hso' : Sl w5 (.slice (some ⟨g, 0, none⟩) N c5) R.enc := by
      have := hso.to N (by rw [List.length_append, HLEE.out]; simp)
      rwa [List.take_append_of_le_length (by rw [HLEE.out]; exact Nat.le_refl _), List.take_of_length_le (by rw [HLEE.out]; exact Nat.le_refl _)] at this
    have HSO := hide hso'
    have hdl : R.enc.length ≤ 1000000000000 := by rw [HLEE.out]; omega
    have HDL := hide hdl
    refine (decode_any hso' hdl).mono ?_
    rintro e w6 hE
    obtain ⟨hb6, hEE⟩ := hE.uni
    obtain ⟨xb, xa, xt, xd, rfl, hx⟩ := hEE
    obtain ⟨vb0, va0, vt0, vd0, ev, o1, o2, o3, o4⟩ := hx
    have ev' := ev
    unfold recCells at ev'
    simp only [Value.agg.injEq, Array.mk.injEq, List.cons.injEq, true_and, and_true] at ev'
    obtain ⟨rfl, rfl, rfl, rfl⟩ := ev'
    have Px1 := hide o1
    have Px2 := hide o2
    have Px3 := hide o3
    have Px4 := hide o4
    obtain ⟨xab, xcb, e1⟩ := owns_len o1
    obtain ⟨xaa, xca, e2⟩ := owns_len o2
    obtain ⟨xat, xct, e3⟩ := owns_len o3
    obtain ⟨xad, xcd, e4⟩ := owns_len o4
    generalize hn1 : (told R.enc).before.length = xnb at e1
    generalize hn2 : (told R.enc).after.length = xna at e2
    generalize hn3 : (told R.enc).txns.length = xnt at e3
    generalize hn4 : (told R.enc).dirty.length = xnd at e4
    have Hxn1 := hide hn1
    have Hxn4 := hide hn4
    subst e1 e2 e3 e4
    clear o1 o2 o3 o4 ev hn1 hn2 hn3 hn4
    clear hE hso hso' hdl HE0 HROW3 HL3 HN3 HN3' HBS3 hbu0 hbu7 HAFT HFIN HO4 HG4 HN4 HN4'
    have hb67 : Below w6.heap.size w6 (w6.alloc (.cells #[.int .i64 (told R.enc).kind, .int .i64 (told R.enc).txn, .int .i64 (told R.enc).prev, .int .i64 (told R.enc).next, .int .i64 (told R.enc).page, .int .i64 (told R.enc).off, .slice xab xnb xcb, .slice xaa xna xca, .slice xat xnt xct, .slice xad xnd xcd, .int .i64 (told R.enc).count] 28)) := (Below.refl _ _).alloc (Nat.le_refl _) _
    have hb57 : Below w5.heap.size w5 (w6.alloc (.cells #[.int .i64 (told R.enc).kind, .int .i64 (told R.enc).txn, .int .i64 (told R.enc).prev, .int .i64 (told R.enc).next, .int .i64 (told R.enc).page, .int .i64 (told R.enc).off, .slice xab xnb xcb, .slice xaa xna xca, .slice xat xnt xct, .slice xad xnd xcd, .int .i64 (told R.enc).count] 28)) := hb6.trans (hb67.mono hb6.size)
    have HD2 := hide (decode_any (HSO.out.of_below hb57) HDL.out)
    have HB57 := hide hb57
    have HB6 := hide hb6
    clear hb67 hb57 hb6
    unfold recCells
    go_wp2_with fail
    refine HD2.out.mono ?_
    rintro e w8 hE
    obtain ⟨hb8, hEE⟩ := hE.uni
    obtain ⟨yb, ya, yt, yd, rfl, hy⟩ := hEE
    obtain ⟨vb0, va0, vt0, vd0, ev, o1, o2, o3, o4⟩ := hy
    have ev' := ev
    unfold recCells at ev'
    simp only [Value.agg.injEq, Array.mk.injEq, List.cons.injEq, true_and, and_true] at ev'
    obtain ⟨rfl, rfl, rfl, rfl⟩ := ev'
    have Py1 := hide o1
    have Py2 := hide o2
    have Py3 := hide o3
    have Py4 := hide o4
    obtain ⟨yab, ycb, e1⟩ := owns_len o1
    obtain ⟨yaa, yca, e2⟩ := owns_len o2
    obtain ⟨yat, yct, e3⟩ := owns_len o3
    obtain ⟨yad, ycd, e4⟩ := owns_len o4
    generalize hn1 : (told R.enc).before.length = ynb at e1
    generalize hn2 : (told R.enc).after.length = yna at e2
    generalize hn3 : (told R.enc).txns.length = ynt at e3
    generalize hn4 : (told R.enc).dirty.length = ynd at e4
    have Hyn1 := hide hn1
    have Hyn4 := hide hn4
    subst e1 e2 e3 e4
    clear o1 o2 o3 o4 ev hn1 hn2 hn3 hn4
    clear hE HD2
    unfold recCells
    have HLA : Hid (LentAt w3 (w8.alloc (.cells #[.int .i64 (told R.enc).kind, .int .i64 (told R.enc).txn, .int .i64 (told R.enc).prev, .int .i64 (told R.enc).next, .int .i64 (told R.enc).page, .int .i64 (told R.enc).off, .slice yab ynb ycb, .slice yaa yna yca, .slice yat ynt yct, .slice yad ynd ycd, .int .i64 (told R.enc).count] 28)) w5.heap.size (w6.alloc (.cells #[.int .i64 (told R.enc).kind, .int .i64 (told R.enc).txn, .int .i64 (told R.enc).prev, .int .i64 (told R.enc).next, .int .i64 (told R.enc).page, .int .i64 (told R.enc).off, .slice xab xnb xcb, .slice xaa xna xca, .slice xat xnt xct, .slice xad xnd xcd, .int .i64 (told R.enc).count] 28)).heap.size w6.heap.size w8.heap.size g c5 N xnb xnd #[.int .i64 (told R.enc).kind, .int .i64 (told R.enc).txn, .int .i64 (told R.enc).prev, .int .i64 (told R.enc).next, .int .i64 (told R.enc).page, .int .i64 (told R.enc).off, .slice xab xnb xcb, .slice xaa xna xca, .slice xat xnt xct, .slice xad xnd xcd, .int .i64 (told R.enc).count] #[.int .i64 (told R.enc).kind, .int .i64 (told R.enc).txn, .int .i64 (told R.enc).prev, .int .i64 (told R.enc).next, .int .i64 (told R.enc).page, .int .i64 (told R.enc).off, .slice yab ynb ycb, .slice yaa yna yca, .slice yat ynt yct, .slice yad ynd ycd, .int .i64 (told R.enc).count] (.slice xab xnb xcb) (.slice xad xnd xcd) (told R.enc)) := by
      have hb57 := HB57.out
      have hb58 : Below w5.heap.size w5 w8 := hb57.trans (hb8.mono hb57.size)
      have hb59 : Below w5.heap.size w5 (w8.alloc (.cells #[.int .i64 (told R.enc).kind, .int .i64 (told R.enc).txn, .int .i64 (told R.enc).prev, .int .i64 (told R.enc).next, .int .i64 (told R.enc).page, .int .i64 (told R.enc).off, .slice yab ynb ycb, .slice yaa yna yca, .slice yat ynt yct, .slice yad ynd ycd, .int .i64 (told R.enc).count] 28)) := hb58.alloc hb58.size _
      have hb89 : Below w8.heap.size w8 (w8.alloc (.cells #[.int .i64 (told R.enc).kind, .int .i64 (told R.enc).txn, .int .i64 (told R.enc).prev, .int .i64 (told R.enc).next, .int .i64 (told R.enc).page, .int .i64 (told R.enc).off, .slice yab ynb ycb, .slice yaa yna yca, .slice yat ynt yct, .slice yad ynd ycd, .int .i64 (told R.enc).count] 28)) := (Below.refl _ _).alloc (Nat.le_refl _) _
      have hb79 : Below (w6.alloc (.cells #[.int .i64 (told R.enc).kind, .int .i64 (told R.enc).txn, .int .i64 (told R.enc).prev, .int .i64 (told R.enc).next, .int .i64 (told R.enc).page, .int .i64 (told R.enc).off, .slice xab xnb xcb, .slice xaa xna xca, .slice xat xnt xct, .slice xad xnd xcd, .int .i64 (told R.enc).count] 28)).heap.size (w6.alloc (.cells #[.int .i64 (told R.enc).kind, .int .i64 (told R.enc).txn, .int .i64 (told R.enc).prev, .int .i64 (told R.enc).next, .int .i64 (told R.enc).page, .int .i64 (told R.enc).off, .slice xab xnb xcb, .slice xaa xna xca, .slice xat xnt xct, .slice xad xnd xcd, .int .i64 (told R.enc).count] 28)) (w8.alloc (.cells #[.int .i64 (told R.enc).kind, .int .i64 (told R.enc).txn, .int .i64 (told R.enc).prev, .int .i64 (told R.enc).next, .int .i64 (told R.enc).page, .int .i64 (told R.enc).off, .slice yab ynb ycb, .slice yaa yna yca, .slice yat ynt yct, .slice yad ynd ycd, .int .i64 (told R.enc).count] 28)) := hb8.trans (hb89.mono hb8.size)
      have hb67 : Below w6.heap.size w6 (w6.alloc (.cells #[.int .i64 (told R.enc).kind, .int .i64 (told R.enc).txn, .int .i64 (told R.enc).prev, .int .i64 (told R.enc).next, .int .i64 (told R.enc).page, .int .i64 (told R.enc).off, .slice xab xnb xcb, .slice xaa xna xca, .slice xat xnt xct, .slice xad xnd xcd, .int .i64 (told R.enc).count] 28)) := (Below.refl _ _).alloc (Nat.le_refl _) _
      have o1 := Px1.out
      have o4 := Px4.out
      rw [Hxn1.out] at o1
      rw [Hxn4.out] at o4
      have p1 := owns_below o1 hb67 (Nat.le_refl _)
      have p4 := owns_below o4 hb67 (Nat.le_refl _)
      have hx7 : (w6.alloc (.cells #[.int .i64 (told R.enc).kind, .int .i64 (told R.enc).txn, .int .i64 (told R.enc).prev, .int .i64 (told R.enc).next, .int .i64 (told R.enc).page, .int .i64 (told R.enc).off, .slice xab xnb xcb, .slice xaa xna xca, .slice xat xnt xct, .slice xad xnd xcd, .int .i64 (told R.enc).count] 28)).heap[w6.heap.size]? = some (.cells #[.int .i64 (told R.enc).kind, .int .i64 (told R.enc).txn, .int .i64 (told R.enc).prev, .int .i64 (told R.enc).next, .int .i64 (told R.enc).page, .int .i64 (told R.enc).off, .slice xab xnb xcb, .slice xaa xna xca, .slice xat xnt xct, .slice xad xnd xcd, .int .i64 (told R.enc).count] 28 (0, 0)) := heap_alloc_new _ _
      refine ⟨HB5.out.trans (hb59.mono HB5.out.size), (hb79.block _ (lt_of_heap hx7)).trans hx7, heap_alloc_new _ _, ⟨_, Hxn1.out, owns_below p1 hb79 (Nat.le_refl _)⟩, ⟨_, Hxn4.out, owns_below p4 hb79 (Nat.le_refl _)⟩, ⟨R.enc, HLEE.out, owns_below HS5.out hb59 (Nat.le_refl _)⟩, ⟨_, _, _, _, rfl, owns_below Py1.out hb89 (Nat.le_refl _), owns_below Py2.out hb89 (Nat.le_refl _), owns_below Py3.out hb89 (Nat.le_refl _), owns_below Py4.out hb89 (Nat.le_refl _)⟩, (HS5.out.lt g rfl).1, (HS5.out.lt g rfl).2, hb57.size, fun k hk => (p1.lt k hk).2, fun k hk => (p4.lt k hk).2⟩
    have HNB : Hid ((xnb : Int) ≤ 1000000000000) := by have h := told_size R.enc; have h2 := Hxn1.out; have h3 := HDL.out; have h4 := HLEE.out; simp only [Rc.size] at h; show _ ≤ _; omega
    have HND : Hid ((xnd : Int) ≤ 1000000000000) := by have h := told_size R.enc; have h2 := Hxn4.out; have h3 := HDL.out; have h4 := HLEE.out; simp only [Rc.size] at h; show _ ≤ _; omega
    have HS3 : Hid (Sl w3 (.slice a3 N c3) R.enc) := owns_sl HO3.out
    clear Px1 Px2 Px3 Px4 Py1 Py2 Py3 Py4 Hxn1 Hxn4 Hyn1 Hyn4 HB57 HS5 HB6 HSO hb8 HO3 HB5
    go_wp2_with fail
    generalize hB5 : w5.heap.size = B5 at HLA
    generalize hB7 : (w6.alloc (.cells #[.int .i64 (told R.enc).kind, .int .i64 (told R.enc).txn, .int .i64 (told R.enc).prev, .int .i64 (told R.enc).next, .int .i64 (told R.enc).page, .int .i64 (told R.enc).off, .slice xab xnb xcb, .slice xaa xna xca, .slice xat xnt xct, .slice xad xnd xcd, .int .i64 (told R.enc).count] 28)).heap.size = B7 at HLA
    generalize hX : w6.heap.size = X at HLA ⊢
    generalize hY : w8.heap.size = Y at HLA ⊢
    clear hB5 hB7 hX hY
    generalize w8.alloc (.cells #[.int .i64 (told R.enc).kind, .int .i64 (told R.enc).txn, .int .i64 (told R.enc).prev, .int .i64 (told R.enc).next, .int .i64 (told R.enc).page, .int .i64 (told R.enc).off, .slice yab ynb ycb, .slice yaa yna yca, .slice yat ynt yct, .slice yad ynd ycd, .int .i64 (told R.enc).count] 28) = w9 at HLA ⊢
    have hnb : (xnb : Int) ≤ 1000000000000 := HNB.out
    have hnd : (xnd : Int) ≤ 1000000000000 := HND.out
    clear HNB HND
    go_loopw [11] (fun i wr => ∃ j : Nat, j ≤ xnb ∧ i = .int .i64 j ∧ LentAt w3 wr B5 B7 X Y g c5 N xnb xnd #[.int .i64 (told R.enc).kind, .int .i64 (told R.enc).txn, .int .i64 (told R.enc).prev, .int .i64 (told R.enc).next, .int .i64 (told R.enc).page, .int .i64 (told R.enc).off, .slice xab xnb xcb, .slice xaa xna xca, .slice xat xnt xct, .slice xad xnd xcd, .int .i64 (told R.enc).count] #[.int .i64 (told R.enc).kind, .int .i64 (told R.enc).txn, .int .i64 (told R.enc).prev, .int .i64 (told R.enc).next, .int .i64 (told R.enc).page, .int .i64 (told R.enc).off, .slice yab ynb ycb, .slice yaa yna yca, .slice yat ynt yct, .slice yad ynd ycd, .int .i64 (told R.enc).count] (.slice xab xnb xcb) (.slice xad xnd xcd) (told R.enc)) (fun i _ => xnb - (intOf i).toNat)
    case atStart => exact ⟨0, by omega, rfl, HLA.out⟩
    case round =>
      clear HLA
      obtain ⟨j, hj, rfl, hLA⟩ := hrel
      have cX6 : wr.cell? ⟨X, 6, none⟩ = some (.slice xab xnb xcb) := by rw [cell_row hLA.cx]; rfl
      by_cases hlt : j < xnb
      · obtain ⟨Z, hZ, oZ⟩ := hLA.xb
        obtain ⟨gb, cb', CB, e, hge, hCB⟩ := own_heap oZ (by omega)
        injection e with e1 _ e3
        subst e1 e3
        have oZ' := oZ
        rw [← hZ] at oZ'
        obtain ⟨g', o', e', cB⟩ := (owns_sl oZ').get j (by omega)
        injection e' with e'
        injection e' with e1 e2
        subst e1 e2
        rw [Nat.zero_add] at cB
        have hfz : wr.frozen? ⟨gb, j, none⟩ = false := frozen_row hCB
        have HLA' := hide (hLA.putB (i := j) hlt (Z.getD j 0 + 1))
        have hb255 : (Z.getD j 0).toNat < 256 := (Z.getD j 0).toNat_lt
        have HBV : Hid (∀ n : Int, n = ((Z.getD j 0).toNat : Int) + 1 → Value.int .u8 (n % 256) = bcell (Z.getD j 0 + 1)) := fun n hn => by
          rw [hn]
          simp only [bcell, UInt8.toNat_add]
          congr 1
        generalize (Z.getD j 0).toNat = zb at *
        have hlt' : (j : Int) < (xnb : Int) := by omega
        clear oZ oZ' hZ hCB hge hLA
        go_wp2
        go_roundw
        case rel => exact ⟨j + 1, by omega, by go_num, by rw [HBV.out _ rfl]; exact HLA'.out⟩
        case measure => simp [intOf]; omega
      · have HLA1 := hide hLA
        have cX9 : wr.cell? ⟨X, 9, none⟩ = some (.slice xad xnd xcd) := by rw [cell_row hLA.cx]; rfl
        clear hLA
        go_wp2
        clear cX6 cX9 hlt hj
        go_loopw [12] (fun i wr => ∃ j : Nat, j ≤ xnd ∧ i = .int .i64 j ∧ LentAt w3 wr B5 B7 X Y g c5 N xnb xnd #[.int .i64 (told R.enc).kind, .int .i64 (told R.enc).txn, .int .i64 (told R.enc).prev, .int .i64 (told R.enc).next, .int .i64 (told R.enc).page, .int .i64 (told R.enc).off, .slice xab xnb xcb, .slice xaa xna xca, .slice xat xnt xct, .slice xad xnd xcd, .int .i64 (told R.enc).count] #[.int .i64 (told R.enc).kind, .int .i64 (told R.enc).txn, .int .i64 (told R.enc).prev, .int .i64 (told R.enc).next, .int .i64 (told R.enc).page, .int .i64 (told R.enc).off, .slice yab ynb ycb, .slice yaa yna yca, .slice yat ynt yct, .slice yad ynd ycd, .int .i64 (told R.enc).count] (.slice xab xnb xcb) (.slice xad xnd xcd) (told R.enc)) (fun i _ => xnd - (intOf i).toNat)
        case atStart => exact ⟨0, by omega, rfl, HLA1.out⟩
        case round =>
          clear HLA1
          obtain ⟨j, hj, rfl, hLA⟩ := hrel
          have cX9 : wr.cell? ⟨X, 9, none⟩ = some (.slice xad xnd xcd) := by rw [cell_row hLA.cx]; rfl
          by_cases hlt : j < xnd
          · obtain ⟨l, hl, oZ⟩ := hLA.xd
            obtain ⟨gd, cd', CB, e, hge, hCB⟩ := own_heap oZ (by omega)
            injection e with e1 _ e3
            subst e1 e3
            obtain ⟨g', o', e', hg', cB, cB1⟩ := dt_at (Row.of_owns (hl ▸ oZ)) j (by omega)
            injection e' with e'
            injection e' with e1 e2
            subst e1 e2
            rw [Nat.zero_add] at cB
            have hfz : wr.frozen? ⟨gd, j * 2, none⟩ = false := frozen_row hCB
            have HLA' := hide (hLA.putD (i := j) hlt 99)
            have hlt' : (j : Int) < (xnd : Int) := by omega
            clear oZ hCB hge hLA cB1
            generalize (l.getD j (0, 0)).1 = dv at *
            go_wp2
            go_roundw
            case rel => exact ⟨j + 1, by omega, by go_num, HLA'.out⟩
            case measure => simp [intOf]; omega
          · have HLA2 := hide hLA
            clear hLA
            go_wp2
            clear cX9 hlt hj
            go_loopw [13] (fun i wr => ∃ j : Nat, j ≤ N ∧ i = .int .i64 j ∧ LentAt w3 wr B5 B7 X Y g c5 N xnb xnd #[.int .i64 (told R.enc).kind, .int .i64 (told R.enc).txn, .int .i64 (told R.enc).prev, .int .i64 (told R.enc).next, .int .i64 (told R.enc).page, .int .i64 (told R.enc).off, .slice xab xnb xcb, .slice xaa xna xca, .slice xat xnt xct, .slice xad xnd xcd, .int .i64 (told R.enc).count] #[.int .i64 (told R.enc).kind, .int .i64 (told R.enc).txn, .int .i64 (told R.enc).prev, .int .i64 (told R.enc).next, .int .i64 (told R.enc).page, .int .i64 (told R.enc).off, .slice yab ynb ycb, .slice yaa yna yca, .slice yat ynt yct, .slice yad ynd ycd, .int .i64 (told R.enc).count] (.slice xab xnb xcb) (.slice xad xnd xcd) (told R.enc)) (fun i _ => N - (intOf i).toNat)
            case atStart => exact ⟨0, by omega, rfl, HLA2.out⟩
            case round =>
              clear HLA2
              obtain ⟨j, hj, rfl, hLA⟩ := hrel
              by_cases hlt : j < N
              · obtain ⟨Z, hZ, oZ⟩ := hLA.oo
                obtain ⟨gb, cb', CB, e, hge, hCB⟩ := own_heap oZ (by omega)
                injection e with e1 _ e3
                injection e1 with e1
                injection e1 with e1
                subst e1
                have hsl : Sl wr (.slice (some ⟨g, 0, none⟩) (N + 1) c5) (Z ++ [77]) := owns_sl (base := w3.heap.size) (show wr.ownsRow w3.heap.size 5 1 (.slice (some ⟨g, 0, none⟩) (N + 1) c5) (Z ++ [77]).length (secCells (Z ++ [77])) from by rw [List.length_append, hZ]; exact oZ)
                obtain ⟨g', o', e', cB⟩ := hsl.get j (by rw [List.length_append, hZ]; omega)
                injection e' with e'
                injection e' with e1 e2
                subst e1 e2
                rw [Nat.zero_add] at cB
                have hfz : wr.frozen? ⟨g, j, none⟩ = false := frozen_row hCB
                have HLA' : Hid (LentAt w3 (wr.setCell ⟨g, j, none⟩ (.int .u8 0)) B5 B7 X Y g c5 N xnb xnd #[.int .i64 (told R.enc).kind, .int .i64 (told R.enc).txn, .int .i64 (told R.enc).prev, .int .i64 (told R.enc).next, .int .i64 (told R.enc).page, .int .i64 (told R.enc).off, .slice xab xnb xcb, .slice xaa xna xca, .slice xat xnt xct, .slice xad xnd xcd, .int .i64 (told R.enc).count] #[.int .i64 (told R.enc).kind, .int .i64 (told R.enc).txn, .int .i64 (told R.enc).prev, .int .i64 (told R.enc).next, .int .i64 (told R.enc).page, .int .i64 (told R.enc).off, .slice yab ynb ycb, .slice yaa yna yca, .slice yat ynt yct, .slice yad ynd ycd, .int .i64 (told R.enc).count] (.slice xab xnb xcb) (.slice xad xnd xcd) (told R.enc)) := hLA.putO (i := j) hlt 0
                have hlt' : (j : Int) < (N : Int) := by omega
                have hlt1 : (j : Int) < (N : Int) + 1 := by omega
                generalize ((Z ++ [77]).getD j 0).toNat = zb at *
                clear oZ hCB hge hLA hsl
                go_wp2
                go_roundw
                case rel => exact ⟨j + 1, by omega, by go_num, HLA'.out⟩
                case measure => simp [intOf]; omega
              · have HLA3 := hide hLA
                have HS4 := hide (HS3.out.of_below hLA.b3)
                clear hLA HS3
                go_wp2_with fail
                refine (refDecode_any HS4.out HDL.out).mono ?_
                rintro e w10 hE
                obtain ⟨hb10, hEE⟩ := hE.uni
                obtain ⟨zb, za, zt, zd, rfl, hz⟩ := hEE
                have HZ0 := hide hz
                obtain ⟨vb0, va0, vt0, vd0, ev, o1, o2, o3, o4⟩ := hz
                have ev' := ev
                unfold recCells at ev'
                simp only [Value.agg.injEq, Array.mk.injEq, List.cons.injEq, true_and, and_true] at ev'
                obtain ⟨rfl, rfl, rfl, rfl⟩ := ev'
                have Pz1 := hide o1
                have Pz2 := hide o2
                have Pz3 := hide o3
                have Pz4 := hide o4
                obtain ⟨zab, zcb, e1⟩ := owns_len o1
                obtain ⟨zaa, zca, e2⟩ := owns_len o2
                obtain ⟨zat, zct, e3⟩ := owns_len o3
                obtain ⟨zad, zcd, e4⟩ := owns_len o4
                generalize hn1 : (told R.enc).before.length = znb at e1
                generalize hn2 : (told R.enc).after.length = zna at e2
                generalize hn3 : (told R.enc).txns.length = znt at e3
                generalize hn4 : (told R.enc).dirty.length = znd at e4
                have Hzn1 := hide hn1
                have Hzn4 := hide hn4
                subst e1 e2 e3 e4
                clear o1 o2 o3 o4 ev hn1 hn2 hn3 hn4

                clear hE Pz1 Pz2 Pz3 Pz4 Hzn1 Hzn4 HS4
                unfold gotU
                unfold recCells at HZ0
                obtain ⟨wb, hwb⟩ : ∃ wb, w10.alloc (.cells #[.int .i64 (told R.enc).kind, .int .i64 (told R.enc).txn, .int .i64 (told R.enc).prev, .int .i64 (told R.enc).next, .int .i64 (told R.enc).page, .int .i64 (told R.enc).off, .slice zab znb zcb, .slice zaa zna zca, .slice zat znt zct, .slice zad znd zcd, .int .i64 (told R.enc).count, .int .i64 (toldN R.enc : Nat), .bool (dec R.enc).isSome] 36) = wb := ⟨_, rfl⟩
                obtain ⟨G, hG⟩ : ∃ G, w10.heap.size = G := ⟨_, rfl⟩
                have b10b : Below w10.heap.size w10 wb := by rw [← hwb]; exact (Below.refl _ _).alloc (Nat.le_refl _) _
                have brb : Below wr.heap.size wr wb := hb10.trans (b10b.mono hb10.size)
                have hGB : wb.heap[G]? = some (.cells #[.int .i64 (told R.enc).kind, .int .i64 (told R.enc).txn, .int .i64 (told R.enc).prev, .int .i64 (told R.enc).next, .int .i64 (told R.enc).page, .int .i64 (told R.enc).off, .slice zab znb zcb, .slice zaa zna zca, .slice zat znt zct, .slice zad znd zcd, .int .i64 (told R.enc).count, .int .i64 (toldN R.enc : Nat), .bool (dec R.enc).isSome] 36 (0, 0)) := by
                  rw [← hG, ← hwb]
                  exact heap_alloc_new _ _
                have hYB : wb.heap[Y]? = some (.cells #[.int .i64 (told R.enc).kind, .int .i64 (told R.enc).txn, .int .i64 (told R.enc).prev, .int .i64 (told R.enc).next, .int .i64 (told R.enc).page, .int .i64 (told R.enc).off, .slice yab ynb ycb, .slice yaa yna yca, .slice yat ynt yct, .slice yad ynd ycd, .int .i64 (told R.enc).count] 28 (0, 0)) := (brb.block _ (lt_of_heap HLA3.out.cy)).trans HLA3.out.cy
                have y0 : wb.cell? ⟨Y, 0, none⟩ = some (.int .i64 (told R.enc).kind) := by rw [cell_row hYB]; rfl
                have y1 : wb.cell? ⟨Y, 1, none⟩ = some (.int .i64 (told R.enc).txn) := by rw [cell_row hYB]; rfl
                have y2 : wb.cell? ⟨Y, 2, none⟩ = some (.int .i64 (told R.enc).prev) := by rw [cell_row hYB]; rfl
                have y3 : wb.cell? ⟨Y, 3, none⟩ = some (.int .i64 (told R.enc).next) := by rw [cell_row hYB]; rfl
                have y4 : wb.cell? ⟨Y, 4, none⟩ = some (.int .i64 (told R.enc).page) := by rw [cell_row hYB]; rfl
                have y5 : wb.cell? ⟨Y, 5, none⟩ = some (.int .i64 (told R.enc).off) := by rw [cell_row hYB]; rfl
                have y6 : wb.cell? ⟨Y, 6, none⟩ = some (.slice yab ynb ycb) := by rw [cell_row hYB]; rfl
                have y7 : wb.cell? ⟨Y, 7, none⟩ = some (.slice yaa yna yca) := by rw [cell_row hYB]; rfl
                have y8 : wb.cell? ⟨Y, 8, none⟩ = some (.slice yat ynt yct) := by rw [cell_row hYB]; rfl
                have y9 : wb.cell? ⟨Y, 9, none⟩ = some (.slice yad ynd ycd) := by rw [cell_row hYB]; rfl
                have y10 : wb.cell? ⟨Y, 10, none⟩ = some (.int .i64 (told R.enc).count) := by rw [cell_row hYB]; rfl
                have z0 : wb.cell? ⟨G, 0, none⟩ = some (.int .i64 (told R.enc).kind) := by rw [cell_row hGB]; rfl
                have z1 : wb.cell? ⟨G, 1, none⟩ = some (.int .i64 (told R.enc).txn) := by rw [cell_row hGB]; rfl
                have z2 : wb.cell? ⟨G, 2, none⟩ = some (.int .i64 (told R.enc).prev) := by rw [cell_row hGB]; rfl
                have z3 : wb.cell? ⟨G, 3, none⟩ = some (.int .i64 (told R.enc).next) := by rw [cell_row hGB]; rfl
                have z4 : wb.cell? ⟨G, 4, none⟩ = some (.int .i64 (told R.enc).page) := by rw [cell_row hGB]; rfl
                have z5 : wb.cell? ⟨G, 5, none⟩ = some (.int .i64 (told R.enc).off) := by rw [cell_row hGB]; rfl
                have z6 : wb.cell? ⟨G, 6, none⟩ = some (.slice zab znb zcb) := by rw [cell_row hGB]; rfl
                have z7 : wb.cell? ⟨G, 7, none⟩ = some (.slice zaa zna zca) := by rw [cell_row hGB]; rfl
                have z8 : wb.cell? ⟨G, 8, none⟩ = some (.slice zat znt zct) := by rw [cell_row hGB]; rfl
                have z9 : wb.cell? ⟨G, 9, none⟩ = some (.slice zad znd zcd) := by rw [cell_row hGB]; rfl
                have z10 : wb.cell? ⟨G, 10, none⟩ = some (.int .i64 (told R.enc).count) := by rw [cell_row hGB]; rfl
                have cG : wb.cell? ⟨G, 12, none⟩ = some (.bool (dec R.enc).isSome) := by rw [cell_row hGB]; rfl
                have c77 : wb.cell? ⟨g, N, none⟩ = some (.int .u8 77) := by
                  obtain ⟨Z, hZ, oZ⟩ := HLA3.out.oo
                  have hsl : Sl wr (.slice (some ⟨g, 0, none⟩) (N + 1) c5) (Z ++ [77]) := owns_sl (base := w3.heap.size) (show wr.ownsRow w3.heap.size 5 1 (.slice (some ⟨g, 0, none⟩) (N + 1) c5) (Z ++ [77]).length (secCells (Z ++ [77])) from by rw [List.length_append, hZ]; exact oZ)
                  obtain ⟨g', o', e', cB⟩ := (hsl.of_below brb).get N (by rw [List.length_append, hZ]; simp)
                  injection e' with e'
                  injection e' with e1 e2
                  subst e1 e2
                  rw [Nat.zero_add] at cB
                  rw [cB, ← hZ]
                  simp
                have HSM : Hid (Calls Try.prog 12 #[.agg #[.int .i64 (told R.enc).kind, .int .i64 (told R.enc).txn, .int .i64 (told R.enc).prev, .int .i64 (told R.enc).next, .int .i64 (told R.enc).page, .int .i64 (told R.enc).off, .slice yab ynb ycb, .slice yaa yna yca, .slice yat ynt yct, .slice yad ynd ycd, .int .i64 (told R.enc).count], .agg #[.int .i64 (told R.enc).kind, .int .i64 (told R.enc).txn, .int .i64 (told R.enc).prev, .int .i64 (told R.enc).next, .int .i64 (told R.enc).page, .int .i64 (told R.enc).off, .slice zab znb zcb, .slice zaa zna zca, .slice zat znt zct, .slice zad znd zcd, .int .i64 (told R.enc).count]] wb fun e w' => e = .returned (.bool true) ∧ Below wb.heap.size wb w') := by
                  have ts := told_size R.enc
                  have tl := HDL.out
                  have tn := HLEE.out
                  have := same_any (HLA3.out.yv.val.below brb (Nat.le_refl _)) (HZ0.out.val.below b10b (Nat.le_refl _)) (by omega) (by omega) (told_wf R.enc) (told_wf R.enc)
                  rw [beq_self_eq_true] at this
                  exact this
                have HBW : Hid (Below w.heap.size w wb) := by
                  have h3b : Below w3.heap.size w3 wb := HLA3.out.b3.trans (brb.mono HLA3.out.b3.size)
                  exact HB3.out.trans (h3b.mono HB3.out.size)
                clear hb10 b10b brb hGB hYB HZ0 HLA3 hcut
                go_wp2_with (first
                  | (go_at_call 12; refine HSM.out.mono ?_; rintro e w11 ⟨rfl, hb11⟩; have HB11 := hide hb11; clear hb11)
                  | (go_at_call 9; refine (awake_true _).mono ?_; rintro e w12 ⟨rfl, hb12⟩; have HB12 := hide hb12; clear hb12))
                go_ret
                have h11 := HBW.out.trans (HB11.out.mono HBW.out.size)
                exact ⟨rfl, h11.trans (HB12.out.mono h11.size)⟩
end Go.Proofs.Ytmfiafdhflaafaa
