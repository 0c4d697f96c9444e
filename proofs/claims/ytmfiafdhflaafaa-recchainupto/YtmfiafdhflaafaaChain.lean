/- The walk of the law RecChain: it returns true and writes nothing that was there. -/
import Derived.Test.YtmfiafdhflaafaaCodes
import Derived.Test.YtmfiafdhflaafaaChainOpen
namespace Go.Proofs.Ytmfiafdhflaafaa
open Go.RowKit
set_option linter.unusedVariables false
set_option linter.unusedSimpArgs false

/-! ### Records one behind the other -/
def encs (l : List Rc) : List UInt8 := l.flatMap Rc.enc
theorem encs_snoc (l : List Rc) (R : Rc) : encs (l ++ [R]) = encs l ++ R.enc := by simp [encs]
theorem encs_cons (R : Rc) (l : List Rc) : encs (R :: l) = R.enc ++ encs l := by simp [encs]
theorem length_encs (B : Nat) : ∀ l : List Rc, (∀ R ∈ l, R.size ≤ B) → (encs l).length ≤ l.length * B
  | [], _ => by simp [encs]
  | R :: l, h => by
    rw [encs_cons, List.length_append, length_enc, List.length_cons, Nat.add_mul]
    have := length_encs B l (fun x hx => h x (List.mem_cons_of_mem _ hx))
    have := h R (by simp)
    omega
theorem take_next (l : List Rc) (j : Nat) (h : j < l.length) : l.take (j + 1) = l.take j ++ [l.getD j Rc.zero] := by
  rw [List.take_succ_eq_append_getElem h]
  simp [h]
theorem drop_next (l : List Rc) (j : Nat) (h : j < l.length) : l.drop j = l.getD j Rc.zero :: l.drop (j + 1) := by
  rw [List.drop_eq_getElem_cons h]
  simp [h]
theorem getD_mem (l : List Rc) (p : Rc → Prop) (h : ∀ k, k < l.length → p (l.getD k Rc.zero)) : ∀ R ∈ l, p R := fun R hR => by
  obtain ⟨k, hk, rfl⟩ := List.mem_iff_getElem.1 hR
  have := h k hk
  simpa [hk] using this
structure ChainAt (w wr : World) (b : Value) (Rs : List Rc) (j : Nat) : Prop where
  own : wr.ownsRow w.heap.size 5 1 b (encs (Rs.take j)).length (secCells (encs (Rs.take j)))
  below : Below w.heap.size w wr
  good : ∀ k, k < j → (Rs.getD k Rc.zero).good
theorem chain_take (l : List Rc) (j : Nat) (B : Nat) (hj : j ≤ 20) (h : ∀ R ∈ l, R.size ≤ B) : (encs (l.take j)).length ≤ 20 * B := by
  have h1 := length_encs B (l.take j) (fun R hR => h R (List.mem_of_mem_take hR))
  have h2 : (l.take j).length ≤ 20 := by rw [List.length_take]; omega
  exact Nat.le_trans h1 (Nat.mul_le_mul_right _ h2)

theorem index_next22 (W : World) (b o n cap i : Nat) (h : i < n) : (do pure (Next.value (← Instr.indexAt 22 (.slice (some ⟨b, o, none⟩) n cap) (.int .i64 (i : Int)))) : Sem Next).run Try.prog W = .ok (.value (.pointer (some ⟨b, o + i * 11, none⟩))) W := by
  have hu := Try.underlying22
  have hs : (Try.prog.info? 28).map (·.size) = some 11 := by kernel_rfl
  obtain ⟨t, ht, hz⟩ := Option.map_eq_some_iff.1 hs
  have hlt : (i : Int) < n := by omega
  have hr : (Instr.indexAt 22 (.slice (some ⟨b, o, none⟩) n cap) (.int .i64 (i : Int))).run Try.prog W = .ok (.pointer (some ⟨b, o + i * 11, none⟩)) W := by
    simp [Instr.indexAt, asIntOf, run_underlying hu, sizeOf, typeInfo, ht, hz, hlt, Addr.add_mid]
    intro h2
    omega
  rw [Sem.run_bind, hr]; rfl
theorem op_lss_no (ρ : Operand → Value) (o : Oper) (x y : Operand) (ho : o.op = .binOp .lss 3 x y 3) (m n : Int) (hx : ρ x = .int .i64 m) (hy : ρ y = .int .i64 n) (h : n ≤ m) (w : World) : (execOp ρ o).run Try.prog w = .ok (.value (.bool false)) w := by
  have hu := Try.underlying3
  have h' : ¬ m < n := by omega
  unfold execOp
  simp only [ho, hx, hy]
  simp [go_sem, hu, h', h]
theorem op_gtr_no (ρ : Operand → Value) (o : Oper) (x y : Operand) (ho : o.op = .binOp .gtr 3 x y 3) (m n : Int) (hx : ρ x = .int .i64 m) (hy : ρ y = .int .i64 n) (h : m ≤ n) (w : World) : (execOp ρ o).run Try.prog w = .ok (.value (.bool false)) w := by
  have hu := Try.underlying3
  have h' : ¬ n < m := by omega
  unfold execOp
  simp only [ho, hx, hy]
  simp [go_sem, hu, h', h]
theorem tmod_low (sh : Int) (N : Nat) (hN : 0 < N) : -(N : Int) < sh.tmod N := by
  have h : (sh.tmod N).natAbs = sh.natAbs % N := by rw [Int.natAbs_tmod, Int.natAbs_natCast]
  have := Nat.mod_lt sh.natAbs hN
  omega
theorem tmod_high (sh : Int) (N : Nat) (hN : 0 < N) : sh.tmod N < (N : Int) := by
  have h : (sh.tmod N).natAbs = sh.natAbs % N := by rw [Int.natAbs_tmod, Int.natAbs_natCast]
  have := Nat.mod_lt sh.natAbs hN
  omega
theorem cut_of (sh : Int) (N : Nat) (hN : 0 < N) : ∃ c : Nat, c < N ∧ (sh.tmod N + N).tmod N = (c : Int) := by
  have h1 := tmod_low sh N hN
  have h2 : (sh.tmod N + N).tmod N = (sh.tmod N + N) % N := Int.tmod_eq_emod_of_nonneg (by omega)
  have h3 := Int.emod_nonneg (sh.tmod N + N) (b := (N : Int)) (by omega)
  have h4 := Int.emod_lt_of_pos (sh.tmod N + N) (b := (N : Int)) (by omega)
  exact ⟨((sh.tmod N + N) % N).toNat, by omega, by rw [h2]; omega⟩

set_option maxHeartbeats 8000000 in
set_option maxRecDepth 100000 in
theorem chain_walk {w : World} {vl : Value} {Rs : List Rc} {sh : Int} (hV : RecsVal w vl Rs) (hs : ∀ k, k < Rs.length → (Rs.getD k Rc.zero).wf ∧ (Rs.getD k Rc.zero).size ≤ 100000000) (hsh : -9223372036854775808 ≤ sh ∧ sh ≤ 9223372036854775807) :
    Calls Try.prog 3 #[vl, .int .i64 sh] w fun e w' => e = .returned (.bool true) ∧ Below w.heap.size w w' := by
  have HV := hide hV
  have HS0 := hide hs
  have HMEM : Hid (∀ R ∈ Rs, R.size ≤ 100000000) := getD_mem Rs (fun R => R.size ≤ 100000000) (fun k hk => (hs k hk).2)
  have HSH := hide hsh
  obtain ⟨al, cl, rfl, hl1, hl2⟩ := hV.len
  have HL2 : Hid (Rs.length ≤ maxLen) := Nat.le_trans hl1 hl2
  clear hV hs hsh hl1 hl2
  obtain ⟨L, hL⟩ : ∃ L, Rs.length = L := ⟨_, rfl⟩
  have HL := hide hL
  rw [hL] at HV HL2 ⊢
  clear hL
  have hLb : (L : Int) ≤ 9223372036854775807 := by have h : L ≤ 9223372036854775807 := HL2.out; omega
  go_enter Try.func3, Try.ntmps3
  go_wp2
  go_loopw [5, 6, 7] (fun b n i wr => ∃ j : Nat, j ≤ L ∧ j ≤ 20 ∧ i = .int .i64 j ∧ n = .int .i64 j ∧ ChainAt w wr b Rs j) (fun _ _ i _ => 20 - (intOf i).toNat)
  case atStart => exact ⟨0, by omega, by omega, rfl, rfl, ⟨⟨rfl, .inl ⟨rfl, rfl⟩⟩, Below.refl _ w, fun k hk => absurd hk (Nat.not_lt_zero _)⟩⟩
  case round =>
    obtain ⟨j, hjL, hj20, rfl, rfl, A⟩ := hrel
    obtain ⟨br, brc, hbr⟩ := owns_len A.own
    have HA := hide A
    clear A
    by_cases h1 : j < L
    · by_cases h2 : j < 20
      · obtain ⟨g, o, R, ab, cb, aa, ca, at', ct, ad, cd, hRj, e, hR, hcell, _⟩ := HV.out.at (j := j) (by rw [HL.out]; exact h1)
        subst e
        have bel := HA.out.below
        obtain ⟨hwf, hsz⟩ := HS0.out j (by rw [HL.out]; exact h1)
        rw [hRj] at hwf hsz
        have HWF := hide hwf
        have HSZ := hide hsz
        have HRJ := hide hRj
        have HR := hide hR
        have HC := hide hcell
        obtain ⟨c0, c1, c2, c3, c4, c5, c6, c7, c8, c9, c10⟩ := hcell wr bel
        have HBAD := hide (bad_any (hR.below bel (Nat.le_refl _)) (by omega))
        have HBEL := hide bel
        have h1' : (j : Int) < (L : Int) := by omega
        have h2' : (j : Int) < 20 := by omega
        clear hR hwf hsz hRj hcell bel
        obtain ⟨E, hE⟩ : ∃ E, (encs (Rs.take j)).length = E := ⟨_, rfl⟩
        have HE := hide hE
        rw [hE] at hbr
        clear hE
        subst hbr
        go_wp2_with fail
        refine HBAD.out.mono ?_
        rintro e w1 ⟨rfl, hb1⟩
        have HB1 : Hid (Below w.heap.size w w1) := HBEL.out.trans (hb1.mono HBEL.out.size)
        have HBW1 := hide hb1
        clear hb1 HBAD c0 c1 c2 c3 c4 c5 c6 c7 c8 c9 c10
        cases hbd : badB R with
        | true =>
          go_wp2_with (go_at_call 9; refine (awake_true _).mono ?_; rintro e w2 ⟨rfl, hb2⟩; have HB2 := hide hb2; clear hb2)
          go_ret
          exact ⟨rfl, HB1.out.trans (HB2.out.mono HB1.out.size)⟩
        | false =>
          have HGOOD := hide (good_of hbd)
          obtain ⟨c0, c1, c2, c3, c4, c5, c6, c7, c8, c9, c10⟩ := HC.out w1 HB1.out
          have HENC := hide (encode_any (HR.out.below HB1.out (Nat.le_refl _)) (by have := HSZ.out; omega) HWF.out)
          clear hbd
          go_wp2_with fail
          refine HENC.out.mono ?_
          rintro e w2 ⟨v2, rfl, ho2, hb2⟩
          clear HENC c0 c1 c2 c3 c4 c5 c6 c7 c8 c9 c10
          have HB2 : Hid (Below w.heap.size w w2) := HB1.out.trans (hb2.mono HB1.out.size)
          have HOWN : Hid (w2.ownsRow w.heap.size 5 1 (.slice br E brc) E (secCells (encs (Rs.take j)))) := by
            have := HA.out.own
            rw [HE.out] at this
            exact owns_below this (HBW1.out.trans (hb2.mono HBW1.out.size)) (Nat.le_refl _)
          have hle := length_enc R
          rw [hle] at ho2
          obtain ⟨a2, c2, hv2⟩ := owns_len ho2
          have HROW : Hid (Row w2 v2 R.size (secCells R.enc)) := Row.of_owns ho2
          have HLEN : Hid ((secCells R.enc).length = R.size * 1) := by show _ = _; rw [length_secCells, hle]; omega
          have HEB : Hid (E ≤ 2000000000) := by have := chain_take Rs j 100000000 hj20 HMEM.out; rw [HE.out] at this; exact this
          have HN1 : Hid ((E + R.size) * 1 ≤ 140737488355328) := by have := HEB.out; have := HSZ.out; show _ ≤ _; omega
          have HN2 : Hid (E + R.size ≤ 140737488355328) := by have := HEB.out; have := HSZ.out; show _ ≤ _; omega
          have HBS : Hid (w.heap.size ≤ w2.heap.size) := HB2.out.size
          clear ho2 hb2 hle
          subst hv2
          have HFIN : Hid (∀ v3 w3, w3.ownsRow w.heap.size 5 1 v3 (E + R.size) (secCells (encs (Rs.take j)) ++ secCells R.enc) → w2.grownBy w3 (Value.slice br E brc).ownBlock → ChainAt w w3 v3 Rs (j + 1)) := fun v3 w3 ho hg => by
            have e1 : encs (Rs.take (j + 1)) = encs (Rs.take j) ++ R.enc := by rw [take_next Rs j (by rw [HL.out]; exact h1), HRJ.out, encs_snoc]
            refine ⟨?_, HB2.out.grown hg HB2.out.size (fun k hk => (HOWN.out.lt k hk).1), fun k hk => ?_⟩
            · rw [e1, List.length_append, HE.out, length_enc, secCells_append]
              exact ho
            · by_cases hkj : k = j
              · rw [hkj, HRJ.out]; exact HGOOD.out
              · exact HA.out.good k (by omega)
          go_wp2_with (first
            | (refine wpList_append_row rfl (.tmp 36) (.tmp 41) 23 rfl w.heap.size 5 _ 1 1 Try.underlying23 Try.info5 rfl (by omega) _ _ _ _ _ _ rfl rfl HOWN.out HROW.out HLEN.out (one_secCells _) HN1.out HN2.out HBS.out ?_
               intro v3 w3 ho3 hg3
               have HFF := hide (HFIN.out _ _ ho3 hg3)
               clear ho3 hg3)
            | fail)
          go_roundw
          case rel => exact ⟨j + 1, by omega, by omega, by go_num, by go_num, HFF.out⟩
          case measure => simp [intOf]; omega
      · 
        obtain ⟨E, hE⟩ : ∃ E, (encs (Rs.take j)).length = E := ⟨_, rfl⟩
        have HE := hide hE
        rw [hE] at hbr
        clear hE
        subst hbr
        have HSL : Hid (Sl wr (.slice br E brc) (encs (Rs.take j))) := owns_sl HA.out.own
        have HBL := hide HA.out.below
        have HGD := hide HA.out.good
        clear HA HE
        have hj20' : (j : Int) ≤ 20 := by omega
        go_wp2
        go_loopw [8, 9] (fun r i wr => ∃ k : Nat, k ≤ j ∧ i = .int .i64 k ∧ Sl wr r (encs ((Rs.take j).drop k)) ∧ Below w.heap.size w wr) (fun _ i _ => j - (intOf i).toNat)
        case atStart => exact ⟨0, by omega, rfl, HSL.out, HBL.out⟩
        case round =>
          clear HSL HBL
          obtain ⟨k, hkj, rfl, hsl, bel⟩ := hrel
          by_cases hlt : k < j
          · have hkL : k < L := by omega
            obtain ⟨g, o, R, ab, cb, aa, ca, at', ct, ad, cd, hRk, e, hR, _, hload⟩ := HV.out.at (j := k) (by rw [HL.out]; exact hkL)
            subst e
            obtain ⟨hwf, hsz⟩ := HS0.out k (by rw [HL.out]; exact hkL)
            rw [hRk] at hwf hsz
            have hgd := HGD.out k hlt
            rw [hRk] at hgd
            have hdr : encs ((Rs.take j).drop k) = R.enc ++ encs ((Rs.take j).drop (k + 1)) := by
              rw [drop_next (Rs.take j) k (by rw [List.length_take, HL.out]; omega), encs_cons, show (Rs.take j).getD k Rc.zero = R from by rw [← hRk]; simp only [List.getD_eq_getElem?_getD, List.getElem?_take, if_pos hlt]]
            have hTl : (encs ((Rs.take j).drop (k + 1))).length ≤ 2000000000 := by
              have h1 := length_encs 100000000 ((Rs.take j).drop (k + 1)) (fun R hR => HMEM.out R (List.mem_of_mem_take (List.mem_of_mem_drop hR)))
              have h2 : ((Rs.take j).drop (k + 1)).length ≤ 20 := by rw [List.length_drop, List.length_take]; omega
              exact Nat.le_trans h1 (Nat.mul_le_mul_right _ h2)
            rw [hdr] at hsl
            clear hdr
            generalize hT : encs ((Rs.take j).drop (k + 1)) = T at hsl hTl
            have HT := hide hT
            have hle := length_enc R
            have hlen : (R.enc ++ T).length = R.size + T.length := by rw [List.length_append, hle]
            obtain ⟨ar, cr, hr, hr1, hr2⟩ := hsl.len
            have HDEC := hide (decode_any hsl (by omega))
            have HSLK := hide hsl
            have HWF := hide hwf
            have HSZ := hide hsz
            have HGOOD := hide hgd
            have HBEL := hide bel
            have HR := hide hR
            have HLOAD := hide hload
            have HLEN := hide hlen
            have HCR : Hid (R.size + T.length ≤ cr) := by rw [hlen] at hr1; exact hr1
            have HLE := hide hle
            obtain ⟨K, hK⟩ : ∃ K, (R.enc ++ T).length = K := ⟨_, rfl⟩
            rw [hK] at hr
            have HK := hide hK
            clear hT hwf hsz hgd hTl hsl bel hR hload hlen hr1 hr2 hK hle hRk
            subst hr
            have hlt' : (k : Int) < (j : Int) := by omega
            go_wp2_with fail
            refine HDEC.out.mono ?_
            rintro e w1 ⟨hb1, he⟩
            rw [dec_enc R HGOOD.out (by have := HSZ.out; omega) T] at he
            obtain ⟨X0, rfl, xb, xa, xt, xd, rfl, g1, g2, g3, g4⟩ := he
            have HX0 : Hid (RecVal w1 (.agg (recCells R xb xa xt xd)) R) := (show RecOwn _ w1 (.agg (recCells R xb xa xt xd)) R from ⟨_, _, _, _, rfl, g1, g2, g3, g4⟩).val
            obtain ⟨xab, xcb, rfl⟩ := owns_len g1
            obtain ⟨xaa, xca, rfl⟩ := owns_len g2
            obtain ⟨xat, xct, rfl⟩ := owns_len g3
            obtain ⟨xad, xcd, rfl⟩ := owns_len g4
            clear g1 g2 g3 g4 HDEC
            unfold recCells at HX0 ⊢
            obtain ⟨N, hN⟩ : ∃ N, R.size = N := ⟨_, rfl⟩
            rw [hN] at HSZ HLEN HCR HLE ⊢
            have HN := hide hN
            clear hN
            obtain ⟨wb, hwb⟩ : ∃ wb, w1.alloc (.cells #[.int .i64 R.kind, .int .i64 R.txn, .int .i64 R.prev, .int .i64 R.next, .int .i64 R.page, .int .i64 R.off, .slice xab R.before.length xcb, .slice xaa R.after.length xca, .slice xat R.txns.length xct, .slice xad R.dirty.length xcd, .int .i64 R.count] 28) = wb := ⟨_, rfl⟩
            obtain ⟨X, hX⟩ : ∃ X, w1.heap.size = X := ⟨_, rfl⟩
            have b1b : Below w1.heap.size w1 wb := by rw [← hwb]; exact (Below.refl _ _).alloc (Nat.le_refl _) _
            have brb : Below wr.heap.size wr wb := hb1.trans (b1b.mono hb1.size)
            have bwb : Below w.heap.size w wb := HBEL.out.trans (brb.mono HBEL.out.size)
            have hXB : wb.heap[X]? = some (.cells #[.int .i64 R.kind, .int .i64 R.txn, .int .i64 R.prev, .int .i64 R.next, .int .i64 R.page, .int .i64 R.off, .slice xab R.before.length xcb, .slice xaa R.after.length xca, .slice xat R.txns.length xct, .slice xad R.dirty.length xcd, .int .i64 R.count] 28 (0, 0)) := by rw [← hX, ← hwb]; exact heap_alloc_new _ _
            have LX : ∀ W : World, Below wb.heap.size wb W → (do pure (Next.value (← Instr.loadAt 28 (.pointer (some ⟨X, 0, none⟩)))) : Sem Next).run Try.prog W = .ok (.value (.agg #[.int .i64 R.kind, .int .i64 R.txn, .int .i64 R.prev, .int .i64 R.next, .int .i64 R.page, .int .i64 R.off, .slice xab R.before.length xcb, .slice xaa R.after.length xca, .slice xat R.txns.length xct, .slice xad R.dirty.length xcd, .int .i64 R.count])) W := fun W hW => load_next28 W _ _ rfl ((hW.block _ (lt_of_heap hXB)).trans hXB)
            have LR : ∀ W : World, Below wb.heap.size wb W → (do pure (Next.value (← Instr.loadAt 28 (.pointer (some ⟨g, o + k * 11, none⟩)))) : Sem Next).run Try.prog W = .ok (.value (.agg #[.int .i64 R.kind, .int .i64 R.txn, .int .i64 R.prev, .int .i64 R.next, .int .i64 R.page, .int .i64 R.off, .slice ab R.before.length cb, .slice aa R.after.length ca, .slice at' R.txns.length ct, .slice ad R.dirty.length cd, .int .i64 R.count])) W := fun W hW => HLOAD.out W (bwb.trans (hW.mono bwb.size))
            have HSM : Hid (∀ W, Below wb.heap.size wb W → Calls Try.prog 12 #[.agg #[.int .i64 R.kind, .int .i64 R.txn, .int .i64 R.prev, .int .i64 R.next, .int .i64 R.page, .int .i64 R.off, .slice xab R.before.length xcb, .slice xaa R.after.length xca, .slice xat R.txns.length xct, .slice xad R.dirty.length xcd, .int .i64 R.count], .agg #[.int .i64 R.kind, .int .i64 R.txn, .int .i64 R.prev, .int .i64 R.next, .int .i64 R.page, .int .i64 R.off, .slice ab R.before.length cb, .slice aa R.after.length ca, .slice at' R.txns.length ct, .slice ad R.dirty.length cd, .int .i64 R.count]] W fun e w' => e = .returned (.bool true) ∧ Below W.heap.size W w') := fun W hW => by
              have h1b := b1b.trans (hW.mono b1b.size)
              have := same_any (HX0.out.below h1b (Nat.le_refl _)) (HR.out.below (bwb.trans (hW.mono bwb.size)) (Nat.le_refl _)) (by have := HSZ.out; have := HN.out; omega) (by have := HSZ.out; have := HN.out; omega) HWF.out HWF.out
              rw [beq_self_eq_true] at this
              exact this
            have HSLB : Hid (Sl wb (.slice ar K cr) (R.enc ++ T)) := HSLK.out.of_below brb
            have HBW := hide bwb
            have h96 : 96 ≤ N := by have := HN.out; rw [← this]; simp only [Rc.size]; omega
            have h96i : (96 : Int) ≤ (N : Int) := by omega
            have hKN : K = N + T.length := by rw [← HK.out]; exact HLEN.out
            have hNK : (N : Int) ≤ (K : Int) := by omega
            have HKN := hide hKN
            clear hKN hb1 b1b brb bwb hXB HX0 HSLK HLOAD HR HBEL
            go_wp2
            clear hwb hX
            refine wp_region_held_drew (S := fun w' => Below wb.heap.size wb w') (by kernel_rfl) ((Below.refl _ wb).drew) (fun HS => ?_)
            refine take_to 0 57 (.bool true) rfl (by kernel_rfl) (by kernel_rfl) (by kernel_rfl) (fun _ _ _ h => h) rfl (by rfl) (fun w _ => by first | rfl | kernel_rfl) HS ?_
            simp only [Act.put, List.setIfInBounds_toArray, List.set_cons_zero, List.set_cons_succ]
            refine take_to 1 58 (.bool false) rfl (by kernel_rfl) (by kernel_rfl) (by kernel_rfl) (fun _ _ _ h => h) rfl (by rfl) (fun w _ => by first | rfl | kernel_rfl) HS ?_
            simp only [Act.put, List.setIfInBounds_toArray, List.set_cons_zero, List.set_cons_succ]
            refine take_to 2 59 (.bool false) rfl (by kernel_rfl) (by kernel_rfl) (by kernel_rfl) (fun _ _ _ h => h) rfl (by rfl) (fun w _ => by first | rfl | kernel_rfl) HS ?_
            simp only [Act.put, List.setIfInBounds_toArray, List.set_cons_zero, List.set_cons_succ]
            refine take_to 3 60 (.int .i64 (N : Nat)) rfl (by kernel_rfl) (by kernel_rfl) (by kernel_rfl) (fun _ _ _ h => h) rfl (by rfl) (fun w _ => by first | rfl | kernel_rfl) HS ?_
            simp only [Act.put, List.setIfInBounds_toArray, List.set_cons_zero, List.set_cons_succ]
            refine take_to 4 61 (.bool false) rfl (by kernel_rfl) (by kernel_rfl) (by kernel_rfl) (fun _ _ _ h => h) rfl (by rfl) (fun w _ => op_lss_no _ _ (.tmp 60) _ rfl (N : Int) 96 rfl rfl h96i w) HS ?_
            simp only [Act.put, List.setIfInBounds_toArray, List.set_cons_zero, List.set_cons_succ]
            refine take_to 5 62 (.bool false) rfl (by kernel_rfl) (by kernel_rfl) (by kernel_rfl) (fun _ _ _ h => h) rfl (by rfl) (fun w _ => by first | rfl | kernel_rfl) HS ?_
            simp only [Act.put, List.setIfInBounds_toArray, List.set_cons_zero, List.set_cons_succ]
            refine take_to 6 63 (.bool false) rfl (by kernel_rfl) (by kernel_rfl) (by kernel_rfl) (fun _ _ _ h => h) rfl (by rfl) (fun w _ => by first | rfl | kernel_rfl) HS ?_
            simp only [Act.put, List.setIfInBounds_toArray, List.set_cons_zero, List.set_cons_succ]
            refine take_to 7 64 (.int .i64 (N : Nat)) rfl (by kernel_rfl) (by kernel_rfl) (by kernel_rfl) (fun _ _ _ h => h) rfl (by rfl) (fun w _ => by first | rfl | kernel_rfl) HS ?_
            simp only [Act.put, List.setIfInBounds_toArray, List.set_cons_zero, List.set_cons_succ]
            refine take_to 8 65 (.slice ar K cr) rfl (by kernel_rfl) (by kernel_rfl) (by kernel_rfl) (fun _ _ _ h => h) rfl (by rfl) (fun w _ => by first | rfl | kernel_rfl) HS ?_
            simp only [Act.put, List.setIfInBounds_toArray, List.set_cons_zero, List.set_cons_succ]
            refine take_to 9 66 (.int .i64 (K : Nat)) rfl (by kernel_rfl) (by kernel_rfl) (by kernel_rfl) (fun _ _ _ h => h) rfl (by rfl) (fun w _ => op_len _ _ (.tmp 65) rfl _ _ _ rfl w) HS ?_
            simp only [Act.put, List.setIfInBounds_toArray, List.set_cons_zero, List.set_cons_succ]
            refine take_to 10 67 (.bool false) rfl (by kernel_rfl) (by kernel_rfl) (by kernel_rfl) (fun _ _ _ h => h) rfl (by rfl) (fun w _ => op_gtr_no _ _ (.tmp 64) (.tmp 66) rfl (N : Int) (K : Int) rfl rfl hNK w) HS ?_
            simp only [Act.put, List.setIfInBounds_toArray, List.set_cons_zero, List.set_cons_succ]
            refine take_to 11 68 (.bool false) rfl (by kernel_rfl) (by kernel_rfl) (by kernel_rfl) (fun _ _ _ h => h) rfl (by rfl) (fun w _ => by first | rfl | kernel_rfl) HS ?_
            simp only [Act.put, List.setIfInBounds_toArray, List.set_cons_zero, List.set_cons_succ]
            refine take_to 12 69 (.bool false) rfl (by kernel_rfl) (by kernel_rfl) (by kernel_rfl) (fun _ _ _ h => h) rfl (by rfl) (fun w _ => by first | rfl | kernel_rfl) HS ?_
            simp only [Act.put, List.setIfInBounds_toArray, List.set_cons_zero, List.set_cons_succ]
            refine take_to 13 70 (.agg #[.int .i64 R.kind, .int .i64 R.txn, .int .i64 R.prev, .int .i64 R.next, .int .i64 R.page, .int .i64 R.off, .slice xab R.before.length xcb, .slice xaa R.after.length xca, .slice xat R.txns.length xct, .slice xad R.dirty.length xcd, .int .i64 R.count]) rfl (by kernel_rfl) (by kernel_rfl) (by kernel_rfl) (fun _ _ _ h => h) rfl (by rfl) (fun W hW => by exact LX W hW) HS ?_
            simp only [Act.put, List.setIfInBounds_toArray, List.set_cons_zero, List.set_cons_succ]
            refine take_to 14 71 (.slice (some ⟨g, o, none⟩) L cl) rfl (by kernel_rfl) (by kernel_rfl) (by kernel_rfl) (fun _ _ _ h => h) rfl (by rfl) (fun w _ => by first | rfl | kernel_rfl) HS ?_
            simp only [Act.put, List.setIfInBounds_toArray, List.set_cons_zero, List.set_cons_succ]
            refine take_to 15 72 (.int .i64 (k : Nat)) rfl (by kernel_rfl) (by kernel_rfl) (by kernel_rfl) (fun _ _ _ h => h) rfl (by rfl) (fun w _ => by first | rfl | kernel_rfl) HS ?_
            simp only [Act.put, List.setIfInBounds_toArray, List.set_cons_zero, List.set_cons_succ]
            refine take_to 16 73 (.pointer (some ⟨g, o + k * 11, none⟩)) rfl (by kernel_rfl) (by kernel_rfl) (by kernel_rfl) (fun _ _ _ h => h) rfl (by rfl) (fun W _ => by exact index_next22 W g o L cl k hkL) HS ?_
            simp only [Act.put, List.setIfInBounds_toArray, List.set_cons_zero, List.set_cons_succ]
            refine take_to 17 74 (.agg #[.int .i64 R.kind, .int .i64 R.txn, .int .i64 R.prev, .int .i64 R.next, .int .i64 R.page, .int .i64 R.off, .slice ab R.before.length cb, .slice aa R.after.length ca, .slice at' R.txns.length ct, .slice ad R.dirty.length cd, .int .i64 R.count]) rfl (by kernel_rfl) (by kernel_rfl) (by kernel_rfl) (fun _ _ _ h => h) rfl (by rfl) (fun W hW => by exact LR W hW) HS ?_
            simp only [Act.put, List.setIfInBounds_toArray, List.set_cons_zero, List.set_cons_succ]
            refine step_call2_to 18 75 12 rfl (by kernel_rfl) rfl (by rfl) (.tmp 70) (.tmp 74) _ rfl (.agg #[.int .i64 R.kind, .int .i64 R.txn, .int .i64 R.prev, .int .i64 R.next, .int .i64 R.page, .int .i64 R.off, .slice xab R.before.length xcb, .slice xaa R.after.length xca, .slice xat R.txns.length xct, .slice xad R.dirty.length xcd, .int .i64 R.count]) (.agg #[.int .i64 R.kind, .int .i64 R.txn, .int .i64 R.prev, .int .i64 R.next, .int .i64 R.page, .int .i64 R.off, .slice ab R.before.length cb, .slice aa R.after.length ca, .slice at' R.txns.length ct, .slice ad R.dirty.length cd, .int .i64 R.count]) rfl rfl Try.enters12 (HSM.out _ HS) (fun e w3 h3 => ?_)
            obtain ⟨rfl, hb3⟩ := h3
            have HS : Below wb.heap.size wb w3 := HS.trans (hb3.mono HS.size)
            refine ⟨_, rfl, HS, ?_⟩
            clear hb3
            simp only [Act.put, List.setIfInBounds_toArray, List.set_cons_zero, List.set_cons_succ]
            refine take_to 19 76 (.bool false) rfl (by kernel_rfl) (by kernel_rfl) (by kernel_rfl) (fun _ _ _ h => h) rfl (by rfl) (fun w _ => by first | rfl | kernel_rfl) HS ?_
            simp only [Act.put, List.setIfInBounds_toArray, List.set_cons_zero, List.set_cons_succ]
            refine take_to 20 77 (.bool false) rfl (by kernel_rfl) (by kernel_rfl) (by kernel_rfl) (fun _ _ _ h => h) rfl (by rfl) (fun w _ => by first | rfl | kernel_rfl) HS ?_
            simp only [Act.put, List.setIfInBounds_toArray, List.set_cons_zero, List.set_cons_succ]
            refine wpAnyH_done (by kernel_rfl) ?_ _

            have HSS := hide HS
            clear HS LX LR HSM
            obtain ⟨ct', hct, hcv⟩ := cut_of sh N (by omega)
            have hcut : ∀ u, (Instr.sliceAt 23 (.slice ar K cr) none (some (.int .i64 (ct' : Int))) none).run Try.prog u = .ok (.slice ar ct' cr) u := fun u => run_cut_to u _ K cr ct' (by have := HCR.out; omega)
            have hfrom : ∀ u, (Instr.sliceAt 23 (.slice ar K cr) (some (.int .i64 (N : Int))) none none).run Try.prog u = .ok (.slice (cutAt ar cr N) (K - N) (cr - N)) u := fun u => run_cut_from u _ K cr N (by omega)
            have HSL3 := hide (HSLB.out.of_below HSS.out)
            have HTAKE : Hid ((R.enc ++ T).take ct' = R.enc.take ct') := enc_take R T ct' (by rw [HLE.out]; omega)
            have HDEC2 : Hid (Calls Try.prog 11 #[.slice ar ct' cr] w3 fun e w' => DecEnd w3 (R.enc.take ct') e w') := by
              have h1 := HSL3.out.to ct' (by rw [HLEN.out]; omega)
              rw [HTAKE.out] at h1
              exact decode_any h1 (by rw [List.length_take]; have := HSZ.out; omega)
            have HSHORT : Hid (dec (R.enc.take ct') = none) := dec_short R (by have := HSZ.out; have := HN.out; omega) ct' (by rw [HLE.out]; exact hct)
            have hct2 : (ct' : Int) < (N : Int) := by omega
            have hN0 : ¬ (N : Int) = 0 := by omega
            have hNb : (N : Int) ≤ 100000000 := by have := HSZ.out; omega
            have hsh1 := HSH.out.1
            have hsh2 := HSH.out.2
            have htm1 := tmod_low sh N (by omega)
            have htm2 := tmod_high sh N (by omega)
            go_wp2_with fail
            refine HDEC2.out.mono ?_
            rintro e w4 ⟨hb4, he⟩
            rw [HSHORT.out] at he
            subst he
            unfold zeroCells11
            have b45 : Below w4.heap.size w4 (w4.alloc (.cells #[.int .i64 0, .int .i64 0, .int .i64 0, .int .i64 0, .int .i64 0, .int .i64 0, .slice none 0 0, .slice none 0 0, .slice none 0 0, .slice none 0 0, .int .i64 0] 28)) := (Below.refl _ _).alloc (Nat.le_refl _) _
            have b35 := hb4.trans (b45.mono hb4.size)
            have HSL5 : Hid (Sl (w4.alloc (.cells #[.int .i64 0, .int .i64 0, .int .i64 0, .int .i64 0, .int .i64 0, .int .i64 0, .slice none 0 0, .slice none 0 0, .slice none 0 0, .slice none 0 0, .int .i64 0] 28)) (.slice (cutAt ar cr N) (K - N) (cr - N)) T) := by
              have h1 := (HSL3.out.of_below b35).from N (by rw [HLEN.out]; omega)
              have h2 : (R.enc ++ T).drop N = T := by rw [List.drop_append_of_le_length (by rw [HLE.out]; exact Nat.le_refl _), List.drop_of_length_le (by rw [HLE.out]; exact Nat.le_refl _), List.nil_append]
              rw [h2, HLEN.out, ← HKN.out] at h1
              exact h1
            have HB5 : Hid (Below w.heap.size w (w4.alloc (.cells #[.int .i64 0, .int .i64 0, .int .i64 0, .int .i64 0, .int .i64 0, .int .i64 0, .slice none 0 0, .slice none 0 0, .slice none 0 0, .slice none 0 0, .int .i64 0] 28))) := by
              have h3 := HBW.out.trans (HSS.out.mono HBW.out.size)
              exact h3.trans (b35.mono h3.size)
            clear hb4 b45 b35 HDEC2
            go_wp2
            go_roundw
            case rel => exact ⟨k + 1, by omega, by go_num, by rw [HT.out]; exact HSL5.out, HB5.out⟩
            case measure => simp [intOf]; omega
          · have hkk : k = j := by omega
            subst hkk
            rw [show encs ((Rs.take k).drop k) = [] from by rw [List.drop_of_length_le (by rw [List.length_take]; omega)]; rfl] at hsl
            obtain ⟨ar, cr, hr, hr1, hr2⟩ := hsl.len
            have hr : _ = Value.slice ar 0 cr := hr
            subst hr
            have HDEC := hide (decode_any hsl (by simp))
            have HBEL := hide bel
            clear hsl bel hr1 hr2
            go_wp2_with fail
            refine HDEC.out.mono ?_
            rintro e w1 ⟨hb1, he⟩
            rw [dec_nil] at he
            subst he
            unfold zeroCells11
            have b12 : Below w1.heap.size w1 (w1.alloc (.cells #[.int .i64 0, .int .i64 0, .int .i64 0, .int .i64 0, .int .i64 0, .int .i64 0, .slice none 0 0, .slice none 0 0, .slice none 0 0, .slice none 0 0, .int .i64 0] 28)) := (Below.refl _ _).alloc (Nat.le_refl _) _
            have br2 := hb1.trans (b12.mono hb1.size)
            have HB2 : Hid (Below w.heap.size w (w1.alloc (.cells #[.int .i64 0, .int .i64 0, .int .i64 0, .int .i64 0, .int .i64 0, .int .i64 0, .slice none 0 0, .slice none 0 0, .slice none 0 0, .slice none 0 0, .int .i64 0] 28))) := HBEL.out.trans (br2.mono HBEL.out.size)
            clear hb1 b12 br2 HDEC
            go_wp2_with (go_at_call 9; refine (awake_true _).mono ?_; rintro e w3 ⟨rfl, hb3⟩; have HB3 := hide hb3; clear hb3)
            go_ret
            exact ⟨rfl, HB2.out.trans (HB3.out.mono HB2.out.size)⟩

    · 
      obtain ⟨E, hE⟩ : ∃ E, (encs (Rs.take j)).length = E := ⟨_, rfl⟩
      have HE := hide hE
      rw [hE] at hbr
      clear hE
      subst hbr
      have HSL : Hid (Sl wr (.slice br E brc) (encs (Rs.take j))) := owns_sl HA.out.own
      have HBL := hide HA.out.below
      have HGD := hide HA.out.good
      clear HA HE
      have hj20' : (j : Int) ≤ 20 := by omega
      go_wp2
      go_loopw [8, 9] (fun r i wr => ∃ k : Nat, k ≤ j ∧ i = .int .i64 k ∧ Sl wr r (encs ((Rs.take j).drop k)) ∧ Below w.heap.size w wr) (fun _ i _ => j - (intOf i).toNat)
      case atStart => exact ⟨0, by omega, rfl, HSL.out, HBL.out⟩
      case round =>
        clear HSL HBL
        obtain ⟨k, hkj, rfl, hsl, bel⟩ := hrel
        by_cases hlt : k < j
        · have hkL : k < L := by omega
          obtain ⟨g, o, R, ab, cb, aa, ca, at', ct, ad, cd, hRk, e, hR, _, hload⟩ := HV.out.at (j := k) (by rw [HL.out]; exact hkL)
          subst e
          obtain ⟨hwf, hsz⟩ := HS0.out k (by rw [HL.out]; exact hkL)
          rw [hRk] at hwf hsz
          have hgd := HGD.out k hlt
          rw [hRk] at hgd
          have hdr : encs ((Rs.take j).drop k) = R.enc ++ encs ((Rs.take j).drop (k + 1)) := by
            rw [drop_next (Rs.take j) k (by rw [List.length_take, HL.out]; omega), encs_cons, show (Rs.take j).getD k Rc.zero = R from by rw [← hRk]; simp only [List.getD_eq_getElem?_getD, List.getElem?_take, if_pos hlt]]
          have hTl : (encs ((Rs.take j).drop (k + 1))).length ≤ 2000000000 := by
            have h1 := length_encs 100000000 ((Rs.take j).drop (k + 1)) (fun R hR => HMEM.out R (List.mem_of_mem_take (List.mem_of_mem_drop hR)))
            have h2 : ((Rs.take j).drop (k + 1)).length ≤ 20 := by rw [List.length_drop, List.length_take]; omega
            exact Nat.le_trans h1 (Nat.mul_le_mul_right _ h2)
          rw [hdr] at hsl
          clear hdr
          generalize hT : encs ((Rs.take j).drop (k + 1)) = T at hsl hTl
          have HT := hide hT
          have hle := length_enc R
          have hlen : (R.enc ++ T).length = R.size + T.length := by rw [List.length_append, hle]
          obtain ⟨ar, cr, hr, hr1, hr2⟩ := hsl.len
          have HDEC := hide (decode_any hsl (by omega))
          have HSLK := hide hsl
          have HWF := hide hwf
          have HSZ := hide hsz
          have HGOOD := hide hgd
          have HBEL := hide bel
          have HR := hide hR
          have HLOAD := hide hload
          have HLEN := hide hlen
          have HCR : Hid (R.size + T.length ≤ cr) := by rw [hlen] at hr1; exact hr1
          have HLE := hide hle
          obtain ⟨K, hK⟩ : ∃ K, (R.enc ++ T).length = K := ⟨_, rfl⟩
          rw [hK] at hr
          have HK := hide hK
          clear hT hwf hsz hgd hTl hsl bel hR hload hlen hr1 hr2 hK hle hRk
          subst hr
          have hlt' : (k : Int) < (j : Int) := by omega
          go_wp2_with fail
          refine HDEC.out.mono ?_
          rintro e w1 ⟨hb1, he⟩
          rw [dec_enc R HGOOD.out (by have := HSZ.out; omega) T] at he
          obtain ⟨X0, rfl, xb, xa, xt, xd, rfl, g1, g2, g3, g4⟩ := he
          have HX0 : Hid (RecVal w1 (.agg (recCells R xb xa xt xd)) R) := (show RecOwn _ w1 (.agg (recCells R xb xa xt xd)) R from ⟨_, _, _, _, rfl, g1, g2, g3, g4⟩).val
          obtain ⟨xab, xcb, rfl⟩ := owns_len g1
          obtain ⟨xaa, xca, rfl⟩ := owns_len g2
          obtain ⟨xat, xct, rfl⟩ := owns_len g3
          obtain ⟨xad, xcd, rfl⟩ := owns_len g4
          clear g1 g2 g3 g4 HDEC
          unfold recCells at HX0 ⊢
          obtain ⟨N, hN⟩ : ∃ N, R.size = N := ⟨_, rfl⟩
          rw [hN] at HSZ HLEN HCR HLE ⊢
          have HN := hide hN
          clear hN
          obtain ⟨wb, hwb⟩ : ∃ wb, w1.alloc (.cells #[.int .i64 R.kind, .int .i64 R.txn, .int .i64 R.prev, .int .i64 R.next, .int .i64 R.page, .int .i64 R.off, .slice xab R.before.length xcb, .slice xaa R.after.length xca, .slice xat R.txns.length xct, .slice xad R.dirty.length xcd, .int .i64 R.count] 28) = wb := ⟨_, rfl⟩
          obtain ⟨X, hX⟩ : ∃ X, w1.heap.size = X := ⟨_, rfl⟩
          have b1b : Below w1.heap.size w1 wb := by rw [← hwb]; exact (Below.refl _ _).alloc (Nat.le_refl _) _
          have brb : Below wr.heap.size wr wb := hb1.trans (b1b.mono hb1.size)
          have bwb : Below w.heap.size w wb := HBEL.out.trans (brb.mono HBEL.out.size)
          have hXB : wb.heap[X]? = some (.cells #[.int .i64 R.kind, .int .i64 R.txn, .int .i64 R.prev, .int .i64 R.next, .int .i64 R.page, .int .i64 R.off, .slice xab R.before.length xcb, .slice xaa R.after.length xca, .slice xat R.txns.length xct, .slice xad R.dirty.length xcd, .int .i64 R.count] 28 (0, 0)) := by rw [← hX, ← hwb]; exact heap_alloc_new _ _
          have LX : ∀ W : World, Below wb.heap.size wb W → (do pure (Next.value (← Instr.loadAt 28 (.pointer (some ⟨X, 0, none⟩)))) : Sem Next).run Try.prog W = .ok (.value (.agg #[.int .i64 R.kind, .int .i64 R.txn, .int .i64 R.prev, .int .i64 R.next, .int .i64 R.page, .int .i64 R.off, .slice xab R.before.length xcb, .slice xaa R.after.length xca, .slice xat R.txns.length xct, .slice xad R.dirty.length xcd, .int .i64 R.count])) W := fun W hW => load_next28 W _ _ rfl ((hW.block _ (lt_of_heap hXB)).trans hXB)
          have LR : ∀ W : World, Below wb.heap.size wb W → (do pure (Next.value (← Instr.loadAt 28 (.pointer (some ⟨g, o + k * 11, none⟩)))) : Sem Next).run Try.prog W = .ok (.value (.agg #[.int .i64 R.kind, .int .i64 R.txn, .int .i64 R.prev, .int .i64 R.next, .int .i64 R.page, .int .i64 R.off, .slice ab R.before.length cb, .slice aa R.after.length ca, .slice at' R.txns.length ct, .slice ad R.dirty.length cd, .int .i64 R.count])) W := fun W hW => HLOAD.out W (bwb.trans (hW.mono bwb.size))
          have HSM : Hid (∀ W, Below wb.heap.size wb W → Calls Try.prog 12 #[.agg #[.int .i64 R.kind, .int .i64 R.txn, .int .i64 R.prev, .int .i64 R.next, .int .i64 R.page, .int .i64 R.off, .slice xab R.before.length xcb, .slice xaa R.after.length xca, .slice xat R.txns.length xct, .slice xad R.dirty.length xcd, .int .i64 R.count], .agg #[.int .i64 R.kind, .int .i64 R.txn, .int .i64 R.prev, .int .i64 R.next, .int .i64 R.page, .int .i64 R.off, .slice ab R.before.length cb, .slice aa R.after.length ca, .slice at' R.txns.length ct, .slice ad R.dirty.length cd, .int .i64 R.count]] W fun e w' => e = .returned (.bool true) ∧ Below W.heap.size W w') := fun W hW => by
            have h1b := b1b.trans (hW.mono b1b.size)
            have := same_any (HX0.out.below h1b (Nat.le_refl _)) (HR.out.below (bwb.trans (hW.mono bwb.size)) (Nat.le_refl _)) (by have := HSZ.out; have := HN.out; omega) (by have := HSZ.out; have := HN.out; omega) HWF.out HWF.out
            rw [beq_self_eq_true] at this
            exact this
          have HSLB : Hid (Sl wb (.slice ar K cr) (R.enc ++ T)) := HSLK.out.of_below brb
          have HBW := hide bwb
          have h96 : 96 ≤ N := by have := HN.out; rw [← this]; simp only [Rc.size]; omega
          have h96i : (96 : Int) ≤ (N : Int) := by omega
          have hKN : K = N + T.length := by rw [← HK.out]; exact HLEN.out
          have hNK : (N : Int) ≤ (K : Int) := by omega
          have HKN := hide hKN
          clear hKN hb1 b1b brb bwb hXB HX0 HSLK HLOAD HR HBEL
          go_wp2
          clear hwb hX
          refine wp_region_held_drew (S := fun w' => Below wb.heap.size wb w') (by kernel_rfl) ((Below.refl _ wb).drew) (fun HS => ?_)
          refine take_to 0 57 (.bool true) rfl (by kernel_rfl) (by kernel_rfl) (by kernel_rfl) (fun _ _ _ h => h) rfl (by rfl) (fun w _ => by first | rfl | kernel_rfl) HS ?_
          simp only [Act.put, List.setIfInBounds_toArray, List.set_cons_zero, List.set_cons_succ]
          refine take_to 1 58 (.bool false) rfl (by kernel_rfl) (by kernel_rfl) (by kernel_rfl) (fun _ _ _ h => h) rfl (by rfl) (fun w _ => by first | rfl | kernel_rfl) HS ?_
          simp only [Act.put, List.setIfInBounds_toArray, List.set_cons_zero, List.set_cons_succ]
          refine take_to 2 59 (.bool false) rfl (by kernel_rfl) (by kernel_rfl) (by kernel_rfl) (fun _ _ _ h => h) rfl (by rfl) (fun w _ => by first | rfl | kernel_rfl) HS ?_
          simp only [Act.put, List.setIfInBounds_toArray, List.set_cons_zero, List.set_cons_succ]
          refine take_to 3 60 (.int .i64 (N : Nat)) rfl (by kernel_rfl) (by kernel_rfl) (by kernel_rfl) (fun _ _ _ h => h) rfl (by rfl) (fun w _ => by first | rfl | kernel_rfl) HS ?_
          simp only [Act.put, List.setIfInBounds_toArray, List.set_cons_zero, List.set_cons_succ]
          refine take_to 4 61 (.bool false) rfl (by kernel_rfl) (by kernel_rfl) (by kernel_rfl) (fun _ _ _ h => h) rfl (by rfl) (fun w _ => op_lss_no _ _ (.tmp 60) _ rfl (N : Int) 96 rfl rfl h96i w) HS ?_
          simp only [Act.put, List.setIfInBounds_toArray, List.set_cons_zero, List.set_cons_succ]
          refine take_to 5 62 (.bool false) rfl (by kernel_rfl) (by kernel_rfl) (by kernel_rfl) (fun _ _ _ h => h) rfl (by rfl) (fun w _ => by first | rfl | kernel_rfl) HS ?_
          simp only [Act.put, List.setIfInBounds_toArray, List.set_cons_zero, List.set_cons_succ]
          refine take_to 6 63 (.bool false) rfl (by kernel_rfl) (by kernel_rfl) (by kernel_rfl) (fun _ _ _ h => h) rfl (by rfl) (fun w _ => by first | rfl | kernel_rfl) HS ?_
          simp only [Act.put, List.setIfInBounds_toArray, List.set_cons_zero, List.set_cons_succ]
          refine take_to 7 64 (.int .i64 (N : Nat)) rfl (by kernel_rfl) (by kernel_rfl) (by kernel_rfl) (fun _ _ _ h => h) rfl (by rfl) (fun w _ => by first | rfl | kernel_rfl) HS ?_
          simp only [Act.put, List.setIfInBounds_toArray, List.set_cons_zero, List.set_cons_succ]
          refine take_to 8 65 (.slice ar K cr) rfl (by kernel_rfl) (by kernel_rfl) (by kernel_rfl) (fun _ _ _ h => h) rfl (by rfl) (fun w _ => by first | rfl | kernel_rfl) HS ?_
          simp only [Act.put, List.setIfInBounds_toArray, List.set_cons_zero, List.set_cons_succ]
          refine take_to 9 66 (.int .i64 (K : Nat)) rfl (by kernel_rfl) (by kernel_rfl) (by kernel_rfl) (fun _ _ _ h => h) rfl (by rfl) (fun w _ => op_len _ _ (.tmp 65) rfl _ _ _ rfl w) HS ?_
          simp only [Act.put, List.setIfInBounds_toArray, List.set_cons_zero, List.set_cons_succ]
          refine take_to 10 67 (.bool false) rfl (by kernel_rfl) (by kernel_rfl) (by kernel_rfl) (fun _ _ _ h => h) rfl (by rfl) (fun w _ => op_gtr_no _ _ (.tmp 64) (.tmp 66) rfl (N : Int) (K : Int) rfl rfl hNK w) HS ?_
          simp only [Act.put, List.setIfInBounds_toArray, List.set_cons_zero, List.set_cons_succ]
          refine take_to 11 68 (.bool false) rfl (by kernel_rfl) (by kernel_rfl) (by kernel_rfl) (fun _ _ _ h => h) rfl (by rfl) (fun w _ => by first | rfl | kernel_rfl) HS ?_
          simp only [Act.put, List.setIfInBounds_toArray, List.set_cons_zero, List.set_cons_succ]
          refine take_to 12 69 (.bool false) rfl (by kernel_rfl) (by kernel_rfl) (by kernel_rfl) (fun _ _ _ h => h) rfl (by rfl) (fun w _ => by first | rfl | kernel_rfl) HS ?_
          simp only [Act.put, List.setIfInBounds_toArray, List.set_cons_zero, List.set_cons_succ]
          refine take_to 13 70 (.agg #[.int .i64 R.kind, .int .i64 R.txn, .int .i64 R.prev, .int .i64 R.next, .int .i64 R.page, .int .i64 R.off, .slice xab R.before.length xcb, .slice xaa R.after.length xca, .slice xat R.txns.length xct, .slice xad R.dirty.length xcd, .int .i64 R.count]) rfl (by kernel_rfl) (by kernel_rfl) (by kernel_rfl) (fun _ _ _ h => h) rfl (by rfl) (fun W hW => by exact LX W hW) HS ?_
          simp only [Act.put, List.setIfInBounds_toArray, List.set_cons_zero, List.set_cons_succ]
          refine take_to 14 71 (.slice (some ⟨g, o, none⟩) L cl) rfl (by kernel_rfl) (by kernel_rfl) (by kernel_rfl) (fun _ _ _ h => h) rfl (by rfl) (fun w _ => by first | rfl | kernel_rfl) HS ?_
          simp only [Act.put, List.setIfInBounds_toArray, List.set_cons_zero, List.set_cons_succ]
          refine take_to 15 72 (.int .i64 (k : Nat)) rfl (by kernel_rfl) (by kernel_rfl) (by kernel_rfl) (fun _ _ _ h => h) rfl (by rfl) (fun w _ => by first | rfl | kernel_rfl) HS ?_
          simp only [Act.put, List.setIfInBounds_toArray, List.set_cons_zero, List.set_cons_succ]
          refine take_to 16 73 (.pointer (some ⟨g, o + k * 11, none⟩)) rfl (by kernel_rfl) (by kernel_rfl) (by kernel_rfl) (fun _ _ _ h => h) rfl (by rfl) (fun W _ => by exact index_next22 W g o L cl k hkL) HS ?_
          simp only [Act.put, List.setIfInBounds_toArray, List.set_cons_zero, List.set_cons_succ]
          refine take_to 17 74 (.agg #[.int .i64 R.kind, .int .i64 R.txn, .int .i64 R.prev, .int .i64 R.next, .int .i64 R.page, .int .i64 R.off, .slice ab R.before.length cb, .slice aa R.after.length ca, .slice at' R.txns.length ct, .slice ad R.dirty.length cd, .int .i64 R.count]) rfl (by kernel_rfl) (by kernel_rfl) (by kernel_rfl) (fun _ _ _ h => h) rfl (by rfl) (fun W hW => by exact LR W hW) HS ?_
          simp only [Act.put, List.setIfInBounds_toArray, List.set_cons_zero, List.set_cons_succ]
          refine step_call2_to 18 75 12 rfl (by kernel_rfl) rfl (by rfl) (.tmp 70) (.tmp 74) _ rfl (.agg #[.int .i64 R.kind, .int .i64 R.txn, .int .i64 R.prev, .int .i64 R.next, .int .i64 R.page, .int .i64 R.off, .slice xab R.before.length xcb, .slice xaa R.after.length xca, .slice xat R.txns.length xct, .slice xad R.dirty.length xcd, .int .i64 R.count]) (.agg #[.int .i64 R.kind, .int .i64 R.txn, .int .i64 R.prev, .int .i64 R.next, .int .i64 R.page, .int .i64 R.off, .slice ab R.before.length cb, .slice aa R.after.length ca, .slice at' R.txns.length ct, .slice ad R.dirty.length cd, .int .i64 R.count]) rfl rfl Try.enters12 (HSM.out _ HS) (fun e w3 h3 => ?_)
          obtain ⟨rfl, hb3⟩ := h3
          have HS : Below wb.heap.size wb w3 := HS.trans (hb3.mono HS.size)
          refine ⟨_, rfl, HS, ?_⟩
          clear hb3
          simp only [Act.put, List.setIfInBounds_toArray, List.set_cons_zero, List.set_cons_succ]
          refine take_to 19 76 (.bool false) rfl (by kernel_rfl) (by kernel_rfl) (by kernel_rfl) (fun _ _ _ h => h) rfl (by rfl) (fun w _ => by first | rfl | kernel_rfl) HS ?_
          simp only [Act.put, List.setIfInBounds_toArray, List.set_cons_zero, List.set_cons_succ]
          refine take_to 20 77 (.bool false) rfl (by kernel_rfl) (by kernel_rfl) (by kernel_rfl) (fun _ _ _ h => h) rfl (by rfl) (fun w _ => by first | rfl | kernel_rfl) HS ?_
          simp only [Act.put, List.setIfInBounds_toArray, List.set_cons_zero, List.set_cons_succ]
          refine wpAnyH_done (by kernel_rfl) ?_ _

          have HSS := hide HS
          clear HS LX LR HSM
          obtain ⟨ct', hct, hcv⟩ := cut_of sh N (by omega)
          have hcut : ∀ u, (Instr.sliceAt 23 (.slice ar K cr) none (some (.int .i64 (ct' : Int))) none).run Try.prog u = .ok (.slice ar ct' cr) u := fun u => run_cut_to u _ K cr ct' (by have := HCR.out; omega)
          have hfrom : ∀ u, (Instr.sliceAt 23 (.slice ar K cr) (some (.int .i64 (N : Int))) none none).run Try.prog u = .ok (.slice (cutAt ar cr N) (K - N) (cr - N)) u := fun u => run_cut_from u _ K cr N (by omega)
          have HSL3 := hide (HSLB.out.of_below HSS.out)
          have HTAKE : Hid ((R.enc ++ T).take ct' = R.enc.take ct') := enc_take R T ct' (by rw [HLE.out]; omega)
          have HDEC2 : Hid (Calls Try.prog 11 #[.slice ar ct' cr] w3 fun e w' => DecEnd w3 (R.enc.take ct') e w') := by
            have h1 := HSL3.out.to ct' (by rw [HLEN.out]; omega)
            rw [HTAKE.out] at h1
            exact decode_any h1 (by rw [List.length_take]; have := HSZ.out; omega)
          have HSHORT : Hid (dec (R.enc.take ct') = none) := dec_short R (by have := HSZ.out; have := HN.out; omega) ct' (by rw [HLE.out]; exact hct)
          have hct2 : (ct' : Int) < (N : Int) := by omega
          have hN0 : ¬ (N : Int) = 0 := by omega
          have hNb : (N : Int) ≤ 100000000 := by have := HSZ.out; omega
          have hsh1 := HSH.out.1
          have hsh2 := HSH.out.2
          have htm1 := tmod_low sh N (by omega)
          have htm2 := tmod_high sh N (by omega)
          go_wp2_with fail
          refine HDEC2.out.mono ?_
          rintro e w4 ⟨hb4, he⟩
          rw [HSHORT.out] at he
          subst he
          unfold zeroCells11
          have b45 : Below w4.heap.size w4 (w4.alloc (.cells #[.int .i64 0, .int .i64 0, .int .i64 0, .int .i64 0, .int .i64 0, .int .i64 0, .slice none 0 0, .slice none 0 0, .slice none 0 0, .slice none 0 0, .int .i64 0] 28)) := (Below.refl _ _).alloc (Nat.le_refl _) _
          have b35 := hb4.trans (b45.mono hb4.size)
          have HSL5 : Hid (Sl (w4.alloc (.cells #[.int .i64 0, .int .i64 0, .int .i64 0, .int .i64 0, .int .i64 0, .int .i64 0, .slice none 0 0, .slice none 0 0, .slice none 0 0, .slice none 0 0, .int .i64 0] 28)) (.slice (cutAt ar cr N) (K - N) (cr - N)) T) := by
            have h1 := (HSL3.out.of_below b35).from N (by rw [HLEN.out]; omega)
            have h2 : (R.enc ++ T).drop N = T := by rw [List.drop_append_of_le_length (by rw [HLE.out]; exact Nat.le_refl _), List.drop_of_length_le (by rw [HLE.out]; exact Nat.le_refl _), List.nil_append]
            rw [h2, HLEN.out, ← HKN.out] at h1
            exact h1
          have HB5 : Hid (Below w.heap.size w (w4.alloc (.cells #[.int .i64 0, .int .i64 0, .int .i64 0, .int .i64 0, .int .i64 0, .int .i64 0, .slice none 0 0, .slice none 0 0, .slice none 0 0, .slice none 0 0, .int .i64 0] 28))) := by
            have h3 := HBW.out.trans (HSS.out.mono HBW.out.size)
            exact h3.trans (b35.mono h3.size)
          clear hb4 b45 b35 HDEC2
          go_wp2
          go_roundw
          case rel => exact ⟨k + 1, by omega, by go_num, by rw [HT.out]; exact HSL5.out, HB5.out⟩
          case measure => simp [intOf]; omega
        · have hkk : k = j := by omega
          subst hkk
          rw [show encs ((Rs.take k).drop k) = [] from by rw [List.drop_of_length_le (by rw [List.length_take]; omega)]; rfl] at hsl
          obtain ⟨ar, cr, hr, hr1, hr2⟩ := hsl.len
          have hr : _ = Value.slice ar 0 cr := hr
          subst hr
          have HDEC := hide (decode_any hsl (by simp))
          have HBEL := hide bel
          clear hsl bel hr1 hr2
          go_wp2_with fail
          refine HDEC.out.mono ?_
          rintro e w1 ⟨hb1, he⟩
          rw [dec_nil] at he
          subst he
          unfold zeroCells11
          have b12 : Below w1.heap.size w1 (w1.alloc (.cells #[.int .i64 0, .int .i64 0, .int .i64 0, .int .i64 0, .int .i64 0, .int .i64 0, .slice none 0 0, .slice none 0 0, .slice none 0 0, .slice none 0 0, .int .i64 0] 28)) := (Below.refl _ _).alloc (Nat.le_refl _) _
          have br2 := hb1.trans (b12.mono hb1.size)
          have HB2 : Hid (Below w.heap.size w (w1.alloc (.cells #[.int .i64 0, .int .i64 0, .int .i64 0, .int .i64 0, .int .i64 0, .int .i64 0, .slice none 0 0, .slice none 0 0, .slice none 0 0, .slice none 0 0, .int .i64 0] 28))) := HBEL.out.trans (br2.mono HBEL.out.size)
          clear hb1 b12 br2 HDEC
          go_wp2_with (go_at_call 9; refine (awake_true _).mono ?_; rintro e w3 ⟨rfl, hb3⟩; have HB3 := hide hb3; clear hb3)
          go_ret
          exact ⟨rfl, HB2.out.trans (HB3.out.mono HB2.out.size)⟩

end Go.Proofs.Ytmfiafdhflaafaa
