/- against. -/
import Derived.Test.YtffjdjbjkjefoaaAgn
namespace Go.Proofs.Ytffjdjbjkjefoaa
open Go.RowKit Go.WideAt
set_option linter.unusedVariables false
set_option linter.unusedSimpArgs false

theorem grown_none_below {w w' : World} (h : w.grownBy w' none) : Below w.heap.size w w' := ⟨h.os, h.tape, h.output, h.size, fun k hk => h.block k hk (by simp)⟩
theorem below_grown {b r : Nat} {w0 w w' : World} (h : Below b w0 w) (hg : w.grownBy w' (some r)) (hr : b ≤ r) (hb : b ≤ w0.heap.size) : Below b w0 w' :=
  ⟨hg.os.trans h.os, hg.tape.trans h.tape, hg.output.trans h.output, Nat.le_trans h.size hg.size, fun k hk => (hg.block k (by have := h.size; omega) (by intro e; injection e with e; omega)).trans (h.block k hk)⟩
theorem below_grown2 {b : Nat} {w0 w w' : World} (h : Below b w0 w) (hg : w.grownBy w' none) (hb : b ≤ w.heap.size) : Below b w0 w' := h.grown hg hb (fun k e => by cases e)
theorem RngO.rlt {w : World} {k : TypeId} {ob : Option Nat} {r n : Nat} {f : Lit → Option Value} {left : Lit → Bool} {cnt : Nat} (h : RngO w k ob r n f left cnt) : r < w.heap.size := let ⟨_, _, _, _, h⟩ := h.isIter; lt_of_heap h
theorem not_iter {w : World} {base : Nat} {e : TypeId} {size : Nat} {v : Value} {n r : Nat} {xs : List Value} (h : w.ownsRow base e size v n xs) (hi : ∃ a c d e, w.heap[r]? = some (.mapIter a c d e)) : ¬ v.ownBlock = some r := by
  intro hk
  obtain ⟨a, c, d, e, hi⟩ := hi
  rcases h.2 with ⟨rfl, _⟩ | ⟨g, cap, cur, rfl, _, hc, _⟩
  · cases hk
  · have : g = r := by simpa [Value.ownBlock] using hk
    subst this
    rw [hi] at hc
    cases hc
theorem buildInt (x : Int) (w : World) : (Instr.buildSlice 27 1 #[(0, .int .i64 x)]).run Try.prog w = .ok (.slice (some ⟨w.heap.size, 0, none⟩) 1 1) (w.alloc (.cells #[.int .i64 x] 3)) := by
  kernel_rfl
theorem owns_iter {w w' : World} {base : Nat} {e : TypeId} {size : Nat} {v : Value} {n r : Nat} {xs : List Value} (h : w.ownsRow base e size v n xs) (hi : ∃ a c d e, w.heap[r]? = some (.mapIter a c d e)) (hg : w.grownBy w' (some r)) : w'.ownsRow base e size v n xs := by
  refine owns_stay h fun k hk => hg.block k (h.lt k hk).2 ?_
  intro e
  injection e with e
  subst e
  obtain ⟨a, c, d, e, hi⟩ := hi
  rcases h.2 with ⟨rfl, _⟩ | ⟨g, cap, cur, rfl, _, hc, _⟩
  · cases hk
  · have : g = k := by simpa [Value.ownBlock] using hk
    subst this
    rw [hi] at hc
    cases hc
set_option maxHeartbeats 2000000 in
set_option maxRecDepth 100000 in
theorem against_any {w : World} {base : Nat} {B : Tb} {m : Held} {N : Nat} (hT : TabIs w base B m N) {K : Nat} (hK : ∃ l : List (Int × List UInt8), l.length ≤ K ∧ ∀ x s, m x s ≠ none → (x, s) ∈ l) (hN : K ≤ 11728124029610) {id : Int} (hid : In64 id) {bg n : Nat} {g : List UInt8 → Option Int} (hg : MapV w 9 bg n (intMap g)) (hgn : ∀ s md, g s = some md → NameOk s) :
    Calls Try.prog 28 #[.pointer (some ⟨B.t, 0, none⟩), .int .i64 id, .map (some bg)] w fun e w' => ∃ v A, e = .returned v ∧ w'.ownsRow w.heap.size 3 1 v A.length (A.map icell) ∧ Against m g id A ∧ A.length ≤ K ∧ Below w.heap.size w w' := by
  have HT := hide hT
  have HKK := hide hK
  have HGN := hide hgn
  have HF : Hid (∀ a b w, Calls Try.prog 15 #[.int .i64 a, .int .i64 b] w fun e w' => e = .returned (.bool (fits a b)) ∧ Below w.heap.size w w') := fits_any
  obtain ⟨x1, left1, cnt1, q1, q2, q3, q4, q5, q6⟩ := hg.range keyed9 Try.underlying57
  have HQ2 := hide q2
  have HQ4 := hide q4
  have HQ5 := hide q5
  have hbg := hg.lt
  have HG := hide hg
  have HN := hide hN
  clear hT hK hgn q2 q3 q4 q5 q6 hg hN
  go_enter Try.func28, Try.ntmps28
  go_wp2_with (first
    | (at_range; refine wpList_rangeV rfl 57 _ rfl _ _ x1 rfl q1 ?_)
    | go_in)
  go_frame
  go_loopw [7] (fun v wr => ∃ (left : Lit → Bool) (cnt : Nat) (P : List (Int × List UInt8)), RngV wr 9 bg w.heap.size n (intMap g) left cnt ∧ Seen m g id P (fun _ s => left (.string s) = false) ∧ wr.ownsRow w.heap.size 3 1 v P.length ((P.map Prod.fst).map icell) ∧ Below w.heap.size w wr)
    (fun _ wr => wr.rangeLeft bg w.heap.size)
  case atStart =>
    refine ⟨_, _, [], HQ2.out, Seen.nil fun x s hb => ?_, ⟨rfl, .inl ⟨rfl, rfl⟩⟩, grown_none_below HQ5.out⟩
    obtain ⟨_, md, h, hgs, _⟩ := hb
    rw [HQ4.out _ (kl_str s)]
    show ¬ ((g s).map (Value.int .i64)).isSome = false
    rw [hgs]
    simp
  case round =>
    obtain ⟨left, cnt, P, hrg, hS, hrow, hB⟩ := hrel
    have hbgB : bg < w.heap.size := hbg
    rcases hrg.next keyed9 0 with ⟨hc0, hl0, hrun⟩ | ⟨key, v0, kl, w2, cnt2, hkey, hlk, hfk, hrun, hrg2, hlt, hgr2, hs2, hen⟩
    · have hlen : P.length ≤ K := hS.lenK HKK.out
      have HA := hide (hS.against fun x s _ => hl0 _)
      have hrow' : wr.ownsRow w.heap.size 3 1 u7 (P.map Prod.fst).length ((P.map Prod.fst).map icell) := by rw [List.length_map]; exact hrow
      obtain ⟨A, hA⟩ : ∃ A, P.map Prod.fst = A := ⟨_, rfl⟩
      rw [hA] at hrow' HA
      have hlA : A.length ≤ K := by rw [← hA, List.length_map]; exact hlen
      have HN2 := HN.out
      have HS1 := hide (sortI_any hrow' (by omega))
      have HB := hide hB
      have hob : ∀ k, u7.ownBlock = some k → w.heap.size ≤ k := fun k hk => (hrow'.lt k hk).1
      have HOB := hide hob
      have HLA := hide hlA
      have HN3 := hide HN2
      clear hrow hS hrg hB hl0 hob hlA HN2 hrow'
      go_wp2_with (first
        | (at_next; refine wpList_nextV rfl _ rfl _ _ _ rfl hrun ?_)
        | (go_at_call 41; refine HS1.out.mono ?_; rintro e x4 ⟨rfl, hr4, hg4⟩; have HC := hide (compI_any hr4 (by rw [List.length_mergeSort]; have := HLA.out; have := HN3.out; omega)))
        | (go_at_call 42; refine HC.out.mono ?_; rintro e x5 ⟨v5, rfl, hr5, hg5⟩))
      go_ret
      refine ⟨v5, uniq A, rfl, hr5, HA.out, Nat.le_trans (uniq_len A) HLA.out, ?_⟩
      exact (HB.out.grown hg4 HB.out.size HOB.out).grown hg5 (Nat.le_trans HB.out.size hg4.size) HOB.out
    · obtain ⟨s0, rfl, rfl, hs0⟩ := key9_inv hkey
      obtain ⟨md, hgs, rfl⟩ : ∃ md, g s0 = some md ∧ v0 = .int .i64 md := by
        have : (g s0).map (Value.int .i64) = some v0 := hfk
        obtain ⟨md, h1, h2⟩ := Option.map_eq_some_iff.1 this
        exact ⟨md, h1, h2.symm⟩
      have hnm : NameOk s0 := HGN.out s0 md hgs
      have hB2 : Below w.heap.size w w2 := below_grown hB hgr2 (Nat.le_refl _) (Nat.le_refl _)
      have hT2 : TabIs w2 base B m N := HT.out.belowW hB2
      have hrow2 := owns_iter hrow hrg.isIter hgr2
      have c0 := hT2.cells0
      obtain ⟨x3, leftI, cntI, p1, p2, p3, p4, p5⟩ := hT2.rangeIn s0
      have HLK := hide (hT2.lookOn hnm)
      have HP2 := hide p2
      have HRG2 := hide hrg2
      have hlt0 : ∀ k, k < w.heap.size → k < w2.heap.size := fun k hk => Nat.lt_of_lt_of_le hk hB2.size
      have hB3 : Below w.heap.size w x3 := below_grown2 hB2 p4 hB2.size
      have hrow3 : x3.ownsRow w.heap.size 3 1 u7 P.length ((P.map Prod.fst).map icell) := owns_stay hrow2 fun k hk => p4.block k (hrow2.lt k hk).2 (by simp)
      have HRG3 : Hid (RngV x3 9 bg w.heap.size n (intMap g) (fun x => left x && !x.sameKey (.string s0)) cnt2) := hrg2.stay (p4.block bg (hlt0 _ hbg) (by simp)) (p4.block _ hrg2.lt (by simp))
      have HS3 : Hid (Seen m g id P (fun x s => left (.string s) = false ∧ s ≠ s0 ∨ s = s0 ∧ leftI (.int .i64 x) = false)) := hS.same fun x s hb => by
        by_cases e : s = s0
        · subst e
          obtain ⟨_, _, h, _, hm, _⟩ := hb
          rw [p3 x, hm, hlk]
          simp
        · simp [e]
      go_wp2_with (first
        | (at_next; refine wpList_nextV rfl _ rfl _ _ _ rfl hrun ?_)
        | (at_range; refine wpList_rangeV rfl 63 _ rfl _ _ x3 rfl p1 ?_)
        | (refine wpList_look rfl 53 _ _ false rfl _ _ _ rfl rfl HLK.out ?_))
      have hcO : wr.rangeLeft bg w.heap.size = cnt := hrg.left_eq
      have hcross : w.heap.size < w2.heap.size := hrg2.lt
      have HROW3 := hide hrow3
      have HB3 := hide hB3
      have HP3 := hide p3
      have HGS := hide hgs
      have HHLK := hide hlk
      have HRP : Hid (RngO x3 3 (B.on s0) w2.heap.size N (ofI fun x => (m x s0).map (Value.int .i64)) leftI cntI) := p2
      have hltO : ∀ b, B.on s0 = some b → b < w.heap.size := fun b hb => HT.out.lt (.inr (.inr (.inr (.inl ⟨s0, hb⟩))))
      have HLTO := hide hltO
      clear hrun hrow hB hrg hrow2 hB2 hT2 c0 p1 p2 p3 p4 p5 hrow3 hB3 hen hgr2 hs2 hrg2 HRG2 HLK HP2 hlt0 hS hfk hkey hltO hlk hgs hs0
      generalize w2.heap.size = r2 at *
      go_frame
      go_loopw [7] (fun v wr => ∃ (leftJ : Lit → Bool) (cntJ : Nat) (P : List (Int × List UInt8)), RngO wr 3 (B.on s0) r2 N (ofI fun x => (m x s0).map (Value.int .i64)) leftJ cntJ ∧ Seen m g id P (fun x s => left (.string s) = false ∧ s ≠ s0 ∨ s = s0 ∧ leftJ (.int .i64 x) = false) ∧ wr.ownsRow w.heap.size 3 1 v P.length ((P.map Prod.fst).map icell) ∧ Below w.heap.size w wr ∧ RngV wr 9 bg w.heap.size n (intMap g) (fun x => left x && !x.sameKey (.string s0)) cnt2)
        (fun _ wr => leftO wr (B.on s0) r2)
      case atStart => exact ⟨_, _, P, HRP.out, HS3.out, HROW3.out, HB3.out, HRG3.out⟩
      case round =>
        clear HRP HS3 HROW3 HB3 HRG3
        obtain ⟨leftJ, cntJ, P, hri, hS, hrow, hB, hro⟩ := hrel
        rcases hri.next keyed3 0 with ⟨hc0, hl0, hrun⟩ | ⟨key, v0, kl, w2, cntK, hkey, hlk, hfk, hrun, hri2, hltI, hgr2, hs2, hen⟩
        · have HS := hide hS
          have HROW := hide hrow
          have HB := hide hB
          have HRO := hide hro
          clear hri hS hrow hB hro
          go_wp2_with (first
            | (at_next; refine wpList_nextV rfl _ rfl _ _ _ rfl hrun ?_))
          go_roundw
          case rel =>
            refine ⟨_, cnt2, P, HRO.out, HS.out.same fun x s hb => ?_, HROW.out, HB.out⟩
            by_cases e : s = s0
            · simp [e, hl0, Lit.sameKey]
            · simp [e, hl0, Lit.sameKey]
          case measure => rw [HRO.out.left_eq, hcO]; exact hlt
        · obtain ⟨x0, rfl, rfl, hx0⟩ := key3_inv hkey
          obtain ⟨h0, hm0, rfl⟩ : ∃ h0, m x0 s0 = some h0 ∧ v0 = .int .i64 h0 := by
            have : (m x0 s0).map (Value.int .i64) = some v0 := hfk
            obtain ⟨h0, h1, h2⟩ := Option.map_eq_some_iff.1 this
            exact ⟨h0, h1, h2.symm⟩
          have hB2 : Below w.heap.size w w2 := below_grown hB hgr2 (Nat.le_of_lt hcross) (Nat.le_refl _)
          have hro2 := hro.stay (w' := w2) (hgr2.block bg (Nat.lt_of_lt_of_le hbg hB.size) (by intro e; injection e with e; omega)) (hgr2.block _ hro.lt (by intro e; injection e with e; omega))
          have hrow2 := owns_iter hrow hri.isIter hgr2
          have hlen := hS.lenK HKK.out
          have hnd : ¬ (left (.string s0) = false ∧ s0 ≠ s0 ∨ s0 = s0 ∧ leftJ (.int .i64 x0) = false) := by rw [hlk]; simp
          have hd : ∀ x s, (left (.string s) = false ∧ s ≠ s0 ∨ s = s0 ∧ (leftJ (.int .i64 x) && !(Lit.int .i64 x).sameKey (.int .i64 x0)) = false) ↔ (left (.string s) = false ∧ s ≠ s0 ∨ s = s0 ∧ leftJ (.int .i64 x) = false) ∨ (x = x0 ∧ s = s0) := by
            intro x s
            by_cases e : s = s0
            · subst e
              by_cases e2 : x = x0
              · subst e2; simp [Lit.sameKey]
              · simp [Lit.sameKey, e2]
            · simp [e]
          have HNB : Hid (x0 = id ∨ fits h0 md = true → Seen m g id P (fun x s => left (.string s) = false ∧ s ≠ s0 ∨ s = s0 ∧ (leftJ (.int .i64 x) && !(Lit.int .i64 x).sameKey (.int .i64 x0)) = false)) := fun hor => hS.skip (x0 := x0) (s0 := s0) (by
            rintro ⟨b1, md', h', b2, b3, b4⟩
            rw [HGS.out] at b2
            rw [hm0] at b3
            injection b2 with b2
            injection b3 with b3
            subst b2 b3
            rcases hor with e | e
            · exact b1 e
            · rw [e] at b4; cases b4) hd
          have HAB : Hid (x0 ≠ id → fits h0 md = false → Seen m g id (P ++ [(x0, s0)]) (fun x s => left (.string s) = false ∧ s ≠ s0 ∨ s = s0 ∧ (leftJ (.int .i64 x) && !(Lit.int .i64 x).sameKey (.int .i64 x0)) = false)) := fun b1 b2 => hS.add hnd ⟨b1, md, h0, HGS.out, hm0, b2⟩ hd
          have HCI : Hid (leftO wr (B.on s0) r2 = cntJ) := hri.left_eq
          have HROW2 := hide hrow2
          have HB2 := hide hB2
          have HRO2 := hide hro2
          have HRI2 := hide hri2
          have HLEN := hide hlen
          clear hB2 hro2 hrow2 hlen hnd hd hri hS hrow hB hro hfk hkey hlk hri2 hgr2 hs2
          by_cases hxi : x0 = id
          · have hxb : (x0 != id) = false := by simp [hxi]
            go_wp2_with (first
              | (at_next; refine wpList_nextV rfl _ rfl _ _ _ rfl hrun ?_))
            go_roundw
            case rel => exact ⟨_, cntK, P, HRI2.out, HNB.out (.inl hxi), HROW2.out, HB2.out, HRO2.out⟩
            case measure => rw [HRI2.out.left_eq, HCI.out]; exact hltI
          · have hxb : (x0 != id) = true := by simp [hxi]
            cases hfi : fits h0 md with
            | true =>
              go_wp2_with (first
                | (at_next; refine wpList_nextV rfl _ rfl _ _ _ rfl hrun ?_)
                | (go_at_call 15; refine (HF.out _ _ _).mono ?_; rintro e w5 ⟨rfl, hw5⟩; rw [hfi]; have HW5 := hide hw5; clear hw5))
              go_roundw
              case rel => exact ⟨_, cntK, P, HRI2.out.stay (fun b hb => HW5.out.block b (Nat.lt_of_lt_of_le (HLTO.out b hb) HB2.out.size)) (HW5.out.block _ HRI2.out.rlt), HNB.out (.inr hfi), owns_below HROW2.out HW5.out (Nat.le_refl _), HB2.out.trans (HW5.out.mono HB2.out.size), HRO2.out.stay (HW5.out.block _ (Nat.lt_of_lt_of_le hbg HB2.out.size)) (HW5.out.block _ HRO2.out.lt)⟩
              case measure =>
                rw [(HRI2.out.stay (w' := w5) (fun b hb => HW5.out.block b (Nat.lt_of_lt_of_le (HLTO.out b hb) HB2.out.size)) (HW5.out.block _ HRI2.out.rlt)).left_eq, HCI.out]; exact hltI
            | false =>
              go_upto_region 9 with (first
                | (at_next; refine wpList_nextV rfl _ rfl _ _ _ rfl hrun ?_)
                | (go_at_call 15; refine (HF.out _ _ _).mono ?_; rintro e w5 ⟨rfl, hw5⟩; rw [hfi]; have HW5 := hide hw5; clear hw5))
              have hbi := buildInt x0 w5
              obtain ⟨w6, hw6⟩ : ∃ w6, w5.alloc (.cells #[.int .i64 x0] 3) = w6 := ⟨_, rfl⟩
              have hW6 : Below w5.heap.size w5 w6 := by rw [← hw6]; exact (Below.refl _ _).alloc (Nat.le_refl _) _
              have HROW6 : Hid (Row w6 (.slice (some ⟨w5.heap.size, 0, none⟩) 1 1) 1 [.int .i64 x0]) := by
                rw [← hw6]
                exact ⟨_, 1, rfl, Nat.le_refl _, by simp only [maxLen]; omega, fun _ => ⟨w5.heap.size, 0, rfl, fun j u hu => by rw [Nat.zero_add, cell_row (heap_alloc_new w5 _)]; simpa using hu⟩⟩
              have HW6 : Hid (Below w2.heap.size w2 w6) := HW5.out.trans (hW6.mono HW5.out.size)
              have HO6 := hide (owns_below HROW2.out HW6.out (Nat.le_refl _))
              have HB6 : Hid (Below w.heap.size w w6) := HB2.out.trans (HW6.out.mono HB2.out.size)
              have hn6 : P.length ≤ 11728124029610 := Nat.le_trans HLEN.out HN.out
              have HOB6 : Hid (∀ k, u7.ownBlock = some k → w.heap.size ≤ k) := fun k hk => (HO6.out.lt k hk).1
              have HRI6 : Hid (RngO w6 3 (B.on s0) r2 N (ofI fun x => (m x s0).map (Value.int .i64)) (fun x => leftJ x && !x.sameKey (.int .i64 x0)) cntK) := HRI2.out.stay (fun b hb => HW6.out.block b (Nat.lt_of_lt_of_le (HLTO.out b hb) HB2.out.size)) (HW6.out.block _ HRI2.out.rlt)
              have HRO6 : Hid (RngV w6 9 bg w.heap.size n (intMap g) (fun x => left x && !x.sameKey (.string s0)) cnt2) := HRO2.out.stay (HW6.out.block _ (Nat.lt_of_lt_of_le hbg HB2.out.size)) (HW6.out.block _ HRO2.out.lt)
              clear hW6
              subst hw6
              go_wp2_with (refine wpList_append_row rfl (.tmp 40) (.tmp 42) 27 rfl w.heap.size 3 (.int .i64 0) 1 8 Try.underlying27 Try.info3 rfl (by omega) _ _ _ _ 1 _ rfl rfl HO6.out HROW6.out rfl (by simp [Value.oneCell']) (by omega) (by omega) HB6.out.size ?_; intro v7 w7 ho7 hg7)
              have hr7 : RngO w7 3 (B.on s0) r2 N (ofI fun x => (m x s0).map (Value.int .i64)) (fun x => leftJ x && !x.sameKey (.int .i64 x0)) cntK := HRI6.out.stay (fun b hb => hg7.block b (Nat.lt_of_lt_of_le (HLTO.out b hb) HB6.out.size) (fun e => by have := HOB6.out b e.symm; have := HLTO.out b hb; omega)) (hg7.block _ HRI6.out.rlt (fun e => not_iter HO6.out HRI6.out.isIter e.symm))
              go_roundw
              case rel =>
                refine ⟨_, cntK, P ++ [(x0, s0)], hr7, HAB.out hxi hfi, ?_, HB6.out.grown hg7 HB6.out.size HOB6.out, HRO6.out.stay (hg7.block _ (Nat.lt_of_lt_of_le hbg HB6.out.size) (fun e => by have := HOB6.out bg e.symm; omega)) (hg7.block _ HRO6.out.lt (fun e => not_iter HO6.out HRO6.out.isIter e.symm))⟩
                have : (List.map icell (List.map Prod.fst (P ++ [(x0, s0)]))) = List.map icell (List.map Prod.fst P) ++ [.int .i64 x0] := by simp [icell]
                rw [this, List.length_append, List.length_singleton]
                exact ho7
              case measure => rw [hr7.left_eq, HCI.out]; exact hltI
end Go.Proofs.Ytffjdjbjkjefoaa
