/- history: its walk. -/
import Derived.Test.YtpjppolbkdnkaaaHistU
namespace Go.Proofs.Ytpjppolbkdnkaaa
open Go.RowKit
set_option linter.unusedVariables false
set_option linter.unusedSimpArgs false

theorem ints_cell {w : World} {base : Nat} {g c : Nat} {l : List Int} (h : w.ownsRow base 3 1 (.slice (some ⟨g, 0, none⟩) l.length c) l.length (intCells l)) (i : Nat) (x : Int) (hx : l[i]? = some x) : w.cell? ⟨g, i, none⟩ = some (.int .i64 x) := by
  have hi := (List.getElem?_eq_some_iff.1 hx).1
  obtain ⟨g', c', cur, e, _, hg, _, _, _, ht⟩ := own_some h (by omega)
  injection e with e1 e2 e3
  injection e1 with e1
  injection e1 with e1 _
  subst e1
  have a1 : (intCells l)[i]? = some (.int .i64 x) := by unfold intCells; rw [List.getElem?_map, hx]; rfl
  rw [← ht, List.getElem?_take, if_pos (by omega)] at a1
  rw [cell_of_row _ _ _ _ _ _ hg]; simpa using a1
set_option maxHeartbeats 60000000 in
set_option maxRecDepth 100000 in
theorem history_any (w : World) (a : Option Addr) (c : Nat) (X : List St) (hX : StepsIn w a X) (hXl : X.length ≤ 9223372036854775807) :
    Calls Try.prog 8 #[.slice a X.length c] w fun e w' => ∃ g4 g5 g6 v3 tv S K, e = .returned v3 ∧ HistIs w w' g4 g5 g6 v3 tv S K ∧ HRun X (min X.length 60) S K := by
  have HX := hide hX
  obtain ⟨n, hn⟩ : ∃ n, X.length = n := ⟨_, rfl⟩
  have HN := hide hn
  rw [hn] at hXl ⊢
  clear hn hX
  go_enter Try.func8, Try.ntmps8
  go_wp2
  generalize hx0 : World.alloc _ (Obj.cells _ 64) = x0
  have HI0 : Hid (HistIs w x0 w.heap.size (w.heap.size + 1) (w.heap.size + 1 + 1) (.slice none 0 0) [.slice none 0 0, .slice none 0 0, .slice none 0 0, .slice none 0 0, .slice none 0 0] Hs.init []) := {
    h4 := by rw [← hx0]; exact (Below.heap_alloc _ _ _ (by simp; omega)).trans ((Below.heap_alloc _ _ _ (by simp)).trans (heap_alloc_new w _))
    h5 := by
      rw [← hx0]
      have h := heap_alloc_new (w.alloc (.cells (intsV Hs.init.last).toArray 62)) (.cells (boolsV Hs.init.done).toArray 63)
      rw [World.size_alloc] at h
      exact (Below.heap_alloc _ _ _ (by simp)).trans h
    h6 := by
      rw [← hx0]
      have h := heap_alloc_new ((w.alloc (.cells (intsV Hs.init.last).toArray 62)).alloc (.cells (boolsV Hs.init.done).toArray 63)) (.cells #[.slice none 0 0, .slice none 0 0, .slice none 0 0, .slice none 0 0, .slice none 0 0] 64)
      rw [World.size_alloc, World.size_alloc] at h
      exact h
    n4 := rfl
    n5 := rfl
    n6 := rfl
    nt := rfl
    rows := fun t v l h1 h2 => by
      have hv : v = .slice none 0 0 := by
        match t, h1 with
        | 0, h => simpa using h.symm
        | 1, h => simpa using h.symm
        | 2, h => simpa using h.symm
        | 3, h => simpa using h.symm
        | 4, h => simpa using h.symm
        | t + 5, h => simp at h
      have hl : l = [] := by
        match t, h2 with
        | 0, h => simpa [Hs.init] using h.symm
        | 1, h => simpa [Hs.init] using h.symm
        | 2, h => simpa [Hs.init] using h.symm
        | 3, h => simpa [Hs.init] using h.symm
        | 4, h => simpa [Hs.init] using h.symm
        | t + 5, h => simp [Hs.init] at h
      subst hv; subst hl
      exact ⟨rfl, .inl ⟨rfl, rfl⟩⟩
    lines := ⟨rfl, .inl ⟨rfl, rfl⟩⟩
    keep := by simp
    below := by rw [← hx0]; exact (((Below.refl _ _).alloc (Nat.le_refl _) _).alloc (by simp) _).alloc (by simp; omega) _
    b4 := Nat.le_refl _
    b5 := by omega
    b6 := by omega
    nd := by simp [ownsL, Value.ownBlock]; omega }
  clear hx0
  generalize hg5 : w.heap.size + 1 = g5 at *
  generalize hg6 : g5 + 1 = g6 at *
  obtain ⟨g4, hg4⟩ : ∃ g4, w.heap.size = g4 := ⟨_, rfl⟩
  have HI1 : Hid (HistIs w x0 g4 g5 g6 (.slice none 0 0) [.slice none 0 0, .slice none 0 0, .slice none 0 0, .slice none 0 0, .slice none 0 0] Hs.init []) := by rw [← hg4]; exact HI0.out
  rw [hg4]
  clear hg5 hg6 hg4 HI0
  go_loopw [3, 7] (fun v i wx => ∃ (k : Nat) (tv : List Value) (S : Hs) (K : List (Nat × Obj)), k ≤ n ∧ k ≤ 60 ∧ i = .int .i64 k ∧ HistIs w wx g4 g5 g6 v tv S K ∧ HRun X k S K) (fun _ i _ => 60 - (iv i).toNat)
  case atStart => exact ⟨0, _, _, _, by omega, by omega, rfl, HI1.out, HRun.nil⟩
  case round =>
    obtain ⟨k, tv, S, K, hkn, hk60, rfl, hI, hRun⟩ := hrel
    obtain ⟨a3, c3, hv3⟩ := own_slice hI.lines
    subst hv3
    have hSl := hRun.ok.2
    by_cases hlt : k < n ∧ k < 60
    · obtain ⟨hlt1, hlt2⟩ := hlt
      obtain ⟨x, hx⟩ : ∃ x, X[k]? = some x := ⟨_, List.getElem?_eq_getElem (by rw [HN.out]; exact hlt1)⟩
      obtain ⟨b, o, hab, hbl, hrg⟩ := HX.out k x hx
      have HRG : Hid (wr.rangeAt b (o + k * 4) (stCells x)) := fun j v hv => (hI.below.cell (p := ⟨b, o + k * 4 + j, none⟩) hbl).trans (hrg j v hv)
      obtain ⟨tm, htm, hbits⟩ := and_small x.txn 3 (by omega)
      have hbits : bits .and .i64 x.txn 3 = (tm : Int) := hbits
      have htt : tOf x = tm + 1 := by unfold tOf; rw [hbits]; rfl
      have HRUN := hide (And.intro hRun hx)
      have HI := hide hI
      obtain ⟨ln, hln⟩ : ∃ ln, S.L.length = ln := ⟨_, rfl⟩
      have HLN := hide hln
      have hln60 : ln ≤ 60 := by omega
      rw [hln]
      clear hrg hx hRun hI hSl hln
      unfold stCells at HRG
      rw [hab]
      go_upto_region 9 with (refine wpList_load_mid (by rfl) 66 _ (by rfl) b (o + k * 4) (by rfl) _ _ HRG.out Try.underlying66 rfl Try.size66n ?_)
      generalize hx1 : wr.alloc _ = x1
      have hG1 : x1.heap[wr.heap.size]? = some (.cells (stCells x).toArray 66 (0, 0)) := by rw [← hx1]; exact heap_alloc_new _ _
      have hB1 : Below wr.heap.size wr x1 := by rw [← hx1]; exact (Below.refl _ _).alloc (Nat.le_refl _) _
      have HI1' := hide (HI.out.stayD hB1)
      have e1 : x1.cell? ⟨wr.heap.size, 1, none⟩ = some (.int .i64 x.txn) := by rw [cell_of_row _ _ _ _ _ _ hG1]; rfl
      have hsl1 : wr.heap.size < x1.heap.size := (Array.getElem?_eq_some_iff.1 hG1).1
      have HNB : Hid (∀ q, wr.heap.size ≤ q → q ∉ hblocks g4 g5 g6 (.slice a3 S.L.length c3) tv K) := fun q hq hm => by have := HI.out.lt q hm; omega
      have HW0 := hide HI.out.below.size
      have HG1 := hide hG1
      clear hx1 hG1 hB1 HI HRG
      generalize wr.heap.size = gs at *
      go_upto_region 11 with fail
      clear e1 hbits
      have e9 : ((tm : Int) + 1) = ((tm + 1 : Nat) : Int) := by omega
      rw [e9]
      clear e9
      obtain ⟨tt, htt'⟩ : ∃ tt, tm + 1 = tt := ⟨_, rfl⟩
      have ht5 : tt < 5 := by omega
      have ht0 : 0 < tt := by omega
      have HT : Hid (tOf x = tt) := htt.trans htt'
      rw [htt']
      clear htt htt' htm
      have e10 : 10 * ((ln : Int) + 1) = S.lsn := by unfold Hs.lsn; rw [HLN.out]
      rw [e10]
      clear e10
      obtain ⟨lst, hlst⟩ : ∃ lst, S.lastAt tt = lst := ⟨_, rfl⟩
      have c4 := (HI1'.out.c4 tt ht5).1
      rw [hlst] at c4
      have HLST := hide hlst
      clear hlst
      go_upto_region 14 with fail
      generalize hx2 : x1.alloc _ = x2
      have hG2 : x2.heap[x1.heap.size]? = some (.cells (recCells { S.rec0 tt with kind := 0 }).toArray 32 (0, 0)) := by
        rw [← hx2]
        have := heap_alloc_new x1 (.cells (recCells { S.rec0 tt with kind := 0 }).toArray 32)
        unfold Hs.rec0 at this ⊢
        rw [HLST.out] at this ⊢
        exact this
      have hB2 : Below x1.heap.size x1 x2 := by rw [← hx2]; exact (Below.refl _ _).alloc (Nat.le_refl _) _
      have HI2 := hide (HI1'.out.stayD hB2)
      have HGS : Hid (x2.heap[gs]? = some (.cells (stCells x).toArray 66 (0, 0))) := (hB2.block gs hsl1).trans HG1.out
      have hgr : gs < x1.heap.size := hsl1
      have c4' := (HI2.out.c4 tt ht5).1
      rw [HLST.out] at c4'
      have c5 := (HI2.out.c5 tt ht5).1
      have d0 : x2.cell? ⟨x1.heap.size, 0, none⟩ = some (.int .i64 0) := by rw [cell_of_row _ _ _ _ _ _ hG2]; rfl
      have f0 : x2.frozen? ⟨x1.heap.size, 0, none⟩ = false := frozen_of_row _ _ _ _ _ hG2
      have s0 : x2.cell? ⟨gs, 0, none⟩ = some (.int .i64 x.kind) := by rw [cell_of_row _ _ _ _ _ _ HGS.out]; rfl
      have HG2 := hide hG2
      have HNR : Hid (x1.heap.size ∉ hblocks g4 g5 g6 (.slice a3 S.L.length c3) tv K ∧ w.heap.size ≤ x1.heap.size) := ⟨HNB.out _ (by omega), by have := HW0.out; omega⟩
      clear hx2 hG2 hB2 HI1' c4 HG1
      generalize x1.heap.size = gr at *
      cases hdn : S.doneAt tt with
      | true =>
        rw [hdn] at c5
        have HDN := hide hdn
        clear hdn
        go_wp2
        go_roundw
        case rel =>
          refine ⟨k + 1, tv, S, K, by omega, by omega, by go_num, ?_, HRun.step k x S K S K HRUN.out.1 HRUN.out.2 (HStep.skip (by rw [HT.out]; exact HDN.out))⟩
          have hq := HI2.out
          rw [HLN.out] at hq
          exact hq
        case measure => simp [iv]; omega
      | false =>
        rw [hdn] at c5
        have HDN := hide hdn
        clear hdn
        by_cases hl0 : lst = 0
        · subst hl0
          go_upto_region 25 with fail
          generalize hx3 : World.setCell _ _ _ = x3
          have HI3 : Hid (HistIs w x3 g4 g5 g6 (.slice a3 S.L.length c3) tv S K) := by rw [← hx3]; exact HI2.out.setOther gr 0 _ HNR.out.1 HNR.out.2
          have HG3 : Hid (x3.heap[gr]? = some (.cells (recCells { S.rec0 tt with kind := 1 }).toArray 32 (0, 0))) := by
            show _ = _
            rw [← hx3, heap_setCell_same x2 gr 0 _ 32 _ HG2.out]
            rfl
          clear hx3 d0 f0 s0 c4' c5
          have c4w := (HI3.out.c4 tt ht5).1
          have f4w := (HI3.out.c4 tt ht5).2
          obtain ⟨lv, hlv⟩ : ∃ lv, Hs.lastAt S tt = lv := ⟨_, rfl⟩
          rw [hlv] at c4w
          clear hlv
          have HI5 := hide (HI3.out.setLast tt S.lsn)
          go_upto_region 26 with fail
          generalize hx5 : World.setCell _ _ (Value.int .i64 S.lsn) = x5
          have HI5' : Hid (HistIs w x5 g4 g5 g6 (.slice a3 S.L.length c3) tv { S with last := (Hs.last S).set tt S.lsn } K) := by rw [← hx5]; exact HI5.out
          have HRX : Hid (x5.rangeAt gr 0 (recCells ({ S.rec0 tt with kind := 1 }))) := fun j v hv => by
            rw [Nat.zero_add, ← hx5, cell_of_row _ _ _ _ _ _ ((heap_setCell_other x3 _ gr _ (by show gr ≠ g4; intro e; exact HNR.out.1 (by rw [e]; simp [hblocks]))).trans HG3.out)]
            simpa using hv
          clear hx5 HI5 c4w f4w
          obtain ⟨rr, hrr⟩ : ∃ rr : Ln, ({ S.rec0 tt with kind := 1 }) = rr := ⟨_, rfl⟩
          have hrl : S.lsn = rr.lsn := by rw [← hrr]; rfl
          have HRR := hide hrr
          rw [hrr] at HRX
          rw [hrl]
          clear hrr hrl
          have HOWN : Hid ((x5.alloc (.cells (lnCells rr).toArray 34)).ownsRow 0 34 12 (.slice a3 ln c3) ln (lnRow S.L)) := by
            have hl := HI5'.out.lines
            have hl : x5.ownsRow w.heap.size 34 12 (.slice a3 S.L.length c3) S.L.length (lnRow S.L) := hl
            rw [HLN.out] at hl
            exact owns_of_block (owns_zero hl) (fun q hq => Below.heap_alloc x5 _ q (hl.lt q hq).2)
          have HSRC : Hid (∀ j u, (lnCells rr)[j]? = some u → (x5.alloc (.cells (lnCells rr).toArray 34)).cell? ((⟨x5.heap.size, 0, none⟩ : Addr).add j) = some u) := src_of_block (heap_alloc_new x5 _)
          unfold recCells at HRX
          go_wp2_with (first
            | (refine wpList_load_mid (by rfl) 32 _ (by rfl) gr 0 (by rfl) _ _ HRX.out Try.underlying32 rfl Try.size32n ?_)
            | (refine wpList_append_owned (by rfl) _ _ 23 (by rfl) 34 (.agg (lnCells Ln.zero).toArray) 12 160 Try.underlying23 Try.info34 rfl (by omega) (.slice a3 ln c3) ln (lnRow S.L) (by rfl) HOWN.out ⟨x5.heap.size, 0, none⟩ 1 1 (lnCells rr) (by rfl) (by rfl) HSRC.out (by intro u hu; simp [lnCells, recCells] at hu; rcases hu with rfl | rfl | rfl | rfl | rfl | rfl | rfl | rfl | rfl | rfl | rfl | rfl <;> rfl) (by simp only [maxLen]; omega) (by omega) (fun v4 w6 r1 r2 r3 => ?_)
               have hq5 := HI5'.out
               rw [HLN.out] at hq5
               have hI6 := hq5.addLine rr ((Off.refl [] x5).alloc _) (by show w6.ownsRow 0 34 12 v4 (S.L.length + 1) (lnRow S.L ++ lnCells rr); rw [HLN.out]; exact r1) r2 r3
               obtain ⟨a6, m6, c6, hv6⟩ := own_form r1
               subst hv6
               have HI6 := hide hI6
               clear r1 r2 r3 hI6 hq5))
          go_roundw
          case rel =>
            have hst := HStep.begin (i := k) (x := x) (S := S) (K := K) (by rw [HT.out]; exact HDN.out) (by rw [HT.out]; exact HLST.out)
            refine ⟨k + 1, tv, _, K, by omega, by omega, by go_num, ?_, HRun.step k x S K _ _ HRUN.out.1 HRUN.out.2 hst⟩
            have hq := HI6.out
            rw [HT.out]
            rw [← HRR.out] at hq
            exact hq
          case measure => simp [iv]; omega
        · have hlb : (lst == 0) = false := beq_eq_false_iff_ne.2 hl0
          by_cases hk2 : x.kind = 2
          · have hkb : (x.kind == 2) = true := by simp [hk2]
            have f5 := (HI2.out.c5 tt ht5).2
            have HK2 := hide (And.intro hl0 hk2)
            clear hk2 hl0
            have HI2d := hide ((HI2.out.setOther gr 0 (.int .i64 4) HNR.out.1 HNR.out.2))
            have c5' := (HI2d.out.c5 tt ht5).1
            have f5' := (HI2d.out.c5 tt ht5).2
            go_upto_region 25 with fail
            generalize hx3 : World.setCell _ _ (Value.bool true) = x3
            have HI3 : Hid (HistIs w x3 g4 g5 g6 (.slice a3 S.L.length c3) tv { S with done := S.done.set tt true } K) := by rw [← hx3]; exact HI2d.out.setDone tt true
            have HG3 : Hid (x3.heap[gr]? = some (.cells (recCells { S.rec0 tt with kind := 4 }).toArray 32 (0, 0))) := by
              show _ = _
              rw [← hx3, heap_setCell_other _ _ gr _ (by show gr ≠ g5; intro e; exact HNR.out.1 (by rw [e]; simp [hblocks])), heap_setCell_same x2 gr 0 _ 32 _ HG2.out]
              rfl
            clear hx3 d0 f0 s0 c4' c5 f5 HI2d c5' f5'
            have c4w := (HI3.out.c4 tt ht5).1
            have f4w := (HI3.out.c4 tt ht5).2
            obtain ⟨lv, hlv⟩ : ∃ lv, Hs.lastAt ({ S with done := S.done.set tt true }) tt = lv := ⟨_, rfl⟩
            rw [hlv] at c4w
            clear hlv
            have HI5 := hide (HI3.out.setLast tt S.lsn)
            go_upto_region 26 with fail
            generalize hx5 : World.setCell _ _ (Value.int .i64 S.lsn) = x5
            have HI5' : Hid (HistIs w x5 g4 g5 g6 (.slice a3 S.L.length c3) tv { ({ S with done := S.done.set tt true }) with last := (Hs.last ({ S with done := S.done.set tt true })).set tt S.lsn } K) := by rw [← hx5]; exact HI5.out
            have HRX : Hid (x5.rangeAt gr 0 (recCells ({ S.rec0 tt with kind := 4 }))) := fun j v hv => by
              rw [Nat.zero_add, ← hx5, cell_of_row _ _ _ _ _ _ ((heap_setCell_other x3 _ gr _ (by show gr ≠ g4; intro e; exact HNR.out.1 (by rw [e]; simp [hblocks]))).trans HG3.out)]
              simpa using hv
            clear hx5 HI5 c4w f4w
            obtain ⟨rr, hrr⟩ : ∃ rr : Ln, ({ S.rec0 tt with kind := 4 }) = rr := ⟨_, rfl⟩
            have hrl : S.lsn = rr.lsn := by rw [← hrr]; rfl
            have HRR := hide hrr
            rw [hrr] at HRX
            rw [hrl]
            clear hrr hrl
            have HOWN : Hid ((x5.alloc (.cells (lnCells rr).toArray 34)).ownsRow 0 34 12 (.slice a3 ln c3) ln (lnRow S.L)) := by
              have hl := HI5'.out.lines
              have hl : x5.ownsRow w.heap.size 34 12 (.slice a3 S.L.length c3) S.L.length (lnRow S.L) := hl
              rw [HLN.out] at hl
              exact owns_of_block (owns_zero hl) (fun q hq => Below.heap_alloc x5 _ q (hl.lt q hq).2)
            have HSRC : Hid (∀ j u, (lnCells rr)[j]? = some u → (x5.alloc (.cells (lnCells rr).toArray 34)).cell? ((⟨x5.heap.size, 0, none⟩ : Addr).add j) = some u) := src_of_block (heap_alloc_new x5 _)
            unfold recCells at HRX
            go_wp2_with (first
              | (refine wpList_load_mid (by rfl) 32 _ (by rfl) gr 0 (by rfl) _ _ HRX.out Try.underlying32 rfl Try.size32n ?_)
              | (refine wpList_append_owned (by rfl) _ _ 23 (by rfl) 34 (.agg (lnCells Ln.zero).toArray) 12 160 Try.underlying23 Try.info34 rfl (by omega) (.slice a3 ln c3) ln (lnRow S.L) (by rfl) HOWN.out ⟨x5.heap.size, 0, none⟩ 1 1 (lnCells rr) (by rfl) (by rfl) HSRC.out (by intro u hu; simp [lnCells, recCells] at hu; rcases hu with rfl | rfl | rfl | rfl | rfl | rfl | rfl | rfl | rfl | rfl | rfl | rfl <;> rfl) (by simp only [maxLen]; omega) (by omega) (fun v4 w6 r1 r2 r3 => ?_)
                 have hq5 := HI5'.out
                 rw [HLN.out] at hq5
                 have hI6 := hq5.addLine rr ((Off.refl [] x5).alloc _) (by show w6.ownsRow 0 34 12 v4 (S.L.length + 1) (lnRow S.L ++ lnCells rr); rw [HLN.out]; exact r1) r2 r3
                 obtain ⟨a6, m6, c6, hv6⟩ := own_form r1
                 subst hv6
                 have HI6 := hide hI6
                 clear r1 r2 r3 hI6 hq5))
            go_roundw
            case rel =>
              have hst := HStep.commit (i := k) (x := x) (S := S) (K := K) (by rw [HT.out]; exact HDN.out) (by rw [HT.out, HLST.out]; exact HK2.out.1) HK2.out.2
              refine ⟨k + 1, tv, _, K, by omega, by omega, by go_num, ?_, HRun.step k x S K _ _ HRUN.out.1 HRUN.out.2 hst⟩
              have hq := HI6.out
              rw [HT.out]
              rw [← HRR.out] at hq
              exact hq
            case measure => simp [iv]; omega
          · have hkb : (x.kind == 2) = false := beq_eq_false_iff_ne.2 hk2
            obtain ⟨at6, ct6, h6v, h6c, h6f, h6r, h6t⟩ := HI2.out.c6 tt ht5
            obtain ⟨tl, htl⟩ : ∃ tl, S.todoAt tt = tl := ⟨_, rfl⟩
            rw [htl] at h6v h6c h6r h6t
            have HTL := hide htl
            clear htl
            by_cases hk3 : x.kind = 3 ∧ tl ≠ []
            · obtain ⟨hkd, hne⟩ := hk3
              have hk3b : (x.kind == 3) = true := by simp [hkd]
              obtain ⟨l, kk, hlk⟩ : ∃ l kk, tl = l ++ [kk] := ⟨tl.dropLast, tl.getLast hne, (List.dropLast_concat_getLast hne).symm⟩
              obtain ⟨q, u, hkq, huL, huk⟩ := HRUN.out.1.ok.1.todo tt tl kk h6t (by rw [hlk]; simp)
              subst hkq
              obtain ⟨m, hm⟩ : ∃ m, l.length = m := ⟨_, rfl⟩
              have htn : tl.length = m + 1 := by rw [hlk, List.length_append, hm]; rfl
              have hm100 : m ≤ 100 := by have := HRUN.out.1.todo_len tt tl h6t; omega
              obtain ⟨gt, ct, curt, hat6, _⟩ := own_some h6r (by omega)
              injection hat6 with q1 q2 q3
              subst q1
              clear q2 q3
              have k12 : x2.cell? ⟨gt, m, none⟩ = some (.int .i64 (q : Int)) := ints_cell h6r m q (by rw [hlk, ← hm]; exact List.getElem?_concat_length)
              have hqL := (List.getElem?_eq_some_iff.1 huL).1
              obtain ⟨gl, cl, curl, ha3, _⟩ := own_some HI2.out.lines (by omega)
              injection ha3 with q1 q2 q3
              subst q1
              clear q2 q3
              have HU : Hid (∀ W, HistIs w W g4 g5 g6 (.slice (some ⟨gl, 0, none⟩) S.L.length c3) tv S K → W.rangeAt gl (q * 12 + 1) (recCells u)) := fun W hW => rec_of_ln (row_range hW.lines q u huL)
              have hq : q < ln := by rw [← HLN.out]; exact hqL
              have hqi : (q : Int) < (ln : Int) := by omega
              have HH := hide (And.intro h6v (And.intro h6r (And.intro hlk (And.intro hm htn))))
              have HUL := hide (And.intro hkd (And.intro hl0 huL))
              rw [htn] at h6c
              clear h6v h6r h6t hk2 hl0 htn hlk hm hqL huL huk hkd hne
              go_upto_region 21 with fail
              go_quiet (fail)
              have hBq := below_drewN x2.heap.size x2 nq
              have HI3 := hide (HI2.out.stayD hBq)
              have HG3 : Hid ((x2.drewN nq).heap[gr]? = some (.cells (recCells { S.rec0 tt with kind := 0 }).toArray 32 (0, 0))) := HG2.out
              have h6c' : (x2.drewN nq).cell? ⟨g6, tt, none⟩ = some (.slice (some ⟨gt, 0, none⟩) (m + 1) ct6) := h6c
              clear hBq d0 f0 s0 c4' c5 h6c h6f k12
              generalize World.drewN x2 nq = x3 at *
              have HUR := hide (HU.out x3 HI3.out)
              unfold recCells at HUR
              go_upto_region 23 with (refine wpList_load_mid (by rfl) 32 _ (by rfl) gl (q * 12 + 1) (by rfl) _ _ HUR.out Try.underlying32 rfl Try.size32n ?_)
              generalize hx4 : x3.alloc _ = x4
              have hG4 : x4.heap[x3.heap.size]? = some (.cells (recCells u).toArray 32 (0, 0)) := by rw [← hx4]; exact heap_alloc_new _ _
              have hB4 : Below x3.heap.size x3 x4 := by rw [← hx4]; exact (Below.refl _ _).alloc (Nat.le_refl _) _
              have hgr3 : gr < x3.heap.size := (Array.getElem?_eq_some_iff.1 HG3.out).1
              have HI4 := hide (HI3.out.stayD hB4)
              have HG4 : Hid (x4.heap[gr]? = some (.cells (recCells { S.rec0 tt with kind := 0 }).toArray 32 (0, 0))) := (hB4.block gr hgr3).trans HG3.out
              clear hx4 hB4 HUR h6c'
              generalize x3.heap.size = gu at *
              have hgu : gu ≠ gr := by omega
              have b00 : x4.drew.heap[gr]? = some (.cells (recCells { S.rec0 tt with kind := 0 }).toArray 32 (0, 0)) := HG4.out
              have b0 := heap_setCell_same x4.drew gr 0 _ 32 (.int .i64 3) b00
              have b1 := heap_setCell_same _ gr 4 _ 32 (.int .i64 u.page) b0
              have b2 := heap_setCell_same _ gr 5 _ 32 (.int .i64 u.off) b1
              have b3 := heap_setCell_same _ gr 7 _ 32 (.slice u.sb.a u.sb.n u.sb.c) b2
              have b4 := heap_setCell_same _ gr 3 _ 32 (.int .i64 u.prev) b3
              have y5 := (((((HI4.out.stayD (w' := x4.drew) (below_drewN _ _ 1)).setOther gr 0 (.int .i64 3) HNR.out.1 HNR.out.2).setOther gr 4 (.int .i64 u.page) HNR.out.1 HNR.out.2).setOther gr 5 (.int .i64 u.off) HNR.out.1 HNR.out.2).setOther gr 7 (.slice u.sb.a u.sb.n u.sb.c) HNR.out.1 HNR.out.2).setOther gr 3 (.int .i64 u.prev) HNR.out.1 HNR.out.2
              have hgp : ∀ W : World, ∀ j v, W.heap[gu]? = some (.cells (recCells u).toArray 32 (0, 0)) → (W.setCell ⟨gr, j, none⟩ v).heap[gu]? = some (.cells (recCells u).toArray 32 (0, 0)) := fun W j v h => (heap_setCell_other W _ gu _ (by exact hgu)).trans h
              refine wp_region_held_drew (S := fun w' => w'.heap[gu]? = some (.cells (recCells u).toArray 32 (0, 0))) (by kernel_rfl) hG4 (fun hH' => ?_)
              refine take_to 0 111 (.pointer (some ⟨gu, 4, none⟩)) rfl (by kernel_rfl) (by kernel_rfl) (by kernel_rfl) (fun _ _ _ h => h) rfl (by rfl) (fun w hw => by kernel_rfl) hH' ?_
              simp only [Act.put, List.setIfInBounds_toArray, List.set_cons_zero, List.set_cons_succ]
              refine take_to 1 112 (.int .i64 u.page) rfl (by kernel_rfl) (by kernel_rfl) (by kernel_rfl) (fun _ _ _ h => h) rfl (by rfl) (fun w hw => op_load _ _ 3 (.tmp 111) rfl (.pointer (some ⟨gu, 4, none⟩)) _ rfl (run_loadAny w gu 4 3 _ Try.isAgg3 (by rw [cell_of_row _ _ _ _ _ _ hw]; rfl))) hH' ?_
              simp only [Act.put, List.setIfInBounds_toArray, List.set_cons_zero, List.set_cons_succ]
              refine take_to 2 113 (.pointer (some ⟨gu, 5, none⟩)) rfl (by kernel_rfl) (by kernel_rfl) (by kernel_rfl) (fun _ _ _ h => h) rfl (by rfl) (fun w hw => by kernel_rfl) hH' ?_
              simp only [Act.put, List.setIfInBounds_toArray, List.set_cons_zero, List.set_cons_succ]
              refine take_to 3 114 (.int .i64 u.off) rfl (by kernel_rfl) (by kernel_rfl) (by kernel_rfl) (fun _ _ _ h => h) rfl (by rfl) (fun w hw => op_load _ _ 3 (.tmp 113) rfl (.pointer (some ⟨gu, 5, none⟩)) _ rfl (run_loadAny w gu 5 3 _ Try.isAgg3 (by rw [cell_of_row _ _ _ _ _ _ hw]; rfl))) hH' ?_
              simp only [Act.put, List.setIfInBounds_toArray, List.set_cons_zero, List.set_cons_succ]
              refine take_to 4 115 (.pointer (some ⟨gu, 6, none⟩)) rfl (by kernel_rfl) (by kernel_rfl) (by kernel_rfl) (fun _ _ _ h => h) rfl (by rfl) (fun w hw => by kernel_rfl) hH' ?_
              simp only [Act.put, List.setIfInBounds_toArray, List.set_cons_zero, List.set_cons_succ]
              refine take_to 5 116 (.slice u.sb.a u.sb.n u.sb.c) rfl (by kernel_rfl) (by kernel_rfl) (by kernel_rfl) (fun _ _ _ h => h) rfl (by rfl) (fun w hw => op_load _ _ 30 (.tmp 115) rfl (.pointer (some ⟨gu, 6, none⟩)) _ rfl (run_loadAny w gu 6 30 _ Try.isAgg30 (by rw [cell_of_row _ _ _ _ _ _ hw]; rfl))) hH' ?_
              simp only [Act.put, List.setIfInBounds_toArray, List.set_cons_zero, List.set_cons_succ]
              refine take_to 6 117 (.pointer (some ⟨gu, 2, none⟩)) rfl (by kernel_rfl) (by kernel_rfl) (by kernel_rfl) (fun _ _ _ h => h) rfl (by rfl) (fun w hw => by kernel_rfl) hH' ?_
              simp only [Act.put, List.setIfInBounds_toArray, List.set_cons_zero, List.set_cons_succ]
              refine take_to 7 118 (.int .i64 u.prev) rfl (by kernel_rfl) (by kernel_rfl) (by kernel_rfl) (fun _ _ _ h => h) rfl (by rfl) (fun w hw => op_load _ _ 3 (.tmp 117) rfl (.pointer (some ⟨gu, 2, none⟩)) _ rfl (run_loadAny w gu 2 3 _ Try.isAgg3 (by rw [cell_of_row _ _ _ _ _ _ hw]; rfl))) hH' ?_
              simp only [Act.put, List.setIfInBounds_toArray, List.set_cons_zero, List.set_cons_succ]
              refine take_to 8 119 (.pointer (some ⟨gr, 0, none⟩)) rfl (by kernel_rfl) (by kernel_rfl) (by kernel_rfl) (fun _ _ _ h => h) rfl (by rfl) (fun w hw => by kernel_rfl) hH' ?_
              simp only [Act.put, List.setIfInBounds_toArray, List.set_cons_zero, List.set_cons_succ]
              have hS0 := hgp _ 0 (.int .i64 3) hH'
              refine step_store_to 9 _ rfl (by kernel_rfl) rfl (by rfl) 3 (.tmp 119) (.const (.int .i64 3)) rfl (.pointer (some ⟨gr, 0, none⟩)) (.int .i64 3) rfl rfl (run_store3 _ gr 0 _ _ (by rw [cell_of_row _ _ _ _ _ _ b00]; rfl) (frozen_of_row _ _ _ _ _ b00)) hS0 ?_
              refine step_to 10 120 (.pointer (some ⟨gr, 4, none⟩)) _ rfl (by kernel_rfl) rfl (by rfl) (by kernel_rfl) hS0 ?_
              simp only [Act.put, List.setIfInBounds_toArray, List.set_cons_zero, List.set_cons_succ]
              have hS1 := hgp _ 4 (.int .i64 u.page) hS0
              refine step_store_to 11 _ rfl (by kernel_rfl) rfl (by rfl) 3 (.tmp 120) (.tmp 112) rfl (.pointer (some ⟨gr, 4, none⟩)) (.int .i64 u.page) rfl rfl (run_store3 _ gr 4 _ _ (by rw [cell_of_row _ _ _ _ _ _ b0]; rfl) (frozen_of_row _ _ _ _ _ b0)) hS1 ?_
              refine step_to 12 121 (.pointer (some ⟨gr, 5, none⟩)) _ rfl (by kernel_rfl) rfl (by rfl) (by kernel_rfl) hS1 ?_
              simp only [Act.put, List.setIfInBounds_toArray, List.set_cons_zero, List.set_cons_succ]
              have hS2 := hgp _ 5 (.int .i64 u.off) hS1
              refine step_store_to 13 _ rfl (by kernel_rfl) rfl (by rfl) 3 (.tmp 121) (.tmp 114) rfl (.pointer (some ⟨gr, 5, none⟩)) (.int .i64 u.off) rfl rfl (run_store3 _ gr 5 _ _ (by rw [cell_of_row _ _ _ _ _ _ b1]; rfl) (frozen_of_row _ _ _ _ _ b1)) hS2 ?_
              refine step_to 14 122 (.pointer (some ⟨gr, 7, none⟩)) _ rfl (by kernel_rfl) rfl (by rfl) (by kernel_rfl) hS2 ?_
              simp only [Act.put, List.setIfInBounds_toArray, List.set_cons_zero, List.set_cons_succ]
              have hS3 := hgp _ 7 (.slice u.sb.a u.sb.n u.sb.c) hS2
              refine step_store_to 15 _ rfl (by kernel_rfl) rfl (by rfl) 30 (.tmp 122) (.tmp 116) rfl (.pointer (some ⟨gr, 7, none⟩)) (.slice u.sb.a u.sb.n u.sb.c) rfl rfl (run_store30 _ gr 7 _ _ (by rw [cell_of_row _ _ _ _ _ _ b2]; rfl) (frozen_of_row _ _ _ _ _ b2)) hS3 ?_
              refine step_to 16 123 (.pointer (some ⟨gr, 3, none⟩)) _ rfl (by kernel_rfl) rfl (by rfl) (by kernel_rfl) hS3 ?_
              simp only [Act.put, List.setIfInBounds_toArray, List.set_cons_zero, List.set_cons_succ]
              have hS4 := hgp _ 3 (.int .i64 u.prev) hS3
              refine step_store_to 17 _ rfl (by kernel_rfl) rfl (by rfl) 3 (.tmp 123) (.tmp 118) rfl (.pointer (some ⟨gr, 3, none⟩)) (.int .i64 u.prev) rfl rfl (run_store3 _ gr 3 _ _ (by rw [cell_of_row _ _ _ _ _ _ b3]; rfl) (frozen_of_row _ _ _ _ _ b3)) hS4 ?_
              refine wpAnyH_done (by kernel_rfl) ?_ _
              have HI5 := hide y5
              have HG5 : Hid (_ = some (Obj.cells (recCells { S.rec0 tt with kind := 3, page := u.page, off := u.off, sa := u.sb, next := u.prev }).toArray 32 (0, 0))) := b4
              clear hH' hS0 hS1 hS2 hS3 hS4 b00 b0 b1 b2 b3 b4 y5 hgp hG4
              generalize World.setCell _ _ (Value.int .i64 u.prev) = x5 at *
              have h5c : x5.cell? ⟨g6, tt, none⟩ = some (.slice (some ⟨gt, 0, none⟩) (m + 1) ct6) := by
                rw [cell_of_row _ _ _ _ _ _ HI5.out.h6, List.getElem?_toArray, HH.out.1, HH.out.2.2.2.2]
              have h5f : x5.frozen? ⟨g6, tt, none⟩ = false := frozen_of_row _ _ _ _ _ HI5.out.h6
              have hct : m + 1 ≤ ct6 := by
                obtain ⟨_, _, _, e, _, _, h3, _⟩ := own_some HH.out.2.1 (by rw [HH.out.2.2.2.2]; omega)
                injection e with _ _ e3
                rw [e3, ← HH.out.2.2.2.2]; exact h3
              go_upto_region 24 with fail
              go_region
              generalize hx6 : World.drew _ = x6
              have HI6u : Hid (HistIs w x6 g4 g5 g6 (.slice (some ⟨gl, 0, none⟩) S.L.length c3) (tv.set tt (.slice (some ⟨gt, 0, none⟩) m ct6)) { S with todo := S.todo.set tt l } K) := by
                rw [← hx6]
                have hv := HH.out.1
                have hrw := HI5.out.rows tt _ tl hv (by
                  have := (HI5.out.c6 tt ht5).choose_spec.choose_spec.2.2.2.2
                  rw [HTL.out] at this
                  exact this)
                refine (HI5.out.setTodo tt _ (.slice (some ⟨gt, 0, none⟩) m ct6) l hv ?_ (Off.refl _ _) (fun k hk => .inl hk)).stayD (w' := World.drew _) (below_drewN _ _ 1)
                obtain ⟨g', c', cur, e, h1, h2, h3, h4, h5, h6⟩ := own_some hrw (by rw [HH.out.2.2.2.2]; omega)
                injection e with q1 q2 q3
                injection q1 with q1
                injection q1 with q1 _
                subst q1; subst q3
                refine ⟨by simp [intCells], .inr ⟨gt, ct6, cur, by rw [HH.out.2.2.2.1], h1, h2, by rw [HH.out.2.2.2.1]; omega, h4, h5, ?_⟩⟩
                have h7 := congrArg (List.take (l.length * 1)) h6
                rw [List.take_take, Nat.min_eq_left (by rw [HH.out.2.2.2.2, HH.out.2.2.2.1]; omega)] at h7
                rw [h7, HH.out.2.2.1, intCells_snoc]
                have hli : (intCells l).length = l.length * 1 := by simp [intCells]
                rw [List.take_append_of_le_length (by omega), List.take_of_length_le (by omega)]
              have HG6u : Hid (x6.heap[gr]? = some (.cells (recCells { S.rec0 tt with kind := 3, page := u.page, off := u.off, sa := u.sb, next := u.prev }).toArray 32 (0, 0))) := by
                show _ = _
                rw [← hx6]
                exact (heap_setCell_other x5 _ gr _ (by show gr ≠ g6; intro e; exact HNR.out.1 (by rw [e]; simp [hblocks]))).trans HG5.out
              clear hx6 h5c h5f
              have c4w := (HI6u.out.c4 tt ht5).1
              have f4w := (HI6u.out.c4 tt ht5).2
              obtain ⟨lv, hlv⟩ : ∃ lv, Hs.lastAt ({ S with todo := S.todo.set tt l }) tt = lv := ⟨_, rfl⟩
              rw [hlv] at c4w
              clear hlv
              have HI5 := hide (HI6u.out.setLast tt S.lsn)
              go_upto_region 26 with fail
              generalize hx5 : World.setCell _ _ (Value.int .i64 S.lsn) = x5
              have HI5' : Hid (HistIs w x5 g4 g5 g6 (.slice (some ⟨gl, 0, none⟩) S.L.length c3) (tv.set tt (.slice (some ⟨gt, 0, none⟩) m ct6)) { ({ S with todo := S.todo.set tt l }) with last := (Hs.last ({ S with todo := S.todo.set tt l })).set tt S.lsn } K) := by rw [← hx5]; exact HI5.out
              have HRX : Hid (x5.rangeAt gr 0 (recCells ({ S.rec0 tt with kind := 3, page := u.page, off := u.off, sa := u.sb, next := u.prev }))) := fun j v hv => by
                rw [Nat.zero_add, ← hx5, cell_of_row _ _ _ _ _ _ ((heap_setCell_other x6 _ gr _ (by show gr ≠ g4; intro e; exact HNR.out.1 (by rw [e]; simp [hblocks]))).trans HG6u.out)]
                simpa using hv
              clear hx5 HI5 c4w f4w
              obtain ⟨rr, hrr⟩ : ∃ rr : Ln, ({ S.rec0 tt with kind := 3, page := u.page, off := u.off, sa := u.sb, next := u.prev }) = rr := ⟨_, rfl⟩
              have hrl : S.lsn = rr.lsn := by rw [← hrr]; rfl
              have HRR := hide hrr
              rw [hrr] at HRX
              rw [hrl]
              clear hrr hrl
              have HOWN : Hid ((x5.alloc (.cells (lnCells rr).toArray 34)).ownsRow 0 34 12 (.slice (some ⟨gl, 0, none⟩) ln c3) ln (lnRow S.L)) := by
                have hl := HI5'.out.lines
                have hl : x5.ownsRow w.heap.size 34 12 (.slice (some ⟨gl, 0, none⟩) S.L.length c3) S.L.length (lnRow S.L) := hl
                rw [HLN.out] at hl
                exact owns_of_block (owns_zero hl) (fun q hq => Below.heap_alloc x5 _ q (hl.lt q hq).2)
              have HSRC : Hid (∀ j u, (lnCells rr)[j]? = some u → (x5.alloc (.cells (lnCells rr).toArray 34)).cell? ((⟨x5.heap.size, 0, none⟩ : Addr).add j) = some u) := src_of_block (heap_alloc_new x5 _)
              unfold recCells at HRX
              go_wp2_with (first
                | (refine wpList_load_mid (by rfl) 32 _ (by rfl) gr 0 (by rfl) _ _ HRX.out Try.underlying32 rfl Try.size32n ?_)
                | (refine wpList_append_owned (by rfl) _ _ 23 (by rfl) 34 (.agg (lnCells Ln.zero).toArray) 12 160 Try.underlying23 Try.info34 rfl (by omega) (.slice (some ⟨gl, 0, none⟩) ln c3) ln (lnRow S.L) (by rfl) HOWN.out ⟨x5.heap.size, 0, none⟩ 1 1 (lnCells rr) (by rfl) (by rfl) HSRC.out (by intro u hu; simp [lnCells, recCells] at hu; rcases hu with rfl | rfl | rfl | rfl | rfl | rfl | rfl | rfl | rfl | rfl | rfl | rfl <;> rfl) (by simp only [maxLen]; omega) (by omega) (fun v4 w6 r1 r2 r3 => ?_)
                   have hq5 := HI5'.out
                   rw [HLN.out] at hq5
                   have hI6 := hq5.addLine rr ((Off.refl [] x5).alloc _) (by show w6.ownsRow 0 34 12 v4 (S.L.length + 1) (lnRow S.L ++ lnCells rr); rw [HLN.out]; exact r1) r2 r3
                   obtain ⟨a6, m6, c6, hv6⟩ := own_form r1
                   subst hv6
                   have HI6 := hide hI6
                   clear r1 r2 r3 hI6 hq5))
              go_roundw
              case rel =>
                have hst := HStep.undo (i := k) (x := x) (S := S) (K := K) (by rw [HT.out]; exact HDN.out) (by rw [HT.out, HLST.out]; exact HUL.out.2.1) HUL.out.1 l q u (by rw [HT.out, HTL.out]; exact HH.out.2.2.1) HUL.out.2.2
                refine ⟨k + 1, (tv.set tt (.slice (some ⟨gt, 0, none⟩) m ct6)), _, K, by omega, by omega, by go_num, ?_, HRun.step k x S K _ _ HRUN.out.1 HRUN.out.2 hst⟩
                have hq := HI6.out
                rw [HT.out]
                rw [← HRR.out] at hq
                exact hq
              case measure => simp [iv]; omega
            · have hne1 : gs ≠ gr := by omega
              have HK3 := hide (And.intro hk2 (And.intro hk3 hl0))
              obtain ⟨tn, htn⟩ : ∃ tn, tl.length = tn := ⟨_, rfl⟩
              have HTN := hide htn
              have htn' : tn ≤ 100 := by have := HRUN.out.1.todo_len tt tl h6t; omega
              rw [htn] at h6c
              have hwk : IntKind.i64.wrap ((k : Int) + 1) = ((k + 1 : Nat) : Int) := by
                rw [wrap_small]
                · rfl
                · omega
                · omega
              by_cases h3 : x.kind = 3
              · have hk3c : (x.kind == 3) = true := by simp [h3]
                have htn0 : tn = 0 := by
                  have : tl = [] := by
                    by_cases ht : tl = []
                    · exact ht
                    · exact absurd ⟨h3, ht⟩ hk3
                  rw [← htn, this]; rfl
                subst htn0
                clear h6v h6r h6t hk2 hk3 hl0 htn h3
                go_upto_region 12 with fail
                refine wp_with_act (fun a0 ha0 => ?_)
                refine Code.wp_mono (Q := fun e a' W => e = .normal ∧ ∃ g1 g2, (HistIs w W g4 g5 g6 (.slice a3 S.L.length c3) tv S ((g1, .cells #[byteOf k] 5 (0, 0)) :: (g2, .cells #[byteOf (k + 1)] 5 (0, 0)) :: K) ∧ W.heap[gr]? = some (.cells (recCells { S.rec0 tt with kind := 2, page := bits .and .i64 x.page 3, off := bits .and .i64 x.off 7, sb := oneSv g1, sa := oneSv g2 }).toArray 32 (0, 0))) ∧ a' = ((((((((((((((((((a0.put (some 41) (.pointer (some ⟨gs, 2, none⟩))).put (some 42) (.int .i64 x.page)).put (some 43) (.int .i64 (bits .and .i64 x.page 3))).put (some 44) (.pointer (some ⟨gs, 3, none⟩))).put (some 45) (.int .i64 x.off)).put (some 46) (.int .i64 (bits .and .i64 x.off 7))).put (some 47) (.int .i64 (k : Int))).put (some 48) (byteOf k)).put (some 49) (.slice (some ⟨g1, 0, none⟩) 1 1)).put (some 50) (.int .i64 (k : Int))).put (some 51) (.int .i64 ((k + 1 : Nat) : Int))).put (some 52) (byteOf (k + 1))).put (some 53) (.slice (some ⟨g2, 0, none⟩) 1 1)).put (some 54) (.pointer (some ⟨gr, 0, none⟩))).put (some 55) (.pointer (some ⟨gr, 4, none⟩))).put (some 56) (.pointer (some ⟨gr, 5, none⟩))).put (some 57) (.pointer (some ⟨gr, 6, none⟩))).put (some 58) (.pointer (some ⟨gr, 7, none⟩)))) ?cont ?region
                case region => exact region12 w x2 g4 g5 g6 a3 c3 tv S K k gs gr tt x _ _ _ _ _ _ _ _ _ _ _ _ _ _ _ _ _ _ _ _ _ _ _ _ _ _ _ _ _ _ _ _ _ _ _ _ _ _ _ _ _ _ _ _ _ _ _ _ _ _ _ _ _ _ _ _ _ _ _ _ _ _ _ _ _ _ _ _ _ _ _ _ _ _ _ _ _ _ _ _ _ _ _ _ _ _ _ _ _ _ _ _ _ _ _ _ _ _ _ _ _ _ _ _ _ _ _ _ _ _ _ _ _ _ _ _ _ _ _ _ _ _ _ _ _ _ _ _ _ _ _ _ _ _ _ _ _ _ _ _ _ _ _ hlt2 HGS HG2 HI2 HNR hne1 hwk a0 ha0 _ rfl _ (by kernel_rfl)
                case cont =>
                  rintro e a' W ⟨rfl, g1, g2, ⟨hI3, hbox3⟩, ha'⟩
                  rw [ha', ha0]
                  simp only [Act.put, List.setIfInBounds_toArray, List.set_cons_zero, List.set_cons_succ]
                  have HI3 := hide hI3
                  have HG3 := hide hbox3
                  clear ha' ha0 hI3 hbox3 d0 f0 s0 c4' c5 h6c h6f hne1 hwk
                  obtain ⟨at7, ct7, h7v, h7c, h7f, h7r, h7t⟩ := HI3.out.c6 tt ht5
                  rw [HTL.out, HTN.out] at h7v h7c h7r
                  have HOWN7 : Hid ((W.alloc (.cells #[.int .i64 (ln : Int)] 3)).ownsRow 0 3 1 (.slice at7 0 ct7) 0 (intCells tl)) := owns_of_block (owns_zero h7r) (fun q hq => Below.heap_alloc W _ q (h7r.lt q hq).2)
                  have HSRC7 : Hid (∀ j u, [Value.int .i64 (ln : Int)][j]? = some u → (W.alloc (.cells #[.int .i64 (ln : Int)] 3)).cell? ((⟨W.heap.size, 0, none⟩ : Addr).add j) = some u) := src_of_block (X := [Value.int .i64 (ln : Int)]) (heap_alloc_new W _)
                  have H7 := hide (And.intro h7v h7r)
                  have HTNL := hide HTN.out
                  have htn60 : 0 ≤ 100 := by omega
                  clear h7v h7r h7t
                  go_upto_region 25 with (refine wpList_append_owned (by rfl) _ _ 49 (by rfl) 3 (.int .i64 0) 1 8 Try.underlying49 Try.info3 rfl (by omega) (.slice at7 0 ct7) 0 (intCells tl) (by rfl) HOWN7.out ⟨W.heap.size, 0, none⟩ 1 1 [.int .i64 (ln : Int)] (by rfl) (by rfl) HSRC7.out (by intro u hu; simp at hu; subst hu; rfl) (by simp only [maxLen]; omega) (by omega) (fun v7 w7 r1 r2 r3 => ?_)
                                          have hO7 : Off (Value.slice at7 0 ct7).ownBlock.toList W w7 := ((Off.refl _ W).alloc _).grown r2 (fun k hk => .inl (by simp [hk]))
                                          have hg6n : (Value.slice at7 0 ct7).ownBlock ≠ some g6 := fun e => by
                                            have := (HI3.out.mem4.2.2.2 g6 (.inr (.inl (ownsL_mem.2 ⟨_, List.mem_of_getElem? H7.out.1, e⟩)))).2.2
                                            exact this rfl
                                          have hg6b : w7.heap[g6]? = W.heap[g6]? := hO7.block g6 (HI3.out.lt g6 (by simp [hblocks])) (by simpa using hg6n)
                                          have k7 : w7.cell? ⟨g6, tt, none⟩ = some (.slice at7 0 ct7) := (World.cell?_of_block (a := ⟨g6, tt, none⟩) hg6b).trans h7c
                                          have k7f : w7.frozen? ⟨g6, tt, none⟩ = false := frozen_of_row _ _ _ _ _ (hg6b.trans HI3.out.h6)
                                          obtain ⟨a7, m7, c7, hv7⟩ := own_form r1
                                          subst hv7
                                          have HR7 := hide (And.intro r1 (And.intro r3 hO7))
                                          clear r1 r2 r3 hO7 hg6n hg6b)
                  generalize hx8 : World.setCell _ _ _ = x8
                  have HI8 : Hid (HistIs w x8 g4 g5 g6 (.slice a3 S.L.length c3) (tv.set tt (.slice a7 m7 c7)) { S with todo := S.todo.set tt (tl ++ [(ln : Int)]) } ((g1, .cells #[byteOf k] 5 (0, 0)) :: (g2, .cells #[byteOf (k + 1)] 5 (0, 0)) :: K)) := by
                    rw [← hx8]
                    refine HI3.out.setTodo tt _ _ _ H7.out.1 ?_ HR7.out.2.2 (fun k hk => ?_)
                    · have hl1 : (tl ++ [(ln : Int)]).length = 0 + 1 := by rw [List.length_append, HTNL.out]; rfl
                      rw [hl1, intCells_snoc]
                      refine owns_base HR7.out.1 (fun k hk => ?_)
                      rcases HR7.out.2.1 k hk with h | h
                      · exact (H7.out.2.lt k h).1
                      · have h1 := HI3.out.below.size
                        rw [World.size_alloc] at h
                        omega
                    · rcases HR7.out.2.1 k hk with h | h
                      · exact .inl h
                      · rw [World.size_alloc] at h
                        exact .inr (by omega)
                  have HG8 : Hid (x8.heap[gr]? = some (.cells (recCells { S.rec0 tt with kind := 2, page := bits .and .i64 x.page 3, off := bits .and .i64 x.off 7, sb := oneSv g1, sa := oneSv g2 }).toArray 32 (0, 0))) := by
                    show _ = _
                    rw [← hx8, heap_setCell_other w7 _ gr _ (by show gr ≠ g6; intro e; exact HNR.out.1 (by rw [e]; simp [hblocks]))]
                    refine (HR7.out.2.2.block gr (Array.getElem?_eq_some_iff.1 HG3.out).1 ?_).trans HG3.out
                    intro hm
                    have hm : (Value.slice at7 0 ct7).ownBlock = some gr := by simpa using hm
                    refine HNR.out.1 ?_
                    have h1 : gr ∈ ownsL tv := ownsL_mem.2 ⟨_, List.mem_of_getElem? H7.out.1, hm⟩
                    simp [hblocks, h1]
                  clear hx8 k7 k7f h7c h7f HOWN7 HSRC7
                  have c4w := (HI8.out.c4 tt ht5).1
                  have f4w := (HI8.out.c4 tt ht5).2
                  obtain ⟨lv, hlv⟩ : ∃ lv, Hs.lastAt ({ S with todo := S.todo.set tt (tl ++ [(ln : Int)]) }) tt = lv := ⟨_, rfl⟩
                  rw [hlv] at c4w
                  clear hlv
                  have HI5 := hide (HI8.out.setLast tt S.lsn)
                  go_upto_region 26 with fail
                  generalize hx5 : World.setCell _ _ (Value.int .i64 S.lsn) = x5
                  have HI5' : Hid (HistIs w x5 g4 g5 g6 (.slice a3 S.L.length c3) (tv.set tt (.slice a7 m7 c7)) { ({ S with todo := S.todo.set tt (tl ++ [(ln : Int)]) }) with last := (Hs.last ({ S with todo := S.todo.set tt (tl ++ [(ln : Int)]) })).set tt S.lsn } (((g1, .cells #[byteOf k] 5 (0, 0)) :: (g2, .cells #[byteOf (k + 1)] 5 (0, 0)) :: K))) := by rw [← hx5]; exact HI5.out
                  have HRX : Hid (x5.rangeAt gr 0 (recCells ({ S.rec0 tt with kind := 2, page := bits .and .i64 x.page 3, off := bits .and .i64 x.off 7, sb := oneSv g1, sa := oneSv g2 }))) := fun j v hv => by
                    rw [Nat.zero_add, ← hx5, cell_of_row _ _ _ _ _ _ ((heap_setCell_other x8 _ gr _ (by show gr ≠ g4; intro e; exact HNR.out.1 (by rw [e]; simp [hblocks]))).trans HG8.out)]
                    simpa using hv
                  clear hx5 HI5 c4w f4w
                  obtain ⟨rr, hrr⟩ : ∃ rr : Ln, ({ S.rec0 tt with kind := 2, page := bits .and .i64 x.page 3, off := bits .and .i64 x.off 7, sb := oneSv g1, sa := oneSv g2 }) = rr := ⟨_, rfl⟩
                  have hrl : S.lsn = rr.lsn := by rw [← hrr]; rfl
                  have HRR := hide hrr
                  rw [hrr] at HRX
                  rw [hrl]
                  clear hrr hrl
                  have HOWN : Hid ((x5.alloc (.cells (lnCells rr).toArray 34)).ownsRow 0 34 12 (.slice a3 ln c3) ln (lnRow S.L)) := by
                    have hl := HI5'.out.lines
                    have hl : x5.ownsRow w.heap.size 34 12 (.slice a3 S.L.length c3) S.L.length (lnRow S.L) := hl
                    rw [HLN.out] at hl
                    exact owns_of_block (owns_zero hl) (fun q hq => Below.heap_alloc x5 _ q (hl.lt q hq).2)
                  have HSRC : Hid (∀ j u, (lnCells rr)[j]? = some u → (x5.alloc (.cells (lnCells rr).toArray 34)).cell? ((⟨x5.heap.size, 0, none⟩ : Addr).add j) = some u) := src_of_block (heap_alloc_new x5 _)
                  unfold recCells at HRX
                  go_wp2_with (first
                    | (refine wpList_load_mid (by rfl) 32 _ (by rfl) gr 0 (by rfl) _ _ HRX.out Try.underlying32 rfl Try.size32n ?_)
                    | (refine wpList_append_owned (by rfl) _ _ 23 (by rfl) 34 (.agg (lnCells Ln.zero).toArray) 12 160 Try.underlying23 Try.info34 rfl (by omega) (.slice a3 ln c3) ln (lnRow S.L) (by rfl) HOWN.out ⟨x5.heap.size, 0, none⟩ 1 1 (lnCells rr) (by rfl) (by rfl) HSRC.out (by intro u hu; simp [lnCells, recCells] at hu; rcases hu with rfl | rfl | rfl | rfl | rfl | rfl | rfl | rfl | rfl | rfl | rfl | rfl <;> rfl) (by simp only [maxLen]; omega) (by omega) (fun v4 w6 r1 r2 r3 => ?_)
                       have hq5 := HI5'.out
                       rw [HLN.out] at hq5
                       have hI6 := hq5.addLine rr ((Off.refl [] x5).alloc _) (by show w6.ownsRow 0 34 12 v4 (S.L.length + 1) (lnRow S.L ++ lnCells rr); rw [HLN.out]; exact r1) r2 r3
                       obtain ⟨a6, m6, c6, hv6⟩ := own_form r1
                       subst hv6
                       have HI6 := hide hI6
                       clear r1 r2 r3 hI6 hq5))
                  go_roundw
                  case rel =>
                    have hst := HStep.update (i := k) (x := x) (S := S) (K := K) (by rw [HT.out]; exact HDN.out) (by rw [HT.out, HLST.out]; exact HK3.out.2.2) HK3.out.1 (by rw [HT.out, HTL.out]; exact HK3.out.2.1) g1 g2
                    refine ⟨k + 1, (tv.set tt (.slice a7 m7 c7)), _, (((g1, .cells #[byteOf k] 5 (0, 0)) :: (g2, .cells #[byteOf (k + 1)] 5 (0, 0)) :: K)), by omega, by omega, by go_num, ?_, HRun.step k x S K _ _ HRUN.out.1 HRUN.out.2 hst⟩
                    have hq := HI6.out
                    rw [HT.out]
                    try rw [HTL.out, HLN.out]
                    rw [← HRR.out] at hq
                    exact hq
                  case measure => simp [iv]; omega
              · have hk3c : (x.kind == 3) = false := beq_eq_false_iff_ne.2 h3
                clear h6v h6r h6t hk2 hk3 hl0 htn h3
                go_upto_region 12 with fail
                refine wp_with_act (fun a0 ha0 => ?_)
                refine Code.wp_mono (Q := fun e a' W => e = .normal ∧ ∃ g1 g2, (HistIs w W g4 g5 g6 (.slice a3 S.L.length c3) tv S ((g1, .cells #[byteOf k] 5 (0, 0)) :: (g2, .cells #[byteOf (k + 1)] 5 (0, 0)) :: K) ∧ W.heap[gr]? = some (.cells (recCells { S.rec0 tt with kind := 2, page := bits .and .i64 x.page 3, off := bits .and .i64 x.off 7, sb := oneSv g1, sa := oneSv g2 }).toArray 32 (0, 0))) ∧ a' = ((((((((((((((((((a0.put (some 41) (.pointer (some ⟨gs, 2, none⟩))).put (some 42) (.int .i64 x.page)).put (some 43) (.int .i64 (bits .and .i64 x.page 3))).put (some 44) (.pointer (some ⟨gs, 3, none⟩))).put (some 45) (.int .i64 x.off)).put (some 46) (.int .i64 (bits .and .i64 x.off 7))).put (some 47) (.int .i64 (k : Int))).put (some 48) (byteOf k)).put (some 49) (.slice (some ⟨g1, 0, none⟩) 1 1)).put (some 50) (.int .i64 (k : Int))).put (some 51) (.int .i64 ((k + 1 : Nat) : Int))).put (some 52) (byteOf (k + 1))).put (some 53) (.slice (some ⟨g2, 0, none⟩) 1 1)).put (some 54) (.pointer (some ⟨gr, 0, none⟩))).put (some 55) (.pointer (some ⟨gr, 4, none⟩))).put (some 56) (.pointer (some ⟨gr, 5, none⟩))).put (some 57) (.pointer (some ⟨gr, 6, none⟩))).put (some 58) (.pointer (some ⟨gr, 7, none⟩)))) ?cont ?region
                case region => exact region12 w x2 g4 g5 g6 a3 c3 tv S K k gs gr tt x _ _ _ _ _ _ _ _ _ _ _ _ _ _ _ _ _ _ _ _ _ _ _ _ _ _ _ _ _ _ _ _ _ _ _ _ _ _ _ _ _ _ _ _ _ _ _ _ _ _ _ _ _ _ _ _ _ _ _ _ _ _ _ _ _ _ _ _ _ _ _ _ _ _ _ _ _ _ _ _ _ _ _ _ _ _ _ _ _ _ _ _ _ _ _ _ _ _ _ _ _ _ _ _ _ _ _ _ _ _ _ _ _ _ _ _ _ _ _ _ _ _ _ _ _ _ _ _ _ _ _ _ _ _ _ _ _ _ _ _ _ _ _ hlt2 HGS HG2 HI2 HNR hne1 hwk a0 ha0 _ rfl _ (by kernel_rfl)
                case cont =>
                  rintro e a' W ⟨rfl, g1, g2, ⟨hI3, hbox3⟩, ha'⟩
                  rw [ha', ha0]
                  simp only [Act.put, List.setIfInBounds_toArray, List.set_cons_zero, List.set_cons_succ]
                  have HI3 := hide hI3
                  have HG3 := hide hbox3
                  clear ha' ha0 hI3 hbox3 d0 f0 s0 c4' c5 h6c h6f hne1 hwk
                  obtain ⟨at7, ct7, h7v, h7c, h7f, h7r, h7t⟩ := HI3.out.c6 tt ht5
                  rw [HTL.out, HTN.out] at h7v h7c h7r
                  have HOWN7 : Hid ((W.alloc (.cells #[.int .i64 (ln : Int)] 3)).ownsRow 0 3 1 (.slice at7 tn ct7) tn (intCells tl)) := owns_of_block (owns_zero h7r) (fun q hq => Below.heap_alloc W _ q (h7r.lt q hq).2)
                  have HSRC7 : Hid (∀ j u, [Value.int .i64 (ln : Int)][j]? = some u → (W.alloc (.cells #[.int .i64 (ln : Int)] 3)).cell? ((⟨W.heap.size, 0, none⟩ : Addr).add j) = some u) := src_of_block (X := [Value.int .i64 (ln : Int)]) (heap_alloc_new W _)
                  have H7 := hide (And.intro h7v h7r)
                  have HTNL := hide HTN.out
                  have htn60 : tn ≤ 100 := htn'
                  clear h7v h7r h7t
                  go_upto_region 25 with (refine wpList_append_owned (by rfl) _ _ 49 (by rfl) 3 (.int .i64 0) 1 8 Try.underlying49 Try.info3 rfl (by omega) (.slice at7 tn ct7) tn (intCells tl) (by rfl) HOWN7.out ⟨W.heap.size, 0, none⟩ 1 1 [.int .i64 (ln : Int)] (by rfl) (by rfl) HSRC7.out (by intro u hu; simp at hu; subst hu; rfl) (by simp only [maxLen]; omega) (by omega) (fun v7 w7 r1 r2 r3 => ?_)
                                          have hO7 : Off (Value.slice at7 tn ct7).ownBlock.toList W w7 := ((Off.refl _ W).alloc _).grown r2 (fun k hk => .inl (by simp [hk]))
                                          have hg6n : (Value.slice at7 tn ct7).ownBlock ≠ some g6 := fun e => by
                                            have := (HI3.out.mem4.2.2.2 g6 (.inr (.inl (ownsL_mem.2 ⟨_, List.mem_of_getElem? H7.out.1, e⟩)))).2.2
                                            exact this rfl
                                          have hg6b : w7.heap[g6]? = W.heap[g6]? := hO7.block g6 (HI3.out.lt g6 (by simp [hblocks])) (by simpa using hg6n)
                                          have k7 : w7.cell? ⟨g6, tt, none⟩ = some (.slice at7 tn ct7) := (World.cell?_of_block (a := ⟨g6, tt, none⟩) hg6b).trans h7c
                                          have k7f : w7.frozen? ⟨g6, tt, none⟩ = false := frozen_of_row _ _ _ _ _ (hg6b.trans HI3.out.h6)
                                          obtain ⟨a7, m7, c7, hv7⟩ := own_form r1
                                          subst hv7
                                          have HR7 := hide (And.intro r1 (And.intro r3 hO7))
                                          clear r1 r2 r3 hO7 hg6n hg6b)
                  generalize hx8 : World.setCell _ _ _ = x8
                  have HI8 : Hid (HistIs w x8 g4 g5 g6 (.slice a3 S.L.length c3) (tv.set tt (.slice a7 m7 c7)) { S with todo := S.todo.set tt (tl ++ [(ln : Int)]) } ((g1, .cells #[byteOf k] 5 (0, 0)) :: (g2, .cells #[byteOf (k + 1)] 5 (0, 0)) :: K)) := by
                    rw [← hx8]
                    refine HI3.out.setTodo tt _ _ _ H7.out.1 ?_ HR7.out.2.2 (fun k hk => ?_)
                    · have hl1 : (tl ++ [(ln : Int)]).length = tn + 1 := by rw [List.length_append, HTNL.out]; rfl
                      rw [hl1, intCells_snoc]
                      refine owns_base HR7.out.1 (fun k hk => ?_)
                      rcases HR7.out.2.1 k hk with h | h
                      · exact (H7.out.2.lt k h).1
                      · have h1 := HI3.out.below.size
                        rw [World.size_alloc] at h
                        omega
                    · rcases HR7.out.2.1 k hk with h | h
                      · exact .inl h
                      · rw [World.size_alloc] at h
                        exact .inr (by omega)
                  have HG8 : Hid (x8.heap[gr]? = some (.cells (recCells { S.rec0 tt with kind := 2, page := bits .and .i64 x.page 3, off := bits .and .i64 x.off 7, sb := oneSv g1, sa := oneSv g2 }).toArray 32 (0, 0))) := by
                    show _ = _
                    rw [← hx8, heap_setCell_other w7 _ gr _ (by show gr ≠ g6; intro e; exact HNR.out.1 (by rw [e]; simp [hblocks]))]
                    refine (HR7.out.2.2.block gr (Array.getElem?_eq_some_iff.1 HG3.out).1 ?_).trans HG3.out
                    intro hm
                    have hm : (Value.slice at7 tn ct7).ownBlock = some gr := by simpa using hm
                    refine HNR.out.1 ?_
                    have h1 : gr ∈ ownsL tv := ownsL_mem.2 ⟨_, List.mem_of_getElem? H7.out.1, hm⟩
                    simp [hblocks, h1]
                  clear hx8 k7 k7f h7c h7f HOWN7 HSRC7
                  have c4w := (HI8.out.c4 tt ht5).1
                  have f4w := (HI8.out.c4 tt ht5).2
                  obtain ⟨lv, hlv⟩ : ∃ lv, Hs.lastAt ({ S with todo := S.todo.set tt (tl ++ [(ln : Int)]) }) tt = lv := ⟨_, rfl⟩
                  rw [hlv] at c4w
                  clear hlv
                  have HI5 := hide (HI8.out.setLast tt S.lsn)
                  go_upto_region 26 with fail
                  generalize hx5 : World.setCell _ _ (Value.int .i64 S.lsn) = x5
                  have HI5' : Hid (HistIs w x5 g4 g5 g6 (.slice a3 S.L.length c3) (tv.set tt (.slice a7 m7 c7)) { ({ S with todo := S.todo.set tt (tl ++ [(ln : Int)]) }) with last := (Hs.last ({ S with todo := S.todo.set tt (tl ++ [(ln : Int)]) })).set tt S.lsn } (((g1, .cells #[byteOf k] 5 (0, 0)) :: (g2, .cells #[byteOf (k + 1)] 5 (0, 0)) :: K))) := by rw [← hx5]; exact HI5.out
                  have HRX : Hid (x5.rangeAt gr 0 (recCells ({ S.rec0 tt with kind := 2, page := bits .and .i64 x.page 3, off := bits .and .i64 x.off 7, sb := oneSv g1, sa := oneSv g2 }))) := fun j v hv => by
                    rw [Nat.zero_add, ← hx5, cell_of_row _ _ _ _ _ _ ((heap_setCell_other x8 _ gr _ (by show gr ≠ g4; intro e; exact HNR.out.1 (by rw [e]; simp [hblocks]))).trans HG8.out)]
                    simpa using hv
                  clear hx5 HI5 c4w f4w
                  obtain ⟨rr, hrr⟩ : ∃ rr : Ln, ({ S.rec0 tt with kind := 2, page := bits .and .i64 x.page 3, off := bits .and .i64 x.off 7, sb := oneSv g1, sa := oneSv g2 }) = rr := ⟨_, rfl⟩
                  have hrl : S.lsn = rr.lsn := by rw [← hrr]; rfl
                  have HRR := hide hrr
                  rw [hrr] at HRX
                  rw [hrl]
                  clear hrr hrl
                  have HOWN : Hid ((x5.alloc (.cells (lnCells rr).toArray 34)).ownsRow 0 34 12 (.slice a3 ln c3) ln (lnRow S.L)) := by
                    have hl := HI5'.out.lines
                    have hl : x5.ownsRow w.heap.size 34 12 (.slice a3 S.L.length c3) S.L.length (lnRow S.L) := hl
                    rw [HLN.out] at hl
                    exact owns_of_block (owns_zero hl) (fun q hq => Below.heap_alloc x5 _ q (hl.lt q hq).2)
                  have HSRC : Hid (∀ j u, (lnCells rr)[j]? = some u → (x5.alloc (.cells (lnCells rr).toArray 34)).cell? ((⟨x5.heap.size, 0, none⟩ : Addr).add j) = some u) := src_of_block (heap_alloc_new x5 _)
                  unfold recCells at HRX
                  go_wp2_with (first
                    | (refine wpList_load_mid (by rfl) 32 _ (by rfl) gr 0 (by rfl) _ _ HRX.out Try.underlying32 rfl Try.size32n ?_)
                    | (refine wpList_append_owned (by rfl) _ _ 23 (by rfl) 34 (.agg (lnCells Ln.zero).toArray) 12 160 Try.underlying23 Try.info34 rfl (by omega) (.slice a3 ln c3) ln (lnRow S.L) (by rfl) HOWN.out ⟨x5.heap.size, 0, none⟩ 1 1 (lnCells rr) (by rfl) (by rfl) HSRC.out (by intro u hu; simp [lnCells, recCells] at hu; rcases hu with rfl | rfl | rfl | rfl | rfl | rfl | rfl | rfl | rfl | rfl | rfl | rfl <;> rfl) (by simp only [maxLen]; omega) (by omega) (fun v4 w6 r1 r2 r3 => ?_)
                       have hq5 := HI5'.out
                       rw [HLN.out] at hq5
                       have hI6 := hq5.addLine rr ((Off.refl [] x5).alloc _) (by show w6.ownsRow 0 34 12 v4 (S.L.length + 1) (lnRow S.L ++ lnCells rr); rw [HLN.out]; exact r1) r2 r3
                       obtain ⟨a6, m6, c6, hv6⟩ := own_form r1
                       subst hv6
                       have HI6 := hide hI6
                       clear r1 r2 r3 hI6 hq5))
                  go_roundw
                  case rel =>
                    have hst := HStep.update (i := k) (x := x) (S := S) (K := K) (by rw [HT.out]; exact HDN.out) (by rw [HT.out, HLST.out]; exact HK3.out.2.2) HK3.out.1 (by rw [HT.out, HTL.out]; exact HK3.out.2.1) g1 g2
                    refine ⟨k + 1, (tv.set tt (.slice a7 m7 c7)), _, (((g1, .cells #[byteOf k] 5 (0, 0)) :: (g2, .cells #[byteOf (k + 1)] 5 (0, 0)) :: K)), by omega, by omega, by go_num, ?_, HRun.step k x S K _ _ HRUN.out.1 HRUN.out.2 hst⟩
                    have hq := HI6.out
                    rw [HT.out]
                    try rw [HTL.out, HLN.out]
                    rw [← HRR.out] at hq
                    exact hq
                  case measure => simp [iv]; omega
    · by_cases hkn' : k < n
      · have hk : k = 60 := by omega
        subst hk
        have HI := hide hI
        have HRUN := hide hRun
        clear hI hRun
        go_wp2
        go_ret
        exact ⟨g4, g5, g6, _, tv, S, K, rfl, HI.out, by rw [Nat.min_eq_right (by omega)]; exact HRUN.out⟩
      · obtain rfl : k = n := by omega
        have HI := hide hI
        have HRUN := hide hRun
        clear hI hRun
        go_wp2
        go_ret
        exact ⟨g4, g5, g6, _, tv, S, K, rfl, HI.out, by rw [Nat.min_eq_left (by omega)]; exact HRUN.out⟩
end Go.Proofs.Ytpjppolbkdnkaaa
