/- RedoCounts: its walk. -/
import Derived.Test.YtpjppolbkdnkaaaCountA
namespace Go.Proofs.Ytpjppolbkdnkaaa
open Go.RowKit
set_option linter.unusedVariables false
set_option linter.unusedSimpArgs false

/-- (z % m + m) % m, as the program reckons it. -/
theorem mod_in (z : Int) (m : Nat) (h1 : 0 < m) (h2 : m ≤ 1000) : ∃ P : Nat, P < m ∧ (z.tmod m + m).tmod m = (P : Int) ∧ IntKind.i64.wrap (z.tmod m + m) = z.tmod m + m := by
  have hb : -(m : Int) < z.tmod m ∧ z.tmod m < m := by
    by_cases hz : 0 ≤ z
    · rw [Int.tmod_eq_emod_of_nonneg hz]
      have := Int.emod_nonneg z (show (m : Int) ≠ 0 by omega)
      have := Int.emod_lt_of_pos z (show 0 < (m : Int) by omega)
      omega
    · have e : z.tmod m = -((-z).tmod m) := by rw [Int.neg_tmod]; omega
      rw [e, Int.tmod_eq_emod_of_nonneg (show 0 ≤ -z by omega)]
      have := Int.emod_nonneg (-z) (show (m : Int) ≠ 0 by omega)
      have := Int.emod_lt_of_pos (-z) (show 0 < (m : Int) by omega)
      omega
  have hn : 0 ≤ z.tmod m + m := by omega
  refine ⟨((z.tmod m + m) % m).toNat, ?_, ?_, ?_⟩
  · have := Int.emod_nonneg (z.tmod m + m) (show (m : Int) ≠ 0 by omega)
    have := Int.emod_lt_of_pos (z.tmod m + m) (show 0 < (m : Int) by omega)
    omega
  · rw [Int.tmod_eq_emod_of_nonneg hn]
    have := Int.emod_nonneg (z.tmod m + m) (show (m : Int) ≠ 0 by omega)
    omega
  · rw [IntKind.wrap_i64]; omega

theorem ln_one (x : Ln) : ∀ u ∈ lnCells x, u.oneCell' = true := by intro u hu; simp [lnCells, recCells] at hu; rcases hu with rfl | rfl | rfl | rfl | rfl | rfl | rfl | rfl | rfl | rfl | rfl | rfl <;> rfl
/-- The checkpoint that is put in. -/
def cpLn (z : Int) (cN gd : Nat) : Ln := ⟨z - 5, 7, 0, 0, 0, 0, 0, (cN : Int), ⟨none, 0, 0⟩, ⟨none, 0, 0⟩, ⟨none, 0, 0⟩, ⟨some ⟨gd, 0, none⟩, 1, 1⟩⟩
/-- A log that is being made: its row, and the checkpoint's own list. -/
structure MIs (w1 wr : World) (m : Value) (M : List Ln) (Ds : List Nat) : Prop where
  row : wr.ownsRow w1.heap.size 34 12 m M.length (lnRow M)
  below : Below w1.heap.size w1 wr
  dirt : ∀ g ∈ Ds, wr.heap[g]? = some (.cells #[.int .i64 9, .int .i64 2] 36 (0, 0)) ∧ w1.heap.size ≤ g ∧ m.ownBlock ≠ some g
theorem MIs.addLine {w1 wr wA w6 : World} {m v6 : Value} {M : List Ln} {Ds : List Nat} (x : MIs w1 wr m M Ds) (r : Ln) {mn : Nat} (hmn : M.length = mn) (hO : Off [] wr wA) (r1 : w6.ownsRow 0 34 12 v6 (mn + 1) (lnRow M ++ lnCells r)) (r2 : wA.grownBy w6 m.ownBlock)
    (r3 : ∀ k, v6.ownBlock = some k → m.ownBlock = some k ∨ wA.heap.size ≤ k) : MIs w1 w6 v6 (M ++ [r]) Ds where
  row := by
    have e1 : (M ++ [r]).length = mn + 1 := by simp [hmn]
    have e2 : lnRow (M ++ [r]) = lnRow M ++ lnCells r := by simp [lnRow]
    rw [e1, e2]
    refine owns_base r1 (fun k hk => ?_)
    rcases r3 k hk with h | h
    · exact (x.row.lt k h).1
    · have := hO.size
      have := x.below.size
      omega
  below := (x.below.trans (hO.below x.below.size (by simp))).grown r2 (Nat.le_trans x.below.size hO.size) (fun k e => (x.row.lt k e).1)
  dirt := fun g hg => by
    obtain ⟨h1, h2, h3⟩ := x.dirt g hg
    have hl := (Array.getElem?_eq_some_iff.1 h1).1
    refine ⟨((r2.block g (Nat.lt_of_lt_of_le hl hO.size) (fun e => h3 e.symm)).trans (hO.block g hl (by simp))).trans h1, h2, fun e => ?_⟩
    rcases r3 g e with h | h
    · exact h3 h
    · have := hO.size
      omega
theorem MIs.addDirt {w1 wr : World} {m : Value} {M : List Ln} {Ds : List Nat} (x : MIs w1 wr m M Ds) : MIs w1 (wr.alloc (.cells #[.int .i64 9, .int .i64 2] 36)) m M (wr.heap.size :: Ds) where
  row := owns_of_blockB x.row (fun q hq => Below.heap_alloc wr _ q (x.row.lt q hq).2)
  below := x.below.alloc x.below.size _
  dirt := fun g hg => by
    rcases List.mem_cons.1 hg with rfl | hg
    · refine ⟨heap_alloc_new _ _, x.below.size, fun e => ?_⟩
      have := (x.row.lt _ e).2
      omega
    · obtain ⟨h1, h2, h3⟩ := x.dirt g hg
      exact ⟨(Below.heap_alloc _ _ _ (Array.getElem?_eq_some_iff.1 h1).1).trans h1, h2, h3⟩
theorem LinesAt.at {w : World} {b o : Nat} {L : List Ln} (h : LinesAt w (some ⟨b, o, none⟩) L) (i : Nat) (x : Ln) (hx : L[i]? = some x) : b < w.heap.size ∧ w.rangeAt b (o + i * 12) (lnCells x) := by
  obtain ⟨_, b', o', e, hb, hr⟩ := h.2 i x hx
  injection e with e
  injection e with e1 e2 _
  subst e1; subst e2
  exact ⟨hb, hr⟩

set_option maxHeartbeats 4000000 in
set_option maxRecDepth 100000 in
theorem counts_walk (w : World) (a : Option Addr) (len c : Nat) (at0 cnt : Int) (hat : In64 at0)
    (hHist : Calls Try.prog 8 #[.slice a len c] w fun e w' => ∃ (a3 : Option Addr) (c3 : Nat) (L : List Ln), e = .returned (.slice a3 L.length c3) ∧ w'.ownsRow w.heap.size 34 12 (.slice a3 L.length c3) L.length (lnRow L) ∧ (∀ (i : Nat) (x : Ln), L[i]? = some x → Hl i x) ∧ L.length ≤ 60 ∧ Below w.heap.size w w') :
    Calls Try.prog 3 #[.slice a len c, .int .i64 at0, .int .i64 cnt] w fun e w' => e = .returned (.bool true) ∧ Below w.heap.size w w' := by
  have HH := hide hHist
  clear hHist
  obtain ⟨cN, hcN, hbits⟩ := and_wide cnt 65535 (by omega)
  have hbits : bits .and .i64 cnt 65535 = (cN : Int) := hbits
  go_enter Try.func3, Try.ntmps3
  go_upto_region 2 with (go_at_call 8; refine HH.out.mono ?_; rintro e w1 ⟨a3, c3, L, rfl, hrow, hL, hl60, hB1⟩; have HROW := hide hrow; have HL := hide hL; have HB1 := hide hB1; clear hrow hL hB1)
  have HLI := hide (lines_own HROW.out (fun x hx => by obtain ⟨i, hi⟩ := List.mem_iff_getElem?.1 hx; exact (HL.out i x hi).ok (by have := (List.getElem?_eq_some_iff.1 hi).1; omega)) (by omega))
  obtain ⟨ln, hln⟩ : ∃ ln, L.length = ln := ⟨_, rfl⟩
  have HLN := hide hln
  rw [hln] at hl60 ⊢
  clear hln HROW
  by_cases h0 : ln = 0
  · subst h0
    have HA0 := hide (analyze0 w1 a3 c3)
    have HAW := hide (fun W => awake_any W)
    go_wp2_with (first
      | (go_at_call 9; refine HA0.out.mono ?_; rintro e w2 ⟨at', ct, ad, cd, rfl, hB2⟩; have HB2 := hide hB2; clear hB2)
      | (go_at_call 10; refine (HAW.out _).mono ?_; rintro e w3 ⟨rfl, hB3⟩; have HB3 := hide hB3; clear hB3))
    go_ret
    exact ⟨rfl, (HB1.out.trans (HB2.out.mono HB1.out.size)).trans (HB3.out.mono (by have := HB1.out.size; have := HB2.out.size; omega))⟩
  · have hlb : ((ln : Int) == 0) = false := beq_eq_false_iff_ne.2 (by omega)
    obtain ⟨k, hk, hmod, hwr⟩ := mod_in at0 ln (by omega) (by omega)
    obtain ⟨b, o, hab⟩ : ∃ b o, a3 = some ⟨b, o, none⟩ := by
      obtain ⟨x, hx⟩ : ∃ x, L[0]? = some x := ⟨_, List.getElem?_eq_getElem (by rw [HLN.out]; omega)⟩
      obtain ⟨_, b, o, e, _⟩ := HLI.out.2 0 x hx
      exact ⟨b, o, e⟩
    subst hab
    go_upto_region 10 with fail
    go_loopw [12, 13, 14] (fun m cm i wr => ∃ (j : Nat) (M0 : List Ln) (Ds : List Nat), j ≤ ln ∧ i = .int .i64 j ∧ cm = .int .i64 ((cN : Int) + comK L k j) ∧ MIs w1 wr m M0 Ds ∧ M0.length ≤ j + 1 ∧ (j ≤ k → M0 = L.take j) ∧ (j ≤ k → Ds = []) ∧ (k < j → ∃ gd z, Ds = [gd] ∧ 10 ≤ z ∧ z ≤ 1000 ∧ M0 = putC L k (cpLn z cN gd) j)) (fun _ _ i _ => ln - (iv i).toNat)
    case atStart => exact ⟨0, [], [], by omega, rfl, by rw [comK_lt (by omega)]; rfl, ⟨⟨rfl, .inl ⟨rfl, rfl⟩⟩, Below.refl _ _, by simp⟩, by simp, by simp, by simp, fun h => by omega⟩
    case round =>
      obtain ⟨j, M0, Ds, hj, rfl, rfl, hM, hml, hM0, hDs, hMk⟩ := hrel
      obtain ⟨am, cm, hv⟩ := own_slice hM.row
      subst hv
      obtain ⟨mn, hmn⟩ : ∃ mn, M0.length = mn := ⟨_, rfl⟩
      have HMN := hide hmn
      have HM := hide hM
      rw [hmn] at hml HM ⊢
      have hcK := comK_le L k j
      clear hM hmn
      by_cases hlt : j < ln
      · obtain ⟨x, hx⟩ : ∃ x, L[j]? = some x := ⟨_, List.getElem?_eq_getElem (by rw [HLN.out]; exact hlt)⟩
        have HX := hide (HL.out j x hx)
        obtain ⟨hbl, hrg⟩ := HLI.out.at j x hx
        have HRG := hide hrg
        have HXX := hide hx
        clear hrg hx
        by_cases hjk : j = k
        · obtain rfl : k = j := hjk.symm
          obtain rfl : M0 = L.take k := hM0 (Nat.le_refl _)
          obtain rfl : Ds = [] := hDs (Nat.le_refl _)
          have e0 : wr.cell? ⟨b, o + k * 12, none⟩ = some (.int .i64 x.lsn) := (HM.out.below.cell (p := ⟨b, o + k * 12, none⟩) hbl).trans (HRG.out 0 _ rfl)
          have hz := HX.out.lsn
          obtain ⟨z, hzz⟩ : ∃ z, x.lsn = z := ⟨_, rfl⟩
          rw [hzz] at e0 hz
          have hz1 : 10 ≤ z := by omega
          have hz2 : z ≤ 1000 := by omega
          have HZ := hide hz
          clear hzz hz
          have HMd := hide HM.out.addDirt
          have HOWNc : Hid (((wr.alloc (.cells #[.int .i64 9, .int .i64 2] 36)).alloc (.cells (lnCells (cpLn z cN wr.heap.size)).toArray 34)).ownsRow 0 34 12 (.slice am mn cm) mn (lnRow (L.take k))) := by
            have h := HMd.out.row
            rw [HMN.out] at h
            exact owns_of_block (owns_zero h) (fun q hq => Below.heap_alloc (wr.alloc (.cells #[.int .i64 9, .int .i64 2] 36)) _ q (h.lt q hq).2)
          have HSRCc : Hid (∀ j u, (lnCells (cpLn z cN wr.heap.size))[j]? = some u → ((wr.alloc (.cells #[.int .i64 9, .int .i64 2] 36)).alloc (.cells (lnCells (cpLn z cN wr.heap.size)).toArray 34)).cell? ((⟨wr.heap.size + 1, 0, none⟩ : Addr).add j) = some u) := src_of_block (by
            have h := heap_alloc_new (wr.alloc (.cells #[.int .i64 9, .int .i64 2] 36)) (.cells (lnCells (cpLn z cN wr.heap.size)).toArray 34)
            rwa [World.size_alloc] at h)
          go_upto_region 14 with (first
            | (refine wpList_append_owned (by rfl) _ _ 23 (by rfl) 34 (.agg (lnCells Ln.zero).toArray) 12 160 Try.underlying23 Try.info34 rfl (by omega) (.slice am mn cm) mn (lnRow (L.take k)) (by rfl) HOWNc.out ⟨wr.heap.size + 1, 0, none⟩ 1 1 (lnCells (cpLn z cN wr.heap.size)) (by rfl) (by rfl) HSRCc.out (ln_one _) (by simp only [maxLen]; omega) (by omega) (fun v6 w6 r1 r2 r3 => ?_)
               have hMc := HMd.out.addLine (cpLn z cN wr.heap.size) HMN.out ((Off.refl [] _).alloc _) r1 r2 r3
               have hl5 : (L.take k ++ [cpLn z cN wr.heap.size]).length = mn + 1 := by rw [List.length_append, HMN.out]; rfl
               obtain ⟨a5, c5, hv5⟩ := own_slice hMc.row
               rw [hl5] at hv5
               subst hv5
               clear hl5
               have HMc := hide hMc
               clear r1 r2 r3 hMc))
          have hl5 : (L.take k ++ [cpLn z cN wr.heap.size]).length = mn + 1 := by rw [List.length_append, HMN.out]; rfl
          have HMN5 := hide hl5
          clear hl5 HM HMd HOWNc HSRCc e0
          generalize wr.heap.size = gd at *
          generalize w6 = x5 at *
          have HRX : Hid (x5.rangeAt b (o + k * 12) (lnCells x)) := fun q v hv => (HMc.out.below.cell (p := ⟨b, o + k * 12 + q, none⟩) hbl).trans (HRG.out q v hv)
          have HOWN : Hid ((x5.alloc (.cells (lnCells x).toArray 34)).ownsRow 0 34 12 (.slice a5 (mn + 1) c5) (mn + 1) (lnRow (L.take k ++ [cpLn z cN gd]))) := by
            have h := HMc.out.row
            rw [HMN5.out] at h
            exact owns_of_block (owns_zero h) (fun q hq => Below.heap_alloc x5 _ q (h.lt q hq).2)
          have HSRC : Hid (∀ j u, (lnCells x)[j]? = some u → (x5.alloc (.cells (lnCells x).toArray 34)).cell? ((⟨x5.heap.size, 0, none⟩ : Addr).add j) = some u) := src_of_block (heap_alloc_new x5 _)
          unfold lnCells recCells at HRX
          go_upto_region 15 with (first
            | (refine wpList_load_mid (by rfl) 34 _ (by rfl) b (o + k * 12) (by rfl) _ _ HRX.out Try.underlying34 rfl Try.size34n ?_)
            | (refine wpList_append_owned (by rfl) _ _ 23 (by rfl) 34 (.agg (lnCells Ln.zero).toArray) 12 160 Try.underlying23 Try.info34 rfl (by omega) (.slice a5 (mn + 1) c5) (mn + 1) (lnRow (L.take k ++ [cpLn z cN gd])) (by rfl) HOWN.out ⟨x5.heap.size, 0, none⟩ 1 1 (lnCells x) (by rfl) (by rfl) HSRC.out (ln_one _) (by simp only [maxLen]; omega) (by omega) (fun v6 w6 r1 r2 r3 => ?_)
               have hM6 := HMc.out.addLine x HMN5.out ((Off.refl [] x5).alloc _) r1 r2 r3
               obtain ⟨a6, c6, hv6⟩ := own_slice hM6.row
               have hl6 : ((L.take k ++ [cpLn z cN gd]) ++ [x]).length = (mn + 1) + 1 := by rw [List.length_append, HMN5.out]; rfl
               rw [hl6] at hv6
               subst hv6
               clear hl6
               have HM6 := hide hM6
               clear r1 r2 r3 hM6))
          have k1 : w6.cell? ⟨b, o + k * 12 + 1, none⟩ = some (.int .i64 x.kind) := (HM6.out.below.cell (p := ⟨b, o + k * 12 + 1, none⟩) hbl).trans (HRG.out 1 _ rfl)
          by_cases hk4 : x.kind = 4
          · have HK4 := hide hk4
            rw [hk4] at k1
            clear hk4
            go_wp2
            go_roundw
            case rel => exact ⟨k + 1, _, [gd], by omega, by go_num, by rw [comK_step HXX.out (Nat.le_refl _)]; unfold com; rw [if_pos HK4.out]; congr 1; omega, HM6.out, by simp; have := HMN.out; simp at this; omega, fun h => by omega, fun h => by omega, fun _ => ⟨gd, z, rfl, hz1, hz2, by rw [putC_at HXX.out]; unfold putC; rw [if_pos (Nat.le_refl _)]⟩⟩
            case measure => simp [iv]; omega
          · have hkb : (x.kind == 4) = false := beq_eq_false_iff_ne.2 hk4
            have HK4 := hide hk4
            clear hk4
            go_wp2
            go_roundw
            case rel => exact ⟨k + 1, _, [gd], by omega, by go_num, by rw [comK_step HXX.out (Nat.le_refl _)]; unfold com; rw [if_neg HK4.out]; congr 1; omega, HM6.out, by simp; have := HMN.out; simp at this; omega, fun h => by omega, fun h => by omega, fun _ => ⟨gd, z, rfl, hz1, hz2, by rw [putC_at HXX.out]; unfold putC; rw [if_pos (Nat.le_refl _)]⟩⟩
            case measure => simp [iv]; omega
        · have hjb : ((j : Int) == (k : Int)) = false := beq_eq_false_iff_ne.2 (by omega)
          have HRX : Hid (wr.rangeAt b (o + j * 12) (lnCells x)) := fun q v hv => (HM.out.below.cell (p := ⟨b, o + j * 12 + q, none⟩) hbl).trans (HRG.out q v hv)
          have HOWN : Hid ((wr.alloc (.cells (lnCells x).toArray 34)).ownsRow 0 34 12 (.slice am mn cm) mn (lnRow M0)) := by
            have h := HM.out.row
            rw [HMN.out] at h
            exact owns_of_block (owns_zero h) (fun q hq => Below.heap_alloc wr _ q (h.lt q hq).2)
          have HSRC : Hid (∀ j u, (lnCells x)[j]? = some u → (wr.alloc (.cells (lnCells x).toArray 34)).cell? ((⟨wr.heap.size, 0, none⟩ : Addr).add j) = some u) := src_of_block (heap_alloc_new wr _)
          unfold lnCells recCells at HRX
          go_upto_region 15 with (first
            | (refine wpList_load_mid (by rfl) 34 _ (by rfl) b (o + j * 12) (by rfl) _ _ HRX.out Try.underlying34 rfl Try.size34n ?_)
            | (refine wpList_append_owned (by rfl) _ _ 23 (by rfl) 34 (.agg (lnCells Ln.zero).toArray) 12 160 Try.underlying23 Try.info34 rfl (by omega) (.slice am mn cm) mn (lnRow M0) (by rfl) HOWN.out ⟨wr.heap.size, 0, none⟩ 1 1 (lnCells x) (by rfl) (by rfl) HSRC.out (ln_one _) (by simp only [maxLen]; omega) (by omega) (fun v6 w6 r1 r2 r3 => ?_)
               have hM6 := HM.out.addLine x HMN.out ((Off.refl [] wr).alloc _) r1 r2 r3
               obtain ⟨a6, c6, hv6⟩ := own_slice hM6.row
               have hl6 : (M0 ++ [x]).length = mn + 1 := by rw [List.length_append, HMN.out]; rfl
               rw [hl6] at hv6
               subst hv6
               clear hl6
               have HM6 := hide hM6
               clear r1 r2 r3 hM6))
          have k1 : w6.cell? ⟨b, o + j * 12 + 1, none⟩ = some (.int .i64 x.kind) := (HM6.out.below.cell (p := ⟨b, o + j * 12 + 1, none⟩) hbl).trans (HRG.out 1 _ rfl)
          by_cases hge : k ≤ j
          · by_cases hk4 : x.kind = 4
            · have HK4 := hide hk4
              rw [hk4] at k1
              clear hk4
              go_wp2
              go_roundw
              case rel => exact ⟨j + 1, _, Ds, by omega, by go_num, by rw [comK_step HXX.out hge]; unfold com; rw [if_pos HK4.out]; congr 1; omega, HM6.out, by rw [List.length_append, HMN.out]; simp; omega, fun h => by omega, fun h => by omega, fun _ => by obtain ⟨gd, z, q1, q2, q3, q4⟩ := hMk (by omega); exact ⟨gd, z, q1, q2, q3, by rw [putC_ne HXX.out hjk, q4]⟩⟩
              case measure => simp [iv]; omega
            · have hkb : (x.kind == 4) = false := beq_eq_false_iff_ne.2 hk4
              have HK4 := hide hk4
              clear hk4
              go_wp2
              go_roundw
              case rel => exact ⟨j + 1, _, Ds, by omega, by go_num, by rw [comK_step HXX.out hge]; unfold com; rw [if_neg HK4.out]; congr 1; omega, HM6.out, by rw [List.length_append, HMN.out]; simp; omega, fun h => by omega, fun h => by omega, fun _ => by obtain ⟨gd, z, q1, q2, q3, q4⟩ := hMk (by omega); exact ⟨gd, z, q1, q2, q3, by rw [putC_ne HXX.out hjk, q4]⟩⟩
              case measure => simp [iv]; omega
          · clear k1
            go_wp2
            go_roundw
            case rel => exact ⟨j + 1, _, Ds, by omega, by go_num, by rw [comK_lt (by omega), comK_lt (by omega)], HM6.out, by rw [List.length_append, HMN.out]; simp; omega, fun _ => by rw [hM0 (by omega), take_snoc HXX.out], fun _ => hDs (by omega), fun h => by omega⟩
            case measure => simp [iv]; omega
      · obtain rfl : j = ln := by omega
        obtain ⟨gd, z, hDs2, hz1, hz2, hMM⟩ := hMk hk
        have hM2 : M0 = L.take k ++ cpLn z cN gd :: L.drop k := by rw [hMM, ← HLN.out]; exact putC_all (by rw [HLN.out]; exact hk)
        obtain ⟨gm, cc, cur, hve, _, hgm, hcap, _⟩ := own_some HM.out.row (by rw [hM2]; simp)
        injection hve with q1 q2 q3
        subst q1; subst q3
        have hr := HM.out.row
        rw [← HMN.out] at hr
        have hLM := lines_own hr (fun y hy => by
          rw [hM2] at hy
          have hin : ∀ y ∈ L, y.ok := fun y hy => by
            obtain ⟨i, hi⟩ := List.mem_iff_getElem?.1 hy
            exact (HL.out i y hi).ok (by have := (List.getElem?_eq_some_iff.1 hi).1; have := HLN.out; omega)
          rcases List.mem_append.1 hy with hy | hy
          · exact hin y (List.mem_of_mem_take hy)
          · rcases List.mem_cons.1 hy with rfl | hy
            · constructor <;> simp only [cpLn, In64] <;> omega
            · exact hin y (List.mem_of_mem_drop hy)) (by rw [HMN.out]; omega)
        have hDD : DirtsAt wr (some ⟨gd, 0, none⟩) [(9, 2)] := ⟨by simp, fun i y hy => by
          have hg := (HM.out.dirt gd (by rw [hDs2]; simp)).1
          match i with
          | 0 =>
            simp at hy
            subst hy
            refine ⟨by simp [In64], by simp [In64], gd, 0, rfl, (Array.getElem?_eq_some_iff.1 hg).1, fun q v hv => ?_⟩
            rw [show 0 + 0 * 2 + q = q by omega, cell_of_row _ _ _ _ _ _ hg]
            simpa using hv
          | i + 1 => simp at hy⟩
        have HAN := hide (analyzeC wr gm 0 cm L k (cN : Int) (cpLn z cN gd) (by rw [HLN.out]; exact hk) (by rw [HLN.out]; exact hl60) HL.out ⟨by omega, by omega⟩ rfl rfl rfl rfl M0 hM2 hLM hDD mn HMN.out (by rw [← HMN.out]; exact hcap))
        have hcom : comK L k j = comN (L.drop k) := by rw [← HLN.out]; exact comK_all
        rw [hcom]
        have hBw := hide HM.out.below
        clear hcom hDD hLM hr q2 hgm hcap hM2 hMM hDs2 hMk hM0 hDs HM HMN
        generalize comN (L.drop k) = cm4 at *
        go_upto_region 20 with (go_at_call 9; refine HAN.out.mono ?_; rintro e w2 ⟨at', ct, tn, ad, cd, ds, rfl, hdo, hd12, hdd, hB2⟩; have HDO := hide hdo; have HDD := hide hdd; have HB2 := hide hB2; clear hdo hdd hB2)
        have hd9 : ((9 : Int), (2 : Int)) ∈ ds := HDO.out.1.2.2 9 2 (by simp [In64]) (by rw [anaC_F]; rfl)
        obtain ⟨b2, o2, hab⟩ : ∃ b2 o2, ad = some ⟨b2, o2, none⟩ := by
          obtain ⟨i, hi⟩ := List.mem_iff_getElem?.1 hd9
          obtain ⟨_, _, b2, o2, e, _⟩ := HDD.out.2 i _ hi
          exact ⟨b2, o2, e⟩
        subst hab
        have HDA : Hid (∀ (i : Nat) (p l : Int), ds[i]? = some (p, l) → b2 < w2.heap.size ∧ w2.rangeAt b2 (o2 + i * 2) [.int .i64 p, .int .i64 l]) := fun i p l hi => by
          obtain ⟨_, _, b3, o3, e, h1, h2⟩ := HDD.out.2 i _ hi
          injection e with e
          injection e with e1 e2 _
          subst e1; subst e2
          exact ⟨h1, h2⟩
        have HAW := hide (fun W => awake_any W)
        obtain ⟨dn, hdn⟩ : ∃ dn, ds.length = dn := ⟨_, rfl⟩
        have HDN := hide hdn
        have HD9 := hide hd9
        rw [hdn] at hd12 ⊢
        clear hdn hd9 HAN
        go_loopw [18, 19] (fun nv i wx => ∃ q : Nat, q ≤ dn ∧ i = .int .i64 q ∧ nv = .bool ((ds.take q).any (fun p => p.1 == 9)) ∧ Below w2.heap.size w2 wx) (fun _ i _ => dn - (iv i).toNat)
        case atStart => exact ⟨0, by omega, rfl, by simp, Below.refl _ _⟩
        case round =>
          obtain ⟨q, hq, rfl, rfl, hBq⟩ := hrel
          have HBQ := hide hBq
          clear hBq
          by_cases hqn : q < dn
          · obtain ⟨⟨p, l⟩, hpl⟩ : ∃ y, ds[q]? = some y := ⟨_, List.getElem?_eq_getElem (by rw [HDN.out]; exact hqn)⟩
            have hF : (anaC L k cN).F p = some l := (HDO.out.1.2.1 _ (List.mem_of_getElem? hpl)).2
            obtain ⟨hbl2, hrg2⟩ := HDA.out q p l hpl
            have HRD := hide hrg2
            have d0 : wr.cell? ⟨b2, o2 + q * 2, none⟩ = some (.int .i64 p) := (HBQ.out.cell (p := ⟨b2, o2 + q * 2, none⟩) hbl2).trans (hrg2 0 _ rfl)
            have d1 : wr.cell? ⟨b2, o2 + q * 2 + 1, none⟩ = some (.int .i64 l) := (HBQ.out.cell (p := ⟨b2, o2 + q * 2 + 1, none⟩) hbl2).trans (hrg2 1 _ rfl)
            have HTK : Hid (ds.take (q + 1) = ds.take q ++ [(p, l)]) := by
              show _ = _
              obtain ⟨hl', hx'⟩ := List.getElem?_eq_some_iff.1 hpl
              rw [← hx']
              exact List.take_succ_eq_append_getElem hl'
            clear hrg2 hpl
            rw [anaC_F] at hF
            by_cases hp9 : p = 9
            · subst hp9
              rw [if_pos rfl] at hF
              injection hF with hF
              subst hF
              go_wp2
              go_roundw
              case rel => exact ⟨q + 1, by omega, by go_num, by rw [HTK.out]; simp, HBQ.out⟩
              case measure => simp [iv]; omega
            · rw [if_neg hp9] at hF
              have hp9b : (p == 9) = false := beq_eq_false_iff_ne.2 hp9
              have HF := hide hF
              have HP9 := hide hp9
              clear hF hp9
              go_upto_region 26 with fail
              go_loopw [20, 21] (fun f jv wx => ∃ jn : Nat, k ≤ jn ∧ jn ≤ j ∧ jv = .int .i64 ((jn : Int) - 1) ∧ f = .int .i64 ((firstOf p (L.drop jn)).getD 0) ∧ Below w2.heap.size w2 wx) (fun _ jv _ => (iv jv + 1).toNat)
              case atStart => exact ⟨j, by omega, Nat.le_refl _, rfl, by rw [List.drop_of_length_le (by rw [HLN.out]; exact Nat.le_refl _)]; rfl, HBQ.out⟩
              case round =>
                clear d0 d1
                obtain ⟨jn, hjn1, hjn2, rfl, rfl, hBj⟩ := hrel
                have HBJ := hide hBj
                have d0 : wr.cell? ⟨b2, o2 + q * 2, none⟩ = some (.int .i64 p) := (hBj.cell (p := ⟨b2, o2 + q * 2, none⟩) hbl2).trans (HRD.out 0 _ rfl)
                have d1 : wr.cell? ⟨b2, o2 + q * 2 + 1, none⟩ = some (.int .i64 l) := (hBj.cell (p := ⟨b2, o2 + q * 2 + 1, none⟩) hbl2).trans (HRD.out 1 _ rfl)
                clear hBj
                by_cases hgt : k < jn
                · obtain ⟨t, ht⟩ : ∃ t : Nat, t + 1 = jn := ⟨jn - 1, by omega⟩
                  subst ht
                  have hti : (((t + 1 : Nat) : Int) - 1) = (t : Int) := by omega
                  rw [hti]
                  have hkt : k ≤ t := by omega
                  obtain ⟨x, hx⟩ : ∃ x, L[t]? = some x := ⟨_, List.getElem?_eq_getElem (by rw [HLN.out]; omega)⟩
                  obtain ⟨hblx, hrgx⟩ := HLI.out.at t x hx
                  have HBX : Hid (Below w1.heap.size w1 wr) := hBw.out.trans ((HB2.out.mono hBw.out.size).trans (HBJ.out.mono (Nat.le_trans hBw.out.size HB2.out.size)))
                  have HRX : Hid (wr.rangeAt b (o + t * 12) (lnCells x)) := fun i v hv => (HBX.out.cell (p := ⟨b, o + t * 12 + i, none⟩) hblx).trans (hrgx i v hv)
                  have HRR : Hid (wr.rangeAt b (o + t * 12 + 1) (recCells x)) := rec_of_ln HRX.out
                  have x0 : wr.cell? ⟨b, o + t * 12, none⟩ = some (.int .i64 x.lsn) := HRX.out 0 _ rfl
                  have HFD := hide (firstOf_drop p hx)
                  have HLX := hide (HL.out t x hx)
                  obtain ⟨f0, hf0⟩ : ∃ f0, (firstOf p (L.drop (t + 1))).getD 0 = f0 := ⟨_, rfl⟩
                  have HF0 := hide hf0
                  rw [hf0]
                  unfold recCells at HRR
                  clear hrgx hx hf0 hti
                  go_upto_region 29 with (refine wpList_load_mid (by rfl) 32 _ (by rfl) b (o + t * 12 + 1) (by rfl) _ _ HRR.out Try.underlying32 rfl Try.size32n ?_)
                  generalize hx3 : wr.alloc _ = x3
                  have hG : x3.heap[wr.heap.size]? = some (.cells (recCells x).toArray 32 (0, 0)) := by rw [← hx3]; exact heap_alloc_new _ _
                  have hBx : Below wr.heap.size wr x3 := by rw [← hx3]; exact (Below.refl _ _).alloc (Nat.le_refl _) _
                  have HB3 : Hid (Below w2.heap.size w2 x3) := HBJ.out.trans (hBx.mono HBJ.out.size)
                  have c0 : x3.cell? ⟨wr.heap.size, 0, none⟩ = some (.int .i64 x.kind) := by rw [cell_of_row _ _ _ _ _ _ hG]; rfl
                  have c4 : x3.cell? ⟨wr.heap.size, 4, none⟩ = some (.int .i64 x.page) := by rw [cell_of_row _ _ _ _ _ _ hG]; rfl
                  have d0' : x3.cell? ⟨b2, o2 + q * 2, none⟩ = some (.int .i64 p) := (hBx.cell (p := ⟨b2, o2 + q * 2, none⟩) (World.block_lt_of_cell? _ _ d0)).trans d0
                  have x0' : x3.cell? ⟨b, o + t * 12, none⟩ = some (.int .i64 x.lsn) := (hBx.cell (p := ⟨b, o + t * 12, none⟩) (World.block_lt_of_cell? _ _ x0)).trans x0
                  clear hx3 hG hBx d0 d1 x0 HRR HRX
                  generalize wr.heap.size = gx at *
                  have HHT : Hid (hits p x = ((x.kind == 2 || x.kind == 3) && x.page == p)) := rfl
                  obtain ⟨xk, hxk⟩ : ∃ xk, x.kind = xk := ⟨_, rfl⟩
                  obtain ⟨xp, hxp⟩ : ∃ xp, x.page = xp := ⟨_, rfl⟩
                  rw [hxk] at c0
                  rw [hxp] at c4
                  rw [hxk, hxp] at HHT
                  clear hxk hxp
                  by_cases h2 : xk = 2
                  · subst h2
                    by_cases hpe : xp = p
                    · subst hpe
                      have HH2 : Hid (hits xp x = true) := HHT.out.trans (by simp)
                      clear HHT
                      go_quiet (fail)
                      go_wp2
                      go_roundw
                      case rel => exact ⟨t, hkt, by omega, rfl, by rw [HFD.out, HH2.out]; rfl, HB3.out.trans (below_drewN _ _ _)⟩
                      case measure => simp [iv]
                    · have hpb : (xp == p) = false := beq_eq_false_iff_ne.2 hpe
                      have HH2 : Hid (hits p x = false) := HHT.out.trans (by simp [hpe])
                      clear HHT hpe
                      go_quiet (fail)
                      go_wp2
                      go_roundw
                      case rel => exact ⟨t, hkt, by omega, rfl, by rw [HFD.out, HH2.out, ← HF0.out]; rfl, HB3.out.trans (below_drewN _ _ _)⟩
                      case measure => simp [iv]
                  · by_cases h3 : xk = 3
                    · subst h3
                      by_cases hpe : xp = p
                      · subst hpe
                        have HH2 : Hid (hits xp x = true) := HHT.out.trans (by simp)
                        clear HHT
                        go_quiet (fail)
                        go_wp2
                        go_roundw
                        case rel => exact ⟨t, hkt, by omega, rfl, by rw [HFD.out, HH2.out]; rfl, HB3.out.trans (below_drewN _ _ _)⟩
                        case measure => simp [iv]
                      · have hpb : (xp == p) = false := beq_eq_false_iff_ne.2 hpe
                        have HH2 : Hid (hits p x = false) := HHT.out.trans (by simp [hpe])
                        clear HHT hpe
                        go_quiet (fail)
                        go_wp2
                        go_roundw
                        case rel => exact ⟨t, hkt, by omega, rfl, by rw [HFD.out, HH2.out, ← HF0.out]; rfl, HB3.out.trans (below_drewN _ _ _)⟩
                        case measure => simp [iv]
                    · have hb2 : (xk == 2) = false := beq_eq_false_iff_ne.2 h2
                      have hb3 : (xk == 3) = false := beq_eq_false_iff_ne.2 h3
                      have HH2 : Hid (hits p x = false) := HHT.out.trans (by simp [h2, h3])
                      clear HHT h2 h3
                      go_quiet (fail)
                      go_wp2
                      go_roundw
                      case rel => exact ⟨t, hkt, by omega, rfl, by rw [HFD.out, HH2.out, ← HF0.out]; rfl, HB3.out.trans (below_drewN _ _ _)⟩
                      case measure => simp [iv]
                · obtain rfl : jn = k := by omega
                  have hfl : (firstOf p (L.drop jn)).getD 0 = l := by rw [HF.out]; rfl
                  rw [hfl]
                  have hl0 : l ≠ 0 := by
                    obtain ⟨x, hx, _, e⟩ := firstOf_some _ _ _ HF.out
                    obtain ⟨i, hi⟩ := List.mem_iff_getElem?.1 (List.mem_of_mem_drop hx)
                    have := (HL.out i x hi).lsn
                    omega
                  have hl0b : (l == 0) = false := beq_eq_false_iff_ne.2 hl0
                  clear hfl hl0
                  go_wp2
                  go_roundw
                  case rel => exact ⟨q + 1, by omega, by go_num, by rw [HTK.out, List.any_append]; simp [HP9.out], HBJ.out⟩
                  case measure => simp [iv]; omega
          · obtain rfl : q = dn := by omega
            have h9 : (ds.take q).any (fun p => p.1 == 9) = true := by
              rw [List.take_of_length_le (by rw [HDN.out]; exact Nat.le_refl _)]
              exact List.any_eq_true.2 ⟨_, HD9.out, by simp⟩
            rw [h9]
            clear h9
            go_wp2_with (go_at_call 10; refine (HAW.out _).mono ?_; rintro e w7 ⟨rfl, hb7⟩; have HB7 := hide hb7; clear hb7)
            go_ret
            have hbw : Below w1.heap.size w1 wr := hBw.out.trans ((HB2.out.mono hBw.out.size).trans (HBQ.out.mono (Nat.le_trans hBw.out.size HB2.out.size)))
            exact ⟨rfl, (HB1.out.trans (hbw.mono HB1.out.size)).trans (HB7.out.mono (Nat.le_trans HB1.out.size hbw.size))⟩
end Go.Proofs.Ytpjppolbkdnkaaa
