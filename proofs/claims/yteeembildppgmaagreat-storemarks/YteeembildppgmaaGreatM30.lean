/- A part of it: SMof SFind SNone. -/
import Derived.Test.YteeembildppgmaaGreatM29
namespace Go.Proofs.YteeembildppgmaaGreat
open Go.RowKit
set_option linter.unusedVariables false
set_option linter.unusedSimpArgs false
def mcells (n0 n1 n2 n3 : Nat) : Nat → Array Value
  | 0 => #[.int .i64 0, .int .i64 0, .int .i64 0, .int .i64 0]
  | 1 => #[.int .i64 (n0 : Int), .int .i64 0, .int .i64 0, .int .i64 0]
  | 2 => #[.int .i64 (n0 : Int), .int .i64 (n1 : Int), .int .i64 0, .int .i64 0]
  | 3 => #[.int .i64 (n0 : Int), .int .i64 (n1 : Int), .int .i64 (n2 : Int), .int .i64 0]
  | _ => #[.int .i64 (n0 : Int), .int .i64 (n1 : Int), .int .i64 (n2 : Int), .int .i64 (n3 : Int)]
theorem Tryz.size99 : (Tryz.prog.info? 99).map (·.size) = some 4 := by kernel_rfl
theorem one4 (a b c d : Int) : (#[Value.int .i64 a, .int .i64 b, .int .i64 c, .int .i64 d] : Array Value).all (·.oneCell') = true := by simp [Value.oneCell']
theorem rng_cut {w : World} {g : Nat} {bs : List UInt8} (h : w.heap[g]? = some (.cells (secCells bs).toArray 5 (0, 0))) (o n : Nat) : w.rangeAt g o (secCells ((bs.drop o).take n)) := fun j v hv => by
  have h1 := (SrcAt.block h).cut o n
  have := h1.2 j v hv
  rw [Addr.add_mid, Nat.zero_add] at this
  exact this
set_option maxHeartbeats 2000000 in
set_option maxRecDepth 100000 in
theorem masterOf_ok (w : World) (g : Nat) (bs : List UInt8) (hl : bs.length = 128) (hb : w.heap[g]? = some (.cells (secCells bs).toArray 5 (0, 0))) (n0 n1 n2 n3 : Nat) (e0 : Enc.beval ((bs.drop 0).take 8) = n0) (e1 : Enc.beval ((bs.drop 8).take 8) = n1) (e2 : Enc.beval ((bs.drop 16).take 8) = n2) (e3 : Enc.beval ((bs.drop 24).take 8) = n3)
    (hn0 : n0 < 4611686018427387904) (hn1 : n1 < 4611686018427387904) (hn2 : n2 < 4611686018427387904) (hn3 : n3 < 4611686018427387904) :
    Calls Tryz.prog 71 #[.slice (some ⟨g, 0, none⟩) 128 128] w fun e w' => (n1 ≤ 1099511627776 ∧ mkSec n0 n1 n2 n3 4 = bs → e = .returned (.agg #[.int .i64 (n0 : Int), .int .i64 (n1 : Int), .int .i64 (n2 : Int), .int .i64 (n3 : Int)])) ∧ (¬ (n1 ≤ 1099511627776 ∧ mkSec n0 n1 n2 n3 4 = bs) → e = .returned (.agg #[.int .i64 0, .int .i64 0, .int .i64 0, .int .i64 0])) ∧ Below w.heap.size w w' := by
  have hgl : g < w.heap.size := (Array.getElem?_eq_some_iff.1 hb).1
  have HRG : Hid (∀ W k, Below w.heap.size w W → W.rangeAt g (8 * k) (secCells ((bs.drop (8 * k)).take 8))) := fun W k hW => rng_cut ((hW.block g hgl).trans hb) _ _
  have HRA : Hid (∀ W, Below w.heap.size w W → W.rangeAt g 0 (secCells bs)) := fun W hW => rng_block ((hW.block g hgl).trans hb)
  have hlk : ∀ k, k < 4 → ((bs.drop (8 * k)).take 8).length = 8 := fun k hk => by rw [List.length_take, List.length_drop]; omega
  obtain ⟨R, hR⟩ : ∃ R, w.heap.size = R := ⟨_, rfl⟩
  obtain ⟨W2, hW2⟩ : ∃ W2, (w.alloc (.cells #[.int .i64 0, .int .i64 0, .int .i64 0, .int .i64 0] 99)).alloc (.cells #[.int .i64 0, .int .i64 0, .int .i64 0, .int .i64 0] 99) = W2 := ⟨_, rfl⟩
  obtain ⟨M, hM⟩ : ∃ M, w.heap.size + 1 = M := ⟨_, rfl⟩
  obtain ⟨H, hH⟩ : ∃ H, W2.heap.size = H := ⟨_, rfl⟩
  obtain ⟨W3, hW3⟩ : ∃ W3, (W2.drewN 1).alloc (.cells #[.pointer (some ⟨M, 0, none⟩), .pointer (some ⟨M, 1, none⟩), .pointer (some ⟨M, 2, none⟩), .pointer (some ⟨M, 3, none⟩)] 159) = W3 := ⟨_, rfl⟩
  have HFI := hide (fields_any W2 M)
  rw [hH, hW3, ← hM, ← hW2] at HFI
  have zH : H = R + 2 := by rw [← hH, ← hW2, ← hR]; simp
  have zM : M = R + 1 := by rw [← hM, hR]
  have r2 : W2.heap[R]? = some (.cells #[.int .i64 0, .int .i64 0, .int .i64 0, .int .i64 0] 99 (0, 0)) := by
    rw [← hW2, ← hR, Below.heap_alloc _ _ _ (by simp)]
    exact heap_alloc_new w _
  have m2 : W2.heap[M]? = some (.cells #[.int .i64 0, .int .i64 0, .int .i64 0, .int .i64 0] 99 (0, 0)) := by
    have := heap_alloc_new (w.alloc (.cells #[.int .i64 0, .int .i64 0, .int .i64 0, .int .i64 0] 99)) (.cells #[.int .i64 0, .int .i64 0, .int .i64 0, .int .i64 0] 99)
    rw [show (w.alloc (.cells #[.int .i64 0, .int .i64 0, .int .i64 0, .int .i64 0] 99)).heap.size = w.heap.size + 1 by simp, hM] at this
    rw [← hW2]
    exact this
  have r3 : W3.heap[R]? = some (.cells #[.int .i64 0, .int .i64 0, .int .i64 0, .int .i64 0] 99 (0, 0)) := by rw [← hW3, Below.heap_alloc _ _ _ (by show R < W2.heap.size; omega)]; exact r2
  have m3 : W3.heap[M]? = some (.cells #[.int .i64 0, .int .i64 0, .int .i64 0, .int .i64 0] 99 (0, 0)) := by rw [← hW3, Below.heap_alloc _ _ _ (by show M < W2.heap.size; omega)]; exact m2
  have p3 : W3.heap[H]? = some (.cells #[.pointer (some ⟨M, 0, none⟩), .pointer (some ⟨M, 1, none⟩), .pointer (some ⟨M, 2, none⟩), .pointer (some ⟨M, 3, none⟩)] 159 (0, 0)) := by rw [← hW3, ← hH]; exact heap_alloc_new (W2.drewN 1) _
  have B3 : Below R w W3 := by
    rw [← hR, ← hW3, ← hW2]
    exact ((((Below.refl _ w).alloc (Nat.le_refl _) _).alloc (by simp) _).trans (below_drewN _ _ 1)).alloc (by simp; omega) _
  have HS3 := hide (And.intro m3 (And.intro p3 (And.intro r3 B3)))
  have HHM : Hid (¬ H = M) := fun e => by omega
  have HRM : Hid (¬ R = M) := fun e => by omega
  have hRM : R ≤ M := by omega
  have HRE := hide hR
  have HME : Hid (R + 1 = M) := zM.symm
  rw [hR] at HRG HRA hgl ⊢
  rw [hR] at HFI
  clear r2 m2 r3 m3 p3 B3 hW2 hW3 hM hH zH zM hb
  have E0 := hide e0
  have E1 := hide e1
  have E2 := hide e2
  have E3 := hide e3
  clear e0 e1 e2 e3
  go_enter Tryz.func71, Tryz.ntmps71
  go_wp2_with (first | (go_at_call 103; refine HFI.out.mono ?_; rintro e w' ⟨rfl, hw⟩; have hw := hw.symm; subst hw) | fail)
  rw [HME.out]
  clear hR
  go_loopw [10] (fun i wr => ∃ k : Nat, k ≤ 4 ∧ i = .int .i64 k ∧ wr.heap[M]? = some (.cells (mcells n0 n1 n2 n3 k) 99 (0, 0)) ∧ wr.heap[H]? = some (.cells #[.pointer (some ⟨M, 0, none⟩), .pointer (some ⟨M, 1, none⟩), .pointer (some ⟨M, 2, none⟩), .pointer (some ⟨M, 3, none⟩)] 159 (0, 0)) ∧ wr.heap[R]? = some (.cells #[.int .i64 0, .int .i64 0, .int .i64 0, .int .i64 0] 99 (0, 0)) ∧ Below R w wr) (fun i _ => 4 - (intOf i).toNat)
  case atStart =>
    obtain ⟨m3, p3, r3, B3⟩ := HS3.out
    exact ⟨0, by omega, rfl, m3, p3, r3, B3⟩
  case round =>
    obtain ⟨k, hk, rfl, m4, p4, r4, B4⟩ := hrel
    have HB4 := hide B4
    have HP4 := hide p4
    have HR4 := hide r4
    clear B4 r4
    rcases (by omega : k = 0 ∨ k = 1 ∨ k = 2 ∨ k = 3 ∨ k = 4) with rfl | rfl | rfl | rfl | rfl
    all_goals simp only [mcells] at m4
    · have kH : wr.cell? ⟨H, 0, none⟩ = some (.pointer (some ⟨M, 0, none⟩)) := by rw [cell_of_row wr H 0 _ _ _ p4]; rfl
      have kM : wr.cell? ⟨M, 0, none⟩ = some (.int .i64 0) := by rw [cell_of_row wr M 0 _ _ _ m4]; rfl
      have kf : wr.frozen? ⟨M, 0, none⟩ = false := frozen_of_row wr M 0 _ _ m4
      have HN := hide (snumber_ok wr g 0 128 128 ((bs.drop 0).take 8) (hlk 0 (by omega)) (by omega) (by omega) (by omega) (HRG.out wr 0 HB4.out) (by have := hn0; have := E0.out; omega))
      rw [E0.out] at HN
      have HM4 := hide m4
      clear m4 p4
      go_wp2_with (go_at_call 104; refine HN.out.mono ?_; rintro e w' ⟨rfl, hw⟩; have hw := hw.symm; subst hw)
      go_roundw
      case rel =>
        refine ⟨1, by omega, rfl, by rw [heap_setCell_same wr M 0 _ _ _ HM4.out]; rfl, (heap_setCell_other wr _ H _ HHM.out).trans HP4.out, (heap_setCell_other wr _ R _ HRM.out).trans HR4.out, HB4.out.trans (((Off.refl [M] wr).setCell ⟨M, 0, none⟩ _ (.inl (by simp))).below (B := R) (Nat.le_of_lt (Array.getElem?_eq_some_iff.1 HR4.out).1) (fun q hq => by simp at hq; omega))⟩
      case measure => simp [intOf]
    · have kH : wr.cell? ⟨H, 1, none⟩ = some (.pointer (some ⟨M, 1, none⟩)) := by rw [cell_of_row wr H 1 _ _ _ p4]; rfl
      have kM : wr.cell? ⟨M, 1, none⟩ = some (.int .i64 0) := by rw [cell_of_row wr M 1 _ _ _ m4]; rfl
      have kf : wr.frozen? ⟨M, 1, none⟩ = false := frozen_of_row wr M 1 _ _ m4
      have HN := hide (snumber_ok wr g 8 120 120 ((bs.drop 8).take 8) (hlk 1 (by omega)) (by omega) (by omega) (by omega) (HRG.out wr 1 HB4.out) (by have := hn1; have := E1.out; omega))
      rw [E1.out] at HN
      have HM4 := hide m4
      clear m4 p4
      go_wp2_with (go_at_call 104; refine HN.out.mono ?_; rintro e w' ⟨rfl, hw⟩; have hw := hw.symm; subst hw)
      go_roundw
      case rel =>
        refine ⟨2, by omega, rfl, by rw [heap_setCell_same wr M 1 _ _ _ HM4.out]; rfl, (heap_setCell_other wr _ H _ HHM.out).trans HP4.out, (heap_setCell_other wr _ R _ HRM.out).trans HR4.out, HB4.out.trans (((Off.refl [M] wr).setCell ⟨M, 1, none⟩ _ (.inl (by simp))).below (B := R) (Nat.le_of_lt (Array.getElem?_eq_some_iff.1 HR4.out).1) (fun q hq => by simp at hq; omega))⟩
      case measure => simp [intOf]
    · have kH : wr.cell? ⟨H, 2, none⟩ = some (.pointer (some ⟨M, 2, none⟩)) := by rw [cell_of_row wr H 2 _ _ _ p4]; rfl
      have kM : wr.cell? ⟨M, 2, none⟩ = some (.int .i64 0) := by rw [cell_of_row wr M 2 _ _ _ m4]; rfl
      have kf : wr.frozen? ⟨M, 2, none⟩ = false := frozen_of_row wr M 2 _ _ m4
      have HN := hide (snumber_ok wr g 16 112 112 ((bs.drop 16).take 8) (hlk 2 (by omega)) (by omega) (by omega) (by omega) (HRG.out wr 2 HB4.out) (by have := hn2; have := E2.out; omega))
      rw [E2.out] at HN
      have HM4 := hide m4
      clear m4 p4
      go_wp2_with (go_at_call 104; refine HN.out.mono ?_; rintro e w' ⟨rfl, hw⟩; have hw := hw.symm; subst hw)
      go_roundw
      case rel =>
        refine ⟨3, by omega, rfl, by rw [heap_setCell_same wr M 2 _ _ _ HM4.out]; rfl, (heap_setCell_other wr _ H _ HHM.out).trans HP4.out, (heap_setCell_other wr _ R _ HRM.out).trans HR4.out, HB4.out.trans (((Off.refl [M] wr).setCell ⟨M, 2, none⟩ _ (.inl (by simp))).below (B := R) (Nat.le_of_lt (Array.getElem?_eq_some_iff.1 HR4.out).1) (fun q hq => by simp at hq; omega))⟩
      case measure => simp [intOf]
    · have kH : wr.cell? ⟨H, 3, none⟩ = some (.pointer (some ⟨M, 3, none⟩)) := by rw [cell_of_row wr H 3 _ _ _ p4]; rfl
      have kM : wr.cell? ⟨M, 3, none⟩ = some (.int .i64 0) := by rw [cell_of_row wr M 3 _ _ _ m4]; rfl
      have kf : wr.frozen? ⟨M, 3, none⟩ = false := frozen_of_row wr M 3 _ _ m4
      have HN := hide (snumber_ok wr g 24 104 104 ((bs.drop 24).take 8) (hlk 3 (by omega)) (by omega) (by omega) (by omega) (HRG.out wr 3 HB4.out) (by have := hn3; have := E3.out; omega))
      rw [E3.out] at HN
      have HM4 := hide m4
      clear m4 p4
      go_wp2_with (go_at_call 104; refine HN.out.mono ?_; rintro e w' ⟨rfl, hw⟩; have hw := hw.symm; subst hw)
      go_roundw
      case rel =>
        refine ⟨4, by omega, rfl, by rw [heap_setCell_same wr M 3 _ _ _ HM4.out]; rfl, (heap_setCell_other wr _ H _ HHM.out).trans HP4.out, (heap_setCell_other wr _ R _ HRM.out).trans HR4.out, HB4.out.trans (((Off.refl [M] wr).setCell ⟨M, 3, none⟩ _ (.inl (by simp))).below (B := R) (Nat.le_of_lt (Array.getElem?_eq_some_iff.1 HR4.out).1) (fun q hq => by simp at hq; omega))⟩
      case measure => simp [intOf]
    · have k1 : wr.cell? ⟨M, 1, none⟩ = some (.int .i64 (n1 : Int)) := by rw [cell_of_row wr M 1 _ _ _ m4]; rfl
      have HM4 := hide m4
      by_cases hbig : n1 ≤ 1099511627776
      · have HSE := hide (sector_any wr n0 n1 n2 n3 hn0 hn1 hn2 hn3)
        have k0 : wr.cell? ⟨M, 0, none⟩ = some (.int .i64 (n0 : Int)) := by rw [cell_of_row wr M 0 _ _ _ m4]; rfl
        have k2 : wr.cell? ⟨M, 2, none⟩ = some (.int .i64 (n2 : Int)) := by rw [cell_of_row wr M 2 _ _ _ m4]; rfl
        have k3 : wr.cell? ⟨M, 3, none⟩ = some (.int .i64 (n3 : Int)) := by rw [cell_of_row wr M 3 _ _ _ m4]; rfl
        have hMl : M < wr.heap.size := (Array.getElem?_eq_some_iff.1 m4).1
        have hRl : R < wr.heap.size := (Array.getElem?_eq_some_iff.1 HR4.out).1
        clear m4 p4
        by_cases heq : mkSec n0 n1 n2 n3 4 = bs
        · go_wp2_with (first
            | (go_at_call 105; refine HSE.out.mono ?_; rintro e w5 ⟨g5, rfl, hg5, ⟨cur5, hb5⟩, hB5⟩
               have HE0 := equal_any w5 g5 0 128 128 g 0 128 128 _ bs (length_mkSec _ _ _ _ 4) hl (fun j v hv => by have := hb5.src.2 j v hv; rwa [Addr.add_mid] at this) (HRA.out w5 (HB4.out.trans (hB5.mono (Nat.le_of_lt hRl))))
               rw [decide_eq_true heq] at HE0
               have HE := hide HE0
               have l0 := (hB5.cell (p := ⟨M, 0, none⟩) hMl).trans k0
               have l1 := (hB5.cell (p := ⟨M, 1, none⟩) hMl).trans k1
               have l2 := (hB5.cell (p := ⟨M, 2, none⟩) hMl).trans k2
               have l3 := (hB5.cell (p := ⟨M, 3, none⟩) hMl).trans k3
               have HR5 := hide ((hB5.block R hRl).trans HR4.out)
               have HB5 := hide hB5
               clear hB5 hb5 HE0)
            | (go_at_call 35; refine HE.out.mono ?_; rintro e w' ⟨rfl, hw⟩; have hw := hw.symm; subst hw)
            | (refine wpList_store_row rfl 99 _ _ rfl R #[.int .i64 (n0 : Int), .int .i64 (n1 : Int), .int .i64 (n2 : Int), .int .i64 (n3 : Int)] rfl rfl 99 #[.int .i64 0, .int .i64 0, .int .i64 0, .int .i64 0] HR5.out (Tryz.size99) rfl (one4 _ _ _ _) ?_))
          refine bodyPost_ret (v := .agg #[.int .i64 (n0 : Int), .int .i64 (n1 : Int), .int .i64 (n2 : Int), .int .i64 (n3 : Int)]) (results_cell_row Tryz.results71 _ _ R 99 #[.int .i64 (n0 : Int), .int .i64 (n1 : Int), .int .i64 (n2 : Int), .int .i64 (n3 : Int)] (0, 0) _ rfl (setRow_heap _ _ _ _ _ _ HR5.out) Tryz.underlying99 rfl Tryz.size99) rfl ?_
          exact ⟨fun _ => rfl, fun hne => absurd ⟨hbig, heq⟩ hne, below_setRow (HB4.out.trans (HB5.out.mono (Nat.le_of_lt hRl))) (Nat.le_refl _) _⟩
        · go_wp2_with (first
            | (go_at_call 105; refine HSE.out.mono ?_; rintro e w5 ⟨g5, rfl, hg5, ⟨cur5, hb5⟩, hB5⟩
               have HE0 := equal_any w5 g5 0 128 128 g 0 128 128 _ bs (length_mkSec _ _ _ _ 4) hl (fun j v hv => by have := hb5.src.2 j v hv; rwa [Addr.add_mid] at this) (HRA.out w5 (HB4.out.trans (hB5.mono (Nat.le_of_lt hRl))))
               rw [decide_eq_false heq] at HE0
               have HE := hide HE0
               have HR5 := hide ((hB5.block R hRl).trans HR4.out)
               have HB5 := hide hB5
               clear hB5 hb5 HE0)
            | (go_at_call 35; refine HE.out.mono ?_; rintro e w' ⟨rfl, hw⟩; have hw := hw.symm; subst hw)
            | (refine wpList_store_row rfl 99 _ _ rfl R #[.int .i64 0, .int .i64 0, .int .i64 0, .int .i64 0] rfl rfl 99 #[.int .i64 0, .int .i64 0, .int .i64 0, .int .i64 0] HR5.out (Tryz.size99) rfl (one4 0 0 0 0) ?_))
          refine bodyPost_ret (v := .agg #[.int .i64 0, .int .i64 0, .int .i64 0, .int .i64 0]) (results_cell_row Tryz.results71 _ _ R 99 #[.int .i64 0, .int .i64 0, .int .i64 0, .int .i64 0] (0, 0) _ rfl (setRow_heap _ _ _ _ _ _ HR5.out) Tryz.underlying99 rfl Tryz.size99) rfl ?_
          exact ⟨fun he => absurd he.2 heq, fun _ => rfl, below_setRow (HB4.out.trans (HB5.out.mono (Nat.le_of_lt hRl))) (Nat.le_refl _) _⟩
      · clear m4 p4
        go_wp2_with (refine wpList_store_row rfl 99 _ _ rfl R #[.int .i64 0, .int .i64 0, .int .i64 0, .int .i64 0] rfl rfl 99 #[.int .i64 0, .int .i64 0, .int .i64 0, .int .i64 0] HR4.out (Tryz.size99) rfl (one4 0 0 0 0) ?_)
        refine bodyPost_ret (v := .agg #[.int .i64 0, .int .i64 0, .int .i64 0, .int .i64 0]) (results_cell_row Tryz.results71 _ _ R 99 #[.int .i64 0, .int .i64 0, .int .i64 0, .int .i64 0] (0, 0) _ rfl (setRow_heap _ _ _ _ _ _ HR4.out) Tryz.underlying99 rfl Tryz.size99) rfl ?_
        exact ⟨rfl, below_setRow HB4.out (Nat.le_refl _) _⟩
end Go.Proofs.YteeembildppgmaaGreat
namespace Go.Proofs.YteeembildppgmaaGreat
open Go.RowKit
set_option linter.unusedVariables false
set_option linter.unusedSimpArgs false
theorem beval_zeros : ∀ n, Enc.beval (zerosN n) = 0
  | 0 => rfl
  | n + 1 => by
    have := beval_zeros n
    have e : zerosN (n + 1) = zerosN n ++ [0] := by simp [zerosN, List.replicate_succ']
    rw [e, Enc.beval_snoc, this]
    rfl
theorem masterOf_zero (w : World) (g : Nat) (hb : w.heap[g]? = some (.cells (secCells (zerosN 128)).toArray 5 (0, 0))) :
    Calls Tryz.prog 71 #[.slice (some ⟨g, 0, none⟩) 128 128] w fun e w' => e = .returned (.agg #[.int .i64 0, .int .i64 0, .int .i64 0, .int .i64 0]) ∧ Below w.heap.size w w' := by
  have z : ∀ k, Enc.beval (((zerosN 128).drop k).take 8) = 0 := fun k => by
    have : ((zerosN 128).drop k).take 8 = zerosN (min 8 (128 - k)) := by unfold zerosN; rw [List.drop_replicate, List.take_replicate]
    rw [this, beval_zeros]
  refine (masterOf_ok w g (zerosN 128) (by simp [zerosN]) hb 0 0 0 0 (z 0) (z 8) (z 16) (z 24) (by omega) (by omega) (by omega) (by omega)).mono ?_
  rintro e w' ⟨h1, h2, h3⟩
  refine ⟨?_, h3⟩
  by_cases hc : 0 ≤ 1099511627776 ∧ mkSec 0 0 0 0 4 = zerosN 128
  · exact h1 hc
  · exact h2 hc
set_option maxHeartbeats 2000000 in
set_option maxRecDepth 100000 in
theorem findMaster_new {w : World} {p : Nat} {fp : List Nat} {D : Dv} (h : DevC w p fp D) (hd : D.dead = false) (h2 : 2 ≤ D.L.length) (hm : D.W.length < 1000000) (hz : ∀ i, i < 2 → D.newest i = zerosN 128) :
    Calls Tryz.prog 48 #[.pointer (some ⟨p, 0, none⟩)] w fun e w' => e = .returned (.tuple #[.agg #[.int .i64 0, .int .i64 0, .int .i64 0, .int .i64 0], .int .i64 0]) ∧ DevC w' p fp D ∧ Off fp w w' := by
  have HL := hide h.lim
  obtain ⟨R, hR⟩ : ∃ R, w.heap.size = R := ⟨_, rfl⟩
  obtain ⟨N, hN⟩ : ∃ N, R + 1 = N := ⟨_, rfl⟩
  obtain ⟨W2, hW2⟩ : ∃ W2, (w.alloc (.cells #[.int .i64 0, .int .i64 0, .int .i64 0, .int .i64 0] 99)).alloc (.cells #[.int .i64 0, .int .i64 0, .int .i64 0, .int .i64 0] 99) = W2 := ⟨_, rfl⟩
  have r2 : W2.heap[R]? = some (.cells #[.int .i64 0, .int .i64 0, .int .i64 0, .int .i64 0] 99 (0, 0)) := by
    rw [← hW2, ← hR, Below.heap_alloc _ _ _ (by simp)]
    exact heap_alloc_new w _
  have n2 : W2.heap[N]? = some (.cells #[.int .i64 0, .int .i64 0, .int .i64 0, .int .i64 0] 99 (0, 0)) := by
    have := heap_alloc_new (w.alloc (.cells #[.int .i64 0, .int .i64 0, .int .i64 0, .int .i64 0] 99)) (.cells #[.int .i64 0, .int .i64 0, .int .i64 0, .int .i64 0] 99)
    rw [show (w.alloc (.cells #[.int .i64 0, .int .i64 0, .int .i64 0, .int .i64 0] 99)).heap.size = w.heap.size + 1 by simp, hR, hN] at this
    rw [← hW2]
    exact this
  have B2 : Below w.heap.size w W2 := by
    rw [← hW2]
    exact ((Below.refl _ w).alloc (Nat.le_refl _) _).alloc (by simp) _
  have HS2 := hide (And.intro r2 (And.intro n2 (And.intro (h.below B2) (Off.of_below B2 fp))))
  have HRF : Hid (R ∉ fp) := fun hm => by have := HL.out R hm; omega
  have HNF : Hid (N ∉ fp) := fun hm => by have := HL.out N hm; omega
  have HRE := hide hR
  have HNE := hide hN
  have HZ := hide hz
  clear r2 n2 B2 h hz hN
  go_enter Tryz.func48, Tryz.ntmps48
  go_wp2
  rw [HNE.out]
  clear hW2 hR
  go_loopw [9] (fun i wr => ∃ k : Nat, k ≤ 2 ∧ i = .int .i64 k ∧ wr.heap[R]? = some (.cells #[.int .i64 0, .int .i64 0, .int .i64 0, .int .i64 0] 99 (0, 0)) ∧ wr.heap[N]? = some (.cells #[.int .i64 0, .int .i64 0, .int .i64 0, .int .i64 0] 99 (0, 0)) ∧ DevC wr p fp D ∧ Off fp w wr) (fun i _ => 2 - (intOf i).toNat)
  case atStart => exact ⟨0, by omega, rfl, HS2.out⟩
  case round =>
    obtain ⟨k, hk, rfl, r4, n4, d4, o4⟩ := hrel
    have HR4 := hide r4
    have HN4 := hide n4
    have HO4 := hide o4
    have HD4 := hide d4
    by_cases hlt : k < 2
    · have HRD := hide (read_c k d4 hd (by omega) hm)
      rw [HZ.out k hlt] at HRD
      clear r4 n4 d4 o4
      rcases (by omega : k = 0 ∨ k = 1) with rfl | rfl
      all_goals
        go_wp2_with (first
          | (go_at_call 18; refine HRD.out.mono ?_; rintro e w5 ⟨g5, rfl, hg5, hb5, hd5, ho5⟩
             have HM5 := hide (masterOf_zero w5 g5 hb5)
             have HX5 := hide (And.intro hd5 ho5)
             clear hb5 hd5 ho5)
          | (go_at_call 71; refine HM5.out.mono ?_; rintro e w6 ⟨rfl, hB6⟩
             have hn6 : w6.cell? ⟨N, 0, none⟩ = some (.int .i64 0) := by
               have h1 := (HX5.out.2.block N (Array.getElem?_eq_some_iff.1 HN4.out).1 HNF.out).trans HN4.out
               have h2 := (hB6.block N (Array.getElem?_eq_some_iff.1 h1).1).trans h1
               rw [cell_of_row w6 N 0 _ _ _ h2]; rfl
             have hnl : N < w6.heap.size := World.block_lt_of_cell? w6 _ hn6
             have ha6 : (w6.alloc (.cells #[.int .i64 0, .int .i64 0, .int .i64 0, .int .i64 0] 99)).cell? ⟨N, 0, none⟩ = some (.int .i64 0) := (((Below.refl w6.heap.size w6).alloc (Nat.le_refl _) (.cells #[.int .i64 0, .int .i64 0, .int .i64 0, .int .i64 0] 99)).cell (p := ⟨N, 0, none⟩) hnl).trans hn6
             have HB6 := hide hB6
             clear hB6))
        have hB7 : Below w6.heap.size w6 (w6.alloc (.cells #[.int .i64 0, .int .i64 0, .int .i64 0, .int .i64 0] 99)) := (Below.refl _ w6).alloc (Nat.le_refl _) _
        have r5 := (HX5.out.2.block R (Array.getElem?_eq_some_iff.1 HR4.out).1 HRF.out).trans HR4.out
        have r6 := (HB6.out.block R (Array.getElem?_eq_some_iff.1 r5).1).trans r5
        have n5 := (HX5.out.2.block N (Array.getElem?_eq_some_iff.1 HN4.out).1 HNF.out).trans HN4.out
        have n6 := (HB6.out.block N (Array.getElem?_eq_some_iff.1 n5).1).trans n5
        have o7 : Off fp w (w6.alloc (.cells #[.int .i64 0, .int .i64 0, .int .i64 0, .int .i64 0] 99)) := ((HO4.out.trans HX5.out.2 (fun q hq => .inl hq)).trans (Off.of_below HB6.out fp) (fun q hq => .inl hq)).trans (Off.of_below hB7 fp) (fun q hq => .inl hq)
        have d7 := (HX5.out.1.below HB6.out).below hB7
        have r7 := (hB7.block R (Array.getElem?_eq_some_iff.1 r6).1).trans r6
        have n7 := (hB7.block N (Array.getElem?_eq_some_iff.1 n6).1).trans n6
      · exact ⟨⟨1, by omega, rfl, r7, n7, d7, o7⟩, by simp [intOf]⟩
      · exact ⟨⟨2, by omega, rfl, r7, n7, d7, o7⟩, by simp [intOf]⟩
    · have hk2 : k = 2 := by omega
      subst hk2
      have c0 : wr.cell? ⟨N, 0, none⟩ = some (.int .i64 0) := by rw [cell_of_row wr N 0 _ _ _ n4]; rfl
      have c1 : wr.cell? ⟨N, 1, none⟩ = some (.int .i64 0) := by rw [cell_of_row wr N 1 _ _ _ n4]; rfl
      have c2 : wr.cell? ⟨N, 2, none⟩ = some (.int .i64 0) := by rw [cell_of_row wr N 2 _ _ _ n4]; rfl
      have c3 : wr.cell? ⟨N, 3, none⟩ = some (.int .i64 0) := by rw [cell_of_row wr N 3 _ _ _ n4]; rfl
      have hsr : wr.setRow R #[.int .i64 0, .int .i64 0, .int .i64 0, .int .i64 0] = wr := setRow_self wr R _ _ _ HR4.out
      clear r4 n4 d4 o4
      go_wp2_with (refine wpList_store_row rfl 99 _ _ rfl R #[.int .i64 0, .int .i64 0, .int .i64 0, .int .i64 0] rfl rfl 99 #[.int .i64 0, .int .i64 0, .int .i64 0, .int .i64 0] HR4.out (Tryz.size99) rfl (one4 0 0 0 0) ?_; rw [hsr])
      refine bodyPost_ret (v := .tuple #[.agg #[.int .i64 0, .int .i64 0, .int .i64 0, .int .i64 0], .int .i64 0]) ?_ rfl ⟨rfl, HD4.out, HO4.out⟩
      rw [results_cell_tmp Tryz.results48]
      have hl := run_loadVar_row (P := Tryz.prog) wr R 99 99 #[.int .i64 0, .int .i64 0, .int .i64 0, .int .i64 0] (0, 0) _ HR4.out Tryz.underlying99 rfl Tryz.size99
      simp [asAddr, hl]
end Go.Proofs.YteeembildppgmaaGreat
namespace Go.Proofs.YteeembildppgmaaGreat
open Go.RowKit
set_option linter.unusedVariables false
set_option linter.unusedSimpArgs false
theorem LinesAt.none {w : World} {base st : Nat} {l : Value} (h : LinesAt w base l st []) : ∃ ao c, l = .slice ao 0 c := by
  obtain ⟨_, qs, _, ho, _⟩ := h
  obtain ⟨ao, c, e⟩ := Enc.owns_len ho
  exact ⟨ao, c, e⟩
section
variable {w0 w w' : World} {s : Nat} {c : Cf} {xs tb : List Nat} {ov : Value} {ps : List Nat} {uvs : List Value} {S : St} {V : Nat → List UInt8}
theorem lines_none (h : StIs w0 w s c xs tb ov ps uvs S) (hh : S.R.held = []) :
    Calls Tryz.prog 65 #[.pointer (some ⟨s, 0, none⟩)] w fun e w' => ∃ ao cc, e = .returned (.slice ao 0 cc) ∧ Below w.heap.size w w' := by
  refine (lines_ok h [] hh (fun R hR => by simp at hR)).mono ?_
  rintro e w' ⟨l, rfl, hl, hB⟩
  obtain ⟨ao, cc, rfl⟩ := hl.none
  exact ⟨ao, cc, rfl, hB⟩
set_option maxHeartbeats 400000 in
theorem commitsAhead_none (h : StIs w0 w s c xs tb ov ps uvs S) (hh : S.R.held = []) (st : Int) :
    Calls Tryz.prog 112 #[.pointer (some ⟨s, 0, none⟩), .int .i64 st] w fun e w' => e = .returned (.int .i64 (S.commits : Int)) ∧ Below w.heap.size w w' := by
  have c6 : w.cell? ⟨s, 6, none⟩ = some (.int .i64 (S.commits : Int)) := by rw [cell_of_row w s 6 _ _ _ h.head]; rfl
  have HL := hide (lines_none h hh)
  clear h hh
  go_enter Tryz.func112, Tryz.ntmps112
  go_wp2_with (go_at_call 65; refine HL.out.mono ?_; rintro e w2 ⟨ao, cc, rfl, hB⟩; have HB := hide hB; clear hB)
  refine wp_loop_rounds 1 ?_
  rw [rounds_succ]
  go_wp2
  go_ret
  exact ⟨rfl, HB.out⟩
set_option maxHeartbeats 400000 in
theorem endDone_none (h : StIs w0 w s c xs tb ov ps uvs S) (la ta da : Option Addr) (lc tc dc : Nat) :
    Calls Tryz.prog 80 #[.pointer (some ⟨s, 0, none⟩), .agg #[.slice la 0 lc, .slice ta 0 tc, .slice da 0 dc]] w fun e w' => e = .returned (.int .i64 0) ∧ StIs w0 w' s c xs tb ov ps uvs (S.setR { S.R with fin := S.R.tail }) ∧ Kept (s :: (tb ++ xs)) w w' := by
  have hb1 : Below w.heap.size w (w.alloc (.cells #[.slice la 0 lc, .slice ta 0 tc, .slice da 0 dc] 124)) := (Below.refl _ w).alloc (Nat.le_refl _) _
  have HF := hide (sflush_ok (h.belowW hb1))
  have HB := hide hb1
  have H := hide h
  clear h hb1
  go_enter Tryz.func80, Tryz.ntmps80
  go_wp2
  refine wp_loop_rounds 1 ?_
  rw [rounds_succ]
  go_wp2_with (go_at_call 41; refine HF.out.mono ?_; rintro e w2 ⟨rfl, h2, hK2⟩; have H2 := hide (And.intro h2 hK2); clear h2 hK2)
  go_ret
  exact ⟨rfl, H2.out.1, Kept.trans ⟨HB.out.size, fun k hk => HB.out.block k (H.out.lts hk)⟩ H2.out.2⟩
end
end Go.Proofs.YteeembildppgmaaGreat
