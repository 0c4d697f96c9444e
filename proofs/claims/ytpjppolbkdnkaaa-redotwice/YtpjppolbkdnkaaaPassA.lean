/- The pass of analysis. -/
import Derived.Test.YtpjppolbkdnkaaaLearn
namespace Go.Proofs.Ytpjppolbkdnkaaa
open Go.RowKit
set_option linter.unusedVariables false
set_option linter.unusedSimpArgs false

def learnN (s : An) (L : List Ln) : An := L.foldl learn1 s
theorem learnN_snoc (s : An) (L : List Ln) (x : Ln) : learnN s (L ++ [x]) = learn1 (learnN s L) x := by unfold learnN; rw [List.foldl_append]; rfl
theorem learn1_count (s : An) (x : Ln) : s.C ≤ (learn1 s x).C ∧ (learn1 s x).C ≤ s.C + 1 := by
  unfold learn1
  simp only
  split
  · exact follow1_count (s.T, s.C) x
  · exact ⟨Int.le_refl _, by show s.C ≤ s.C + 1; omega⟩
theorem learnN_count : ∀ (L : List Ln) (s : An), s.C ≤ (learnN s L).C ∧ (learnN s L).C ≤ s.C + L.length
  | [], s => by simp [learnN]
  | x :: L, s => by
    have h1 := learnN_count L (learn1 s x)
    have h2 := learn1_count s x
    have e : learnN s (x :: L) = learnN (learn1 s x) L := rfl
    rw [e, List.length_cons]
    omega
set_option maxHeartbeats 2000000 in
set_option maxRecDepth 100000 in
theorem passA_any {w0 w : World} {R bt bd n m : Nat} {lg : Sv} {T : Int → Option Tx} {F : Int → Option Int} {C : Int} (X : AnaIs w0 w R bt bd n m lg T F C) (L : List Ln) (hln : lg.n = L.length)
    (hL : LinesAt w0 lg.a L) (hk7 : ∀ x ∈ L, x.kind ≠ 7) (hn : n + L.length ≤ 800000) (hm : m + L.length ≤ 800000) (hC : 0 ≤ C ∧ C + L.length ≤ 800000) :
    Calls Try.prog 20 #[.pointer (some ⟨R, 0, none⟩), .int .i64 0] w fun e w' => e = .returned (.tuple #[]) ∧ ∃ n' m', n' ≤ n + L.length ∧ m' ≤ m + L.length ∧ AnaIs w0 w' R bt bd n' m' lg (learnN ⟨T, F, C⟩ L).T (learnN ⟨T, F, C⟩ L).F (learnN ⟨T, F, C⟩ L).C := by
  obtain ⟨hC1, hC2⟩ := hC
  obtain ⟨kn, hkn⟩ : ∃ kn, L.length = kn := ⟨_, rfl⟩
  have HB := hide (behind_any R lg.a kn lg.c L hkn w (hL.below X.below) hk7 X.lt (by rw [← hkn, ← hln]; exact X.c0))
  have HKN := hide hkn
  have HX := hide X
  have HK := hide hL
  rw [hkn] at hn hm hC2 ⊢
  clear X hL hln hk7 hkn
  go_enter Try.func20, Try.ntmps20
  go_wp2
  refine wp_scope_fwd 1 ?_
  go_wp2
  go_step3
  refine ⟨_, rfl, ?_⟩
  go_wp2_with (go_at_call 38; refine HB.out.mono ?_; rintro e w1 ⟨rfl, h3⟩; have HX1 := hide (HX.out.stayD h3); clear h3)
  go_loopw [18] (fun i wr => ∃ (j n' m' : Nat), j ≤ kn ∧ i = .int .i64 j ∧ n' ≤ n + j ∧ m' ≤ m + j ∧ AnaIs w0 wr R bt bd n' m' lg (learnN ⟨T, F, C⟩ (L.take j)).T (learnN ⟨T, F, C⟩ (L.take j)).F (learnN ⟨T, F, C⟩ (L.take j)).C) (fun i _ => kn - (iv i).toNat)
  case atStart => exact ⟨0, n, m, by omega, rfl, by omega, by omega, HX1.out⟩
  case round =>
    obtain ⟨j, n', m', hj, rfl, hn', hm', hX⟩ := hrel
    have HX2 := hide hX
    by_cases hlt : j < kn
    · obtain ⟨x, hx⟩ : ∃ x, L[j]? = some x := ⟨_, List.getElem?_eq_getElem (by rw [HKN.out]; exact hlt)⟩
      obtain ⟨hok, b, o, hab, hbl, hrg⟩ := HK.out.2 j x hx
      have HRG : Hid (wr.rangeAt b (o + j * 12) (lnCells x)) := fun q v hv => (hX.below.cell (p := ⟨b, o + j * 12 + q, none⟩) hbl).trans (hrg q v hv)
      have HTK : Hid (learnN ⟨T, F, C⟩ (L.take (j + 1)) = learn1 (learnN ⟨T, F, C⟩ (L.take j)) x) := by
        show _ = _
        obtain ⟨hl', hx'⟩ := List.getElem?_eq_some_iff.1 hx
        rw [← hx', ← learnN_snoc, List.take_succ_eq_append_getElem hl']
      have hCj : 0 ≤ (learnN ⟨T, F, C⟩ (L.take j)).C ∧ (learnN ⟨T, F, C⟩ (L.take j)).C ≤ 1000000 := by
        have h1 := learnN_count (L.take j) ⟨T, F, C⟩
        have h2 : (L.take j).length ≤ kn := by rw [List.length_take, HKN.out]; omega
        have h3 : (An.mk T F C).C = C := rfl
        omega
      unfold lnCells recCells at HRG
      clear hX hrg hx
      obtain ⟨S, hS⟩ : ∃ S, learnN ⟨T, F, C⟩ (L.take j) = S := ⟨_, rfl⟩
      rw [hS] at HX2 HTK hCj
      clear hS
      rw [hab]
      go_upto_region 7 with (refine wpList_load_mid (by rfl) 34 _ (by rfl) b (o + j * 12) (by rfl) _ _ HRG.out Try.underlying34 rfl Try.size34n ?_)
      generalize hx1 : wr.alloc _ = x1
      have hG : x1.heap[wr.heap.size]? = some (.cells (lnCells x).toArray 34 (0, 0)) := by rw [← hx1]; exact heap_alloc_new _ _
      have HRG2 : Hid (x1.rangeAt wr.heap.size 0 (lnCells x)) := fun q v hv => by rw [Nat.zero_add, cell_of_row _ _ _ _ _ _ hG]; simpa using hv
      have HX3 : Hid (AnaIs w0 x1 R bt bd n' m' lg S.T S.F S.C) := HX2.out.stayD (by rw [← hx1]; exact (Below.refl _ _).alloc (Nat.le_refl _) _)
      have HAG := hide (learn_any HX3.out x hok (by omega) (by omega) hCj)
      unfold lnCells recCells at HAG HRG2
      clear hx1 hG HX2 HRG
      generalize wr.heap.size = g at *
      go_wp2_with (first
        | (refine wpList_load_mid (by rfl) 34 _ (by rfl) g 0 (by rfl) _ _ HRG2.out Try.underlying34 rfl Try.size34n ?_)
        | (go_at_call 39; refine HAG.out.mono ?_; rintro e x2 ⟨rfl, n2, m2, hn2, hm2, hX4⟩; have HX4 := hide hX4; clear hX4))
      go_roundw
      case rel =>
        refine ⟨j + 1, n2, m2, by omega, by go_num, by omega, by omega, ?_⟩
        rw [HTK.out]
        exact HX4.out
      case measure => simp [iv]; omega
    · obtain rfl : j = kn := by omega
      go_wp2
      rw [Exit.jumps_ret]
      refine bodyPost_ret (results_none rfl _ _ _) rfl ?_
      refine ⟨rfl, n', m', by omega, by omega, ?_⟩
      have e : L.take j = L := List.take_of_length_le (by rw [HKN.out]; omega)
      rw [e] at HX2
      exact HX2.out
end Go.Proofs.Ytpjppolbkdnkaaa
