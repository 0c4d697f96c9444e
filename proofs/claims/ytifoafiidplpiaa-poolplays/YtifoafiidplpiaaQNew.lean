/- The document's pool: New. -/
import Derived.Test.YtifoafiidplpiaaQDirty
namespace Go.Proofs.Ytifoafiidplpiaa
open Go.RowKit
set_option linter.unusedVariables false
set_option linter.unusedSimpArgs false

theorem Try.info9 : (Try.prog.info? 9).map (fun i => (i.zero, i.size, i.bytes)) = some (some (.string ⟨#[]⟩), 1, 16) := by kernel_rfl
theorem Try.info63 : (Try.prog.info? 63).map (fun i => (i.zero, i.size, i.bytes)) = some (some (.agg #[.int .i64 0, .string ⟨#[]⟩, .bool false, .bool false, .int .i64 0, .int .i64 0]), 6, 48) := by kernel_rfl
set_option maxHeartbeats 1000000 in
theorem rnew_bad (n bad err : Int) (m : Int) (hm : m < 1 ∨ 64 < m) (w : World) : Calls Try.prog 18 #[.int .i64 n, .int .i64 m, .int .i64 bad, .int .i64 err] w fun e w' => e = .returned (.tuple #[.pointer none, .int .i64 1]) ∧ w' = w := by
  by_cases h1 : m < 1
  · clear hm
    go_enter Try.func18, Try.ntmps18
    go_wp2
    go_ret2
    exact ⟨rfl, rfl⟩
  · have h2 : m > 64 := by omega
    clear hm
    go_enter Try.func18, Try.ntmps18
    go_wp2
    go_ret2
    exact ⟨rfl, rfl⟩
theorem owns_split {w : World} {e : TypeId} {size n : Nat} {v : Value} {xs : List Value} (h : w.ownsRow 0 e size v n xs) (hn : 0 < n) : ∃ g cap dx, v = .slice (some ⟨g, 0, none⟩) n cap ∧ w.heap[g]? = some (.cells (xs ++ dx).toArray e (0, 0)) ∧ n ≤ cap := by
  rcases h.2 with ⟨_, h0⟩ | ⟨g, cap, cur, hv, _, hg, hc, _, _, ht⟩
  · omega
  · refine ⟨g, cap, cur.toList.drop (n * size), hv, ?_, hc⟩
    rw [hg, ← ht, List.take_append_drop]
theorem diskCells_rep (k : Nat) : diskCells (List.replicate (k + 1) (zerosN 512)) = diskCells (List.replicate k (zerosN 512)) ++ [.string (strOf (zerosN 512))] := by
  unfold diskCells
  rw [List.replicate_succ', List.map_append]
  rfl
theorem rowR_rep (k : Nat) : rowR (List.replicate (k + 1) Fm.nil) = rowR (List.replicate k Fm.nil) ++ rCells Fm.nil := by
  unfold rowR
  rw [List.replicate_succ', List.map_append, List.flatten_append]
  simp

set_option maxHeartbeats 2000000 in
set_option maxRecDepth 100000 in
theorem rnew_ok (bad : Int) (m : Nat) (h1 : 1 ≤ m) (h2 : m ≤ 64) (w : World) : Calls Try.prog 18 #[.int .i64 6, .int .i64 (m : Int), .int .i64 bad, .int .i64 60] w fun e w' => ∃ r gD gF fp, e = .returned (.tuple #[.pointer (some ⟨r, 0, none⟩), .int .i64 0]) ∧
    RefAt w' r gD gF fp (Pl.made m (List.replicate 6 (zerosN 512)) []) bad ∧ Below w.heap.size w w' ∧ ∀ k ∈ fp, w.heap.size ≤ k := by
  have d1 : ¬ ((m : Int) < 1) := by omega
  have d2 : ¬ ((m : Int) > 64) := by omega
  obtain ⟨w1, hw1⟩ : ∃ w1, w.alloc (.cells #[.slice none 0 0, .slice none 0 0, .int .i64 0, .int .i64 bad, .int .i64 60, .slice none 0 0, .int .i64 0] 60) = w1 := ⟨_, rfl⟩
  have hb1 : Below w.heap.size w w1 := by rw [← hw1]; exact (Below.refl _ _).alloc (Nat.le_refl _) _
  have hz1 : w1.heap.size = w.heap.size + 1 := by rw [← hw1]; simp
  have hr1 : w1.heap[w.heap.size]? = some (.cells #[.slice none 0 0, .slice none 0 0, .int .i64 0, .int .i64 bad, .int .i64 60, .slice none 0 0, .int .i64 0] 60 (0, 0)) := by rw [← hw1]; exact heap_alloc_new w _
  have hmk := makeN 512 (by omega) w1
  have hmk : (Instr.makeSlice 37 (.int .i64 512) (.int .i64 512)).run Try.prog w1 = .ok (.slice (some ⟨w1.heap.size, 0, none⟩) 512 512) (w1.alloc (.cells (secCells (zerosN 512)).toArray 5)) := hmk
  obtain ⟨w2, hw2⟩ : ∃ w2, w1.alloc (.cells (secCells (zerosN 512)).toArray 5) = w2 := ⟨_, rfl⟩
  have hb2 : Below w1.heap.size w1 w2 := by rw [← hw2]; exact (Below.refl _ _).alloc (Nat.le_refl _) _
  have hg2 : w2.heap[w1.heap.size]? = some (.cells (secCells (zerosN 512)).toArray 5 (0, 0)) := by rw [← hw2]; exact heap_alloc_new w1 _
  rw [hw2] at hmk
  have hst := run_str w2 w1.heap.size 512 512 _ (length_zerosN 512) hg2
  have HB2 := hide (hb1.trans (hb2.mono (by omega)))
  have HR2 := hide ((hb2.block _ (by omega)).trans hr1)
  obtain ⟨r, hr⟩ : ∃ r, w.heap.size = r := ⟨_, rfl⟩
  obtain ⟨B, hB⟩ : ∃ B, strOf (zerosN 512) = B := ⟨_, rfl⟩
  rw [hB] at hst
  have HB := hide hB
  go_enter Try.func18, Try.ntmps18
  go_upto_region 4 with fail
  first | rw [hw1, hr] | skip
  rw [hr] at HR2
  have hrle : w.heap.size ≤ r := by omega
  clear hb1 hb2 hg2 hr1 hw1 hw2 hB hz1 hr
  go_wp2
  clear hmk hst
  go_loopw [12] (fun i wr => ∃ (k : Nat) (v : Value), k ≤ 6 ∧ i = .int .i64 k ∧ Below w.heap.size w wr ∧ wr.heap[r]? = some (.cells #[v, .slice none 0 0, .int .i64 0, .int .i64 bad, .int .i64 60, .slice none 0 0, .int .i64 0] 60 (0, 0)) ∧ wr.ownsRow 0 9 1 v k (diskCells (List.replicate k (zerosN 512))) ∧ (∀ b, v.ownBlock = some b → r < b)) (fun i _ => 6 - (intOf i).toNat)
  case atStart => exact ⟨0, .slice none 0 0, by omega, rfl, HB2.out, HR2.out, World.ownsRow_nil _ _ _ _, fun b hb => by simp [Value.ownBlock] at hb⟩
  case round =>
    clear HB2 HR2
    obtain ⟨k, v, hk, rfl, hbw, hrw, hown, hnew⟩ := hrel
    obtain ⟨ao, n0, c9, rfl⟩ := own_form hown
    have lr := (Array.getElem?_eq_some_iff.1 hrw).1
    by_cases hk6 : k < 6
    · have cr : wr.cell? ⟨r, 0, none⟩ = some (.slice ao n0 c9) := by rw [cell_of_row wr r 0 _ _ _ hrw]; rfl
      have HBN : Hid (Below wr.heap.size wr (wr.alloc (.cells #[.string B] 9))) := (Below.refl _ _).alloc (Nat.le_refl _) _
      have HRN := hide ((HBN.out.block r lr).trans hrw)
      have HOWN := hide (owns_of_block hown (fun b hb => HBN.out.block b ((hown.lt b hb).2)))
      have HNW : Hid ((wr.alloc (.cells #[.string B] 9)).heap[wr.heap.size]? = some (.cells [.string B].toArray 9 (0, 0))) := heap_alloc_new _ _
      have HSRC := hide (src_of_block HNW.out)
      have HBW := hide hbw
      have HNEW := hide hnew
      have arm : Hid (∀ v4 w4, w4.ownsRow 0 9 1 v4 (k + 1) (diskCells (List.replicate k (zerosN 512)) ++ [.string B]) → (wr.alloc (.cells #[.string B] 9)).grownBy w4 (Value.slice ao n0 c9).ownBlock → (∀ j, v4.ownBlock = some j → (Value.slice ao n0 c9).ownBlock = some j ∨ (wr.alloc (.cells #[.string B] 9)).heap.size ≤ j) →
          w4.cell? ⟨r, 0, none⟩ = some (.slice ao n0 c9) ∧ w4.frozen? ⟨r, 0, none⟩ = false ∧ Below w.heap.size w (w4.setCell ⟨r, 0, none⟩ v4) ∧ (w4.setCell ⟨r, 0, none⟩ v4).heap[r]? = some (.cells #[v4, .slice none 0 0, .int .i64 0, .int .i64 bad, .int .i64 60, .slice none 0 0, .int .i64 0] 60 (0, 0)) ∧
          (w4.setCell ⟨r, 0, none⟩ v4).ownsRow 0 9 1 v4 (k + 1) (diskCells (List.replicate (k + 1) (zerosN 512))) ∧ (∀ b, v4.ownBlock = some b → r < b)) := fun v4 w4 r1 r2 r3 => by
        have hsz : (wr.alloc (.cells #[.string B] 9)).heap.size = wr.heap.size + 1 := by simp
        have e1 := (r2.block r (by omega) (fun e => by have := HNEW.out r e.symm; omega)).trans HRN.out
        have n4 : ∀ b, v4.ownBlock = some b → r < b := fun b hb => by
          rcases r3 b hb with h | h
          · exact HNEW.out b h
          · omega
        refine ⟨by rw [cell_of_row w4 r 0 _ _ _ e1]; rfl, frozen_of_row w4 r 0 _ _ e1, ?_, by rw [heap_setCell_same w4 r 0 _ _ _ e1]; rfl, ?_, n4⟩
        · have hO : Off [] wr w4 → False ∨ True := fun _ => .inr trivial
          have hO1 : Off ((Value.slice ao n0 c9).ownBlock.toList ++ [r]) wr (w4.setCell ⟨r, 0, none⟩ v4) := (((Off.refl _ wr).alloc _).grown r2 (fun j hj => .inl (by simp [hj]))).setCell _ _ (.inl (by simp))
          refine HBW.out.trans (hO1.below HBW.out.size (fun j hj => ?_))
          simp only [List.mem_append, List.mem_cons, List.not_mem_nil, or_false] at hj
          rcases hj with h | h
          · have := HNEW.out j (by simpa using h); omega
          · omega
        · rw [diskCells_rep, HB.out]
          exact owns_of_block r1 (fun j hj => heap_setCell_other w4 _ j _ (fun e => by have e : j = r := e; have := n4 j hj; omega))
      clear hbw hrw hown hnew
      go_wp2_with (refine wpList_append_owned rfl _ _ 57 rfl 9 (.string ⟨#[]⟩) 1 16 Try.underlying57 Try.info9 rfl (by omega) _ _ _ rfl HOWN.out ⟨wr.heap.size, 0, none⟩ 1 1 [.string B] rfl rfl HSRC.out (by intro u hu; simp at hu; subst hu; rfl) (by simp only [maxLen]; omega) (by omega) ?_; intro v4 w4 r1 r2 r3; obtain ⟨q1, q2, q3⟩ := arm.out v4 w4 r1 r2 r3; have Q3 := hide q3; obtain ⟨ao4, m4, c4, rfl⟩ := own_form r1; clear r1 r2 r3 q3)
      go_roundw
      case rel => exact ⟨k + 1, _, by omega, by go_num, Q3.out.1, Q3.out.2.1, Q3.out.2.2.1, Q3.out.2.2.2⟩
      case measure => simp [intOf]; omega
    · have hk' : k = 6 := by omega
      rw [hk'] at hown
      clear hk' hk
      obtain ⟨gD, cD', dx, hv, hgD, hcD⟩ := owns_split hown (by omega)
      cases hv
      have hrD : r < gD := hnew gD rfl
      have HBW := hide hbw
      have HRW := hide hrw
      have HGD := hide hgD
      clear hbw hrw hgD hown hnew
      go_wp2
      go_loopw [13] (fun i wr => ∃ (k : Nat) (v : Value), k ≤ m ∧ i = .int .i64 k ∧ Below w.heap.size w wr ∧ wr.heap[r]? = some (.cells #[.slice (some ⟨gD, 0, none⟩) 6 c9, v, .int .i64 0, .int .i64 bad, .int .i64 60, .slice none 0 0, .int .i64 0] 60 (0, 0)) ∧ wr.heap[gD]? = some (.cells (diskCells (List.replicate 6 (zerosN 512)) ++ dx).toArray 9 (0, 0)) ∧ wr.ownsRow 0 63 6 v k (rowR (List.replicate k Fm.nil)) ∧ (∀ b, v.ownBlock = some b → r < b ∧ b ≠ gD)) (fun i _ => m - (intOf i).toNat)
      case atStart => exact ⟨0, .slice none 0 0, by omega, rfl, HBW.out, HRW.out, HGD.out, World.ownsRow_nil _ _ _ _, fun b hb => by simp [Value.ownBlock] at hb⟩
      case round =>
        clear HBW HRW HGD
        obtain ⟨k, v, hk, rfl, hbw, hrw, hdw, hown, hnew⟩ := hrel
        obtain ⟨ao, n0, c8, rfl⟩ := own_form hown
        have lr := (Array.getElem?_eq_some_iff.1 hrw).1
        have lD := (Array.getElem?_eq_some_iff.1 hdw).1
        by_cases hkm : k < m
        · have cr : wr.cell? ⟨r, 1, none⟩ = some (.slice ao n0 c8) := by rw [cell_of_row wr r 1 _ _ _ hrw]; rfl
          have HBN : Hid (Below wr.heap.size wr (wr.alloc (.cells #[.int .i64 (-1), .string ⟨#[]⟩, .bool false, .bool false, .int .i64 0, .int .i64 0] 63))) := (Below.refl _ _).alloc (Nat.le_refl _) _
          have HRN := hide ((HBN.out.block r lr).trans hrw)
          have HDN := hide ((HBN.out.block gD lD).trans hdw)
          have HOWN := hide (owns_of_block hown (fun b hb => HBN.out.block b ((hown.lt b hb).2)))
          have HNW : Hid ((wr.alloc (.cells #[.int .i64 (-1), .string ⟨#[]⟩, .bool false, .bool false, .int .i64 0, .int .i64 0] 63)).heap[wr.heap.size]? = some (.cells (rCells Fm.nil).toArray 63 (0, 0))) := heap_alloc_new _ _
          have HSRC := hide (src_of_block HNW.out)
          have HBW := hide hbw
          have HNEW := hide hnew
          have arm : Hid (∀ v4 w4, w4.ownsRow 0 63 6 v4 (k + 1) (rowR (List.replicate k Fm.nil) ++ rCells Fm.nil) → (wr.alloc (.cells #[.int .i64 (-1), .string ⟨#[]⟩, .bool false, .bool false, .int .i64 0, .int .i64 0] 63)).grownBy w4 (Value.slice ao n0 c8).ownBlock → (∀ j, v4.ownBlock = some j → (Value.slice ao n0 c8).ownBlock = some j ∨ (wr.alloc (.cells #[.int .i64 (-1), .string ⟨#[]⟩, .bool false, .bool false, .int .i64 0, .int .i64 0] 63)).heap.size ≤ j) →
              w4.cell? ⟨r, 1, none⟩ = some (.slice ao n0 c8) ∧ w4.frozen? ⟨r, 1, none⟩ = false ∧ Below w.heap.size w (w4.setCell ⟨r, 1, none⟩ v4) ∧ (w4.setCell ⟨r, 1, none⟩ v4).heap[r]? = some (.cells #[.slice (some ⟨gD, 0, none⟩) 6 c9, v4, .int .i64 0, .int .i64 bad, .int .i64 60, .slice none 0 0, .int .i64 0] 60 (0, 0)) ∧
              (w4.setCell ⟨r, 1, none⟩ v4).heap[gD]? = some (.cells (diskCells (List.replicate 6 (zerosN 512)) ++ dx).toArray 9 (0, 0)) ∧ (w4.setCell ⟨r, 1, none⟩ v4).ownsRow 0 63 6 v4 (k + 1) (rowR (List.replicate (k + 1) Fm.nil)) ∧ (∀ b, v4.ownBlock = some b → r < b ∧ b ≠ gD)) := fun v4 w4 r1 r2 r3 => by
            have hsz : (wr.alloc (.cells #[.int .i64 (-1), .string ⟨#[]⟩, .bool false, .bool false, .int .i64 0, .int .i64 0] 63)).heap.size = wr.heap.size + 1 := by simp
            have e1 := (r2.block r (by omega) (fun e => by have := HNEW.out r e.symm; omega)).trans HRN.out
            have e2 := (r2.block gD (by omega) (fun e => by have := HNEW.out gD e.symm; omega)).trans HDN.out
            have n4 : ∀ b, v4.ownBlock = some b → r < b ∧ b ≠ gD := fun b hb => by
              rcases r3 b hb with h | h
              · exact HNEW.out b h
              · omega
            refine ⟨by rw [cell_of_row w4 r 1 _ _ _ e1]; rfl, frozen_of_row w4 r 1 _ _ e1, ?_, by rw [heap_setCell_same w4 r 1 _ _ _ e1]; rfl, ?_, ?_, n4⟩
            · have hO1 : Off ((Value.slice ao n0 c8).ownBlock.toList ++ [r]) wr (w4.setCell ⟨r, 1, none⟩ v4) := (((Off.refl _ wr).alloc _).grown r2 (fun j hj => .inl (by simp [hj]))).setCell _ _ (.inl (by simp))
              refine HBW.out.trans (hO1.below HBW.out.size (fun j hj => ?_))
              simp only [List.mem_append, List.mem_cons, List.not_mem_nil, or_false] at hj
              rcases hj with h | h
              · have := HNEW.out j (by simpa using h); omega
              · omega
            · rw [heap_setCell_other w4 _ gD _ (by show gD ≠ r; omega)]; exact e2
            · rw [rowR_rep]
              exact owns_of_block r1 (fun j hj => heap_setCell_other w4 _ j _ (fun e => by have e : j = r := e; have := n4 j hj; omega))
          clear hbw hrw hown hnew hdw
          go_wp2_with (refine wpList_append_owned rfl _ _ 58 rfl 63 (.agg #[.int .i64 0, .string ⟨#[]⟩, .bool false, .bool false, .int .i64 0, .int .i64 0]) 6 48 Try.underlying58 Try.info63 rfl (by omega) _ _ _ rfl HOWN.out ⟨wr.heap.size, 0, none⟩ 1 1 (rCells Fm.nil) rfl rfl HSRC.out (by intro u hu; simp [rCells] at hu; rcases hu with rfl | rfl | rfl | rfl | rfl | rfl <;> rfl) (by simp only [maxLen]; omega) (by omega) ?_; intro v4 w4 r1 r2 r3; obtain ⟨q1, q2, q3⟩ := arm.out v4 w4 r1 r2 r3; have Q3 := hide q3; obtain ⟨ao4, m4, c4, rfl⟩ := own_form r1; clear r1 r2 r3 q3)
          go_roundw
          case rel => exact ⟨k + 1, _, by omega, by go_num, Q3.out.1, Q3.out.2.1, Q3.out.2.2.1, Q3.out.2.2.2.1, Q3.out.2.2.2.2⟩
          case measure => simp [intOf]; omega
        · have hk' : k = m := by omega
          subst hk'
          obtain ⟨gF, cF', fx, hv, hgF, hcF⟩ := owns_split hown (by omega)
          cases hv
          have hrF := hnew gF rfl
          have HX : Hid (RefIs wr r gD gF c9 c8 dx fx (.slice none 0 0) (Pl.made k (List.replicate 6 (zerosN 512)) []) bad) :=
            { head := by rw [hrw]; simp [Pl.made]
              drow := hdw
              frow := hgF
              fown := World.ownsRow_nil _ _ _ _
              dl := by simp [Pl.made]
              n1 := by omega
              n2 := by omega
              n3 := Ne.symm hrF.2
              n4 := by simp [Value.ownBlock]
              n5 := by simp [Value.ownBlock]
              n6 := by simp [Value.ownBlock]
              f1 := by simpa [Pl.made] using h1
              f2 := by simpa [Pl.made] using h2
              hand := by simp [Pl.made]; omega
              c6 := hcD
              cF := by simpa [Pl.made] using hcF }
          have HBW := hide hbw
          clear hbw hrw hown hnew hdw hgF
          go_wp2
          go_ret2
          refine ⟨r, gD, gF, _, rfl, HX.out.at, HBW.out, fun j hj => ?_⟩
          simp only [RefFp, List.mem_cons] at hj
          rcases hj with h | h | h | h
          · omega
          · omega
          · omega
          · simp [Value.ownBlock] at h
end Go.Proofs.Ytifoafiidplpiaa
