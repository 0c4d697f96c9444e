/- The law of keep: what the device has of a sector ahead of start. -/
import Derived.Test.YtkkmkcobmjdblaaRDev
namespace Go.Proofs.Ytkkmkcobmjdblaa
open Go.RowKit
set_option linter.unusedVariables false
set_option linter.unusedSimpArgs false

theorem drop_cells (X : List UInt8) (g k n : Nat) (t : TypeId) (fr : Nat × Nat) (w : World) (h : w.heap[g]? = some (.cells (secCells X).toArray t fr)) :
    ∀ j v, (secCells ((X.drop k).take n))[j]? = some v → w.cell? ((⟨g, k, none⟩ : Addr).add j) = some v := fun j v hv => by
  rw [Addr.add_mid, cell_of_row _ _ _ _ _ _ h]
  have he : secCells ((X.drop k).take n) = ((secCells X).drop k).take n := by simp [secCells]
  rw [he, List.getElem?_take] at hv
  split at hv
  · rw [List.getElem?_drop] at hv
    simpa using hv
  · simp at hv

set_option maxHeartbeats 1000000 in
set_option maxRecDepth 100000 in
theorem keep_ok {w : World} {q p : Nat} {gp fp : List Nat} {R : Rg} {D : Dv} (s b n : Nat) (bs : List UInt8) (h : RgAt w q p gp R) (hD : DevC w p fp D) (hdis : ∀ k ∈ gp, k ∉ fp) (live : D.dead = false) (hpl : R.place s < D.L.length) (hm : D.W.length < 1000000)
    (hs : s < 4611686018427387904) (hb : w.heap[b]? = some (.cells (secCells bs).toArray 5 (0, 0))) (hl : bs.length = 128) (hbf : b ∉ fp) (hn : n ≤ 118) :
    Calls Try.prog 55 #[.pointer (some ⟨q, 0, none⟩), .int .i64 (s : Int), .slice (some ⟨b, 10, none⟩) n 118] w fun e w' => e = .returned (.int .i64 0) ∧ DevC w' p fp D ∧
      w'.heap[b]? = some (.cells (secCells (if beval ((D.newest (R.place s)).take 8) = s + 1 then bs.take 10 ++ (((D.newest (R.place s)).drop 10).take n ++ bs.drop (10 + n)) else bs)).toArray 5 (0, 0)) ∧ Off (b :: fp) w w' := by
  have HP := hide (fun m => place_any s hs (h.drewN m))
  have HRD := hide (fun m => read_c (R.place s) (hD.drewN m) live hpl hm)
  have hX := length_newest D hD.wf (R.place s) hpl
  obtain ⟨hv, h⟩ := h
  have k0 := h.c0
  have HK0 : Hid (∀ w', Off fp w w' → w'.cell? ⟨q, 0, none⟩ = some (.pointer (some ⟨p, 0, none⟩))) := fun w' ho => (h.apart ho hdis).c0
  have hblt : b < w.heap.size := (Array.getElem?_eq_some_iff.1 hb).1
  have HBB : Hid (∀ w', Off fp w w' → w'.heap[b]? = some (.cells (secCells bs).toArray 5 (0, 0))) := fun w' ho => (ho.block b hblt hbf).trans hb
  clear h hdis live hm hD hb
  obtain ⟨X, hXe⟩ : ∃ X, D.newest (R.place s) = X := ⟨_, rfl⟩
  rw [hXe] at hX HRD ⊢
  clear hXe
  have HX := hide hX
  have HL := hide hl
  obtain ⟨Y, hY⟩ : ∃ Y, (if beval (X.take 8) = s + 1 then bs.take 10 ++ ((X.drop 10).take n ++ bs.drop (10 + n)) else bs) = Y := ⟨_, rfl⟩
  rw [hY]
  have HY := hide hY
  clear hX hl hY
  go_enter Try.func55, Try.ntmps55
  go_wp2
  go_region_held (fun w' => w'.cell? ⟨q, 0, none⟩ = some (.pointer (some ⟨p, 0, none⟩))) (simp [*])
    (first
      | (go_at_call 47; refine (HP.out 1).mono ?_; rintro e w1 ⟨rfl, m1, rfl⟩)
      | (go_at_call 45; refine (HRD.out _).mono ?_; rintro e w2 ⟨g, rfl, hg1, hg2, hD2, hO2⟩; have k02 := HK0.out w2 ⟨hO2.os, hO2.tape, hO2.output, hO2.size, hO2.block⟩))
  have hO : Off fp w w2 := ⟨hO2.os, hO2.tape, hO2.output, hO2.size, hO2.block⟩
  have HB2 := hide (HBB.out w2 hO)
  have HO := hide (hO.mono (fun k hk => List.mem_cons_of_mem b hk))
  have HN := hide (number_any g 128 X 5 (0, 0) w2 hg2 HX.out (by omega))
  have HD2 := hide hD2
  have HG := hide hg2
  have hgw : w.heap.size ≤ g := hg1
  clear k02 hO2 hg2 hD2 hg1 hO HP HRD HK0 HBB k0
  by_cases hnum : beval (X.take 8) = s + 1
  · have hz : (((beval (X.take 8) : Nat) : Int) == ((s : Int) + 1)) = true := by rw [hnum]; simp
    have HYY : Hid (bs.take 10 ++ ((X.drop 10).take n ++ bs.drop (10 + n)) = Y) := by have := HY.out; rw [if_pos hnum] at this; exact this
    clear hnum HY
    have HC1 : Hid ((secCells ((X.drop 10).take n)).length = Nat.min 118 n) := by
      show _ = _
      rw [length_secCells, List.length_take, List.length_drop, HX.out]
      show min n 118 = min 118 n
      omega
    have HC2 := hide (drop_cells X g 10 n 5 (0, 0) w2 HG.out)
    have HC3 : Hid (10 + (secCells ((X.drop 10).take n)).length ≤ (secCells bs).toArray.size) := by
      show _ ≤ _
      rw [length_secCells, List.length_take, List.length_drop, List.size_toArray, length_secCells, HL.out]
      omega
    go_wp2_with (first
      | (go_at_call 54; refine HN.out.mono ?_; rintro e w' ⟨rfl, hw⟩; have hw := hw.symm; subst hw)
      | (refine wpList_copy_own rfl (.tmp 29) (.tmp 31) 27 27 rfl 5 Try.underlying27 Try.size5 b 10 n 118 ⟨g, 10, none⟩ 118 118 rfl rfl (secCells bs).toArray 5 HB2.out (secCells ((X.drop 10).take n)) HC1.out HC2.out HC3.out (one_secCells _) ?_))
    go_ret
    refine ⟨rfl, ?_, ?_, ?_⟩
    · exact HD2.out.apart (fq := [b]) ((Off.refl [b] w2).setRow b _ (.inl (by simp))) (fun k hk hm => hbf (by simp at hm; rw [← hm]; exact hk))
    · rw [setRow_heap w2 b _ _ 5 _ HB2.out, ← HYY.out]
      congr 2
      have hlen : ((X.drop 10).take n).length = n := by rw [List.length_take, List.length_drop, HX.out]; omega
      simp only [secCells_append]
      rw [length_secCells, hlen]
      simp [secCells]
    · exact HO.out.setRow b _ (.inl (by simp))
  · have hz : (((beval (X.take 8) : Nat) : Int) == ((s : Int) + 1)) = false := by simp; omega
    have HYY : Hid (bs = Y) := by have := HY.out; rw [if_neg hnum] at this; exact this
    clear hnum HY
    go_wp2_with (first
      | (go_at_call 54; refine HN.out.mono ?_; rintro e w' ⟨rfl, hw⟩; have hw := hw.symm; subst hw))
    go_ret
    exact ⟨rfl, HD2.out, by rw [← HYY.out]; exact HB2.out, HO.out⟩
end Go.Proofs.Ytkkmkcobmjdblaa
