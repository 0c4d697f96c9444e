/- 'fetch': the bytes of four sectors. -/
import Derived.Test.YtifoafiidplpiaaFLay
namespace Go.Proofs.Ytifoafiidplpiaa
open Go.RowKit
set_option linter.unusedVariables false
set_option linter.unusedSimpArgs false

theorem more_L (D : Dv) : ∀ k, (D.more k).L = D.L
  | 0 => rfl
  | k + 1 => more_L D k
theorem more_W (D : Dv) : ∀ k, (D.more k).W = D.W
  | 0 => rfl
  | k + 1 => more_W D k
theorem more_dead (D : Dv) : ∀ k, (D.more k).dead = D.dead
  | 0 => rfl
  | k + 1 => more_dead D k
theorem more_fuse (D : Dv) : ∀ k, (D.more k).fuse = D.fuse
  | 0 => rfl
  | k + 1 => more_fuse D k
theorem more_newest (D : Dv) (k i : Nat) : (D.more k).newest i = D.newest i := by
  unfold Dv.newest
  rw [more_L, more_W]
theorem length_four {D : Dv} (h : D.wf) (i : Nat) (hi : i + 4 ≤ D.L.length) : (D.four i).length = 512 := by
  simp [Dv.four, length_newest D h i (by omega), length_newest D h (i + 1) (by omega), length_newest D h (i + 2) (by omega), length_newest D h (i + 3) (by omega)]
theorem four_next {D : Dv} (h : D.wf) (i k : Nat) (hi : i + 4 ≤ D.L.length) (hk : k < 4) : (D.four i).take (128 * (k + 1)) = (D.four i).take (128 * k) ++ D.newest (i + k) := by
  have l0 := length_newest D h i (by omega)
  have l1 := length_newest D h (i + 1) (by omega)
  have l2 := length_newest D h (i + 2) (by omega)
  have l3 := length_newest D h (i + 3) (by omega)
  unfold Dv.four
  have : k = 0 ∨ k = 1 ∨ k = 2 ∨ k = 3 := by omega
  rcases this with rfl | rfl | rfl | rfl
  · simp [List.take_append, l0, List.take_of_length_le]
  · simp [List.take_append, l0, l1, List.take_of_length_le]
  · simp [List.take_append, l0, l1, l2, List.take_of_length_le]
  · simp [List.take_append, l0, l1, l2, l3, List.take_of_length_le]
/-- What lies in the page's bytes behind k sectors. -/
theorem page_lay (A : List UInt8) (s : List UInt8) (k : Nat) (hA : A.length = 128 * k) (hs : s.length = 128) (hk : k < 4) :
    (secCells (A ++ zerosN (512 - 128 * k))).take (128 * k) ++ (secCells s ++ (secCells (A ++ zerosN (512 - 128 * k))).drop (128 * k + (secCells s).length)) = secCells ((A ++ s) ++ zerosN (512 - 128 * (k + 1))) := by
  have e : ∀ a b : List UInt8, secCells (a ++ b) = secCells a ++ secCells b := fun a b => by simp [secCells]
  have lA : (secCells A).length = 128 * k := by rw [length_secCells, hA]
  rw [e, List.take_append_of_le_length (by omega), List.take_of_length_le (by omega), length_secCells, hs, List.drop_append, lA, List.drop_of_length_le (by omega), e, e, List.nil_append, List.append_assoc]
  rw [show 128 * k + 128 - 128 * k = 128 by omega]
  have : (secCells (zerosN (512 - 128 * k))).drop 128 = secCells (zerosN (512 - 128 * (k + 1))) := by
    unfold secCells zerosN
    rw [← List.map_drop, List.drop_replicate, show 512 - 128 * k - 128 = 512 - 128 * (k + 1) by omega]
  rw [this]

set_option maxHeartbeats 1000000 in
theorem fetch_dead {w : World} {q p fr n : Nat} {failed : Bool} {fp : List Nat} {D : Dv} (i : Nat) (hf : FileAt w q p fr n failed) (hD : DevAt w p fp D) (hq : q ∉ fp) (hd : D.dead = true) (hW : D.W.length ≤ 900000) (hi : i ≤ 1099511627776) :
    Calls Try.prog 32 #[.pointer (some ⟨q, 0, none⟩), .int .i64 (i : Int)] w fun e w' => e = .returned (.tuple #[.slice none 0 0, .int .i64 50]) ∧ Below w.heap.size w w' := by
  obtain ⟨w0, hw0⟩ : ∃ w0, w.alloc (.cells (secCells (zerosN 512)).toArray 5) = w0 := ⟨_, rfl⟩
  have hmk : (Instr.makeSlice 37 (.int .i64 512) (.int .i64 512)).run Try.prog w = .ok (.slice (some ⟨w.heap.size, 0, none⟩) 512 512) w0 := by rw [← hw0]; exact makeN 512 (by omega) w
  have hb0 : Below w.heap.size w w0 := by rw [← hw0]; exact (Below.refl _ _).alloc (Nat.le_refl _) _
  have hD0 := hD.below hb0
  have k0 := (hf.below hb0).c0
  have HRD := hide (read_dead p (i : Int) w0 fp D hD0 hd)
  clear hw0 hD hf hD0
  generalize w.heap.size = g at *
  go_enter Try.func32, Try.ntmps32
  go_wp2
  go_loopw [11] (fun j wr => j = .int .i64 0 ∧ wr = w0) (fun j _ => 4 - (intOf j).toNat)
  case atStart => exact ⟨rfl, rfl⟩
  case round =>
    obtain ⟨rfl, rfl⟩ := hrel
    go_wp2_with (first | (go_at_call 45; refine HRD.out.mono ?_; rintro e w4 ⟨rfl, hw⟩; have hw := hw.symm; subst hw))
    go_ret2
    exact ⟨rfl, hb0⟩

set_option maxHeartbeats 1000000 in
set_option maxRecDepth 100000 in
theorem fetch_ok {w : World} {q p fr n : Nat} {failed : Bool} {fp : List Nat} {D : Dv} (i : Nat) (hf : FileAt w q p fr n failed) (hD : DevAt w p fp D) (hq : q ∉ fp) (hd : D.dead = false) (hW : D.W.length ≤ 900000) (hi : i + 4 ≤ D.L.length) :
    Calls Try.prog 32 #[.pointer (some ⟨q, 0, none⟩), .int .i64 (i : Int)] w fun e w' => e = .returned (.tuple #[.slice (some ⟨w.heap.size, 0, none⟩) 512 512, .int .i64 0]) ∧
      w'.heap[w.heap.size]? = some (.cells (secCells (D.four i)).toArray 5 (0, 0)) ∧ DevAt w' p fp (D.more 4) ∧ Off fp w w' := by
  have hwf : D.wf := let ⟨_, _, _, x⟩ := hD; x.wf
  have hmax := hwf.max
  obtain ⟨w0, hw0⟩ : ∃ w0, w.alloc (.cells (secCells (zerosN 512)).toArray 5) = w0 := ⟨_, rfl⟩
  have hmk : (Instr.makeSlice 37 (.int .i64 512) (.int .i64 512)).run Try.prog w = .ok (.slice (some ⟨w.heap.size, 0, none⟩) 512 512) w0 := by rw [← hw0]; exact makeN 512 (by omega) w
  have hb0 : Below w.heap.size w w0 := by rw [← hw0]; exact (Below.refl _ _).alloc (Nat.le_refl _) _
  have hg0 : w0.heap[w.heap.size]? = some (.cells (secCells (zerosN 512)).toArray 5 (0, 0)) := by rw [← hw0]; exact heap_alloc_new w _
  have hD0 := hD.below hb0
  have hO0 : Off fp w w0 := Off.of_below hb0 fp
  have hgn : w.heap.size ∉ fp := fun hm => by
    obtain ⟨_, _, _, x⟩ := hD
    have := x.lim _ hm
    omega
  have HF := hide hf
  have HL4 := hide (length_four hwf i hi)
  have HNX := hide (fun k => four_next hwf i k hi)
  have HLN := hide (fun k (hk : k < 4) => length_newest D hwf (i + k) (by omega))
  have HMW : Hid (∀ k, (D.more k).W.length ≤ 900000) := fun k => by rw [more_W]; exact hW
  clear hw0 hD hf hb0 hwf hW
  obtain ⟨g, hge⟩ : ∃ g, w.heap.size = g := ⟨_, rfl⟩
  rw [hge] at hmk hg0 hgn ⊢
  have HGE : Hid (w.heap.size ≤ g) := Nat.le_of_eq hge
  clear hge
  go_enter Try.func32, Try.ntmps32
  go_wp2
  go_loopw [11] (fun j wr => ∃ k : Nat, k ≤ 4 ∧ j = .int .i64 k ∧ wr.heap[g]? = some (.cells (secCells ((D.four i).take (128 * k) ++ zerosN (512 - 128 * k))).toArray 5 (0, 0)) ∧ DevAt wr p fp (D.more k) ∧ Off fp w wr) (fun j _ => 5 - (intOf j).toNat)
  case atStart => exact ⟨0, by omega, rfl, by simpa using hg0, hD0, hO0⟩
  case round =>
    clear hD0 hO0 hg0
    obtain ⟨k, hk, rfl, hg, hD, hO⟩ := hrel
    have HO := hide hO
    have k0 := (HF.out.off hO hq).c0
    clear hO
    by_cases hlt : k < 4
    · have HRD := hide (read_ok p (i + k) wr fp (D.more k) hD (by rw [more_dead]; exact hd) (by rw [more_L]; omega) (by have := HMW.out k; omega))
      rw [more_newest] at HRD
      have hw1 : IntKind.i64.wrap ((i : Int) + (k : Int)) = (i : Int) + (k : Int) := by rw [IntKind.wrap_i64]; omega
      rw [show ((i + k : Nat) : Int) = (i : Int) + (k : Int) by omega] at HRD
      have HG := hide hg
      have hcut : ∀ u, (Instr.sliceAt 37 (.slice (some ⟨g, 0, none⟩) 512 512) (some (.int .i64 ((k : Int) * 128))) none none).run Try.prog u = .ok (.slice (some ⟨g, 128 * k, none⟩) (512 - 128 * k) (512 - 128 * k)) u := fun u => by
        have := run_cut_from u (some ⟨g, 0, none⟩) 512 512 (128 * k) (by omega)
        rw [show ((128 * k : Nat) : Int) = (k : Int) * 128 by omega] at this
        rw [this]
        unfold cutAt
        rw [if_neg (by omega)]
        simp [Addr.add_mid]
      have HCUR : Hid ((secCells ((D.four i).take (128 * k) ++ zerosN (512 - 128 * k))).toArray.size = 512) := by
        show _ = _
        rw [List.size_toArray, length_secCells, List.length_append, List.length_take, HL4.out, length_zerosN]
        omega
      have HN : Hid ((secCells (D.newest (i + k))).length = 128) := by show _ = _; rw [length_secCells]; exact HLN.out k hlt
      have HMIN : Hid ((secCells (D.newest (i + k))).length = Nat.min 128 (512 - 128 * k)) := by
        show _ = _
        rw [HN.out]; exact (Nat.min_eq_left (by omega)).symm
      have HGL : Hid (g < wr.heap.size) := (Array.getElem?_eq_some_iff.1 hg).1
      clear hD hg
      go_wp2_with (first | (go_at_call 45; refine HRD.out.mono ?_; rintro e w4 ⟨s, rfl, hs1, hs2, hD4, hO4⟩) | (refine wpList_copy_own rfl _ _ 37 37 rfl 5 Try.underlying37 (by kernel_rfl) g (128 * k) (512 - 128 * k) (512 - 128 * k) ⟨s, 0, none⟩ 128 128 rfl rfl _ 5 ((hO4.block g HGL.out hgn).trans HG.out) (secCells (D.newest (i + k))) HMIN.out (src_of_block hs2) (by rw [HCUR.out, HN.out]; omega) (one_secCells _) ?_))
      have hgw := (hO4.block g HGL.out hgn).trans HG.out
      have hpl := page_lay ((D.four i).take (128 * k)) (D.newest (i + k)) k (by rw [List.length_take, HL4.out]; omega) (HLN.out k hlt) hlt
      rw [← HNX.out k hlt] at hpl
      have HPL := hide hpl
      clear hpl
      go_roundw
      case rel =>
        refine ⟨k + 1, by omega, by go_num, ?_, ?_, ?_⟩
        · rw [setRow_heap _ _ _ _ _ _ hgw]
          congr 2
          exact congrArg List.toArray HPL.out
        · exact hD4.apart ((Off.refl [g] w4).setRow g _ (.inl (by simp))) (fun x hx hm => hgn (by simp at hm; exact hm ▸ hx))
        · exact (HO.out.trans hO4 (fun x hx => .inl hx)).setRow g _ (.inr HGE.out)
      case measure => simp [intOf]; omega
    · have hk4 : k = 4 := by omega
      subst hk4
      go_wp2
      go_ret2
      refine ⟨rfl, ?_, hD, HO.out⟩
      rw [hg, List.take_of_length_le (by rw [HL4.out]; omega)]
      simp [zerosN]
end Go.Proofs.Ytifoafiidplpiaa
