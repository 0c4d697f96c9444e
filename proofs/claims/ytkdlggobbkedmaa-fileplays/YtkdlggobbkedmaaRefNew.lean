/- What the document's New makes. -/
import Derived.Test.YtkdlggobbkedmaaRefRep
namespace Go.Proofs.Ytkdlggobbkedmaa
open Go.RowKit
set_option linter.unusedVariables false
set_option linter.unusedSimpArgs false

theorem Try.info9 : (Try.prog.info? 9).map (fun i => (i.zero, i.size, i.bytes)) = some (some (.string ⟨#[]⟩), 1, 16) := by kernel_rfl
theorem Try.info83 : (Try.prog.info? 83).map (fun i => (i.zero, i.size, i.bytes)) = some (some (.agg #[.int .i64 0, .string ⟨#[]⟩]), 2, 24) := by kernel_rfl

set_option maxHeartbeats 400000 in
theorem rnew_not (n : Int) (w : World) (h : n < 1 ∨ 8192 < n) :
    Calls Try.prog 13 #[.int .i64 n] w fun e w' => e = .returned (.tuple #[.pointer none, .int .i64 1]) ∧ w' = w := by
  by_cases h1 : n < 1
  · clear h
    go_enter Try.func13, Try.ntmps13
    go_wp2
    go_ret2
    exact ⟨rfl, rfl⟩
  · have h2 : 8192 < n := by omega
    clear h
    go_enter Try.func13, Try.ntmps13
    go_wp2
    go_ret2
    exact ⟨rfl, rfl⟩

set_option maxHeartbeats 1000000 in
set_option maxRecDepth 100000 in
theorem rnew_dev (n : Nat) (w : World) (h1 : 1 ≤ n) (h2 : n ≤ 8192) :
    Calls Try.prog 13 #[.int .i64 (n : Int)] w fun e w' => ∃ p fp, e = .returned (.tuple #[.pointer (some ⟨p, 0, none⟩), .int .i64 0]) ∧ RefAt w' p fp (Dv.fresh n) ∧ (∀ k ∈ fp, w.heap.size ≤ k) ∧ Below w.heap.size w w' := by
  go_enter Try.func13, Try.ntmps13
  go_wp2_with fail
  generalize hW1 : w.alloc _ = W1
  have hg1 : W1.heap[w.heap.size]? = some (.cells #[.slice none 0 0, .slice none 0 0, .int .i64 (-1), .bool false, .int .i64 0] 57 (0, 0)) := by
    rw [← hW1]; exact heap_alloc_new w _
  have hB1 : Below w.heap.size w W1 := by rw [← hW1]; exact (Below.refl _ _).alloc (Nat.le_refl _) _
  have hs1 : w.heap.size < W1.heap.size := (Array.getElem?_eq_some_iff.1 hg1).1
  clear hW1
  refine (blank_any W1).mono ?_
  rintro e W2 ⟨rfl, hB2⟩
  have hg2 := (hB2.block _ hs1).trans hg1
  have hB3 : Below w.heap.size w W2 := hB1.trans (hB2.mono (Nat.le_of_lt hs1))
  obtain ⟨p, hp⟩ : ∃ p, w.heap.size = p := ⟨_, rfl⟩
  have HP := hide hp
  rw [hp] at hg2 ⊢
  have hR : RefIs W2 p [p] ⟨[], [], -1, false, 0⟩ (.slice none 0 0) (.slice none 0 0) :=
    ⟨hg2, World.ownsRow_nil _ _ _ _, World.ownsRow_nil _ _ _ _, by simp [Value.ownBlock], by simp [Value.ownBlock], fun k hk => by simp [Value.ownBlock] at hk, by simp, fun k hk => by simp [Value.ownBlock] at hk, fun k hk => by simp [Value.ownBlock] at hk, fun k hk => by
      obtain rfl : k = p := by simpa using hk
      exact (Array.getElem?_eq_some_iff.1 hg2).1⟩
  clear hp hg1 hg2 hB1 hB2 hs1
  have hd1 : decide ((n : Int) < 1) = false := by simp; omega
  have hd2 : decide ((8192 : Int) < (n : Int)) = false := by simp; omega
  go_wp2_with fail
  go_loopw [6] (fun i wx => ∃ (k : Nat) (lv : Value) (fq : List Nat), k ≤ n ∧ i = .int .i64 k ∧ RefIs wx p fq ⟨List.replicate k zeros, [], -1, false, 0⟩ lv (.slice none 0 0) ∧ Below w.heap.size w wx ∧ ∀ j ∈ fq, w.heap.size ≤ j) (fun i _ => n - (intOf i).toNat)
  case atStart => exact ⟨0, .slice none 0 0, [p], Nat.zero_le _, rfl, hR, hB3, fun j hj => by have := HP.out; simp at hj; omega⟩
  case round =>
    clear hR hB3
    obtain ⟨k, lv, fq, hk, rfl, hR, hB, hF⟩ := hrel
    have HF := hide hF
    clear hF
    by_cases hlt : k < n
    · obtain ⟨lo, ln, lc, hlv⟩ := own_form hR.row
      subst hlv
      have k0 := hR.c0
      have hp := hR.lt
      have hBa : Below wr.heap.size wr (wr.alloc (.cells #[.string (strOf zeros)] 9)) := (Below.refl _ _).alloc (Nat.le_refl _) _
      have HRa := hide (hR.below hBa)
      have hO : Off fq wr (wr.alloc (.cells #[.string (strOf zeros)] 9)) := Off.of_below hBa fq
      have hsrc : ∀ j u, ([.string (strOf zeros)] : List Value)[j]? = some u → (wr.alloc (.cells #[.string (strOf zeros)] 9)).cell? ((⟨wr.heap.size, 0, none⟩ : Addr).add j) = some u := src_of_block (heap_alloc_new wr _)
      have HS := hide hsrc
      clear hsrc
      go_wp2_with (refine wpList_append_owned rfl (.tmp 25) (.tmp 27) 54 rfl 9 (.string ⟨#[]⟩) 1 16 Try.underlying54 Try.info9 rfl (by omega) (.slice lo ln lc) k (strRow (List.replicate k zeros)) rfl (by simpa using HRa.out.row) ⟨wr.heap.size, 0, none⟩ 1 1 [.string (strOf zeros)] rfl rfl HS.out (by simp [Value.oneCell']) (by simp only [maxLen]; omega) (by omega) (fun v' w6 r1 r2 r3 => ?_); obtain ⟨vo, vn, vc, hv⟩ := own_form r1; subst hv; have c6 := (World.cell?_of_block (r2.block p HRa.out.lt (fun e => HRa.out.ne1 e.symm))).trans HRa.out.c0; have f6 := (World.frozen?_of_block (a := ⟨p, 0, none⟩) (r2.block p HRa.out.lt (fun e => HRa.out.ne1 e.symm))).trans (HRa.out.fz 0))
      obtain ⟨hR2, hO2, hF2⟩ := HRa.out.grewL (s := zeros) (by simpa using r1) r2 r3
      have hB2 : Below w.heap.size w (w6.setCell ⟨p, 0, none⟩ (.slice vo vn vc)) := (hB.trans (hBa.mono hB.size)).trans (hO2.below (Nat.le_trans hB.size hBa.size) HF.out)
      have hF3 : ∀ j ∈ fq ++ (Value.slice vo vn vc).ownBlock.toList, w.heap.size ≤ j := fun j hj => by
        rcases hF2 j hj with h | h
        · exact HF.out j h
        · exact Nat.le_trans (Nat.le_trans hB.size hBa.size) h
      have hrep : List.replicate k zeros ++ [zeros] = List.replicate (k + 1) zeros := List.replicate_succ'.symm
      rw [hrep] at hR2
      go_roundw
      case rel => exact ⟨k + 1, _, _, by omega, by go_num, hR2, hB2, hF3⟩
      case measure => simp [intOf]; omega
    · have hkn : k = n := by omega
      subst hkn
      go_wp2_with fail
      go_ret2
      exact ⟨p, fq, rfl, ⟨_, _, hR⟩, HF.out, hB⟩
end Go.Proofs.Ytkdlggobbkedmaa
