/- The document's own file: Read, Write, Open. -/
import Derived.Test.YtkdlggobbkedmaaGPut
namespace Go.Proofs.Ytkdlggobbkedmaa
open Go.RowKit
set_option linter.unusedVariables false
set_option linter.unusedSimpArgs false

section
variable {w : World} {q p fr n : Nat} {failed : Bool} {fp : List Nat} {D : Dv}
/-! ### Read -/
set_option maxHeartbeats 400000 in
theorem rfread_arg (i : Int) (h : RFileAt w q p fr n failed) (hx : i < 0 ∨ (n : Int) ≤ i) :
    Calls Try.prog 16 #[.pointer (some ⟨q, 0, none⟩), .int .i64 i] w fun e w' => e = .returned (.tuple #[.string (strOf []), .int .i64 1]) ∧ w' = w := by
  have k2 := h.c2
  by_cases h0 : i < 0
  · go_enter Try.func16, Try.ntmps16
    go_wp2
    go_ret2
    exact ⟨rfl, rfl⟩
  · have hd : decide ((n : Int) ≤ i) = true := by simp; omega
    go_enter Try.func16, Try.ntmps16
    go_wp2
    go_ret2
    exact ⟨rfl, rfl⟩
set_option maxHeartbeats 400000 in
theorem rfread_dead (i : Nat) (h : RFileAt w q p fr n failed) (hD : RefAt w p fp D) (hd : D.dead = true) (hfr : fr ≤ 549755813888) (hi : i < n) (hn : n ≤ 34359738368) :
    Calls Try.prog 16 #[.pointer (some ⟨q, 0, none⟩), .int .i64 (i : Int)] w fun e w' => e = .returned (.tuple #[.string (strOf []), .int .i64 50]) ∧ w' = w := by
  have k2 := h.c2
  have hd0 : decide ((n : Int) ≤ (i : Int)) = false := by simp; omega
  have HPL := hide (rat_any i h (by omega) (by omega))
  have HFE := hide (rfour_dead (fr + 5 + 4 * i) h hD hd (by omega))
  go_enter Try.func16, Try.ntmps16
  go_wp2_with (first | (go_at_call 36; refine HPL.out.mono ?_; rintro e w' ⟨rfl, hw⟩; have hw := hw.symm; subst hw) | (go_at_call 34; refine HFE.out.mono ?_; rintro e w4 ⟨rfl, hw⟩; have hw := hw.symm; subst hw))
  go_ret2
  exact ⟨rfl, rfl⟩
set_option maxHeartbeats 400000 in
theorem rfread_ok (i : Nat) (h : RFileAt w q p fr n failed) (hD : RefAt w p fp D) (hwf : D.wf) (hq : q ∉ fp) (hd : D.dead = false) (hW : D.W.length ≤ 900000) (hfr : fr + 5 + 4 * n ≤ D.L.length) (hi : i < n) :
    Calls Try.prog 16 #[.pointer (some ⟨q, 0, none⟩), .int .i64 (i : Int)] w fun e w' => e = .returned (.tuple #[.string (strOf (D.four (fr + 5 + 4 * i))), .int .i64 0]) ∧ RefAt w' p fp (D.more 4) ∧ Off fp w w' := by
  have hmax := hwf.max
  have k2 := h.c2
  have hd0 : decide ((n : Int) ≤ (i : Int)) = false := by simp; omega
  have HPL := hide (rat_any i h (by omega) (by omega))
  have HFE := hide (rfour_ok (fr + 5 + 4 * i) h hD hwf hq hd hW (by omega))
  go_enter Try.func16, Try.ntmps16
  go_wp2_with (first | (go_at_call 36; refine HPL.out.mono ?_; rintro e w' ⟨rfl, hw⟩; have hw := hw.symm; subst hw) | (go_at_call 34; refine HFE.out.mono ?_; rintro e w4 ⟨rfl, h2, h3⟩))
  go_ret2
  exact ⟨rfl, h2, h3⟩

/-! ### Write -/
set_option maxHeartbeats 400000 in
theorem rfwrite_failed (i : Int) (bs : List UInt8) (h : RFileAt w q p fr n true) :
    Calls Try.prog 15 #[.pointer (some ⟨q, 0, none⟩), .int .i64 i, .string (strOf bs)] w fun e w' => e = .returned (.int .i64 50) ∧ w' = w := by
  have k3 := h.c3
  go_enter Try.func15, Try.ntmps15
  go_wp2
  go_ret
  exact ⟨rfl, rfl⟩
set_option maxHeartbeats 400000 in
theorem rfwrite_arg (i : Int) (bs : List UInt8) (h : RFileAt w q p fr n false) (hx : (i < 0 ∨ (n : Int) ≤ i) ∨ bs.length ≠ 512) :
    Calls Try.prog 15 #[.pointer (some ⟨q, 0, none⟩), .int .i64 i, .string (strOf bs)] w fun e w' => e = .returned (.int .i64 1) ∧ w' = w := by
  have k3 := h.c3
  have k2 := h.c2
  have hsz : (strOf bs).size = bs.length := size_strOf bs
  by_cases h0 : i < 0
  · go_enter Try.func15, Try.ntmps15
    go_wp2
    go_ret
    exact ⟨rfl, rfl⟩
  · by_cases h1 : (n : Int) ≤ i
    · have hd : decide ((n : Int) ≤ i) = true := by simpa using h1
      go_enter Try.func15, Try.ntmps15
      go_wp2
      go_ret
      exact ⟨rfl, rfl⟩
    · have hd : decide ((n : Int) ≤ i) = false := by simpa using h1
      have hm : ((bs.length : Int) != 512) = true := by rw [bne_iff_ne]; omega
      go_enter Try.func15, Try.ntmps15
      go_wp2
      go_ret
      exact ⟨rfl, rfl⟩
theorem RFileAt.fail {b : Bool} (h : RFileAt w q p fr n failed) : RFileAt (w.setCell ⟨q, 3, none⟩ (.bool b)) q p fr n b := by
  unfold RFileAt at h ⊢
  rw [heap_setCell_same w q 3 _ _ _ h]
  rfl
/-- All that a write needs, on its way from the world w. -/
structure RCar (w wr : World) (q p fr n : Nat) (failed : Bool) (fp fq : List Nat) (E : Dv) : Prop where
  fl : RFileAt wr q p fr n failed
  dev : RefAt wr p fq E
  wf : E.wf
  off : Off fp w wr
  fresh : ∀ k ∈ fq, k ∈ fp ∨ w.heap.size ≤ k
  nq : q ∉ fq
theorem RCar.next {w wr w' : World} {q p fr n : Nat} {failed : Bool} {fp fq fq' : List Nat} {E E' : Dv} (h : RCar w wr q p fr n failed fp fq E) (hD : RefAt w' p fq' E') (hwf : E'.wf) (hO : Off fq wr w') (hF : ∀ k ∈ fq', k ∈ fq ∨ wr.heap.size ≤ k) : RCar w w' q p fr n failed fp fq' E' :=
  ⟨h.fl.off hO h.nq, hD, hwf, h.off.trans hO (fun k hk => h.fresh k hk), fresh_off h.fresh h.off hF, fresh_not h.nq h.fl.lt hF⟩
theorem RCar.belowW {w wr w' : World} {q p fr n : Nat} {failed : Bool} {fp fq : List Nat} {E : Dv} (h : RCar w wr q p fr n failed fp fq E) (hb : Below wr.heap.size wr w') : RCar w w' q p fr n failed fp fq E :=
  h.next (h.dev.below hb) h.wf (Off.of_below hb fq) (fun k hk => .inl hk)
theorem Try.built1 (v : Int) (w : World) : (Instr.buildSlice 31 1 #[(0, .int .u8 v)]).run Try.prog w = .ok (.slice (some ⟨w.heap.size, 0, none⟩) 1 1) (w.alloc (.cells #[.int .u8 v] 5)) := by kernel_rfl
theorem head_str (v : Nat) : strOf (be8 v) ++ strOf (zeros.drop 8) = strOf (headOf v) := by
  rw [strOf_append]
  rfl
theorem strOf_be8_size (v : Nat) : (strOf (be8 v)).size = 8 := by rw [size_strOf, length_be8]
end
end Go.Proofs.Ytkdlggobbkedmaa
