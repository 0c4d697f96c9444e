/- What one would come to hold, the document's way. -/
import Derived.Test.YtffjdjbjkjefoaaRtb
namespace Go.Proofs.Ytffjdjbjkjefoaa
open Go.RowKit Go.WideAt
set_option linter.unusedVariables false
set_option linter.unusedSimpArgs false

def goal1 (s : List UInt8) (a : Int) (x : List UInt8 × Int) : Int := if x.1 = s ∧ isMode x.2 = true then join a x.2 else a
def goalF (m : Int) (L : List (List UInt8 × Int)) (s : List UInt8) : Int := L.foldl (goal1 s) m
theorem goal_take {m : Int} {L : List (List UInt8 × Int)} {k : Nat} {x : List UInt8 × Int} (hx : L[k]? = some x) (s : List UInt8) : goalF m (L.take (k + 1)) s = goal1 s (goalF m (L.take k) s) x := by
  unfold goalF
  rw [take_snoc hx, List.foldl_append]
  rfl
theorem run_index45 (w : World) (g o n cap i : Nat) (h : i < n) : (Instr.indexAt 45 (.slice (some ⟨g, o, none⟩) n cap) (.int .i64 (i : Int))).run Try.prog w = .ok (.pointer (some ⟨g, o + i * 2, none⟩)) w := by
  have hu := Try.underlying45
  have hs := Try.sizeOf50
  simp [go_sem, hu, hs, h]
set_option maxRecDepth 100000 in
set_option maxHeartbeats 1000000 in
theorem goal_any {w : World} {base rt : Nat} {v : Value} {hs : List Ht} (h : RtAt w base rt v hs) (hl : hs.length ≤ 1000000000000) (id : Int) (s : List UInt8) {ao : Option Addr} {c : Nat} {L : List (List UInt8 × Int)} (hL : Wl w ao L) (hLl : L.length ≤ 1000000000000) :
    Calls Try.prog 39 #[.pointer (some ⟨rt, 0, none⟩), .int .i64 id, .slice ao L.length c, scell s] w fun e w' => e = .returned (.int .i64 (goalF (modeL hs id s) L s)) ∧ w' = w := by
  have HMD := hide (tmode_any h hl id s)
  have HWL := hide hL
  obtain ⟨n, hn⟩ : ∃ n, L.length = n := ⟨_, rfl⟩
  have HN := hide hn
  rw [hn] at hLl ⊢
  have H38 : Hid (∀ (a : Int) (w : World), Calls Try.prog 38 #[.int .i64 a] w fun e w' => e = .returned (.bool (isMode a)) ∧ w' = w) := mode_any
  have H18 := hide (@rjoin_any)
  clear h hl hL hn
  generalize modeL hs id s = m0 at *
  go_enter Try.func39, Try.ntmps39
  go_upto_region 3 with (go_at_call 49; refine HMD.out.mono ?_; rintro e x1 ⟨rfl, hx1⟩; have hx1 := hx1.symm; subst hx1)
  go_loop [9, 10] (fun m i => ∃ k : Nat, k ≤ n ∧ i = .int .i64 (k : Int) ∧ m = .int .i64 (goalF m0 (L.take k) s)) (fun _ i => n - (intOf i).toNat)
  case atStart => exact ⟨0, by omega, rfl, rfl⟩
  case round =>
    obtain ⟨k, hk, rfl, rfl⟩ := hrel
    by_cases hlt : k < n
    · obtain ⟨x, hx⟩ : ∃ x, L[k]? = some x := ⟨_, List.getElem?_eq_getElem (by rw [HN.out]; exact hlt)⟩
      obtain ⟨g, o, hao, c1, c2⟩ := HWL.out k x hx
      subst hao
      have HG := hide (goal_take (m := m0) hx s)
      clear hx
      obtain ⟨t, md⟩ := x
      have hbs := beq_str t s
      generalize goalF m0 (L.take k) s = m1 at *
      by_cases ht : t = s
      · rw [decide_eq_true ht] at hbs
        cases hmd : isMode md with
        | true =>
          go_wp2_with (first
            | (go_at_call 38; refine (H38.out _ _).mono ?_; rintro e x2 ⟨rfl, hx2⟩; have hx2 := hx2.symm; subst hx2; rw [hmd])
            | (go_at_call 18; refine (H18.out _ _ _).mono ?_; rintro e x3 ⟨rfl, hx3⟩; have hx3 := hx3.symm; subst hx3))
          refine ⟨⟨k + 1, by omega, by go_num, by rw [HG.out]; unfold goal1; rw [if_pos ⟨ht, hmd⟩]⟩, ?_⟩
          simp [intOf]
          omega
        | false =>
          go_wp2_with (go_at_call 38; refine (H38.out _ _).mono ?_; rintro e x2 ⟨rfl, hx2⟩; have hx2 := hx2.symm; subst hx2; rw [hmd])
          refine ⟨⟨k + 1, by omega, by go_num, by rw [HG.out]; unfold goal1; rw [if_neg (fun e => by have h := e.2; rw [hmd] at h; cases h)]⟩, ?_⟩
          simp [intOf]
          omega
      · rw [decide_eq_false ht] at hbs
        go_wp2
        refine ⟨⟨k + 1, by omega, by go_num, by rw [HG.out]; unfold goal1; rw [if_neg (fun e => ht e.1)]⟩, ?_⟩
        simp [intOf]
        omega
    · obtain rfl : k = n := by omega
      have hd : L.take k = L := List.take_of_length_le (by rw [HN.out]; exact Nat.le_refl _)
      rw [hd]
      go_wp2
      go_ret
      exact ⟨rfl, rfl⟩
end Go.Proofs.Ytffjdjbjkjefoaa
