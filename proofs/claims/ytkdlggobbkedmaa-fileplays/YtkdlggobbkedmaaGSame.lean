/- 'Same' answers true of two devices that are one. -/
import Derived.Test.YtkdlggobbkedmaaGBoth
namespace Go.Proofs.Ytkdlggobbkedmaa
open Go.RowKit
set_option linter.unusedVariables false
set_option linter.unusedSimpArgs false

/-- The same but for its count of calls. -/
structure Alike (D E : Dv) : Prop where
  L : E.L = D.L
  W : E.W = D.W
  fuse : E.fuse = D.fuse
  dead : E.dead = D.dead
theorem Alike.refl (D : Dv) : Alike D D := ⟨rfl, rfl, rfl, rfl⟩
theorem Alike.trans {D E F : Dv} (h : Alike D E) (k : Alike E F) : Alike D F := ⟨k.L.trans h.L, k.W.trans h.W, k.fuse.trans h.fuse, k.dead.trans h.dead⟩
theorem alike_read (D : Dv) (i : Int) : Alike D (D.read i).2.2 := by
  unfold Dv.read
  split
  · exact Alike.refl D
  · split
    · exact Alike.refl D
    · exact ⟨rfl, rfl, rfl, rfl⟩
theorem Kept2.refl (xs : List Nat) (w : World) : Kept2 xs [] w w := ⟨Nat.le_refl _, fun _ _ _ => rfl⟩
theorem Kept2.trans {xs : List Nat} {a b c : World} (h : Kept2 xs [] a b) (k : Kept2 xs [] b c) : Kept2 xs [] a c := ⟨Nat.le_trans h.1 k.1, fun i hi hn => (k.2 i hi hn).trans (h.2 i hi hn)⟩
theorem Kept2.sub {xs ys : List Nat} {a b : World} (h : Kept2 xs [] a b) (hy : ∀ k ∈ ys, k ∈ xs) : Kept2 ys [] a b := ⟨h.1, fun i hi hn => h.2 i (hy i hi) hn⟩
section
variable {w0 w w' : World} {p r : Nat} {xs : List Nat} {D D' R R' : Dv}
theorem told1_str {o : Option (List UInt8)} {v : Value} {wa wb : World} (h : Told wa wb o v) (hk : ∀ g, v.ownBlock = some g → w'.heap[g]? = wb.heap[g]?) : (convert 31 9 v).run Try.prog w' = .ok (.string (strOf (saidOf o))) w' := by
  cases o with
  | none =>
    have h : v = .slice none 0 0 := h
    subst h
    exact run_strnil w'
  | some bs =>
    obtain ⟨g, rfl, _, h2, h3⟩ := h
    exact run_str w' g 128 128 bs h2 ((hk g rfl).trans h3)
theorem pl_dread (i : Int) (h : DX w0 w p r xs D R) (hW : D.W.length ≤ 800000) :
    Calls Try.prog 42 #[.pointer (some ⟨p, 0, none⟩), .int .i64 i] w fun e w' => ∃ v ys, e = .returned (.tuple #[v, .int .i64 (D.read i).2.1]) ∧ (∀ g, v.ownBlock = some g → g ∈ ys) ∧ Told w w' (D.read i).1 v ∧ DX w0 w' p r (ys ++ xs) (D.read i).2.2 R ∧ Kept2 xs [] w w' := by
  obtain ⟨fp, gp, x⟩ := h
  refine (read_dev p i w fp D x.dev (by omega)).mono ?_
  rintro e w' ⟨v, rfl, hT, h2, h3⟩
  obtain ⟨y, hk⟩ := x.stepP [] (by simp) h3 h2 (fun k hk => .inl hk)
  refine ⟨v, v.ownBlock.toList, rfl, fun g hg => by simp [hg], hT, ⟨fp, gp, y.dev, y.ref, y.rwf, y.dis, fun k hm => ?_, y.f0, y.g0, fun k hm => ?_, y.below⟩, h3.size, hk⟩
  · rcases List.mem_append.1 hm with h6 | h6
    · have h6 : v.ownBlock = some k := by simpa using h6
      cases hr : (D.read i).1 with
      | none =>
        rw [hr] at hT
        have hT : v = .slice none 0 0 := hT
        rw [hT] at h6
        simp [Value.ownBlock] at h6
      | some bs =>
        rw [hr] at hT
        obtain ⟨g, rfl, g1, g2, g3⟩ := hT
        have : g = k := by simpa [Value.ownBlock] using h6
        subst this
        exact ⟨(Array.getElem?_eq_some_iff.1 g3).1, fun hm => by have := x.dev.lim _ hm; omega, fun hm => by have := x.ref.lim _ hm; omega⟩
    · exact y.xf k h6
  · rcases List.mem_append.1 hm with h6 | h6
    · have h6 : v.ownBlock = some k := by simpa using h6
      cases hr : (D.read i).1 with
      | none =>
        rw [hr] at hT
        have hT : v = .slice none 0 0 := hT
        rw [hT] at h6
        simp [Value.ownBlock] at h6
      | some bs =>
        rw [hr] at hT
        obtain ⟨g, rfl, g1, g2, g3⟩ := hT
        have : g = k := by simpa [Value.ownBlock] using h6
        subst this
        exact Nat.le_trans x.below.size g1
    · exact y.x0 k h6
theorem rl_dread (i : Int) (h : DX w0 w p r xs D R) (hW : R.W.length ≤ 800000) :
    Calls Try.prog 33 #[.pointer (some ⟨r, 0, none⟩), .int .i64 i] w fun e w' => e = .returned (.tuple #[.string (strOf (saidOf (R.read i).1)), .int .i64 (R.read i).2.1]) ∧ DX w0 w' p r xs D (R.read i).2.2 ∧ Kept2 xs [] w w' := by
  obtain ⟨fp, gp, x⟩ := h
  have hwf : (R.read i).2.2.wf := by
    unfold Dv.read
    split
    · exact x.rwf
    · split
      · exact x.rwf
      · exact ⟨x.rwf.pos, x.rwf.max, x.rwf.sec, x.rwf.ent, x.rwf.lo, x.rwf.hi⟩
  refine (rread_dev r i w gp R x.ref (by omega)).mono ?_
  rintro e w' ⟨rfl, h2, h3⟩
  obtain ⟨y, hk⟩ := x.stepR [] (by simp) h3 h2 hwf (fun k hk => .inl hk)
  exact ⟨rfl, ⟨_, _, y⟩, h3.size, hk⟩

set_option maxHeartbeats 2000000 in
set_option maxRecDepth 100000 in
theorem same_any (h : DX w0 w p r xs D D.norm) (hW : D.W.length ≤ 700000) :
    Calls Try.prog 24 #[.pointer (some ⟨p, 0, none⟩), .pointer (some ⟨r, 0, none⟩)] w fun e w' => e = .returned (.bool true) ∧ ∃ D', DX w0 w' p r xs D' D'.norm ∧ Alike D D' ∧ Kept2 xs [] w w' := by
  have hmax := h.wf.max
  have HD := hide h
  clear h
  go_enter Try.func24, Try.ntmps24
  go_wp2
  go_loopw [5] (fun iv wr => ∃ (k : Nat) (E : Dv), k ≤ D.L.length ∧ iv = .int .i64 k ∧ DX w0 wr p r xs E E.norm ∧ Alike D E ∧ Kept2 xs [] w wr) (fun iv _ => D.L.length + 1 - (intOf iv).toNat)
  case atStart => exact ⟨0, D, by omega, rfl, HD.out, Alike.refl D, Kept2.refl _ _⟩
  case round =>
    clear HD
    obtain ⟨k, E, hk, rfl, hE, hA, hK⟩ := hrel
    have hEL : E.L.length = D.L.length := by rw [hA.L]
    have hEW : E.W.length ≤ 700000 := by rw [hA.W]; exact hW
    have hform : ∃ lb lc, wr.cell? ⟨r, 0, none⟩ = some (.slice (some ⟨lb, 0, none⟩) D.L.length lc) := by
      obtain ⟨fp, gp, x⟩ := hE
      obtain ⟨lv, cv, hI⟩ := x.ref
      obtain ⟨lb, lc, hlv⟩ := hI.formL x.rwf.pos
      refine ⟨lb, lc, ?_⟩
      rw [hI.c0, hlv]
      show some (Value.slice _ E.L.length _) = _
      rw [hEL]
    obtain ⟨lb, lc, c0⟩ := hform
    have HA := hide hA
    have HK := hide hK
    have HEL := hide hEL
    clear hA hK hEL
    by_cases hlt : k < D.L.length
    · have HRD := hide (pl_dread (k : Int) hE (by omega))
      have hnr := norm_read E (k : Int)
      obtain ⟨o, e1, E1, hX⟩ : ∃ o e1 E1, E.read (k : Int) = (o, e1, E1) := ⟨_, _, _, rfl⟩
      have hal := alike_read E (k : Int)
      rw [hX] at HRD hnr hal
      have HNR := hide hnr
      have HAL : Hid (Alike E E1) := hal
      clear hE hX hnr hal
      go_wp2_with fail
      refine HRD.out.mono ?_
      rintro e w3 ⟨v, ys, rfl, hys, hT, hD3, hK3⟩
      have HRR := hide (rl_dread (k : Int) hD3 (by exact Nat.le_trans hEW (by omega)))
      rw [HNR.out] at HRR
      have HT := hide hT
      have HYS := hide hys
      have HK3 := hide hK3
      clear HRD hT hys hD3 hK3 c0
      go_wp2_with fail
      refine HRR.out.mono ?_
      rintro e w4 ⟨rfl, hD4, hK4⟩
      have st := told1_str (w' := w4) HT.out (fun g hg => hK4.2 g (List.mem_append_left _ (HYS.out g hg)) (by simp))
      have HD4 : Hid (DX w0 w4 p r xs E1 E1.norm) := hD4.mind (fun k hk => List.mem_append_right _ hk)
      have HK4 := hide (HK3.out.trans (hK4.sub (fun k hk => List.mem_append_right _ hk)))
      clear HRR hD4 hK4 HT HYS HK3 HNR
      generalize strOf (saidOf o) = S at *
      go_wp2_with fail
      go_roundw
      case rel => exact ⟨k + 1, E1, by omega, by go_num, HD4.out, HA.out.trans HAL.out, HK.out.trans HK4.out⟩
      case measure => simp [intOf]; omega
    · have hform : ∃ co cc, wr.cell? ⟨r, 1, none⟩ = some (.slice co E.W.length cc) := by
        obtain ⟨fp, gp, x⟩ := hE
        obtain ⟨lv, cv, hI⟩ := x.ref
        obtain ⟨co, cc, hcv⟩ := own_len hI.cache
        exact ⟨co, cc, by rw [hI.c1, hcv]; rfl⟩
      obtain ⟨co, cc, c1⟩ := hform
      have HPE : Hid (∀ d, Calls Try.prog 11 #[.pointer (some ⟨p, 0, none⟩)] (wr.drewN d) fun e w' => e = .returned (.int .i64 (E.W.length : Int)) ∧ w' = wr.drewN d) := fun d => by
        obtain ⟨fp, gp, x⟩ := hE
        exact pending_dev p _ fp E (x.dev.drewN d)
      have HE := hide hE
      clear hE
      go_wp2_with fail
      refine wp_region_held_drew (S := fun w' => w'.cell? ⟨r, 1, none⟩ = some (.slice co E.W.length cc)) (by kernel_rfl) c1 (fun hH => ?_)
      refine take_to 0 40 (.pointer (some ⟨p, 0, none⟩)) rfl (by kernel_rfl) (by kernel_rfl) (by kernel_rfl) (fun _ _ _ h => h) rfl (by rfl) (fun w hw => by rfl) hH ?_
      simp only [Act.put, List.setIfInBounds_toArray, List.set_cons_zero, List.set_cons_succ]
      refine take_to 2 42 (.pointer (some ⟨r, 0, none⟩)) rfl (by kernel_rfl) (by kernel_rfl) (by kernel_rfl) (fun _ _ _ h => h) rfl (by rfl) (fun w hw => by rfl) hH ?_
      simp only [Act.put, List.setIfInBounds_toArray, List.set_cons_zero, List.set_cons_succ]
      refine take_to 3 43 (.pointer (some ⟨r, 0, none⟩)) rfl (by kernel_rfl) (by kernel_rfl) (by kernel_rfl) (fun _ _ _ h => h) rfl (by rfl) (fun w hw => by rfl) hH ?_
      simp only [Act.put, List.setIfInBounds_toArray, List.set_cons_zero, List.set_cons_succ]
      refine take_to 4 44 (.pointer (some ⟨r, 1, none⟩)) rfl (by kernel_rfl) (by kernel_rfl) (by kernel_rfl) (fun _ _ _ h => h) rfl (by rfl) (fun w hw => by kernel_rfl) hH ?_
      simp only [Act.put, List.setIfInBounds_toArray, List.set_cons_zero, List.set_cons_succ]
      refine take_to 5 45 (.slice co E.W.length cc) rfl (by kernel_rfl) (by kernel_rfl) (by kernel_rfl) (fun _ _ _ h => h) rfl (by rfl) (fun w hw => op_load _ _ 55 (.tmp 44) rfl (.pointer (some ⟨r, 1, none⟩)) _ rfl (run_load55 w r _ hw)) hH ?_
      simp only [Act.put, List.setIfInBounds_toArray, List.set_cons_zero, List.set_cons_succ]
      refine take_to 6 46 (.int .i64 (E.W.length : Int)) rfl (by kernel_rfl) (by kernel_rfl) (by kernel_rfl) (fun _ _ _ h => h) rfl (by rfl) (fun w hw => op_len _ _ (.tmp 45) 55 83 Try.underlying55 rfl co E.W.length cc rfl) hH ?_
      simp only [Act.put, List.setIfInBounds_toArray, List.set_cons_zero, List.set_cons_succ]
      refine step_call1_to 1 41 11 rfl (by kernel_rfl) rfl (by rfl) (.tmp 40) _ rfl _ rfl Try.enters11 (HPE.out 1) ?_
      rintro e w' ⟨rfl, rfl⟩
      refine ⟨_, rfl, hH, ?_⟩
      simp only [Act.put, List.setIfInBounds_toArray, List.set_cons_zero, List.set_cons_succ]
      refine step_to 7 47 (.bool true) _ rfl (by kernel_rfl) rfl (by rfl) (op_eql3 _ _ (.tmp 41) (.tmp 46) 3 rfl _ _ rfl rfl _ (by simp)) hH ?_
      simp only [Act.put, List.setIfInBounds_toArray, List.set_cons_zero, List.set_cons_succ]
      refine step_to 8 4 (.bool true) _ rfl (by kernel_rfl) rfl (by rfl) (rfl) hH ?_
      simp only [Act.put, List.setIfInBounds_toArray, List.set_cons_zero, List.set_cons_succ]
      refine wpAnyH_done (by kernel_rfl) ?_ _
      clear hH
      go_wp2
      go_ret
      exact ⟨rfl, E, HE.out.belowW (below_drewN _ _ 1), HA.out, HK.out.1, HK.out.2⟩
end
end Go.Proofs.Ytkdlggobbkedmaa
