/- Ask, the document's way. -/
import Derived.Test.YtffjdjbjkjefoaaRre
namespace Go.Proofs.Ytffjdjbjkjefoaa
open Go.RowKit Go.WideAt
set_option linter.unusedVariables false
set_option linter.unusedSimpArgs false

theorem step_call4_to {P : Program} {ops : Array Oper} {Q : Exit → Act → World → Prop} {md : Region.Mode} {S : World → Prop} {o : Oper} {fuel : Nat} {listed : Array Bool} {a : Act} {w : World} {R : Ending → World → Prop} (j dst f : Nat) (hj : ops[j]? = some o)
    (hr : Region.ready md ops listed = [j]) (hd : o.dst = some dst) (hw : Region.wanted o (yielded ops a.tmps) = true) (x y z u : Operand) (ts : Array TypeId) (hop : o.op = Op.call { callee := Callee.value (Operand.func f), args := #[x, y, z, u], argTypes := ts })
    (vx vy vz vu : Value) (hx : a.eval x = vx) (hy : a.eval y = vy) (hz : a.eval z = vz) (hu : a.eval u = vu) (hcf : ∀ args w, (callFunc f args).run P w = .ok (.enter f args) w) (hc : Calls P f #[vx, vy, vz, vu] w R)
    (hK : ∀ e w', R e w' → ∃ v, e = .returned v ∧ S w' ∧ wpAnyH P md ops Q S fuel (listed.setIfInBounds j true) (a.put (some dst) v) w') : wpAnyH P md ops Q S (fuel + 1) listed a w := by
  refine step_by j hj hr (fun K hK' => ?_)
  rw [if_pos hw]
  have hrun : (execOp a.eval o).run P w = .ok (.enter f #[vx, vy, vz, vu]) w := by
    have hff : a.eval (.func f) = .func (.func f) #[] #[] := rfl
    unfold execOp
    simp [hop, resolve, hff, Deferred.ofValue, invoke, hx, hy, hz, hu]
    exact hcf _ _
  unfold Oper.wp
  rw [hrun, Oper.upon_enter]
  refine hc.mono ?_
  intro e w' hR
  obtain ⟨v, rfl, hS, hW⟩ := hK e w' hR
  show K (a.put o.dst v) w'
  rw [hd]
  exact hK' _ _ hS hW
def askF (L : List (List UInt8 × Int)) (s : List UInt8) : Bool := L.any fun y => decide (y.1 = s) && isMode y.2
theorem askF_take {L : List (List UInt8 × Int)} {k : Nat} {x : List UInt8 × Int} (hx : L[k]? = some x) (s : List UInt8) : askF (L.take (k + 1)) s = (askF (L.take k) s || (decide (x.1 = s) && isMode x.2)) := by
  unfold askF
  rw [take_snoc hx, List.any_append]
  simp
/-- Whether this lock is in the way. -/
def badB (hs : List Ht) (L : List (List UInt8 × Int)) (id : Int) (h : Ht) : Bool := (h.1 != id) && askF L h.2.1 && !fits h.2.2 (goalF (modeL hs id h.2.1) L h.2.1)
structure RaIs (P : Ht → Bool) (hs : List Ht) (A : List Int) : Prop where
  up : A.Pairwise (· < ·)
  iff : ∀ x, x ∈ A ↔ ∃ h ∈ hs, P h = true ∧ h.1 = x
  len : A.length ≤ hs.length
theorem RaIs.nil (P : Ht → Bool) : RaIs P [] [] := ⟨List.Pairwise.nil, by simp, by simp⟩
theorem RaIs.put {P : Ht → Bool} {hs : List Ht} {A A' : List Int} {x : Ht} (h : RaIs P hs A) (hx : P x = true) (hp : PutIs A x.1 A') : RaIs P (hs ++ [x]) A' := by
  refine ⟨hp.rise, fun y => ?_, by have := hp.len; have := h.len; simp; omega⟩
  rw [hp.just, h.iff]
  constructor
  · rintro (rfl | ⟨z, hz, h1⟩)
    · exact ⟨x, by simp, hx, rfl⟩
    · exact ⟨z, by simp [hz], h1⟩
  · rintro ⟨z, hz, h1, h2⟩
    rcases List.mem_append.1 hz with hz | hz
    · exact .inr ⟨z, hz, h1, h2⟩
    · rw [List.mem_singleton] at hz
      subst hz
      exact .inl h2.symm
theorem RaIs.skip {P : Ht → Bool} {hs : List Ht} {A : List Int} {x : Ht} (h : RaIs P hs A) (hx : P x = false) : RaIs P (hs ++ [x]) A := by
  refine ⟨h.up, fun y => ?_, by have := h.len; simp; omega⟩
  rw [h.iff]
  constructor
  · rintro ⟨z, hz, h1⟩
    exact ⟨z, by simp [hz], h1⟩
  · rintro ⟨z, hz, h1, h2⟩
    rcases List.mem_append.1 hz with hz | hz
    · exact ⟨z, hz, h1, h2⟩
    · rw [List.mem_singleton] at hz
      subst hz
      rw [hx] at h1
      cases h1
set_option maxRecDepth 100000 in
set_option maxHeartbeats 4000000 in
theorem rask_any {w : World} {base rt : Nat} {v : Value} {hs : List Ht} (h : RtAt w base rt v hs) (hl : hs.length ≤ 1000000000) (id : Int) {al : Option Addr} {cl : Nat} {L : List (List UInt8 × Int)} (hL : Wl w al L) (hLl : L.length ≤ 1000000000) :
    Calls Try.prog 22 #[.pointer (some ⟨rt, 0, none⟩), .int .i64 id, .slice al L.length cl] w fun e w' => ∃ v A, e = .returned v ∧ w'.ownsRow w.heap.size 3 1 v (A : List Int).length (A.map icell) ∧ RaIs (badB hs L id) hs A ∧ Below w.heap.size w w' := by
  obtain ⟨ao, c, rfl⟩ := owns_len h.own
  have HR := hide h
  have HWL := hide hL
  have H38 : Hid (∀ (a : Int) (w : World), Calls Try.prog 38 #[.int .i64 a] w fun e w' => e = .returned (.bool (isMode a)) ∧ w' = w) := mode_any
  have H16 : Hid (∀ (a b : Int) (w : World), Calls Try.prog 16 #[.int .i64 a, .int .i64 b] w fun e w' => e = .returned (.bool (fits a b)) ∧ w' = w) := rfits_any
  have HGO : Hid (∀ s W, Below w.heap.size w W → Calls Try.prog 39 #[.pointer (some ⟨rt, 0, none⟩), .int .i64 id, .slice al L.length cl, scell s] W fun e w' => e = .returned (.int .i64 (goalF (modeL hs id s) L s)) ∧ w' = W) := fun s W hW => goal_any (HR.out.belowW hW) (by omega) id s (HWL.out.belowW hW) (by omega)
  have c0' := h.cell0
  have HC0 : Hid (∀ W, Below w.heap.size w W → W.cell? ⟨rt, 0, none⟩ = some (.slice ao hs.length c)) := fun W hW => (hW.cell (p := ⟨rt, 0, none⟩) (World.block_lt_of_cell? _ _ c0')).trans c0'
  clear h c0' hL
  obtain ⟨n, hn⟩ : ∃ n, hs.length = n := ⟨_, rfl⟩
  obtain ⟨m, hm⟩ : ∃ m, L.length = m := ⟨_, rfl⟩
  have HN := hide hn
  have HM := hide hm
  rw [hn] at hl HC0
  rw [hm] at hLl HGO ⊢
  have HC : Hid (∀ i x, hs[i]? = some x → ∃ g, ao = some ⟨g, 0, none⟩ ∧ w.cell? ⟨g, i * 3, none⟩ = some (.int .i64 x.1) ∧ w.cell? ⟨g, i * 3 + 1, none⟩ = some (scell x.2.1) ∧ w.cell? ⟨g, i * 3 + 2, none⟩ = some (.int .i64 x.2.2)) := fun i x hx => by
    obtain ⟨g, c', e, h1⟩ := HR.out.get hx
    injection e with e1
    exact ⟨g, e1, h1⟩
  clear hn hm HR
  generalize hP : badB hs L id = P
  have HP := hide hP
  clear hP
  go_enter Try.func22, Try.ntmps22
  go_upto_region 3 with fail
  go_loopw [7, 8] (fun u i wr => ∃ (k : Nat) (A : List Int), k ≤ n ∧ i = .int .i64 (k : Int) ∧ RaIs P (hs.take k) A ∧ wr.ownsRow w.heap.size 3 1 u A.length (A.map icell) ∧ Below w.heap.size w wr) (fun _ i _ => n - (intOf i).toNat)
  case atStart => exact ⟨0, [], by omega, rfl, RaIs.nil P, ⟨rfl, .inl ⟨rfl, rfl⟩⟩, Below.refl _ _⟩
  case round =>
    obtain ⟨k, A, hk, rfl, hA, hr, hB⟩ := hrel
    have HA := hide hA
    have HRW := hide hr
    have HB := hide hB
    have c0 := HC0.out _ hB
    clear hA hr hB
    by_cases hlt : k < n
    · obtain ⟨x, hx⟩ : ∃ x, hs[k]? = some x := ⟨_, List.getElem?_eq_getElem (by rw [HN.out]; exact hlt)⟩
      obtain ⟨g, hao, d1, d2, d3⟩ := HC.out k x hx
      subst hao
      have c1 := (HB.out.cell (p := ⟨g, k * 3, none⟩) (World.block_lt_of_cell? _ _ d1)).trans d1
      have c2 := (HB.out.cell (p := ⟨g, k * 3 + 1, none⟩) (World.block_lt_of_cell? _ _ d2)).trans d2
      have c3 := (HB.out.cell (p := ⟨g, k * 3 + 2, none⟩) (World.block_lt_of_cell? _ _ d3)).trans d3
      have HTK := hide (take_snoc hx)
      have HLT := hide hlt
      clear hx d1 d2 d3
      obtain ⟨y, s, md⟩ := x
      change wr.cell? ⟨g, k * 3, none⟩ = some (.int .i64 y) at c1
      change wr.cell? ⟨g, k * 3 + 1, none⟩ = some (scell s) at c2
      change wr.cell? ⟨g, k * 3 + 2, none⟩ = some (.int .i64 md) at c3
      go_upto_region 6 with fail
      have HB2 : Hid (Below w.heap.size w (wr.alloc (.cells #[.int .i64 y, scell s, .int .i64 md] 81))) := HB.out.trans ((Below.refl _ wr).alloc HB.out.size _)
      have HO2 : Hid ((wr.alloc (.cells #[.int .i64 y, scell s, .int .i64 md] 81)).ownsRow w.heap.size 3 1 u7 A.length (A.map icell)) := owns_below HRW.out ((Below.refl _ wr).alloc (Nat.le_refl _) _) (Nat.le_refl _)
      have HP9 : Hid ((wr.alloc (.cells #[.int .i64 y, scell s, .int .i64 md] 81)).heap[wr.heap.size]? = some (.cells #[.int .i64 y, scell s, .int .i64 md] 81 (0, 0))) := heap_alloc_new _ _
      clear c0 c1 c2 c3 HB HRW
      generalize wr.alloc (.cells #[.int .i64 y, scell s, .int .i64 md] 81) = W2 at *
      generalize wr.heap.size = p9 at *
      have HQ : Hid (∀ W, Below W2.heap.size W2 W → W.cell? ⟨p9, 0, none⟩ = some (.int .i64 y) ∧ W.cell? ⟨p9, 1, none⟩ = some (scell s) ∧ W.cell? ⟨p9, 2, none⟩ = some (.int .i64 md)) := fun W hW => by
        have h := (hW.block p9 (lt_of_heap HP9.out)).trans HP9.out
        exact ⟨by rw [cell_row h]; rfl, by rw [cell_row h]; rfl, by rw [cell_row h]; rfl⟩
      go_upto_region 8 with fail
      go_loopw [10, 11] (fun b i wr => ∃ j : Nat, j ≤ m ∧ i = .int .i64 (j : Int) ∧ b = .bool (askF (L.take j) s) ∧ Below W2.heap.size W2 wr) (fun _ i _ => m - (intOf i).toNat)
      case atStart => exact ⟨0, by omega, rfl, rfl, Below.refl _ _⟩
      case round =>
        obtain ⟨j, hj, rfl, rfl, hBB⟩ := hrel
        have HBB := hide hBB
        clear hBB
        by_cases hlj : j < m
        · have i2 : (j : Int) < (m : Int) := by omega
          obtain ⟨x, hx⟩ : ∃ x, L[j]? = some x := ⟨_, List.getElem?_eq_getElem (by rw [HM.out]; exact hlj)⟩
          obtain ⟨q, oo, hal, d1, d2⟩ := HWL.out j x hx
          subst hal
          have HX := hide (fun W (hW : Below W2.heap.size W2 W) => (Below.cell (HB2.out.trans (hW.mono HB2.out.size)) (p := ⟨q, oo + j * 2, none⟩) (World.block_lt_of_cell? _ _ d1)).trans d1)
          have HY := hide (fun W (hW : Below W2.heap.size W2 W) => (Below.cell (HB2.out.trans (hW.mono HB2.out.size)) (p := ⟨q, oo + j * 2 + 1, none⟩) (World.block_lt_of_cell? _ _ d2)).trans d2)
          have HAK := hide (askF_take hx s)
          have HLJ := hide hlj
          clear hx d1 d2
          obtain ⟨t, md2⟩ := x
          change Hid (∀ W, Below W2.heap.size W2 W → W.cell? ⟨q, oo + j * 2, none⟩ = some (scell t)) at HX
          change Hid (∀ W, Below W2.heap.size W2 W → W.cell? ⟨q, oo + j * 2 + 1, none⟩ = some (.int .i64 md2)) at HY
          change Hid (askF (L.take (j + 1)) s = (askF (L.take j) s || (decide (t = s) && isMode md2))) at HAK
          generalize askF (L.take j) s = b at *
          go_upto_region 10 with fail
          have hd : Below W2.heap.size W2 wr.drew := HBB.out.trans (below_drewN _ _ 1)
          refine wp_region_held_drew (S := fun W => Below W2.heap.size W2 W) (by kernel_rfl) hd (fun hH => ?_)
          cases b with
          | true =>
            refine take_to 0 34 (.bool true) rfl (by kernel_rfl) (by kernel_rfl) (by kernel_rfl) (fun _ _ _ h => h) rfl (by rfl) (fun w hw => by rfl) hH ?_
            simp only [Act.put, List.setIfInBounds_toArray, List.set_cons_zero, List.set_cons_succ]
            refine take_to 1 35 (.bool true) rfl (by kernel_rfl) (by kernel_rfl) (by kernel_rfl) (fun _ _ _ h => h) rfl (by rfl) (fun w hw => by rfl) hH ?_
            simp only [Act.put, List.setIfInBounds_toArray, List.set_cons_zero, List.set_cons_succ]
            refine skip_to 2 36 rfl (by kernel_rfl) (by kernel_rfl) (by kernel_rfl) (fun _ _ _ h => h) rfl (by rfl) hH ?_
            simp only [Act.put, List.setIfInBounds_toArray, List.set_cons_zero, List.set_cons_succ]
            refine skip_to 3 37 rfl (by kernel_rfl) (by kernel_rfl) (by kernel_rfl) (fun _ _ _ h => h) rfl (by rfl) hH ?_
            simp only [Act.put, List.setIfInBounds_toArray, List.set_cons_zero, List.set_cons_succ]
            refine skip_to 4 38 rfl (by kernel_rfl) (by kernel_rfl) (by kernel_rfl) (fun _ _ _ h => h) rfl (by rfl) hH ?_
            simp only [Act.put, List.setIfInBounds_toArray, List.set_cons_zero, List.set_cons_succ]
            refine skip_to 5 39 rfl (by kernel_rfl) (by kernel_rfl) (by kernel_rfl) (fun _ _ _ h => h) rfl (by rfl) hH ?_
            simp only [Act.put, List.setIfInBounds_toArray, List.set_cons_zero, List.set_cons_succ]
            refine skip_to 6 40 rfl (by kernel_rfl) (by kernel_rfl) (by kernel_rfl) (fun _ _ _ h => h) rfl (by rfl) hH ?_
            simp only [Act.put, List.setIfInBounds_toArray, List.set_cons_zero, List.set_cons_succ]
            refine skip_to 7 41 rfl (by kernel_rfl) (by kernel_rfl) (by kernel_rfl) (fun _ _ _ h => h) rfl (by rfl) hH ?_
            simp only [Act.put, List.setIfInBounds_toArray, List.set_cons_zero, List.set_cons_succ]
            refine skip_to 8 42 rfl (by kernel_rfl) (by kernel_rfl) (by kernel_rfl) (fun _ _ _ h => h) rfl (by rfl) hH ?_
            simp only [Act.put, List.setIfInBounds_toArray, List.set_cons_zero, List.set_cons_succ]
            refine skip_to 9 43 rfl (by kernel_rfl) (by kernel_rfl) (by kernel_rfl) (fun _ _ _ h => h) rfl (by rfl) hH ?_
            simp only [Act.put, List.setIfInBounds_toArray, List.set_cons_zero, List.set_cons_succ]
            refine skip_to 10 44 rfl (by kernel_rfl) (by kernel_rfl) (by kernel_rfl) (fun _ _ _ h => h) rfl (by rfl) hH ?_
            simp only [Act.put, List.setIfInBounds_toArray, List.set_cons_zero, List.set_cons_succ]
            refine skip_to 11 45 rfl (by kernel_rfl) (by kernel_rfl) (by kernel_rfl) (fun _ _ _ h => h) rfl (by rfl) hH ?_
            simp only [Act.put, List.setIfInBounds_toArray, List.set_cons_zero, List.set_cons_succ]
            refine skip_to 12 46 rfl (by kernel_rfl) (by kernel_rfl) (by kernel_rfl) (fun _ _ _ h => h) rfl (by rfl) hH ?_
            simp only [Act.put, List.setIfInBounds_toArray, List.set_cons_zero, List.set_cons_succ]
            refine skip_to 13 47 rfl (by kernel_rfl) (by kernel_rfl) (by kernel_rfl) (fun _ _ _ h => h) rfl (by rfl) hH ?_
            simp only [Act.put, List.setIfInBounds_toArray, List.set_cons_zero, List.set_cons_succ]
            refine skip_to 14 48 rfl (by kernel_rfl) (by kernel_rfl) (by kernel_rfl) (fun _ _ _ h => h) rfl (by rfl) hH ?_
            simp only [Act.put, List.setIfInBounds_toArray, List.set_cons_zero, List.set_cons_succ]
            refine skip_to 15 49 rfl (by kernel_rfl) (by kernel_rfl) (by kernel_rfl) (fun _ _ _ h => h) rfl (by rfl) hH ?_
            simp only [Act.put, List.setIfInBounds_toArray, List.set_cons_zero, List.set_cons_succ]
            refine skip_to 16 50 rfl (by kernel_rfl) (by kernel_rfl) (by kernel_rfl) (fun _ _ _ h => h) rfl (by rfl) hH ?_
            simp only [Act.put, List.setIfInBounds_toArray, List.set_cons_zero, List.set_cons_succ]
            refine skip_to 17 51 rfl (by kernel_rfl) (by kernel_rfl) (by kernel_rfl) (fun _ _ _ h => h) rfl (by rfl) hH ?_
            simp only [Act.put, List.setIfInBounds_toArray, List.set_cons_zero, List.set_cons_succ]
            refine take_to 18 52 (.bool true) rfl (by kernel_rfl) (by kernel_rfl) (by kernel_rfl) (fun _ _ _ h => h) rfl (by rfl) (fun w hw => by rfl) hH ?_
            simp only [Act.put, List.setIfInBounds_toArray, List.set_cons_zero, List.set_cons_succ]
            refine take_to 19 10 (.bool true) rfl (by kernel_rfl) (by kernel_rfl) (by kernel_rfl) (fun _ _ _ h => h) rfl (by rfl) (fun w hw => by rfl) hH ?_
            simp only [Act.put, List.setIfInBounds_toArray, List.set_cons_zero, List.set_cons_succ]
            refine wpAnyH_done (by kernel_rfl) ?_ _
            have HE := hide hH
            clear hH hd
            go_wp2
            refine ⟨⟨j + 1, by omega, by go_num, by rw [HAK.out]; simp, HE.out⟩, ?_⟩
            simp [intOf]
            omega
          | false =>
            refine take_to 0 34 (.bool false) rfl (by kernel_rfl) (by kernel_rfl) (by kernel_rfl) (fun _ _ _ h => h) rfl (by rfl) (fun w hw => by rfl) hH ?_
            simp only [Act.put, List.setIfInBounds_toArray, List.set_cons_zero, List.set_cons_succ]
            refine take_to 1 35 (.bool false) rfl (by kernel_rfl) (by kernel_rfl) (by kernel_rfl) (fun _ _ _ h => h) rfl (by rfl) (fun w hw => by rfl) hH ?_
            simp only [Act.put, List.setIfInBounds_toArray, List.set_cons_zero, List.set_cons_succ]
            refine take_to 2 36 (.slice (some ⟨q, oo, none⟩) m cl) rfl (by kernel_rfl) (by kernel_rfl) (by kernel_rfl) (fun _ _ _ h => h) rfl (by rfl) (fun w hw => by rfl) hH ?_
            simp only [Act.put, List.setIfInBounds_toArray, List.set_cons_zero, List.set_cons_succ]
            refine take_to 3 37 (.int .i64 (j : Int)) rfl (by kernel_rfl) (by kernel_rfl) (by kernel_rfl) (fun _ _ _ h => h) rfl (by rfl) (fun w hw => by rfl) hH ?_
            simp only [Act.put, List.setIfInBounds_toArray, List.set_cons_zero, List.set_cons_succ]
            refine take_to 4 38 (.pointer (some ⟨q, oo + j * 2, none⟩)) rfl (by kernel_rfl) (by kernel_rfl) (by kernel_rfl) (fun _ _ _ h => h) rfl (by rfl) (fun w hw => op_index _ _ 45 (.tmp 36) (.tmp 37) rfl (.slice (some ⟨q, oo, none⟩) m cl) (.int .i64 (j : Int)) _ rfl rfl (run_index45 w _ _ _ _ _ HLJ.out)) hH ?_
            simp only [Act.put, List.setIfInBounds_toArray, List.set_cons_zero, List.set_cons_succ]
            refine take_to 5 39 (.pointer (some ⟨q, oo + j * 2, none⟩)) rfl (by kernel_rfl) (by kernel_rfl) (by kernel_rfl) (fun _ _ _ h => h) rfl (by rfl) (fun w hw => by rfl) hH ?_
            simp only [Act.put, List.setIfInBounds_toArray, List.set_cons_zero, List.set_cons_succ]
            refine take_to 6 40 (scell t) rfl (by kernel_rfl) (by kernel_rfl) (by kernel_rfl) (fun _ _ _ h => h) rfl (by rfl) (fun w hw => op_load _ _ 9 (.tmp 39) rfl (.pointer (some ⟨q, oo + j * 2, none⟩)) _ rfl (run_loadAny w _ _ 9 _ Try.isAgg9 (HX.out w hw))) hH ?_
            simp only [Act.put, List.setIfInBounds_toArray, List.set_cons_zero, List.set_cons_succ]
            refine take_to 7 41 (.pointer (some ⟨p9, 1, none⟩)) rfl (by kernel_rfl) (by kernel_rfl) (by kernel_rfl) (fun _ _ _ h => h) rfl (by rfl) (fun w hw => by rfl) hH ?_
            simp only [Act.put, List.setIfInBounds_toArray, List.set_cons_zero, List.set_cons_succ]
            refine take_to 8 42 (scell s) rfl (by kernel_rfl) (by kernel_rfl) (by kernel_rfl) (fun _ _ _ h => h) rfl (by rfl) (fun w hw => op_load _ _ 9 (.tmp 41) rfl (.pointer (some ⟨p9, 1, none⟩)) _ rfl (run_loadAny w _ _ 9 _ Try.isAgg9 (HQ.out w hw).2.1)) hH ?_
            simp only [Act.put, List.setIfInBounds_toArray, List.set_cons_zero, List.set_cons_succ]
            by_cases hts : t = s
            · skip
              refine take_to 9 43 (.bool true) rfl (by kernel_rfl) (by kernel_rfl) (by kernel_rfl) (fun _ _ _ h => h) rfl (by rfl) (fun w hw => op_eqlstr _ _ (.tmp 40) (.tmp 42) _ rfl t s rfl rfl true (decide_eq_true hts)) hH ?_
              simp only [Act.put, List.setIfInBounds_toArray, List.set_cons_zero, List.set_cons_succ]
              refine take_to 10 44 (.bool true) rfl (by kernel_rfl) (by kernel_rfl) (by kernel_rfl) (fun _ _ _ h => h) rfl (by rfl) (fun w hw => by rfl) hH ?_
              simp only [Act.put, List.setIfInBounds_toArray, List.set_cons_zero, List.set_cons_succ]
              refine take_to 11 45 (.slice (some ⟨q, oo, none⟩) m cl) rfl (by kernel_rfl) (by kernel_rfl) (by kernel_rfl) (fun _ _ _ h => h) rfl (by rfl) (fun w hw => by rfl) hH ?_
              simp only [Act.put, List.setIfInBounds_toArray, List.set_cons_zero, List.set_cons_succ]
              refine take_to 12 46 (.int .i64 (j : Int)) rfl (by kernel_rfl) (by kernel_rfl) (by kernel_rfl) (fun _ _ _ h => h) rfl (by rfl) (fun w hw => by rfl) hH ?_
              simp only [Act.put, List.setIfInBounds_toArray, List.set_cons_zero, List.set_cons_succ]
              refine take_to 13 47 (.pointer (some ⟨q, oo + j * 2, none⟩)) rfl (by kernel_rfl) (by kernel_rfl) (by kernel_rfl) (fun _ _ _ h => h) rfl (by rfl) (fun w hw => op_index _ _ 45 (.tmp 45) (.tmp 46) rfl (.slice (some ⟨q, oo, none⟩) m cl) (.int .i64 (j : Int)) _ rfl rfl (run_index45 w _ _ _ _ _ HLJ.out)) hH ?_
              simp only [Act.put, List.setIfInBounds_toArray, List.set_cons_zero, List.set_cons_succ]
              refine take_to 14 48 (.pointer (some ⟨q, oo + j * 2 + 1, none⟩)) rfl (by kernel_rfl) (by kernel_rfl) (by kernel_rfl) (fun _ _ _ h => h) rfl (by rfl) (fun w hw => by rfl) hH ?_
              simp only [Act.put, List.setIfInBounds_toArray, List.set_cons_zero, List.set_cons_succ]
              refine take_to 15 49 (.int .i64 md2) rfl (by kernel_rfl) (by kernel_rfl) (by kernel_rfl) (fun _ _ _ h => h) rfl (by rfl) (fun w hw => op_load _ _ 3 (.tmp 48) rfl (.pointer (some ⟨q, oo + j * 2 + 1, none⟩)) _ rfl (run_loadAny w _ _ 3 _ Try.isAgg3 (HY.out w hw))) hH ?_
              simp only [Act.put, List.setIfInBounds_toArray, List.set_cons_zero, List.set_cons_succ]
              refine step_call1_to 16 50 38 rfl (by kernel_rfl) rfl (by rfl) (.tmp 49) _ rfl _ rfl Try.enters38 (H38.out _ _) ?_
              rintro e W3 ⟨rfl, hw3⟩
              have hH : Below W2.heap.size W2 W3 := by rw [hw3]; exact hH
              clear hw3
              refine ⟨_, rfl, hH, ?_⟩
              simp only [Act.put, List.setIfInBounds_toArray, List.set_cons_zero, List.set_cons_succ]
              refine take_to 17 51 (.bool (isMode md2)) rfl (by kernel_rfl) (by kernel_rfl) (by kernel_rfl) (fun _ _ _ h => h) rfl (by rfl) (fun w hw => by rfl) hH ?_
              simp only [Act.put, List.setIfInBounds_toArray, List.set_cons_zero, List.set_cons_succ]
              refine take_to 18 52 (.bool (isMode md2)) rfl (by kernel_rfl) (by kernel_rfl) (by kernel_rfl) (fun _ _ _ h => h) rfl (by rfl) (fun w hw => by rfl) hH ?_
              simp only [Act.put, List.setIfInBounds_toArray, List.set_cons_zero, List.set_cons_succ]
              refine take_to 19 10 (.bool (isMode md2)) rfl (by kernel_rfl) (by kernel_rfl) (by kernel_rfl) (fun _ _ _ h => h) rfl (by rfl) (fun w hw => by rfl) hH ?_
              simp only [Act.put, List.setIfInBounds_toArray, List.set_cons_zero, List.set_cons_succ]
              refine wpAnyH_done (by kernel_rfl) ?_ _
              have HE := hide hH
              clear hH hd
              go_wp2
              refine ⟨⟨j + 1, by omega, by go_num, by rw [HAK.out]; simp [hts], HE.out⟩, ?_⟩
              simp [intOf]
              omega
            · skip
              refine take_to 9 43 (.bool false) rfl (by kernel_rfl) (by kernel_rfl) (by kernel_rfl) (fun _ _ _ h => h) rfl (by rfl) (fun w hw => op_eqlstr _ _ (.tmp 40) (.tmp 42) _ rfl t s rfl rfl false (decide_eq_false hts)) hH ?_
              simp only [Act.put, List.setIfInBounds_toArray, List.set_cons_zero, List.set_cons_succ]
              refine take_to 10 44 (.bool false) rfl (by kernel_rfl) (by kernel_rfl) (by kernel_rfl) (fun _ _ _ h => h) rfl (by rfl) (fun w hw => by rfl) hH ?_
              simp only [Act.put, List.setIfInBounds_toArray, List.set_cons_zero, List.set_cons_succ]
              refine skip_to 11 45 rfl (by kernel_rfl) (by kernel_rfl) (by kernel_rfl) (fun _ _ _ h => h) rfl (by rfl) hH ?_
              simp only [Act.put, List.setIfInBounds_toArray, List.set_cons_zero, List.set_cons_succ]
              refine skip_to 12 46 rfl (by kernel_rfl) (by kernel_rfl) (by kernel_rfl) (fun _ _ _ h => h) rfl (by rfl) hH ?_
              simp only [Act.put, List.setIfInBounds_toArray, List.set_cons_zero, List.set_cons_succ]
              refine skip_to 13 47 rfl (by kernel_rfl) (by kernel_rfl) (by kernel_rfl) (fun _ _ _ h => h) rfl (by rfl) hH ?_
              simp only [Act.put, List.setIfInBounds_toArray, List.set_cons_zero, List.set_cons_succ]
              refine skip_to 14 48 rfl (by kernel_rfl) (by kernel_rfl) (by kernel_rfl) (fun _ _ _ h => h) rfl (by rfl) hH ?_
              simp only [Act.put, List.setIfInBounds_toArray, List.set_cons_zero, List.set_cons_succ]
              refine skip_to 15 49 rfl (by kernel_rfl) (by kernel_rfl) (by kernel_rfl) (fun _ _ _ h => h) rfl (by rfl) hH ?_
              simp only [Act.put, List.setIfInBounds_toArray, List.set_cons_zero, List.set_cons_succ]
              refine skip_to 16 50 rfl (by kernel_rfl) (by kernel_rfl) (by kernel_rfl) (fun _ _ _ h => h) rfl (by rfl) hH ?_
              simp only [Act.put, List.setIfInBounds_toArray, List.set_cons_zero, List.set_cons_succ]
              refine take_to 17 51 (.bool false) rfl (by kernel_rfl) (by kernel_rfl) (by kernel_rfl) (fun _ _ _ h => h) rfl (by rfl) (fun w hw => by rfl) hH ?_
              simp only [Act.put, List.setIfInBounds_toArray, List.set_cons_zero, List.set_cons_succ]
              refine take_to 18 52 (.bool false) rfl (by kernel_rfl) (by kernel_rfl) (by kernel_rfl) (fun _ _ _ h => h) rfl (by rfl) (fun w hw => by rfl) hH ?_
              simp only [Act.put, List.setIfInBounds_toArray, List.set_cons_zero, List.set_cons_succ]
              refine take_to 19 10 (.bool false) rfl (by kernel_rfl) (by kernel_rfl) (by kernel_rfl) (fun _ _ _ h => h) rfl (by rfl) (fun w hw => by rfl) hH ?_
              simp only [Act.put, List.setIfInBounds_toArray, List.set_cons_zero, List.set_cons_succ]
              refine wpAnyH_done (by kernel_rfl) ?_ _
              have HE := hide hH
              clear hH hd
              go_wp2
              refine ⟨⟨j + 1, by omega, by go_num, by rw [HAK.out]; simp [hts], HE.out⟩, ?_⟩
              simp [intOf]
              omega
        · obtain rfl : j = m := by omega
          have hdm : L.take j = L := List.take_of_length_le (by rw [HM.out]; exact Nat.le_refl _)
          rw [hdm]
          have HPX : Hid (P (y, s, md) = ((y != id) && askF L s && !fits md (goalF (modeL hs id s) L s))) := by rw [← HP.out]; rfl
          generalize askF L s = bk at *
          go_upto_region 11 with fail
          have hd : Below W2.heap.size W2 wr.drew := HBB.out.trans (below_drewN _ _ 1)
          refine wp_region_held_drew (S := fun W => Below W2.heap.size W2 W) (by kernel_rfl) hd (fun hH => ?_)
          refine take_to 0 53 (.pointer (some ⟨p9, 0, none⟩)) rfl (by kernel_rfl) (by kernel_rfl) (by kernel_rfl) (fun _ _ _ h => h) rfl (by rfl) (fun w hw => by rfl) hH ?_
          simp only [Act.put, List.setIfInBounds_toArray, List.set_cons_zero, List.set_cons_succ]
          refine take_to 1 54 (.int .i64 y) rfl (by kernel_rfl) (by kernel_rfl) (by kernel_rfl) (fun _ _ _ h => h) rfl (by rfl) (fun w hw => op_load _ _ 3 (.tmp 53) rfl (.pointer (some ⟨p9, 0, none⟩)) _ rfl (run_loadAny w _ _ 3 _ Try.isAgg3 (HQ.out w hw).1)) hH ?_
          simp only [Act.put, List.setIfInBounds_toArray, List.set_cons_zero, List.set_cons_succ]
          refine take_to 2 55 (.int .i64 id) rfl (by kernel_rfl) (by kernel_rfl) (by kernel_rfl) (fun _ _ _ h => h) rfl (by rfl) (fun w hw => by rfl) hH ?_
          simp only [Act.put, List.setIfInBounds_toArray, List.set_cons_zero, List.set_cons_succ]
          by_cases hy : y = id
          · skip
            refine take_to 3 56 (.bool false) rfl (by kernel_rfl) (by kernel_rfl) (by kernel_rfl) (fun _ _ _ h => h) rfl (by rfl) (fun w hw => op_neq3 _ _ (.tmp 54) (.tmp 55) _ rfl y id rfl rfl false (by simp [hy])) hH ?_
            simp only [Act.put, List.setIfInBounds_toArray, List.set_cons_zero, List.set_cons_succ]
            refine take_to 4 57 (.bool false) rfl (by kernel_rfl) (by kernel_rfl) (by kernel_rfl) (fun _ _ _ h => h) rfl (by rfl) (fun w hw => by rfl) hH ?_
            simp only [Act.put, List.setIfInBounds_toArray, List.set_cons_zero, List.set_cons_succ]
            refine skip_to 5 58 rfl (by kernel_rfl) (by kernel_rfl) (by kernel_rfl) (fun _ _ _ h => h) rfl (by rfl) hH ?_
            simp only [Act.put, List.setIfInBounds_toArray, List.set_cons_zero, List.set_cons_succ]
            refine take_to 6 59 (.bool false) rfl (by kernel_rfl) (by kernel_rfl) (by kernel_rfl) (fun _ _ _ h => h) rfl (by rfl) (fun w hw => by rfl) hH ?_
            simp only [Act.put, List.setIfInBounds_toArray, List.set_cons_zero, List.set_cons_succ]
            refine take_to 7 60 (.bool false) rfl (by kernel_rfl) (by kernel_rfl) (by kernel_rfl) (fun _ _ _ h => h) rfl (by rfl) (fun w hw => by rfl) hH ?_
            simp only [Act.put, List.setIfInBounds_toArray, List.set_cons_zero, List.set_cons_succ]
            refine skip_to 8 61 rfl (by kernel_rfl) (by kernel_rfl) (by kernel_rfl) (fun _ _ _ h => h) rfl (by rfl) hH ?_
            simp only [Act.put, List.setIfInBounds_toArray, List.set_cons_zero, List.set_cons_succ]
            refine skip_to 9 62 rfl (by kernel_rfl) (by kernel_rfl) (by kernel_rfl) (fun _ _ _ h => h) rfl (by rfl) hH ?_
            simp only [Act.put, List.setIfInBounds_toArray, List.set_cons_zero, List.set_cons_succ]
            refine skip_to 10 63 rfl (by kernel_rfl) (by kernel_rfl) (by kernel_rfl) (fun _ _ _ h => h) rfl (by rfl) hH ?_
            simp only [Act.put, List.setIfInBounds_toArray, List.set_cons_zero, List.set_cons_succ]
            refine skip_to 11 64 rfl (by kernel_rfl) (by kernel_rfl) (by kernel_rfl) (fun _ _ _ h => h) rfl (by rfl) hH ?_
            simp only [Act.put, List.setIfInBounds_toArray, List.set_cons_zero, List.set_cons_succ]
            refine skip_to 12 65 rfl (by kernel_rfl) (by kernel_rfl) (by kernel_rfl) (fun _ _ _ h => h) rfl (by rfl) hH ?_
            simp only [Act.put, List.setIfInBounds_toArray, List.set_cons_zero, List.set_cons_succ]
            refine skip_to 13 66 rfl (by kernel_rfl) (by kernel_rfl) (by kernel_rfl) (fun _ _ _ h => h) rfl (by rfl) hH ?_
            simp only [Act.put, List.setIfInBounds_toArray, List.set_cons_zero, List.set_cons_succ]
            refine skip_to 14 67 rfl (by kernel_rfl) (by kernel_rfl) (by kernel_rfl) (fun _ _ _ h => h) rfl (by rfl) hH ?_
            simp only [Act.put, List.setIfInBounds_toArray, List.set_cons_zero, List.set_cons_succ]
            refine skip_to 15 68 rfl (by kernel_rfl) (by kernel_rfl) (by kernel_rfl) (fun _ _ _ h => h) rfl (by rfl) hH ?_
            simp only [Act.put, List.setIfInBounds_toArray, List.set_cons_zero, List.set_cons_succ]
            refine skip_to 16 69 rfl (by kernel_rfl) (by kernel_rfl) (by kernel_rfl) (fun _ _ _ h => h) rfl (by rfl) hH ?_
            simp only [Act.put, List.setIfInBounds_toArray, List.set_cons_zero, List.set_cons_succ]
            refine skip_to 17 70 rfl (by kernel_rfl) (by kernel_rfl) (by kernel_rfl) (fun _ _ _ h => h) rfl (by rfl) hH ?_
            simp only [Act.put, List.setIfInBounds_toArray, List.set_cons_zero, List.set_cons_succ]
            refine take_to 18 71 (.bool false) rfl (by kernel_rfl) (by kernel_rfl) (by kernel_rfl) (fun _ _ _ h => h) rfl (by rfl) (fun w hw => by rfl) hH ?_
            simp only [Act.put, List.setIfInBounds_toArray, List.set_cons_zero, List.set_cons_succ]
            refine wpAnyH_done (by kernel_rfl) ?_ _
            have HE := hide (HB2.out.trans (hH.mono HB2.out.size))
            have HO3 := hide (owns_below HO2.out hH (Nat.le_refl _))
            clear hH hd
            go_wp2
            refine ⟨⟨k + 1, A, by have := HLT.out; omega, by go_num, by rw [HTK.out]; exact HA.out.skip (by rw [HPX.out]; simp [hy]), HO3.out, HE.out⟩, ?_⟩
            have := HLT.out
            simp [intOf]
            omega
          · skip
            refine take_to 3 56 (.bool true) rfl (by kernel_rfl) (by kernel_rfl) (by kernel_rfl) (fun _ _ _ h => h) rfl (by rfl) (fun w hw => op_neq3 _ _ (.tmp 54) (.tmp 55) _ rfl y id rfl rfl true (by simp [hy])) hH ?_
            simp only [Act.put, List.setIfInBounds_toArray, List.set_cons_zero, List.set_cons_succ]
            refine take_to 4 57 (.bool true) rfl (by kernel_rfl) (by kernel_rfl) (by kernel_rfl) (fun _ _ _ h => h) rfl (by rfl) (fun w hw => by rfl) hH ?_
            simp only [Act.put, List.setIfInBounds_toArray, List.set_cons_zero, List.set_cons_succ]
            refine take_to 5 58 (.bool bk) rfl (by kernel_rfl) (by kernel_rfl) (by kernel_rfl) (fun _ _ _ h => h) rfl (by rfl) (fun w hw => by rfl) hH ?_
            simp only [Act.put, List.setIfInBounds_toArray, List.set_cons_zero, List.set_cons_succ]
            cases bk with
            | false =>
              refine take_to 6 59 (.bool false) rfl (by kernel_rfl) (by kernel_rfl) (by kernel_rfl) (fun _ _ _ h => h) rfl (by rfl) (fun w hw => by rfl) hH ?_
              simp only [Act.put, List.setIfInBounds_toArray, List.set_cons_zero, List.set_cons_succ]
              refine take_to 7 60 (.bool false) rfl (by kernel_rfl) (by kernel_rfl) (by kernel_rfl) (fun _ _ _ h => h) rfl (by rfl) (fun w hw => by rfl) hH ?_
              simp only [Act.put, List.setIfInBounds_toArray, List.set_cons_zero, List.set_cons_succ]
              refine skip_to 8 61 rfl (by kernel_rfl) (by kernel_rfl) (by kernel_rfl) (fun _ _ _ h => h) rfl (by rfl) hH ?_
              simp only [Act.put, List.setIfInBounds_toArray, List.set_cons_zero, List.set_cons_succ]
              refine skip_to 9 62 rfl (by kernel_rfl) (by kernel_rfl) (by kernel_rfl) (fun _ _ _ h => h) rfl (by rfl) hH ?_
              simp only [Act.put, List.setIfInBounds_toArray, List.set_cons_zero, List.set_cons_succ]
              refine skip_to 10 63 rfl (by kernel_rfl) (by kernel_rfl) (by kernel_rfl) (fun _ _ _ h => h) rfl (by rfl) hH ?_
              simp only [Act.put, List.setIfInBounds_toArray, List.set_cons_zero, List.set_cons_succ]
              refine skip_to 11 64 rfl (by kernel_rfl) (by kernel_rfl) (by kernel_rfl) (fun _ _ _ h => h) rfl (by rfl) hH ?_
              simp only [Act.put, List.setIfInBounds_toArray, List.set_cons_zero, List.set_cons_succ]
              refine skip_to 12 65 rfl (by kernel_rfl) (by kernel_rfl) (by kernel_rfl) (fun _ _ _ h => h) rfl (by rfl) hH ?_
              simp only [Act.put, List.setIfInBounds_toArray, List.set_cons_zero, List.set_cons_succ]
              refine skip_to 13 66 rfl (by kernel_rfl) (by kernel_rfl) (by kernel_rfl) (fun _ _ _ h => h) rfl (by rfl) hH ?_
              simp only [Act.put, List.setIfInBounds_toArray, List.set_cons_zero, List.set_cons_succ]
              refine skip_to 14 67 rfl (by kernel_rfl) (by kernel_rfl) (by kernel_rfl) (fun _ _ _ h => h) rfl (by rfl) hH ?_
              simp only [Act.put, List.setIfInBounds_toArray, List.set_cons_zero, List.set_cons_succ]
              refine skip_to 15 68 rfl (by kernel_rfl) (by kernel_rfl) (by kernel_rfl) (fun _ _ _ h => h) rfl (by rfl) hH ?_
              simp only [Act.put, List.setIfInBounds_toArray, List.set_cons_zero, List.set_cons_succ]
              refine skip_to 16 69 rfl (by kernel_rfl) (by kernel_rfl) (by kernel_rfl) (fun _ _ _ h => h) rfl (by rfl) hH ?_
              simp only [Act.put, List.setIfInBounds_toArray, List.set_cons_zero, List.set_cons_succ]
              refine skip_to 17 70 rfl (by kernel_rfl) (by kernel_rfl) (by kernel_rfl) (fun _ _ _ h => h) rfl (by rfl) hH ?_
              simp only [Act.put, List.setIfInBounds_toArray, List.set_cons_zero, List.set_cons_succ]
              refine take_to 18 71 (.bool false) rfl (by kernel_rfl) (by kernel_rfl) (by kernel_rfl) (fun _ _ _ h => h) rfl (by rfl) (fun w hw => by rfl) hH ?_
              simp only [Act.put, List.setIfInBounds_toArray, List.set_cons_zero, List.set_cons_succ]
              refine wpAnyH_done (by kernel_rfl) ?_ _
              have HE := hide (HB2.out.trans (hH.mono HB2.out.size))
              have HO3 := hide (owns_below HO2.out hH (Nat.le_refl _))
              clear hH hd
              go_wp2
              refine ⟨⟨k + 1, A, by have := HLT.out; omega, by go_num, by rw [HTK.out]; exact HA.out.skip (by rw [HPX.out]; simp), HO3.out, HE.out⟩, ?_⟩
              have := HLT.out
              simp [intOf]
              omega
            | true =>
              refine take_to 6 59 (.bool true) rfl (by kernel_rfl) (by kernel_rfl) (by kernel_rfl) (fun _ _ _ h => h) rfl (by rfl) (fun w hw => by rfl) hH ?_
              simp only [Act.put, List.setIfInBounds_toArray, List.set_cons_zero, List.set_cons_succ]
              refine take_to 7 60 (.bool true) rfl (by kernel_rfl) (by kernel_rfl) (by kernel_rfl) (fun _ _ _ h => h) rfl (by rfl) (fun w hw => by rfl) hH ?_
              simp only [Act.put, List.setIfInBounds_toArray, List.set_cons_zero, List.set_cons_succ]
              refine take_to 8 61 (.pointer (some ⟨p9, 2, none⟩)) rfl (by kernel_rfl) (by kernel_rfl) (by kernel_rfl) (fun _ _ _ h => h) rfl (by rfl) (fun w hw => by rfl) hH ?_
              simp only [Act.put, List.setIfInBounds_toArray, List.set_cons_zero, List.set_cons_succ]
              refine take_to 9 62 (.int .i64 md) rfl (by kernel_rfl) (by kernel_rfl) (by kernel_rfl) (fun _ _ _ h => h) rfl (by rfl) (fun w hw => op_load _ _ 3 (.tmp 61) rfl (.pointer (some ⟨p9, 2, none⟩)) _ rfl (run_loadAny w _ _ 3 _ Try.isAgg3 (HQ.out w hw).2.2)) hH ?_
              simp only [Act.put, List.setIfInBounds_toArray, List.set_cons_zero, List.set_cons_succ]
              refine take_to 10 63 (.pointer (some ⟨rt, 0, none⟩)) rfl (by kernel_rfl) (by kernel_rfl) (by kernel_rfl) (fun _ _ _ h => h) rfl (by rfl) (fun w hw => by rfl) hH ?_
              simp only [Act.put, List.setIfInBounds_toArray, List.set_cons_zero, List.set_cons_succ]
              refine take_to 11 64 (.int .i64 id) rfl (by kernel_rfl) (by kernel_rfl) (by kernel_rfl) (fun _ _ _ h => h) rfl (by rfl) (fun w hw => by rfl) hH ?_
              simp only [Act.put, List.setIfInBounds_toArray, List.set_cons_zero, List.set_cons_succ]
              refine take_to 12 65 (.slice al j cl) rfl (by kernel_rfl) (by kernel_rfl) (by kernel_rfl) (fun _ _ _ h => h) rfl (by rfl) (fun w hw => by rfl) hH ?_
              simp only [Act.put, List.setIfInBounds_toArray, List.set_cons_zero, List.set_cons_succ]
              refine take_to 13 66 (.pointer (some ⟨p9, 1, none⟩)) rfl (by kernel_rfl) (by kernel_rfl) (by kernel_rfl) (fun _ _ _ h => h) rfl (by rfl) (fun w hw => by rfl) hH ?_
              simp only [Act.put, List.setIfInBounds_toArray, List.set_cons_zero, List.set_cons_succ]
              refine take_to 14 67 (scell s) rfl (by kernel_rfl) (by kernel_rfl) (by kernel_rfl) (fun _ _ _ h => h) rfl (by rfl) (fun w hw => op_load _ _ 9 (.tmp 66) rfl (.pointer (some ⟨p9, 1, none⟩)) _ rfl (run_loadAny w _ _ 9 _ Try.isAgg9 (HQ.out w hw).2.1)) hH ?_
              simp only [Act.put, List.setIfInBounds_toArray, List.set_cons_zero, List.set_cons_succ]
              refine step_call4_to 15 68 39 rfl (by kernel_rfl) rfl (by rfl) (.tmp 63) (.tmp 64) (.tmp 65) (.tmp 67) _ rfl _ _ _ _ rfl rfl rfl rfl Try.enters39 (HGO.out s _ (HB2.out.trans (hH.mono HB2.out.size))) ?_
              rintro e W3 ⟨rfl, hw3⟩
              have hH : Below W2.heap.size W2 W3 := by rw [hw3]; exact hH
              clear hw3
              refine ⟨_, rfl, hH, ?_⟩
              simp only [Act.put, List.setIfInBounds_toArray, List.set_cons_zero, List.set_cons_succ]
              generalize goalF (modeL hs id s) L s = gl at *
              refine step_call2_to 16 69 16 rfl (by kernel_rfl) rfl (by rfl) (.tmp 62) (.tmp 68) _ rfl _ _ rfl rfl Try.enters16 (H16.out _ _ _) ?_
              rintro e W4 ⟨rfl, hw4⟩
              have hH : Below W2.heap.size W2 W4 := by rw [hw4]; exact hH
              clear hw4
              refine ⟨_, rfl, hH, ?_⟩
              simp only [Act.put, List.setIfInBounds_toArray, List.set_cons_zero, List.set_cons_succ]
              cases hft : fits md gl with
              | true =>
                refine take_to 17 70 (.bool false) rfl (by kernel_rfl) (by kernel_rfl) (by kernel_rfl) (fun _ _ _ h => h) rfl (by rfl) (fun w hw => by rfl) hH ?_
                simp only [Act.put, List.setIfInBounds_toArray, List.set_cons_zero, List.set_cons_succ]
                refine take_to 18 71 (.bool false) rfl (by kernel_rfl) (by kernel_rfl) (by kernel_rfl) (fun _ _ _ h => h) rfl (by rfl) (fun w hw => by rfl) hH ?_
                simp only [Act.put, List.setIfInBounds_toArray, List.set_cons_zero, List.set_cons_succ]
                refine wpAnyH_done (by kernel_rfl) ?_ _
                have HE := hide (HB2.out.trans (hH.mono HB2.out.size))
                have HO3 := hide (owns_below HO2.out hH (Nat.le_refl _))
                clear hH hd
                go_wp2
                refine ⟨⟨k + 1, A, by have := HLT.out; omega, by go_num, by rw [HTK.out]; exact HA.out.skip (by rw [HPX.out]; simp [hft]), HO3.out, HE.out⟩, ?_⟩
                have := HLT.out
                simp [intOf]
                omega
              | false =>
                refine take_to 17 70 (.bool true) rfl (by kernel_rfl) (by kernel_rfl) (by kernel_rfl) (fun _ _ _ h => h) rfl (by rfl) (fun w hw => by rfl) hH ?_
                simp only [Act.put, List.setIfInBounds_toArray, List.set_cons_zero, List.set_cons_succ]
                refine take_to 18 71 (.bool true) rfl (by kernel_rfl) (by kernel_rfl) (by kernel_rfl) (fun _ _ _ h => h) rfl (by rfl) (fun w hw => by rfl) hH ?_
                simp only [Act.put, List.setIfInBounds_toArray, List.set_cons_zero, List.set_cons_succ]
                refine wpAnyH_done (by kernel_rfl) ?_ _
                have HE := hide (HB2.out.trans (hH.mono HB2.out.size))
                have HO3 := hide (owns_below HO2.out hH (Nat.le_refl _))
                have hq0 := (HQ.out _ hH).1
                have hPU := put_any (Row.of_owns HO3.out) (by have := HA.out.len; rw [List.length_take] at this; omega) HA.out.up y
                have HPU := hide hPU
                clear hPU hH hd
                go_wp2_with (go_at_call 40; refine HPU.out.mono ?_; rintro e x4 ⟨v4, A4, rfl, hr4, hp4, hb4⟩; have HR4 := hide hr4; have HP4 := hide hp4; have HB4 := hide hb4; clear hr4 hp4 hb4)
                refine ⟨⟨k + 1, A4, by have := HLT.out; omega, by go_num, by rw [HTK.out]; exact HA.out.put (by rw [HPX.out]; simp [hy, hft]) HP4.out, owns_mono HR4.out HE.out.size, HE.out.trans (HB4.out.mono HE.out.size)⟩, ?_⟩
                have := HLT.out
                simp [intOf]
                omega
    · obtain rfl : k = n := by omega
      have hd : hs.take k = hs := List.take_of_length_le (by rw [HN.out]; exact Nat.le_refl _)
      rw [hd] at HA
      go_wp2
      go_ret
      exact ⟨_, A, rfl, HRW.out, HA.out, HB.out⟩
end Go.Proofs.Ytffjdjbjkjefoaa
