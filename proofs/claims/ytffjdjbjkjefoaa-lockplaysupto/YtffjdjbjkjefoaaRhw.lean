/- Held, the document's way: the walk. -/
import Derived.Test.YtffjdjbjkjefoaaRhp
namespace Go.Proofs.Ytffjdjbjkjefoaa
open Go.RowKit Go.WideAt
set_option linter.unusedVariables false
set_option linter.unusedSimpArgs false

theorem HsIs.skip {hs : List Ht} {id : Int} {F : List Wn} {x : Ht} (h : HsIs hs id F) (hx : x.1 ≠ id) : HsIs (hs ++ [x]) id F :=
  ⟨h.up, fun s md => by
    rw [h.iff, List.mem_append, List.mem_singleton]
    constructor
    · exact .inl
    · rintro (h1 | h1)
      · exact h1
      · exact absurd (by rw [← h1]) hx, by have := h.len; simp; omega⟩
theorem HsIs.ins {hs : List Ht} {id : Int} {F : List Wn} {s : List UInt8} {md : Int} {p : Nat} (h : HsIs hs id F) (hp : p ≤ F.length) (h1 : ∀ y ∈ F.drop p, blt s y.1 = true) (h2 : p = 0 ∨ ∃ y, F[p - 1]? = some y ∧ blt s y.1 = false) (hne : ∀ y ∈ F, y.1 ≠ s) : HsIs (hs ++ [(id, s, md)]) id (F.take p ++ (s, md) :: F.drop p) :=
  ⟨ins_up (x := (s, md)) h.up hp h1 h2 hne, fun t q => by
    rw [ins_mem, h.iff, List.mem_append, List.mem_singleton]
    constructor
    · rintro (e | e)
      · injection e with e1 e2
        subst e1 e2
        exact .inr rfl
      · exact .inl e
    · rintro (e | e)
      · exact .inr e
      · injection e with _ e
        exact .inl e, by have := h.len; rw [ins_len hp]; simp; omega⟩
set_option maxRecDepth 100000 in
set_option maxHeartbeats 4000000 in
theorem rheld_any {w : World} {base rt : Nat} {v : Value} {hs : List Ht} (h : RtAt w base rt v hs) (hl : hs.length ≤ 1000000000) (hnd : ∀ (k : Nat) (x : Ht), hs[k]? = some x → ∀ z ∈ hs.take k, z.1 = x.1 → z.2.1 ≠ x.2.1) (id : Int) :
    Calls Try.prog 24 #[.pointer (some ⟨rt, 0, none⟩), .int .i64 id] w fun e w' => ∃ ap d F, e = .returned (.slice ap (F : List Wn).length d) ∧ HsIs hs id F ∧ Wl w' ap F ∧ Below w.heap.size w w' := by
  obtain ⟨ao, c, rfl⟩ := owns_len h.own
  have HR := hide h
  have HND := hide hnd
  have c0' := h.cell0
  have HC0 : Hid (∀ W, Below w.heap.size w W → W.cell? ⟨rt, 0, none⟩ = some (.slice ao hs.length c)) := fun W hW => (hW.cell (p := ⟨rt, 0, none⟩) (World.block_lt_of_cell? _ _ c0')).trans c0'
  clear h c0' hnd
  obtain ⟨n, hn⟩ : ∃ n, hs.length = n := ⟨_, rfl⟩
  have HN := hide hn
  rw [hn] at hl HC0
  have HC : Hid (∀ i x, hs[i]? = some x → ∃ g, ao = some ⟨g, 0, none⟩ ∧ w.cell? ⟨g, i * 3, none⟩ = some (.int .i64 x.1) ∧ w.cell? ⟨g, i * 3 + 1, none⟩ = some (scell x.2.1) ∧ w.cell? ⟨g, i * 3 + 2, none⟩ = some (.int .i64 x.2.2)) := fun i x hx => by
    obtain ⟨g, c', e, h1⟩ := HR.out.get hx
    injection e with e1
    exact ⟨g, e1, h1⟩
  clear hn HR
  go_enter Try.func24, Try.ntmps24
  go_upto_region 3 with fail
  go_loopw [5, 6] (fun u i wr => ∃ (k : Nat) (F : List Wn), k ≤ n ∧ i = .int .i64 (k : Int) ∧ HsIs (hs.take k) id F ∧ wr.ownsRow w.heap.size 50 2 u F.length (flatW F) ∧ Below w.heap.size w wr) (fun _ i _ => n - (intOf i).toNat)
  case atStart => exact ⟨0, [], by omega, rfl, ⟨List.Pairwise.nil, by simp, by simp⟩, ⟨rfl, .inl ⟨rfl, rfl⟩⟩, Below.refl _ _⟩
  case round =>
    obtain ⟨k, F, hk, rfl, hA, hr, hB⟩ := hrel
    have HA := hide hA
    have HRW := hide hr
    have HB := hide hB
    have c0 := HC0.out _ hB
    clear hA hr hB
    by_cases hlt : k < n
    · obtain ⟨x, hx⟩ : ∃ x, hs[k]? = some x := ⟨_, List.getElem?_eq_getElem (by rw [HN.out]; exact hlt)⟩
      obtain ⟨g, hao, d1, d2, d3⟩ := HC.out k x hx
      subst hao
      have HNX := hide (HND.out k x hx)
      have HTK := hide (take_snoc hx)
      have HLT := hide hlt
      obtain ⟨y, s, md⟩ := x
      have HX1 : Hid (∀ W, Below w.heap.size w W → W.cell? ⟨g, k * 3, none⟩ = some (.int .i64 y)) := fun W hW => (hW.cell (p := ⟨g, k * 3, none⟩) (World.block_lt_of_cell? _ _ d1)).trans d1
      have HX2 : Hid (∀ W, Below w.heap.size w W → W.cell? ⟨g, k * 3 + 1, none⟩ = some (scell s)) := fun W hW => (hW.cell (p := ⟨g, k * 3 + 1, none⟩) (World.block_lt_of_cell? _ _ d2)).trans d2
      have HX3 : Hid (∀ W, Below w.heap.size w W → W.cell? ⟨g, k * 3 + 2, none⟩ = some (.int .i64 md)) := fun W hW => (hW.cell (p := ⟨g, k * 3 + 2, none⟩) (World.block_lt_of_cell? _ _ d3)).trans d3
      have c1 := HX1.out _ HB.out
      have hlF : F.length ≤ 1000000000 := by have h1 := HA.out.len; rw [List.length_take] at h1; omega
      clear hx d1 d2 d3
      by_cases hy : y = id
      · have hy' : (y != id) = false := by simp [hy]
        go_upto_region 6 with fail
        have hd : Below w.heap.size w wr.drew := HB.out.trans (below_drewN _ _ 1)
        refine wp_region_held_drew (S := fun W => Below w.heap.size w W) (by kernel_rfl) hd (fun hH => ?_)
        refine take_to 0 28 (.pointer (some ⟨rt, 0, none⟩)) rfl (by kernel_rfl) (by kernel_rfl) (by kernel_rfl) (fun _ _ _ h => h) rfl (by rfl) (fun w hw => by rfl) hH ?_
        simp only [Act.put, List.setIfInBounds_toArray, List.set_cons_zero, List.set_cons_succ]
        refine take_to 1 29 (.pointer (some ⟨rt, 0, none⟩)) rfl (by kernel_rfl) (by kernel_rfl) (by kernel_rfl) (fun _ _ _ h => h) rfl (by rfl) (fun w hw => by rfl) hH ?_
        simp only [Act.put, List.setIfInBounds_toArray, List.set_cons_zero, List.set_cons_succ]
        refine take_to 2 30 (.pointer (some ⟨rt, 0, none⟩)) rfl (by kernel_rfl) (by kernel_rfl) (by kernel_rfl) (fun _ _ _ h => h) rfl (by rfl) (fun w hw => by rfl) hH ?_
        simp only [Act.put, List.setIfInBounds_toArray, List.set_cons_zero, List.set_cons_succ]
        refine take_to 3 31 (.slice (some ⟨g, 0, none⟩) n c) rfl (by kernel_rfl) (by kernel_rfl) (by kernel_rfl) (fun _ _ _ h => h) rfl (by rfl) (fun w hw => op_load _ _ 39 (.tmp 30) rfl (.pointer (some ⟨rt, 0, none⟩)) _ rfl (run_loadAny w _ _ 39 _ (fun w => by kernel_rfl) (HC0.out w hw))) hH ?_
        simp only [Act.put, List.setIfInBounds_toArray, List.set_cons_zero, List.set_cons_succ]
        refine take_to 4 32 (.int .i64 (k : Int)) rfl (by kernel_rfl) (by kernel_rfl) (by kernel_rfl) (fun _ _ _ h => h) rfl (by rfl) (fun w hw => by rfl) hH ?_
        simp only [Act.put, List.setIfInBounds_toArray, List.set_cons_zero, List.set_cons_succ]
        refine take_to 5 33 (.pointer (some ⟨g, k * 3, none⟩)) rfl (by kernel_rfl) (by kernel_rfl) (by kernel_rfl) (fun _ _ _ h => h) rfl (by rfl) (fun w hw => op_index _ _ 39 (.tmp 31) (.tmp 32) rfl (.slice (some ⟨g, 0, none⟩) n c) (.int .i64 (k : Int)) _ rfl rfl (run_index39 w _ _ _ _ HLT.out)) hH ?_
        simp only [Act.put, List.setIfInBounds_toArray, List.set_cons_zero, List.set_cons_succ]
        refine take_to 6 34 (.pointer (some ⟨g, k * 3 + 1, none⟩)) rfl (by kernel_rfl) (by kernel_rfl) (by kernel_rfl) (fun _ _ _ h => h) rfl (by rfl) (fun w hw => by rfl) hH ?_
        simp only [Act.put, List.setIfInBounds_toArray, List.set_cons_zero, List.set_cons_succ]
        refine take_to 7 35 (scell s) rfl (by kernel_rfl) (by kernel_rfl) (by kernel_rfl) (fun _ _ _ h => h) rfl (by rfl) (fun w hw => op_load _ _ 9 (.tmp 34) rfl (.pointer (some ⟨g, k * 3 + 1, none⟩)) _ rfl (run_loadAny w _ _ 9 _ Try.isAgg9 (HX2.out w hw))) hH ?_
        simp only [Act.put, List.setIfInBounds_toArray, List.set_cons_zero, List.set_cons_succ]
        refine take_to 8 36 (.pointer (some ⟨rt, 0, none⟩)) rfl (by kernel_rfl) (by kernel_rfl) (by kernel_rfl) (fun _ _ _ h => h) rfl (by rfl) (fun w hw => by rfl) hH ?_
        simp only [Act.put, List.setIfInBounds_toArray, List.set_cons_zero, List.set_cons_succ]
        refine take_to 9 37 (.pointer (some ⟨rt, 0, none⟩)) rfl (by kernel_rfl) (by kernel_rfl) (by kernel_rfl) (fun _ _ _ h => h) rfl (by rfl) (fun w hw => by rfl) hH ?_
        simp only [Act.put, List.setIfInBounds_toArray, List.set_cons_zero, List.set_cons_succ]
        refine take_to 10 38 (.pointer (some ⟨rt, 0, none⟩)) rfl (by kernel_rfl) (by kernel_rfl) (by kernel_rfl) (fun _ _ _ h => h) rfl (by rfl) (fun w hw => by rfl) hH ?_
        simp only [Act.put, List.setIfInBounds_toArray, List.set_cons_zero, List.set_cons_succ]
        refine take_to 11 39 (.slice (some ⟨g, 0, none⟩) n c) rfl (by kernel_rfl) (by kernel_rfl) (by kernel_rfl) (fun _ _ _ h => h) rfl (by rfl) (fun w hw => op_load _ _ 39 (.tmp 38) rfl (.pointer (some ⟨rt, 0, none⟩)) _ rfl (run_loadAny w _ _ 39 _ (fun w => by kernel_rfl) (HC0.out w hw))) hH ?_
        simp only [Act.put, List.setIfInBounds_toArray, List.set_cons_zero, List.set_cons_succ]
        refine take_to 12 40 (.int .i64 (k : Int)) rfl (by kernel_rfl) (by kernel_rfl) (by kernel_rfl) (fun _ _ _ h => h) rfl (by rfl) (fun w hw => by rfl) hH ?_
        simp only [Act.put, List.setIfInBounds_toArray, List.set_cons_zero, List.set_cons_succ]
        refine take_to 13 41 (.pointer (some ⟨g, k * 3, none⟩)) rfl (by kernel_rfl) (by kernel_rfl) (by kernel_rfl) (fun _ _ _ h => h) rfl (by rfl) (fun w hw => op_index _ _ 39 (.tmp 39) (.tmp 40) rfl (.slice (some ⟨g, 0, none⟩) n c) (.int .i64 (k : Int)) _ rfl rfl (run_index39 w _ _ _ _ HLT.out)) hH ?_
        simp only [Act.put, List.setIfInBounds_toArray, List.set_cons_zero, List.set_cons_succ]
        refine take_to 14 42 (.pointer (some ⟨g, k * 3 + 2, none⟩)) rfl (by kernel_rfl) (by kernel_rfl) (by kernel_rfl) (fun _ _ _ h => h) rfl (by rfl) (fun w hw => by rfl) hH ?_
        simp only [Act.put, List.setIfInBounds_toArray, List.set_cons_zero, List.set_cons_succ]
        refine take_to 15 43 (.int .i64 md) rfl (by kernel_rfl) (by kernel_rfl) (by kernel_rfl) (fun _ _ _ h => h) rfl (by rfl) (fun w hw => op_load _ _ 3 (.tmp 42) rfl (.pointer (some ⟨g, k * 3 + 2, none⟩)) _ rfl (run_loadAny w _ _ 3 _ Try.isAgg3 (HX3.out w hw))) hH ?_
        simp only [Act.put, List.setIfInBounds_toArray, List.set_cons_zero, List.set_cons_succ]
        refine take_to 16 44 (.agg #[.string (strOf s), .int .i64 md]) rfl (by kernel_rfl) (by kernel_rfl) (by kernel_rfl) (fun _ _ _ h => h) rfl (by rfl) (fun w hw => op_build50 _ _ (.tmp 35) (.tmp 43) rfl (strOf s) md rfl rfl) hH ?_
        simp only [Act.put, List.setIfInBounds_toArray, List.set_cons_zero, List.set_cons_succ]
        have HRD : Hid (wr.drew.ownsRow w.heap.size 50 2 u5 F.length (flatW F)) := owns_below HRW.out (below_drewN _ wr 1) (Nat.le_refl _)
        generalize wr.drew = W1 at *
        have hB2 : Below w.heap.size w (W1.alloc (.cells #[.string ⟨#[]⟩, .int .i64 0] 50)) := hd.trans ((Below.refl _ W1).alloc hd.size _)
        refine step_to 17 7 (.pointer (some ⟨W1.heap.size, 0, none⟩)) (W1.alloc (.cells #[.string ⟨#[]⟩, .int .i64 0] 50)) rfl (by kernel_rfl) rfl (by rfl) (op_alloc50 _ _ rfl _) hB2 ?_
        simp only [Act.put, List.setIfInBounds_toArray, List.set_cons_zero, List.set_cons_succ]
        have hnew : (W1.alloc (.cells #[.string ⟨#[]⟩, .int .i64 0] 50)).heap[W1.heap.size]? = some (.cells #[.string ⟨#[]⟩, .int .i64 0] 50 (0, 0)) := heap_alloc_new _ _
        have HR2 := hide (owns_below HRD.out ((Below.refl _ W1).alloc (Nat.le_refl _) (.cells #[.string ⟨#[]⟩, .int .i64 0] 50)) (Nat.le_refl _))
        have hnb : ∀ b, u5.ownBlock = some b → b < W1.heap.size := fun b hb => (HRD.out.lt b hb).2
        have hws : w.heap.size ≤ W1.heap.size := hd.size
        have hlr0 : W1.heap.size < (W1.alloc (.cells #[.string ⟨#[]⟩, .int .i64 0] 50)).heap.size := lt_of_heap hnew
        generalize W1.alloc (.cells #[.string ⟨#[]⟩, .int .i64 0] 50) = W2 at *
        generalize W1.heap.size = p7 at *
        have hst := run_storeAt_in (P := Try.prog) W2 p7 0 50 50 #[.string ⟨#[]⟩, .int .i64 0] [scell s, .int .i64 md] hnew (by simp) (by kernel_rfl) (by intro v hv; simp at hv; rcases hv with rfl | rfl <;> rfl)
        have hB3 : Below w.heap.size w (W2.setRow p7 #[scell s, .int .i64 md]) := ⟨hB2.os, hB2.tape, hB2.output, by simpa [World.setRow] using hB2.size, fun j hj => (setRow_other _ _ _ _ (by omega)).trans (hB2.block j hj)⟩
        refine step_store_to 18 (W2.setRow p7 #[scell s, .int .i64 md]) rfl (by kernel_rfl) rfl (by rfl) 50 (.tmp 7) (.tmp 44) rfl _ _ rfl rfl hst hB3 ?_
        refine wpAnyH_done (by kernel_rfl) ?_ _
        have HP7 : Hid ((W2.setRow p7 #[scell s, .int .i64 md]).heap[p7]? = some (.cells #[scell s, .int .i64 md] 50 (0, 0))) := setRow_heap _ _ _ _ _ _ hnew
        have HR3 : Hid ((W2.setRow p7 #[scell s, .int .i64 md]).ownsRow w.heap.size 50 2 u5 F.length (flatW F)) := owns_stay HR2.out fun b hb => setRow_other _ _ _ _ (by have := hnb b hb; omega)
        have HB3 := hide hB3
        have HLP : Hid (p7 < (W2.setRow p7 #[scell s, .int .i64 md]).heap.size) := lt_of_heap HP7.out
        clear hst hB3 hnew hB2 HR2 hd hH HRD HRW HB hlr0
        generalize W2.setRow p7 #[scell s, .int .i64 md] = W3 at *
        have q0 : W3.cell? ⟨p7, 0, none⟩ = some (scell s) := by rw [cell_row HP7.out]; rfl
        have q1 : W3.cell? ⟨p7, 1, none⟩ = some (.int .i64 md) := by rw [cell_row HP7.out]; rfl
        obtain ⟨au, cu, rfl⟩ := owns_len HR3.out
        go_upto_region 8 with fail
        have hbs := build45 (strOf s) md W3
        have HNW : Hid ((W3.alloc (.cells #[scell s, .int .i64 md] 50)).heap[W3.heap.size]? = some (.cells #[scell s, .int .i64 md] 50 (0, 0))) := heap_alloc_new _ _
        have HB4 : Hid (Below w.heap.size w (W3.alloc (.cells #[scell s, .int .i64 md] 50))) := HB3.out.trans ((Below.refl _ W3).alloc HB3.out.size _)
        have HR4 : Hid ((W3.alloc (.cells #[scell s, .int .i64 md] 50)).ownsRow w.heap.size 50 2 (.slice au F.length cu) F.length (flatW F)) := owns_below HR3.out ((Below.refl _ W3).alloc (Nat.le_refl _) _) (Nat.le_refl _)
        have HP4 : Hid ((W3.alloc (.cells #[scell s, .int .i64 md] 50)).heap[p7]? = some (.cells #[scell s, .int .i64 md] 50 (0, 0))) := (((Below.refl _ W3).alloc (Nat.le_refl _) _).block p7 HLP.out).trans HP7.out
        have hps : p7 < (W3.alloc (.cells #[scell s, .int .i64 md] 50)).heap.size := lt_of_heap HP4.out
        obtain ⟨v4, W5, r1, r2, r3, r4⟩ := run_append_want HR4.out 45 W3.heap.size (scell s) (.int .i64 md) rfl rfl HNW.out (by omega) HB4.out.size
        rcases own_of r2 with ⟨_, h0, _⟩ | ⟨g4, c4, cur, rfl, hg4, hcur, _⟩
        · omega
        have HG4 : Hid (p7 ≠ g4) := by
          rintro rfl
          rcases r4 with e | e
          · exact absurd (hnb _ e.symm) (Nat.lt_irrefl _)
          · have e' : p7 = (W3.alloc (.cells #[scell s, .int .i64 md] 50)).heap.size := Option.some.inj e
            rw [← e'] at hps
            exact Nat.lt_irrefl _ hps
        have HB5 := hide (HB4.out.grown r3 HB4.out.size (fun b hb => (HR4.out.lt b hb).1))
        have HP5 : Hid (W5.heap[p7]? = some (.cells #[scell s, .int .i64 md] 50 (0, 0))) := (r3.block p7 hps (fun e => Nat.lt_irrefl _ (hnb _ e.symm))).trans HP4.out
        have HR5 : Hid (W5.ownsRow w.heap.size 50 2 (.slice (some ⟨g4, 0, none⟩) (F.length + 1) c4) (F.length + 1) (flatW (F ++ [(s, md)]))) := by
          show W5.ownsRow _ _ _ _ _ (flatW (F ++ [(s, md)]))
          rw [flatW_snoc]
          exact r2
        clear r2 r3 r4 hcur
        go_upto_region 9 with (refine wpList_append_run rfl (.tmp 47) (.tmp 49) 45 rfl _ _ _ _ rfl rfl r1 ?_)
        clear r1 hbs HNW HB4 HR4 HP4 hps q0 q1 HP7 HR3 HB3
        obtain ⟨wo, hwo⟩ : ∃ wo : World, wo = wr := ⟨_, rfl⟩
        go_loopw [8] (fun i wr => ∃ (p : Nat) (j : Wn), p ≤ F.length ∧ i = .int .i64 (p : Int) ∧ (∀ y ∈ F.drop p, blt s y.1 = true) ∧ wr.ownsRow w.heap.size 50 2 (.slice (some ⟨g4, 0, none⟩) (F.length + 1) c4) (F.length + 1) (flatW (F.take p ++ j :: F.drop p)) ∧ wr.heap[p7]? = some (.cells #[scell s, .int .i64 md] 50 (0, 0)) ∧ Below w.heap.size w wr) (fun i _ => (intOf i).toNat)
        case atStart => exact ⟨F.length, (s, md), Nat.le_refl _, rfl, by simp, by simpa using HR5.out, HP5.out, HB5.out⟩
        case round =>
          clear HR5 HP5 HB5
          obtain ⟨p, j, hp, rfl, hdp, hr, h7, hB⟩ := hrel
          have HDP := hide hdp
          have HR6 : Hid (wr.drew.ownsRow w.heap.size 50 2 (.slice (some ⟨g4, 0, none⟩) (F.length + 1) c4) (F.length + 1) (flatW (F.take p ++ j :: F.drop p))) := owns_below hr (below_drewN _ wr 1) (Nat.le_refl _)
          have H7 : Hid (wr.drew.heap[p7]? = some (.cells #[scell s, .int .i64 md] 50 (0, 0))) := h7
          have HB6 : Hid (Below w.heap.size w wr.drew) := hB.trans (below_drewN _ _ 1)
          have HPL := hide hp
          clear hdp hr h7 hB
          go_upto_region 9 with fail
          by_cases hp0 : p = 0
          · have HIE : Hid (p = 0 ∨ ∃ y, F[p - 1]? = some y ∧ blt s y.1 = false) := .inl hp0
            refine wp_region_held_drew (S := fun W => True) (by kernel_rfl) trivial (fun hH => ?_)
            refine take_to 0 51 (.int .i64 (p : Int)) rfl (by kernel_rfl) (by kernel_rfl) (by kernel_rfl) (fun _ _ _ h => h) rfl (by rfl) (fun w hw => by rfl) hH ?_
            simp only [Act.put, List.setIfInBounds_toArray, List.set_cons_zero, List.set_cons_succ]
            refine take_to 1 52 (.bool false) rfl (by kernel_rfl) (by kernel_rfl) (by kernel_rfl) (fun _ _ _ h => h) rfl (by rfl) (fun w hw => op_gtr3 _ _ (.tmp 51) (.const (.int .i64 0)) _ rfl (p : Int) 0 rfl rfl false (decide_eq_false (by omega))) hH ?_
            simp only [Act.put, List.setIfInBounds_toArray, List.set_cons_zero, List.set_cons_succ]
            refine take_to 2 53 (.bool false) rfl (by kernel_rfl) (by kernel_rfl) (by kernel_rfl) (fun _ _ _ h => h) rfl (by rfl) (fun w hw => by rfl) hH ?_
            simp only [Act.put, List.setIfInBounds_toArray, List.set_cons_zero, List.set_cons_succ]
            refine skip_to 3 54 rfl (by kernel_rfl) (by kernel_rfl) (by kernel_rfl) (fun _ _ _ h => h) rfl (by rfl) hH ?_
            simp only [Act.put, List.setIfInBounds_toArray, List.set_cons_zero, List.set_cons_succ]
            refine skip_to 4 55 rfl (by kernel_rfl) (by kernel_rfl) (by kernel_rfl) (fun _ _ _ h => h) rfl (by rfl) hH ?_
            simp only [Act.put, List.setIfInBounds_toArray, List.set_cons_zero, List.set_cons_succ]
            refine skip_to 5 56 rfl (by kernel_rfl) (by kernel_rfl) (by kernel_rfl) (fun _ _ _ h => h) rfl (by rfl) hH ?_
            simp only [Act.put, List.setIfInBounds_toArray, List.set_cons_zero, List.set_cons_succ]
            refine skip_to 6 57 rfl (by kernel_rfl) (by kernel_rfl) (by kernel_rfl) (fun _ _ _ h => h) rfl (by rfl) hH ?_
            simp only [Act.put, List.setIfInBounds_toArray, List.set_cons_zero, List.set_cons_succ]
            refine skip_to 7 58 rfl (by kernel_rfl) (by kernel_rfl) (by kernel_rfl) (fun _ _ _ h => h) rfl (by rfl) hH ?_
            simp only [Act.put, List.setIfInBounds_toArray, List.set_cons_zero, List.set_cons_succ]
            refine skip_to 8 59 rfl (by kernel_rfl) (by kernel_rfl) (by kernel_rfl) (fun _ _ _ h => h) rfl (by rfl) hH ?_
            simp only [Act.put, List.setIfInBounds_toArray, List.set_cons_zero, List.set_cons_succ]
            refine skip_to 9 60 rfl (by kernel_rfl) (by kernel_rfl) (by kernel_rfl) (fun _ _ _ h => h) rfl (by rfl) hH ?_
            simp only [Act.put, List.setIfInBounds_toArray, List.set_cons_zero, List.set_cons_succ]
            refine skip_to 10 61 rfl (by kernel_rfl) (by kernel_rfl) (by kernel_rfl) (fun _ _ _ h => h) rfl (by rfl) hH ?_
            simp only [Act.put, List.setIfInBounds_toArray, List.set_cons_zero, List.set_cons_succ]
            refine skip_to 11 62 rfl (by kernel_rfl) (by kernel_rfl) (by kernel_rfl) (fun _ _ _ h => h) rfl (by rfl) hH ?_
            simp only [Act.put, List.setIfInBounds_toArray, List.set_cons_zero, List.set_cons_succ]
            refine take_to 12 63 (.bool false) rfl (by kernel_rfl) (by kernel_rfl) (by kernel_rfl) (fun _ _ _ h => h) rfl (by rfl) (fun w hw => by rfl) hH ?_
            simp only [Act.put, List.setIfInBounds_toArray, List.set_cons_zero, List.set_cons_succ]
            clear hp0
            refine wpAnyH_done (by kernel_rfl) ?_ _
            clear hH
            obtain ⟨W7, hput, hr7, hg7⟩ := own_put HR6.out (ins_len HPL.out) (k := p) (Nat.lt_succ_of_le HPL.out) (s, md)
            rw [ins_end HPL.out] at hr7
            dsimp only at hput
            have HR7 := hide hr7
            have HG7 := hide hg7
            have t0 : wr.drew.cell? ⟨p7, 0, none⟩ = some (scell s) := by rw [cell_row H7.out]; rfl
            have t1 : wr.drew.cell? ⟨p7, 1, none⟩ = some (.int .i64 md) := by rw [cell_row H7.out]; rfl
            have HBW := hide (HB6.out.grown hg7 HB6.out.size (fun b e => by injection e with e; rw [← e]; exact hg4))
            have hil : (F.take (p) ++ (s, md) :: F.drop (p)).length = F.length + 1 := ins_len HPL.out
            have hlp : p < F.length + 1 := Nat.lt_succ_of_le HPL.out
            clear hr7 hg7
            generalize wr.drew = W6 at *
            go_wp2_with (refine wpList_store_in rfl 50 (.tmp 77) (.tmp 76) rfl rfl g4 ((p) * 2) [scell s, .int .i64 md] W7 rfl rfl hput ?_)
            refine ⟨⟨k + 1, F.take (p) ++ (s, md) :: F.drop (p), by have := HLT.out; omega, by go_num, ?_, by rw [hil]; exact HR7.out, HBW.out⟩, ?_⟩
            · rw [HTK.out]
              subst hy
              exact HA.out.ins HPL.out HDP.out HIE.out (fun y' hy' e => by
                have h1 := (HA.out.iff y'.1 y'.2).1 hy'
                exact HNX.out _ h1 rfl e)
            · have := HLT.out
              simp [intOf]
              omega
          · obtain ⟨q, rfl⟩ : ∃ q, p = q + 1 := ⟨p - 1, by omega⟩
            obtain ⟨z, hz⟩ : ∃ z, F[q]? = some z := ⟨_, List.getElem?_eq_getElem (by omega)⟩
            have hzG : (F.take (q + 1) ++ j :: F.drop (q + 1))[q]? = some z := by
              rw [List.getElem?_append_left (by rw [List.length_take]; omega), List.getElem?_take, if_pos (by omega)]
              exact hz
            obtain ⟨g', o', e', z1, z2⟩ := Wl.of_row (L := F.take (q + 1) ++ j :: F.drop (q + 1)) (n := F.length + 1) (by rw [ins_len hp]; exact HR6.out) q z hzG
            cases e'
            rw [Nat.zero_add] at z1 z2
            have HZ := hide hz
            clear hzG
            have s0 : wr.drew.cell? ⟨p7, 0, none⟩ = some (scell s) := by rw [cell_row H7.out]; rfl
            cases hbt : blt s z.1 with
            | false =>
              have HIE : Hid (q + 1 = 0 ∨ ∃ y, F[q + 1 - 1]? = some y ∧ blt s y.1 = false) := .inr ⟨z, hz, hbt⟩
              refine wp_region_held_drew (S := fun W => W.cell? ⟨g4, q * 2, none⟩ = some (scell z.1) ∧ W.cell? ⟨p7, 0, none⟩ = some (scell s)) (by kernel_rfl) ⟨z1, s0⟩ (fun hH => ?_)
              refine take_to 0 51 (.int .i64 ((q + 1 : Nat) : Int)) rfl (by kernel_rfl) (by kernel_rfl) (by kernel_rfl) (fun _ _ _ h => h) rfl (by rfl) (fun w hw => by rfl) hH ?_
              simp only [Act.put, List.setIfInBounds_toArray, List.set_cons_zero, List.set_cons_succ]
              refine take_to 1 52 (.bool true) rfl (by kernel_rfl) (by kernel_rfl) (by kernel_rfl) (fun _ _ _ h => h) rfl (by rfl) (fun w hw => op_gtr3 _ _ (.tmp 51) (.const (.int .i64 0)) _ rfl ((q + 1 : Nat) : Int) 0 rfl rfl true (decide_eq_true (by omega))) hH ?_
              simp only [Act.put, List.setIfInBounds_toArray, List.set_cons_zero, List.set_cons_succ]
              refine take_to 2 53 (.bool true) rfl (by kernel_rfl) (by kernel_rfl) (by kernel_rfl) (fun _ _ _ h => h) rfl (by rfl) (fun w hw => by rfl) hH ?_
              simp only [Act.put, List.setIfInBounds_toArray, List.set_cons_zero, List.set_cons_succ]
              refine take_to 3 54 (.slice (some ⟨g4, 0, none⟩) (F.length + 1) c4) rfl (by kernel_rfl) (by kernel_rfl) (by kernel_rfl) (fun _ _ _ h => h) rfl (by rfl) (fun w hw => by rfl) hH ?_
              simp only [Act.put, List.setIfInBounds_toArray, List.set_cons_zero, List.set_cons_succ]
              refine take_to 4 55 (.int .i64 ((q + 1 : Nat) : Int)) rfl (by kernel_rfl) (by kernel_rfl) (by kernel_rfl) (fun _ _ _ h => h) rfl (by rfl) (fun w hw => by rfl) hH ?_
              simp only [Act.put, List.setIfInBounds_toArray, List.set_cons_zero, List.set_cons_succ]
              refine take_to 5 56 (.int .i64 (q : Int)) rfl (by kernel_rfl) (by kernel_rfl) (by kernel_rfl) (fun _ _ _ h => h) rfl (by rfl) (fun w hw => op_sub3 _ _ (.tmp 55) (.const (.int .i64 1)) _ rfl ((q + 1 : Nat) : Int) 1 rfl rfl _ (by rw [IntKind.wrap_i64]; omega)) hH ?_
              simp only [Act.put, List.setIfInBounds_toArray, List.set_cons_zero, List.set_cons_succ]
              refine take_to 6 57 (.pointer (some ⟨g4, q * 2, none⟩)) rfl (by kernel_rfl) (by kernel_rfl) (by kernel_rfl) (fun _ _ _ h => h) rfl (by rfl) (fun w hw => op_index _ _ 45 (.tmp 54) (.tmp 56) rfl (.slice (some ⟨g4, 0, none⟩) (F.length + 1) c4) (.int .i64 (q : Int)) _ rfl rfl (by have h := run_index45 w g4 0 (F.length + 1) c4 q (by omega); rwa [Nat.zero_add] at h)) hH ?_
              simp only [Act.put, List.setIfInBounds_toArray, List.set_cons_zero, List.set_cons_succ]
              refine take_to 7 58 (.pointer (some ⟨g4, q * 2, none⟩)) rfl (by kernel_rfl) (by kernel_rfl) (by kernel_rfl) (fun _ _ _ h => h) rfl (by rfl) (fun w hw => by rfl) hH ?_
              simp only [Act.put, List.setIfInBounds_toArray, List.set_cons_zero, List.set_cons_succ]
              refine take_to 8 59 (scell z.1) rfl (by kernel_rfl) (by kernel_rfl) (by kernel_rfl) (fun _ _ _ h => h) rfl (by rfl) (fun w hw => op_load _ _ 9 (.tmp 58) rfl (.pointer (some ⟨g4, q * 2, none⟩)) _ rfl (run_loadAny w _ _ 9 _ Try.isAgg9 hw.1)) hH ?_
              simp only [Act.put, List.setIfInBounds_toArray, List.set_cons_zero, List.set_cons_succ]
              refine take_to 9 60 (.pointer (some ⟨p7, 0, none⟩)) rfl (by kernel_rfl) (by kernel_rfl) (by kernel_rfl) (fun _ _ _ h => h) rfl (by rfl) (fun w hw => by rfl) hH ?_
              simp only [Act.put, List.setIfInBounds_toArray, List.set_cons_zero, List.set_cons_succ]
              refine take_to 10 61 (scell s) rfl (by kernel_rfl) (by kernel_rfl) (by kernel_rfl) (fun _ _ _ h => h) rfl (by rfl) (fun w hw => op_load _ _ 9 (.tmp 60) rfl (.pointer (some ⟨p7, 0, none⟩)) _ rfl (run_loadAny w _ _ 9 _ Try.isAgg9 hw.2)) hH ?_
              simp only [Act.put, List.setIfInBounds_toArray, List.set_cons_zero, List.set_cons_succ]
              refine take_to 11 62 (.bool false) rfl (by kernel_rfl) (by kernel_rfl) (by kernel_rfl) (fun _ _ _ h => h) rfl (by rfl) (fun w hw => op_gtr9 _ _ (.tmp 59) (.tmp 61) _ rfl z.1 s rfl rfl false hbt) hH ?_
              simp only [Act.put, List.setIfInBounds_toArray, List.set_cons_zero, List.set_cons_succ]
              refine take_to 12 63 (.bool false) rfl (by kernel_rfl) (by kernel_rfl) (by kernel_rfl) (fun _ _ _ h => h) rfl (by rfl) (fun w hw => by rfl) hH ?_
              simp only [Act.put, List.setIfInBounds_toArray, List.set_cons_zero, List.set_cons_succ]
              refine wpAnyH_done (by kernel_rfl) ?_ _
              clear hH
              obtain ⟨W7, hput, hr7, hg7⟩ := own_put HR6.out (ins_len HPL.out) (k := q + 1) (Nat.lt_succ_of_le HPL.out) (s, md)
              rw [ins_end HPL.out] at hr7
              dsimp only at hput
              have HR7 := hide hr7
              have HG7 := hide hg7
              have t0 : wr.drew.cell? ⟨p7, 0, none⟩ = some (scell s) := by rw [cell_row H7.out]; rfl
              have t1 : wr.drew.cell? ⟨p7, 1, none⟩ = some (.int .i64 md) := by rw [cell_row H7.out]; rfl
              have HBW := hide (HB6.out.grown hg7 HB6.out.size (fun b e => by injection e with e; rw [← e]; exact hg4))
              have hil : (F.take (q + 1) ++ (s, md) :: F.drop (q + 1)).length = F.length + 1 := ins_len HPL.out
              have hlp : q + 1 < F.length + 1 := Nat.lt_succ_of_le HPL.out
              clear hr7 hg7
              generalize wr.drew = W6 at *
              go_wp2_with (refine wpList_store_in rfl 50 (.tmp 77) (.tmp 76) rfl rfl g4 ((q + 1) * 2) [scell s, .int .i64 md] W7 rfl rfl hput ?_)
              refine ⟨⟨k + 1, F.take (q + 1) ++ (s, md) :: F.drop (q + 1), by have := HLT.out; omega, by go_num, ?_, by rw [hil]; exact HR7.out, HBW.out⟩, ?_⟩
              · rw [HTK.out]
                subst hy
                exact HA.out.ins HPL.out HDP.out HIE.out (fun y' hy' e => by
                  have h1 := (HA.out.iff y'.1 y'.2).1 hy'
                  exact HNX.out _ h1 rfl e)
              · have := HLT.out
                simp [intOf]
                omega
            | true =>
              refine wp_region_held_drew (S := fun W => W.cell? ⟨g4, q * 2, none⟩ = some (scell z.1) ∧ W.cell? ⟨p7, 0, none⟩ = some (scell s)) (by kernel_rfl) ⟨z1, s0⟩ (fun hH => ?_)
              refine take_to 0 51 (.int .i64 ((q + 1 : Nat) : Int)) rfl (by kernel_rfl) (by kernel_rfl) (by kernel_rfl) (fun _ _ _ h => h) rfl (by rfl) (fun w hw => by rfl) hH ?_
              simp only [Act.put, List.setIfInBounds_toArray, List.set_cons_zero, List.set_cons_succ]
              refine take_to 1 52 (.bool true) rfl (by kernel_rfl) (by kernel_rfl) (by kernel_rfl) (fun _ _ _ h => h) rfl (by rfl) (fun w hw => op_gtr3 _ _ (.tmp 51) (.const (.int .i64 0)) _ rfl ((q + 1 : Nat) : Int) 0 rfl rfl true (decide_eq_true (by omega))) hH ?_
              simp only [Act.put, List.setIfInBounds_toArray, List.set_cons_zero, List.set_cons_succ]
              refine take_to 2 53 (.bool true) rfl (by kernel_rfl) (by kernel_rfl) (by kernel_rfl) (fun _ _ _ h => h) rfl (by rfl) (fun w hw => by rfl) hH ?_
              simp only [Act.put, List.setIfInBounds_toArray, List.set_cons_zero, List.set_cons_succ]
              refine take_to 3 54 (.slice (some ⟨g4, 0, none⟩) (F.length + 1) c4) rfl (by kernel_rfl) (by kernel_rfl) (by kernel_rfl) (fun _ _ _ h => h) rfl (by rfl) (fun w hw => by rfl) hH ?_
              simp only [Act.put, List.setIfInBounds_toArray, List.set_cons_zero, List.set_cons_succ]
              refine take_to 4 55 (.int .i64 ((q + 1 : Nat) : Int)) rfl (by kernel_rfl) (by kernel_rfl) (by kernel_rfl) (fun _ _ _ h => h) rfl (by rfl) (fun w hw => by rfl) hH ?_
              simp only [Act.put, List.setIfInBounds_toArray, List.set_cons_zero, List.set_cons_succ]
              refine take_to 5 56 (.int .i64 (q : Int)) rfl (by kernel_rfl) (by kernel_rfl) (by kernel_rfl) (fun _ _ _ h => h) rfl (by rfl) (fun w hw => op_sub3 _ _ (.tmp 55) (.const (.int .i64 1)) _ rfl ((q + 1 : Nat) : Int) 1 rfl rfl _ (by rw [IntKind.wrap_i64]; omega)) hH ?_
              simp only [Act.put, List.setIfInBounds_toArray, List.set_cons_zero, List.set_cons_succ]
              refine take_to 6 57 (.pointer (some ⟨g4, q * 2, none⟩)) rfl (by kernel_rfl) (by kernel_rfl) (by kernel_rfl) (fun _ _ _ h => h) rfl (by rfl) (fun w hw => op_index _ _ 45 (.tmp 54) (.tmp 56) rfl (.slice (some ⟨g4, 0, none⟩) (F.length + 1) c4) (.int .i64 (q : Int)) _ rfl rfl (by have h := run_index45 w g4 0 (F.length + 1) c4 q (by omega); rwa [Nat.zero_add] at h)) hH ?_
              simp only [Act.put, List.setIfInBounds_toArray, List.set_cons_zero, List.set_cons_succ]
              refine take_to 7 58 (.pointer (some ⟨g4, q * 2, none⟩)) rfl (by kernel_rfl) (by kernel_rfl) (by kernel_rfl) (fun _ _ _ h => h) rfl (by rfl) (fun w hw => by rfl) hH ?_
              simp only [Act.put, List.setIfInBounds_toArray, List.set_cons_zero, List.set_cons_succ]
              refine take_to 8 59 (scell z.1) rfl (by kernel_rfl) (by kernel_rfl) (by kernel_rfl) (fun _ _ _ h => h) rfl (by rfl) (fun w hw => op_load _ _ 9 (.tmp 58) rfl (.pointer (some ⟨g4, q * 2, none⟩)) _ rfl (run_loadAny w _ _ 9 _ Try.isAgg9 hw.1)) hH ?_
              simp only [Act.put, List.setIfInBounds_toArray, List.set_cons_zero, List.set_cons_succ]
              refine take_to 9 60 (.pointer (some ⟨p7, 0, none⟩)) rfl (by kernel_rfl) (by kernel_rfl) (by kernel_rfl) (fun _ _ _ h => h) rfl (by rfl) (fun w hw => by rfl) hH ?_
              simp only [Act.put, List.setIfInBounds_toArray, List.set_cons_zero, List.set_cons_succ]
              refine take_to 10 61 (scell s) rfl (by kernel_rfl) (by kernel_rfl) (by kernel_rfl) (fun _ _ _ h => h) rfl (by rfl) (fun w hw => op_load _ _ 9 (.tmp 60) rfl (.pointer (some ⟨p7, 0, none⟩)) _ rfl (run_loadAny w _ _ 9 _ Try.isAgg9 hw.2)) hH ?_
              simp only [Act.put, List.setIfInBounds_toArray, List.set_cons_zero, List.set_cons_succ]
              refine take_to 11 62 (.bool true) rfl (by kernel_rfl) (by kernel_rfl) (by kernel_rfl) (fun _ _ _ h => h) rfl (by rfl) (fun w hw => op_gtr9 _ _ (.tmp 59) (.tmp 61) _ rfl z.1 s rfl rfl true hbt) hH ?_
              simp only [Act.put, List.setIfInBounds_toArray, List.set_cons_zero, List.set_cons_succ]
              refine take_to 12 63 (.bool true) rfl (by kernel_rfl) (by kernel_rfl) (by kernel_rfl) (fun _ _ _ h => h) rfl (by rfl) (fun w hw => by rfl) hH ?_
              simp only [Act.put, List.setIfInBounds_toArray, List.set_cons_zero, List.set_cons_succ]
              refine wpAnyH_done (by kernel_rfl) ?_ _
              clear hH
              obtain ⟨W7, hput, hr7, hg7⟩ := own_put HR6.out (ins_len HPL.out) (k := q + 1) (Nat.lt_succ_of_le HPL.out) z
              rw [ins_back HZ.out] at hr7
              have HR7 := hide hr7
              have HBW := hide (HB6.out.grown hg7 HB6.out.size (fun b e => by injection e with e; rw [← e]; exact hg4))
              have H77 := hide ((hg7.block p7 (lt_of_heap H7.out) (fun e => HG4.out (Option.some.inj e))).trans H7.out)
              have HDQ : Hid (∀ y ∈ F.drop q, blt s y.1 = true) := fun y hy' => by
                obtain ⟨hlq, hzq⟩ := List.getElem?_eq_some_iff.1 HZ.out
                rw [List.drop_eq_getElem_cons hlq, hzq] at hy'
                rcases List.mem_cons.1 hy' with e | e
                · rw [e]; exact hbt
                · exact HDP.out y e
              have hlp : q + 1 < F.length + 1 := Nat.lt_succ_of_le HPL.out
              have hlq : q < F.length + 1 := by omega
              clear hr7 hg7
              obtain ⟨zt, zm⟩ := z
              dsimp only at hput z1 z2
              generalize wr.drew = W6 at *
              go_wp2_with (refine wpList_store_in rfl 50 (.tmp 71) (.tmp 70) rfl rfl g4 ((q + 1) * 2) [scell zt, .int .i64 zm] W7 rfl rfl hput ?_)
              refine ⟨⟨q, (zt, zm), by omega, by go_num, HDQ.out, HR7.out, H77.out, HBW.out⟩, ?_⟩
              simp [intOf]
      · have hy' : (y != id) = true := by simp [hy]
        go_wp2
        refine ⟨⟨k + 1, F, by omega, by go_num, by rw [HTK.out]; exact HA.out.skip hy, HRW.out, HB.out⟩, ?_⟩
        simp [intOf]
        omega
    · obtain rfl : k = n := by omega
      have hd : hs.take k = hs := List.take_of_length_le (by rw [HN.out]; exact Nat.le_refl _)
      rw [hd] at HA
      obtain ⟨ap, d, rfl⟩ := owns_len HRW.out
      go_wp2
      go_ret
      exact ⟨ap, d, F, rfl, HA.out, Wl.of_row HRW.out, HB.out⟩
end Go.Proofs.Ytffjdjbjkjefoaa
