/- The document's take. -/
import Derived.Test.YtplpchaceiogaaaDoorTst
namespace Go.Proofs.YtplpchaceiogaaaDoor
open Go.RowKit
set_option linter.unusedVariables false
set_option linter.unusedSimpArgs false
set_option maxRecDepth 100000

theorem results_c1 {fn : Func} {p : Tmp} {ty : TypeId} (h : fn.results = #[.cell p ty]) (tmps : Array Value) (w : World) (g : Nat) (t : TypeId) (cs : Array Value) (fr : Nat × Nat) (d : TypeDesc)
    (hp : tmps.getD p undef = .pointer (some ⟨g, 0, none⟩)) (hg : w.heap[g]? = some (.cells cs t fr))
    (hu : Tryd.prog.underlying ty = some d) (hd : d.isRow = true) (hi : (Tryd.prog.info? ty).map (·.size) = some cs.size) :
    (results fn tmps).run Tryd.prog w = .ok (.agg cs) w := by
  have hp' : tmps[p]?.getD undef = .pointer (some ⟨g, 0, none⟩) := by simpa using hp
  have hl := run_loadVar_mid (P := Tryd.prog) w g 0 ty cs.toList d (fun j v hv => by rw [Nat.zero_add, cell_row hg]; simpa using hv) hu hd (by rw [hi, Array.length_toList])
  simp [results, h, hp', asAddr, hl]
/-- The document's reader. -/
def Rx (w : World) (gb : Nat) (s : Bool × List Vl) : Prop := ∃ ao c, w.heap[gb]? = some (.cells #[.slice ao s.2.length c, .bool s.1] 88 (0, 0)) ∧ RowB w ao c s.2
theorem Rx.off {w w' : World} {fp : List Nat} {gb : Nat} {s : Bool × List Vl} (h : Rx w gb s) (ho : Off fp w w') (ha : Apart w fp) (hf : gb ∉ fp) : Rx w' gb s := by
  obtain ⟨ao, c, h1, h2⟩ := h
  exact ⟨ao, c, (ho.block gb (lt_of_heap h1) hf).trans h1, h2.off ho ha⟩
def TakeEnd (w : World) (gb : Nat) (k : Int) (s : Bool × List Vl) (e : Ending) (w' : World) : Prop := Off [gb] w w' ∧ e = .returned (valOf (tk k s).1) ∧ Rx w' gb (tk k s).2
set_option maxHeartbeats 8000000 in
theorem take50 {w : World} {gb : Nat} {s : Bool × List Vl} (h : Rx w gb s) (k : Int) : Calls Tryd.prog 50 #[.pointer (some ⟨gb, 0, none⟩), .int .i64 k] w (TakeEnd w gb k s) := by
  obtain ⟨bad, l⟩ := s
  obtain ⟨ao, c, hf, hr⟩ := h
  simp only at hf hr
  have hlen := hr.1
  have hmax := hr.2.1
  simp only [maxLen] at hmax
  obtain ⟨W, hW⟩ : ∃ W, w.alloc (.cells #[.int .i64 0, .int .i64 0, .string { data := #[] }, .bool false] 32) = W := ⟨_, rfl⟩
  have hb0 : Below w.heap.size w W := by rw [← hW]; exact (Below.refl _ _).alloc (Nat.le_refl _) _
  have hz : Box W w.heap.size Vl.zero := by rw [← hW]; exact box_new w Vl.zero
  have hf0 : W.heap[gb]? = some (.cells #[.slice ao l.length c, .bool bad] 88 (0, 0)) := (hb0.block gb (lt_of_heap hf)).trans hf
  have hfl := lt_of_heap hf0
  have hfb := lt_of_heap hf
  have hff : W.cell? ⟨gb, 0, none⟩ = some (.slice ao l.length c) := by rw [cell_row hf0]; rfl
  have hfg : W.cell? ⟨gb, 1, none⟩ = some (.bool bad) := by rw [cell_row hf0]; rfl
  have hfz := frozen_row (o := 1) hf0
  have hrl := lt_of_heap hz
  have HB0 := hide hb0
  have HZ := hide hz
  have HF := hide hf0
  have HRW := hide hr
  have HQG : Hid (w.heap.size ≠ gb) := by unfold Hid; omega
  have HZ2 : Hid (Box (W.setCell ⟨gb, 1, none⟩ (.bool true)) w.heap.size Vl.zero) := (Below.heap_setCell _ _ _ _ (fun e => HQG.out e)).trans hz
  have HAP : Hid (Apart w [gb]) := fun k hk cur fr hh => by
    simp at hk
    subst hk
    rw [hf] at hh
    simp at hh
  have HR : Hid (RowB W ao c l) := hr.off (Off.of_below hb0 []) (fun k hk => by cases hk)
  have hgf : ∀ g cur, W.heap[g]? = some (.cells cur 32 (0, 0)) → g ≠ gb := fun g cur hg e => by
    subst e
    rw [hf0] at hg
    simp at hg
  clear hf hb0 hz hf0 hr
  cases bad with
  | true =>
    have HE : Hid (tk k (true, l) = (Vl.zero, (true, l))) := rfl
    clear hgf hlen
    generalize hN : l.length = N at *
    have HN := hide hN
    clear hN
    go_enter Tryd.func50, Tryd.ntmps50
    go_upto_region 1 with fail
    try rw [hW]
    clear hW
    generalize hq : w.heap.size = q at *
    have HQ := hide hq
    clear hq
    go_wp2_with (refine wpList_store_val rfl (.tmp 4) (.tmp 32) rfl rfl q Vl.zero Vl.zero rfl rfl HZ2.out ?_)
    refine bodyPost_ret (results_c1 Tryd.results50 _ _ q 32 _ (0, 0) _ rfl (Box.after HZ2.out Vl.zero) Tryd.underlying32 rfl Tryd.size32) rfl ?_
    have hof := off_setRow ((Off.of_below (by rw [HQ.out]; exact HB0.out) [gb]).setCell ⟨gb, 1, none⟩ (.bool true) (.inl (by simp))) q #[.int .i64 Vl.zero.ty, .int .i64 Vl.zero.n, .string (strOf Vl.zero.t), .bool Vl.zero.b] (.inr (by rw [HQ.out]; exact Nat.le_refl _))
    refine ⟨hof, by rw [HE.out]; rfl, ?_⟩
    rw [HE.out]
    refine ⟨ao, c, (heap_setRow_ne HQG.out _).trans ((heap_set_same (o := 1) (.bool true) HF.out).trans ?_), HRW.out.off hof HAP.out⟩
    first
      | rfl
      | (rw [← HN.out]; rfl)
  | false =>
    cases l with
    | nil =>
      have HE : Hid (tk k (false, []) = (Vl.zero, (true, []))) := rfl
      clear hgf hlen
      simp only [List.length_nil] at *
      go_enter Tryd.func50, Tryd.ntmps50
      go_upto_region 1 with fail
      try rw [hW]
      clear hW
      generalize hq : w.heap.size = q at *
      have HQ := hide hq
      clear hq
      go_wp2_with (refine wpList_store_val rfl (.tmp 4) (.tmp 32) rfl rfl q Vl.zero Vl.zero rfl rfl HZ2.out ?_)
      refine bodyPost_ret (results_c1 Tryd.results50 _ _ q 32 _ (0, 0) _ rfl (Box.after HZ2.out Vl.zero) Tryd.underlying32 rfl Tryd.size32) rfl ?_
      have hof := off_setRow ((Off.of_below (by rw [HQ.out]; exact HB0.out) [gb]).setCell ⟨gb, 1, none⟩ (.bool true) (.inl (by simp))) q #[.int .i64 Vl.zero.ty, .int .i64 Vl.zero.n, .string (strOf Vl.zero.t), .bool Vl.zero.b] (.inr (by rw [HQ.out]; exact Nat.le_refl _))
      refine ⟨hof, by rw [HE.out]; rfl, ?_⟩
      rw [HE.out]
      refine ⟨ao, c, (heap_setRow_ne HQG.out _).trans ((heap_set_same (o := 1) (.bool true) HF.out).trans ?_), HRW.out.off hof HAP.out⟩
      first
        | rfl
        | (rw [← HN.out]; rfl)
    | cons v r =>
      obtain ⟨g, o, cur, e, hg, hx⟩ := HR.out.2.2 (by simp)
      subst e
      have k0 : W.cell? ⟨g, o, none⟩ = some (.int .i64 v.ty) := by rw [cell_row hg]; exact hx 0 _ rfl
      have HV : Hid (CellsAt W g o v) := ⟨k0, by rw [cell_row hg]; exact hx 1 _ rfl, by rw [cell_row hg]; exact hx 2 _ rfl, by rw [cell_row hg]; exact hx 3 _ rfl⟩
      have hgl := World.block_lt_of_cell? W _ k0
      have HCUT : Hid (∀ W, (Instr.sliceAt 35 (.slice (some ⟨g, o, none⟩) (v :: r).length c) (some (.int .i64 1)) none none).run Tryd.prog W = .ok (.slice (cutV (some ⟨g, o, none⟩) c) ((v :: r).length - 1) (c - 1)) W) := fun W => run_cutV_from W (some ⟨g, o, none⟩) (v :: r).length c (by simp) hlen
      have hidx : ∀ W, (Instr.indexAt 35 (.slice (some ⟨g, o, none⟩) (v :: r).length c) (.int .i64 0)).run Tryd.prog W = .ok (.pointer (some ⟨g, o, none⟩)) W := fun W => by
        have := run_index35 W g o (v :: r).length c 0 (by simp)
        simpa using this
      have HL : Hid ((v :: r).length - 1 = r.length) := by simp [Hid]
      have hn0 : (((v :: r).length : Nat) : Int) ≠ 0 := by simp; omega
      have hnb : ((((v :: r).length : Nat) : Int) == 0) = false := by simpa using hn0
      have HGF : Hid (g ≠ gb) := hgf g cur hg
      by_cases hk : v.ty = k
      · subst hk
        have HE : Hid (tk v.ty (false, v :: r) = (v, (false, r))) := by simp [Hid, tk, takeV]
        have hkb : (v.ty != v.ty) = false := by simp
        have HHG : Hid (W.heap[g]? = some (.cells cur 32 (0, 0))) := hg
        clear hgf hg hx HR HZ2 hn0
        generalize hN : (v :: r).length = N at *
        have HN := hide hN
        clear hN
        go_enter Tryd.func50, Tryd.ntmps50
        go_upto_region 1 with fail
        try rw [hW]
        clear hW
        generalize hq : w.heap.size = q at *
        have HQ := hide hq
        clear hq
        obtain ⟨k0, k1, k2, k3⟩ := HV.out
        go_upto_region 5 with fail
        have HB2 : Hid (Below W.heap.size W (W.alloc (.cells #[.int .i64 v.ty, .int .i64 v.n, .string (strOf v.t), .bool v.b] 32))) := (Below.refl _ _).alloc (Nat.le_refl _) _
        have HV2 : Hid (Box (W.alloc (.cells #[.int .i64 v.ty, .int .i64 v.n, .string (strOf v.t), .bool v.b] 32)) W.heap.size v) := box_new W v
        have HQ2 : Hid (W.heap.size ≠ gb ∧ W.heap.size ≠ q) := ⟨by omega, by omega⟩
        have HF2 : Hid ((W.alloc (.cells #[.int .i64 v.ty, .int .i64 v.n, .string (strOf v.t), .bool v.b] 32)).heap[gb]? = some (.cells #[.slice (some ⟨g, o, none⟩) N c, .bool false] 88 (0, 0))) := (HB2.out.block gb hfl).trans HF.out
        have HZ2 : Hid (Box (W.alloc (.cells #[.int .i64 v.ty, .int .i64 v.n, .string (strOf v.t), .bool v.b] 32)) q Vl.zero) := HZ.out.belowW HB2.out
        have HO2 : Hid (Off [gb] w (W.alloc (.cells #[.int .i64 v.ty, .int .i64 v.n, .string (strOf v.t), .bool v.b] 32))) := (Off.of_below (by rw [HQ.out]; exact HB0.out) [gb]).alloc _
        clear k0 k1 k2 k3 hff hfg hfz hfl hrl hgl hidx HB2 HF HZ HB0 HV
        generalize W.alloc (.cells #[.int .i64 v.ty, .int .i64 v.n, .string (strOf v.t), .bool v.b] 32) = W2 at *
        generalize W.heap.size = q2 at *
        have hff : W2.cell? ⟨gb, 0, none⟩ = some (.slice (some ⟨g, o, none⟩) N c) := by rw [cell_row HF2.out]; rfl
        have hfz := frozen_row (o := 0) HF2.out
        have hcut := HCUT.out
        go_upto_region 6 with fail
        have HV3 : Hid (Box (W2.setCell ⟨gb, 0, none⟩ (.slice (cutV (some ⟨g, o, none⟩) c) (N - 1) (c - 1))) q2 v) := (Below.heap_setCell _ _ _ _ (fun e => HQ2.out.1 e)).trans HV2.out
        have HZ3 : Hid (Box (W2.setCell ⟨gb, 0, none⟩ (.slice (cutV (some ⟨g, o, none⟩) c) (N - 1) (c - 1))) q Vl.zero) := (Below.heap_setCell _ _ _ _ (fun e => HQG.out e)).trans HZ2.out
        have HF3 : Hid ((W2.setCell ⟨gb, 0, none⟩ (.slice (cutV (some ⟨g, o, none⟩) c) (N - 1) (c - 1))).heap[gb]? = some (.cells #[.slice (cutV (some ⟨g, o, none⟩) c) (N - 1) (c - 1), .bool false] 88 (0, 0))) := heap_set_same _ HF2.out
        have HO3 : Hid (Off [gb] w (W2.setCell ⟨gb, 0, none⟩ (.slice (cutV (some ⟨g, o, none⟩) c) (N - 1) (c - 1)))) := HO2.out.setCell _ _ (.inl (by simp))
        clear hff hfz hcut HF2 HZ2 HV2 HO2 HQ2
        generalize W2.setCell ⟨gb, 0, none⟩ (.slice (cutV (some ⟨g, o, none⟩) c) (N - 1) (c - 1)) = W3 at *
        obtain ⟨c0, c1, c2, c3⟩ := HV3.out.cells
        go_wp2_with (refine wpList_store_val rfl (.tmp 4) (.tmp 47) rfl rfl q Vl.zero v rfl rfl HZ3.out ?_)
        refine bodyPost_ret (results_c1 Tryd.results50 _ _ q 32 _ (0, 0) _ rfl (Box.after HZ3.out v) Tryd.underlying32 rfl Tryd.size32) rfl ?_
        have hof := off_setRow HO3.out q #[.int .i64 v.ty, .int .i64 v.n, .string (strOf v.t), .bool v.b] (.inr (by rw [HQ.out]; exact Nat.le_refl _))
        refine ⟨hof, by rw [HE.out]; rfl, ?_⟩
        rw [HE.out]
        refine ⟨_, _, (heap_setRow_ne HQG.out _).trans ?_, HRW.out.cut.off hof HAP.out⟩
        rw [HF3.out, HL.out]
      · have HE : Hid (tk k (false, v :: r) = (Vl.zero, (true, v :: r))) := by simp [Hid, tk, takeV, hk]
        have hkb : (v.ty != k) = true := by simpa using hk
        clear hgf hg hx HR hn0 HCUT
        generalize hN : (v :: r).length = N at *
        have HN := hide hN
        clear hN
        go_enter Tryd.func50, Tryd.ntmps50
        go_upto_region 1 with fail
        try rw [hW]
        clear hW
        generalize hq : w.heap.size = q at *
        have HQ := hide hq
        clear hq
        go_wp2_with (refine wpList_store_val rfl (.tmp 4) (.tmp 32) rfl rfl q Vl.zero Vl.zero rfl rfl HZ2.out ?_)
        refine bodyPost_ret (results_c1 Tryd.results50 _ _ q 32 _ (0, 0) _ rfl (Box.after HZ2.out Vl.zero) Tryd.underlying32 rfl Tryd.size32) rfl ?_
        have hof := off_setRow ((Off.of_below (by rw [HQ.out]; exact HB0.out) [gb]).setCell ⟨gb, 1, none⟩ (.bool true) (.inl (by simp))) q #[.int .i64 Vl.zero.ty, .int .i64 Vl.zero.n, .string (strOf Vl.zero.t), .bool Vl.zero.b] (.inr (by rw [HQ.out]; exact Nat.le_refl _))
        refine ⟨hof, by rw [HE.out]; rfl, ?_⟩
        rw [HE.out]
        refine ⟨some ⟨g, o, none⟩, c, (heap_setRow_ne HQG.out _).trans ((heap_set_same (o := 1) (.bool true) HF.out).trans ?_), HRW.out.off hof HAP.out⟩
        first
          | rfl
          | (rw [← HN.out]; rfl)

end Go.Proofs.YtplpchaceiogaaaDoor
