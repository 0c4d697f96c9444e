/- slices.Insert into a row without room. -/
import Derived.Test.YtjcobejaldfibaaCpc
import Derived.Test.YtjcobejaldfibaaDlt
import Derived.Shelf.Spec.SlicesInsert
import Derived.Lib.AppendZerosOnto
import Derived.Laws.NewBlocks
namespace Go.Proofs.Ytjcobejaldfibaa
open Go.RowKit
set_option linter.unusedVariables false
set_option linter.unusedSimpArgs false

/-- A row of one's own that is full. -/
structure FullRow (w : World) (g n : Nat) (us : List Value) : Prop where
  heap : w.heap[g]? = some (.cells us.toArray 28 (0, 0))
  len : us.length = n
  one : ∀ u ∈ us, u.oneCell' = true
theorem FullRow.cell {w : World} {g n : Nat} {us : List Value} (h : FullRow w g n us) (j : Nat) (v : Value) (hj : us[j]? = some v) : w.cell? ⟨g, j, none⟩ = some v := by
  rw [cell_row h.heap]
  simpa using hj
theorem FullRow.lt {w : World} {g n : Nat} {us : List Value} (h : FullRow w g n us) : g < w.heap.size := lt_of_heap h.heap
theorem zeroCells_len (z : Value) (hz : z.cells.size = 1) (n : Nat) : (Builtin.zeroCells z.cells n).size = n := by
  simp [Builtin.zeroCells, hz]
theorem Try.info28p : ∃ i, Try.prog.info? 28 = some i ∧ i.zero = some nilS ∧ i.size = 1 ∧ i.bytes = 24 := by
  obtain ⟨i, hi, hz⟩ := Option.map_eq_some_iff.1 Try.info28
  simp only [Prod.mk.injEq] at hz
  exact ⟨i, hi, hz.1, hz.2.1, hz.2.2⟩
/-- The row that comes out. -/
theorem ins_row (us vs : List Value) (R : List Value) (n m i : Nat) (hn : us.length = n) (hm : vs.length = m) (hi : i ≤ n) (hR : R.take i = us.take i) (hl : n + m ≤ R.length) :
    ((((R.take i ++ vs ++ R.drop (i + m)).take (i + m) ++ us.drop i ++ (R.take i ++ vs ++ R.drop (i + m)).drop (i + m + (n - i)))).take (n + m)) = us.take i ++ vs ++ us.drop i := by
  have h1 : (R.take i ++ vs).length = i + m := by simp [hm]; omega
  have h2 : (R.take i ++ vs ++ R.drop (i + m)).take (i + m) = R.take i ++ vs := by rw [← h1, List.take_left]
  rw [h2, hR]
  have h3 : (us.take i ++ vs ++ us.drop i).length = n + m := by simp [hm]; omega
  rw [← h3, List.take_left]
set_option maxHeartbeats 4000000 in
set_option maxRecDepth 1000000 in
theorem insert_mid {w : World} {g n i vb m : Nat} {us vs : List Value} (h : FullRow w g n us) (hi : i < n) (hm : 0 < m) (hbig : (n + m) * 24 ≤ 140737488355328) (hvl : vs.length = m)
    (hvs : ∀ j v, vs[j]? = some v → w.cell? ⟨vb, j, none⟩ = some v) (h1v : ∀ v ∈ vs, v.oneCell' = true) :
    Calls Try.prog 30 #[.slice (some ⟨g, 0, none⟩) n n, .int .i64 (i : Int), .slice (some ⟨vb, 0, none⟩) m m] w fun e w' => ∃ v', e = .returned v' ∧ Below w.heap.size w w' ∧ w'.ownsRow w.heap.size 28 1 v' (n + m) (us.take i ++ vs ++ us.drop i) := by
  have mixed : Try.prog.follows Departure.mixedOrders = true := by kernel_rfl
  obtain ⟨i0, hi0, hz0, hzs, hzb⟩ := Try.info28p
  have hsz : (Try.prog.info? 28).map (·.size) = some 1 := by rw [hi0]; simp [hzs]
  have hz1 : ¬ ((m : Int) = 0) := by omega
  have hz2 : ¬ ((i : Int) = (n : Int)) := by omega
  have hz3 : (n : Int) < (n : Int) + (m : Int) := by omega
  have hik : i + (n + m - i) = n + m := by omega
  have hkk : (n : Int) + (m : Int) - (i : Int) = ((n + m - i : Nat) : Int) := by omega
  have hul := h.len
  have hgw := h.lt
  have hvw : vb < w.heap.size := World.block_lt_of_cell? w _ (hvs 0 _ (List.getElem?_eq_getElem (by omega)))
  have hold : (Builtin.firstCells i0.size i (.slice (some ⟨g, 0, none⟩) i n)).run Try.prog w.drew = .ok (us.take i).toArray w.drew := by
    rw [hzs]
    exact run_firstCells_some w.drew 1 i ⟨g, 0, none⟩ i n (us.take i) (by rw [List.length_take]; omega) (fun j v hj => by
      rw [Addr.add_lit, Nat.zero_add]
      rw [List.getElem?_take] at hj
      split at hj
      · exact h.cell j v hj
      · cases hj)
  obtain ⟨G, hG⟩ : ∃ G, G = grownCap w (n + m) n 28 := ⟨_, rfl⟩
  obtain ⟨ROW, hROW⟩ : ∃ ROW : Array Value, ROW = (us.take i).toArray ++ Builtin.zeroCells nilS.cells (n + m - i) ++ Builtin.zeroCells nilS.cells (G - (n + m)) := ⟨_, rfl⟩
  have hGn : n + m ≤ G := by rw [hG]; exact grownCap_ge w _ _ _
  have hG0 : G ≤ maxLen := by rw [hG]; exact grownCap_le_maxLen w (n + m) n 28 (by unfold maxLen; omega)
  have hG63 : G ≤ 9223372036854775807 := by unfold maxLen at hG0; omega
  have hRs : ROW.size = G := by
    rw [hROW]
    simp [zeroCells_len _ (show nilS.cells.size = 1 from rfl)]
    omega
  have hRt : ROW.toList.take i = us.take i := by
    rw [hROW]
    rw [Array.append_assoc, Array.toList_append, List.take_append_of_le_length (by simp; omega), List.take_take, Nat.min_self]
  have hrz : ∀ ty, (Builtin.append_ #[22, 3] ty #[.slice (some ⟨g, 0, none⟩) i n, .int .i64 ((n : Int) + (m : Int) - (i : Int))]).run Try.prog w =
      .ok (.slice (some ⟨w.heap.size, 0, none⟩) (n + m) G) (w.drew.alloc (.cells ROW 28)) := fun ty => by
    have h := Lib.run_append_grow_zeros w 22 3 ty 28 i0 _ .i64 .i64 Try.underlying22 Try.underlying3 hi0 hz0 (some ⟨g, 0, none⟩) i n (us.take i) hold (n + m - i) (by omega) (by omega) (by omega) (by omega) (by rw [hzb]; omega) (by rw [hzb, hik]; exact growslice_fits (by omega) hbig)
    rw [hik, ← hG, ← hROW] at h
    rw [hkk]
    exact h
  obtain ⟨W1, hW1⟩ : ∃ W1, W1 = w.drew.alloc (.cells ROW 28) := ⟨_, rfl⟩
  rw [← hW1] at hrz
  have hN : W1.heap[w.heap.size]? = some (.cells ROW 28 (0, 0)) := by rw [hW1]; exact heap_alloc_new w.drew _
  have hNs : ∀ j, j < n + m → (W1.cell? ⟨w.heap.size, j, none⟩).isSome = true := fun j hj => by rw [cell_row hN]; simp; omega
  have hB1 : Below w.heap.size w W1 := by
    rw [hW1]
    exact (below_drewN w.heap.size w 1).trans ((Below.refl w.heap.size (w.drewN 1)).alloc (Nat.le_refl _) _)
  have hOb : ∀ j v, w.cell? ⟨g, j, none⟩ = some v → W1.cell? ⟨g, j, none⟩ = some v := fun j v h => (hB1.cell (p := ⟨g, j, none⟩) hgw).trans h
  have hOv : ∀ j v, w.cell? ⟨vb, j, none⟩ = some v → W1.cell? ⟨vb, j, none⟩ = some v := fun j v h => (hB1.cell (p := ⟨vb, j, none⟩) hvw).trans h
  have hcpA : ∀ (W : World), (∀ x, W.cell? x = W1.cell? x) → (∀ x, W.frozen? x = W1.frozen? x) → ∀ ty dc, (Builtin.copy_ #[22, 22] ty #[.slice (some ⟨w.heap.size, i, none⟩) (n + m - i) dc, .slice (some ⟨vb, 0, none⟩) m m]).run Try.prog W = .ok (goInt vs.length) (W.setCells w.heap.size i vs) := fun W hWc hWf ty dc =>
    run_copy_cells W _ _ ty 28 w.heap.size i (n + m - i) dc ⟨vb, 0, none⟩ m m vs Try.underlying22 hsz (by rw [hvl]; simp only [Nat.min_def]; split <;> omega)
      (fun j v hj => by rw [Addr.add_lit, Nat.zero_add, hWc]; exact hOv _ v (hvs j v hj))
      (fun j hj => by rw [hWc]; exact hNs _ (by omega)) (fun j hj => by rw [hWf]; exact frozen_row hN) h1v
  have hdl : (us.drop i).length = n - i := by rw [List.length_drop, hul]
  have hgN : g ≠ w.heap.size := by omega
  have hcpB : ∀ (W : World), (∀ x, W.cell? x = (W1.setCells w.heap.size i vs).cell? x) → (∀ x, W.frozen? x = (W1.setCells w.heap.size i vs).frozen? x) → ∀ ty dc sc, (Builtin.copy_ #[22, 22] ty #[.slice (some ⟨w.heap.size, i + m, none⟩) (n + m - (i + m)) dc, .slice (some ⟨g, i, none⟩) (n - i) sc]).run Try.prog W = .ok (goInt (us.drop i).length) (W.setCells w.heap.size (i + m) (us.drop i)) := fun W hWc hWf ty dc sc =>
    run_copy_cells W _ _ ty 28 w.heap.size (i + m) (n + m - (i + m)) dc ⟨g, i, none⟩ (n - i) sc (us.drop i) Try.underlying22 hsz (by rw [hdl]; simp only [Nat.min_def]; split <;> omega)
      (fun j v hj => by
        rw [Addr.add_lit, hWc, World.cell?_setCells_out _ _ _ _ _ (fun h _ => absurd h hgN)]
        exact hOb _ v (h.cell (i + j) v (by rwa [List.getElem?_drop] at hj)))
      (fun j hj => by rw [hWc]; exact isSome_setCells _ _ _ _ (fun t ht => hNs _ (by omega)) _ (hNs _ (by omega)))
      (fun j hj => by rw [hWf, World.frozen?_setCells]; exact frozen_row hN) (fun v hv => h.one v (List.mem_of_mem_drop hv))
  have hGi : ¬ (G = i) := by omega
  have hGim : ¬ (G = i + m) := by omega
  have hci : ¬ (n = i) := by omega
  have HEND : Hid (∃ v', (.returned (.slice (some ⟨w.heap.size, 0, none⟩) (n + m) G) : Ending) = .returned v' ∧ Below w.heap.size w ((((w.alloc (.cells ROW 28)).drew.setCells w.heap.size i vs).drew).setCells w.heap.size (i + m) (us.drop i)) ∧ ((((w.alloc (.cells ROW 28)).drew.setCells w.heap.size i vs).drew).setCells w.heap.size (i + m) (us.drop i)).ownsRow w.heap.size 28 1 v' (n + m) (us.take i ++ vs ++ us.drop i)) := by
    have hA : (w.alloc (.cells ROW 28)).drew = W1 := by rw [hW1]; rfl
    rw [hA]
    have q1 := heap_setCells vs W1 ROW i hN (by rw [hvl, hRs]; omega)
    have q2 := heap_setCells (us.drop i) (W1.setCells w.heap.size i vs).drew _ (i + m) q1 (by simp [hdl, hvl, hRs]; omega)
    have o1 := off_setCells w.heap.size vs W1 i
    have o2 := off_setCells w.heap.size (us.drop i) (W1.setCells w.heap.size i vs).drew (i + m)
    have b1 : Below w.heap.size w (W1.setCells w.heap.size i vs).drew := (hB1.trans (o1.below hB1.size (by simp))).trans (below_drewN _ _ 1)
    refine ⟨_, rfl, b1.trans (o2.below b1.size (by simp)), ⟨by simp [hul, hvl]; omega, .inr ⟨w.heap.size, G, _, rfl, Nat.le_refl _, q2, hGn, hG0, ?_, ?_⟩⟩⟩
    · simp [hdl, hvl, hRs]; omega
    · have := ins_row us vs ROW.toList n m i hul hvl (by omega) hRt (by simp [hRs]; omega)
      rw [hdl, hvl, Nat.mul_one]
      exact this
  subst hW1
  have hE1 : ∀ x, ((w.alloc (.cells ROW 28)).drew).cell? x = (w.drew.alloc (.cells ROW 28)).cell? x := fun x => rfl
  have hE2 : ∀ x, ((w.alloc (.cells ROW 28)).drew).frozen? x = (w.drew.alloc (.cells ROW 28)).frozen? x := fun x => rfl
  have hF1 : ∀ x, (((w.alloc (.cells ROW 28)).drew.setCells w.heap.size i vs).drew).cell? x = ((w.drew.alloc (.cells ROW 28)).setCells w.heap.size i vs).cell? x := fun x => rfl
  have hF2 : ∀ x, (((w.alloc (.cells ROW 28)).drew.setCells w.heap.size i vs).drew).frozen? x = ((w.drew.alloc (.cells ROW 28)).setCells w.heap.size i vs).frozen? x := fun x => rfl
  have hw1 : IntKind.i64.wrap ((i : Int) + (m : Int)) = (i : Int) + (m : Int) := by rw [IntKind.wrap_i64]; omega
  have hb1 : (0 : Int) ≤ (i : Int) + (m : Int) := by omega
  have hin : i ≤ n := by omega
  have htn : ((i : Int) + (m : Int)).toNat = i + m := by omega
  have hb3 : (i : Int) ≤ (n : Int) := by omega
  clear hkk hik hold hROW hG hRs hRt hN hNs hB1 hOb hOv h hvs hgw hvw hul
  go_enter Try.func30, Try.ntmps30
  go_wp2_with (first
    | (at_builtin; refine Lib.wpList_append_run _ rfl _ _ _ _ rfl _ _ rfl rfl _ _ (hrz _) ?_)
    | (at_builtin; refine wpList_copy_runI _ rfl _ _ 22 22 rfl _ _ rfl rfl (hcpA _ hE1 hE2 _ _) ?_)
    | (at_builtin; refine wpList_copy_runI _ rfl _ _ 22 22 rfl _ _ rfl rfl (hcpB _ (fun _ => rfl) (fun _ => rfl) _ _ _) ?_))
  go_region_law_o (refine step_copy_runI rfl _ _ 22 22 rfl (.slice (some ⟨w.heap.size, i + m, none⟩) (n + m - (i + m)) (G - (i + m))) (.slice (some ⟨g, i, none⟩) (n - i) (n - i)) (by simp [Act.eval, Act.put]) (by simp [Act.eval, Act.put]) (hcpB _ hF1 hF2 3 (G - (i + m)) (n - i)) ?_)
  go_wp2
  go_ret
  exact HEND.out
set_option maxHeartbeats 4000000 in
set_option maxRecDepth 1000000 in
theorem insert_end {w : World} {g n vb m : Nat} {us vs : List Value} (h : FullRow w g n us) (hm : 0 < m) (hbig : (n + m) * 24 ≤ 140737488355328) (hvl : vs.length = m)
    (hvs : ∀ j v, vs[j]? = some v → w.cell? ⟨vb, j, none⟩ = some v) (h1v : ∀ v ∈ vs, v.oneCell' = true) :
    Calls Try.prog 30 #[.slice (some ⟨g, 0, none⟩) n n, .int .i64 (n : Int), .slice (some ⟨vb, 0, none⟩) m m] w fun e w' => ∃ v', e = .returned v' ∧ Below w.heap.size w w' ∧ w'.ownsRow w.heap.size 28 1 v' (n + m) (us.take n ++ vs ++ us.drop n) := by
  obtain ⟨i0, hi0, hz0, hzs, hzb⟩ := Try.info28p
  have hz1 : ¬ ((m : Int) = 0) := by omega
  have hul := h.len
  have hsrc : Src Try.prog i0.size 22 (.slice (some ⟨vb, 0, none⟩) m m) m vs w := by
    rw [hzs]
    exact Src.ofSlice w Try.underlying22 ⟨vb, 0, none⟩ m m vs (by omega) (fun j u hj => by rw [Addr.add_lit, Nat.zero_add]; exact hvs j u hj) h1v
  have hold : (Builtin.firstCells i0.size n (.slice (some ⟨g, 0, none⟩) n n)).run Try.prog w.drew = .ok us.toArray w.drew := by
    rw [hzs]
    exact run_firstCells_some w.drew 1 n ⟨g, 0, none⟩ n n us (by omega) (fun j v hj => by rw [Addr.add_lit, Nat.zero_add]; exact h.cell j v hj)
  have hrun : ∀ ty, (Builtin.append_ #[22, 22] ty #[.slice (some ⟨g, 0, none⟩) n n, .slice (some ⟨vb, 0, none⟩) m m]).run Try.prog w = _ := fun ty =>
    run_append_grow_src w 22 22 ty 28 i0 _ Try.underlying22 hi0 hz0 (some ⟨g, 0, none⟩) n n us hold _ m vs hsrc (by omega) (by omega) (by rw [hzb]; exact growslice_fits (by omega) hbig)
  have HEND : Hid (∀ A, A = Builtin.zeroCells nilS.cells (grownCap w (n + m) n 28 - (n + m)) → ∃ v', (.returned (.slice (some ⟨w.heap.size, 0, none⟩) (n + m) (grownCap w (n + m) n 28)) : Ending) = .returned v' ∧ Below w.heap.size w (w.drew.alloc (.cells ((us ++ vs).toArray ++ A) 28)) ∧ (w.drew.alloc (.cells ((us ++ vs).toArray ++ A) 28)).ownsRow w.heap.size 28 1 v' (n + m) (us.take n ++ vs ++ us.drop n)) := by
    rintro A rfl
    have hGn : n + m ≤ grownCap w (n + m) n 28 := grownCap_ge w _ _ _
    have hG0 : grownCap w (n + m) n 28 ≤ maxLen := grownCap_le_maxLen w (n + m) n 28 (by unfold maxLen; omega)
    have e1 : us.take n ++ vs ++ us.drop n = us ++ vs := by rw [← hul, List.take_length, List.drop_length, List.append_nil]
    rw [e1]
    refine ⟨_, rfl, (below_drewN w.heap.size w 1).trans ((Below.refl w.heap.size (w.drewN 1)).alloc (Nat.le_refl _) _), ⟨by simp [hul, hvl], .inr ⟨w.heap.size, _, _, rfl, Nat.le_refl _, heap_alloc_new w.drew _, hGn, hG0, ?_, ?_⟩⟩⟩
    · simp [zeroCells_len _ (show nilS.cells.size = 1 from rfl), hul, hvl]; omega
    · have hl : (us ++ vs).length = n + m := by simp [hul, hvl]
      rw [Nat.mul_one, Array.toList_append, ← hl]
      exact List.take_left
  go_enter Try.func30, Try.ntmps30
  clear h hvs hsrc hold
  go_wp2_with (at_builtin; refine Lib.wpList_append_run _ rfl _ _ _ _ rfl _ _ rfl rfl _ _ (hrun _) ?_)
  all_goals go_ret
  all_goals exact HEND.out _ rfl
/-- A text comes into a row of texts that has no room. -/
theorem insertT {base : Nat} {w : World} {v u : Value} {L : List (List UInt8)} {l : List UInt8} {i vb : Nat} (h : TsOwn base w v L) (hf : Full v) (hi : i ≤ L.length) (hbig : (L.length + 1) * 24 ≤ 140737488355328) (hb : base ≤ w.heap.size)
    (hu : w.ownsRow base 5 1 u l.length (secCells l)) (hv : w.cell? ⟨vb, 0, none⟩ = some u) :
    Calls Try.prog 30 #[v, .int .i64 (i : Int), .slice (some ⟨vb, 0, none⟩) 1 1] w fun e w' => ∃ v', e = .returned v' ∧ Below w.heap.size w w' ∧ TsOwn base w' v' (L.take i ++ [l] ++ L.drop i) ∧ ∀ k, v'.ownBlock = some k → w.heap.size ≤ k := by
  obtain ⟨us, h1, h2⟩ := h.out
  obtain ⟨g, n, rfl⟩ := hf
  have hul : us.length = L.length := h1.len
  have hcur : n = L.length ∧ w.heap[g]? = some (.cells us.toArray 28 (0, 0)) := by
    rcases h2.2 with ⟨e, _⟩ | ⟨g', cap, cur, e, hb', hg, c1, c2, c3, c4⟩
    · cases e
    · injection e with e1 e2 e3
      injection e1 with e1
      injection e1 with e1
      subst e1 e3
      refine ⟨e2, ?_⟩
      rw [hg]
      have : cur = us.toArray := by
        apply Array.ext'
        rw [← c4, List.take_of_length_le (by simp; omega)]
      rw [this]
  obtain ⟨rfl, hg⟩ := hcur
  have hF : FullRow w g L.length us := ⟨hg, hul, h1.one⟩
  have hou : OwnT base w [u] [l] := ⟨hu, trivial⟩
  have hvs : ∀ j x, [u][j]? = some x → w.cell? ⟨vb, j, none⟩ = some x := fun j x hj => by
    match j with
    | 0 => simp at hj; rw [← hj]; exact hv
    | j + 1 => simp at hj
  have fin : ∀ w' v', Below w.heap.size w w' → w'.ownsRow w.heap.size 28 1 v' (L.length + 1) (us.take i ++ [u] ++ us.drop i) → TsOwn base w' v' (L.take i ++ [l] ++ L.drop i) ∧ ∀ k, v'.ownBlock = some k → w.heap.size ≤ k := fun w' v' hB ho => by
    refine ⟨⟨us.take i ++ [u] ++ us.drop i, (((h1.take i).append hou).append (h1.drop i)).below hB (Nat.le_refl _), ?_⟩, fun k hk => (ho.lt k hk).1⟩
    have e : (L.take i ++ [l] ++ L.drop i).length = L.length + 1 := by simp; omega
    rw [e]
    exact owns_mono ho hb
  rcases Nat.lt_or_ge i L.length with hlt | hge
  · refine (insert_mid (vs := [u]) hF hlt (Nat.lt_succ_self 0) hbig rfl hvs hou.one).mono ?_
    rintro e w' ⟨v', rfl, hB, ho⟩
    exact ⟨v', rfl, hB, fin w' v' hB ho⟩
  · have hie : i = L.length := by omega
    subst hie
    refine (insert_end (vs := [u]) hF (Nat.lt_succ_self 0) hbig rfl hvs hou.one).mono ?_
    rintro e w' ⟨v', rfl, hB, ho⟩
    exact ⟨v', rfl, hB, fin w' v' hB ho⟩
end Go.Proofs.Ytjcobejaldfibaa
