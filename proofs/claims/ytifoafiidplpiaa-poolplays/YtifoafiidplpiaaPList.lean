/- Dirty: the list of dirty pages. -/
import Derived.Test.YtifoafiidplpiaaPDirty
namespace Go.Proofs.Ytifoafiidplpiaa
open Go.RowKit
set_option linter.unusedVariables false
set_option linter.unusedSimpArgs false

def dirtL (l : List Fm) : List (Int × Int) := (l.filter (·.dirty)).map fun f => (f.page, f.rlsn)
def cellsD (l : List (Int × Int)) : List Value := (l.map encD).flatten
theorem dirtL_snoc (l : List Fm) (f : Fm) : dirtL (l ++ [f]) = if f.dirty = true then dirtL l ++ [(f.page, f.rlsn)] else dirtL l := by
  unfold dirtL
  rw [List.filter_append, List.map_append]
  by_cases h : f.dirty = true
  · rw [if_pos h]; simp [h]
  · rw [if_neg h]; simp [h]
theorem cellsD_snoc (l : List (Int × Int)) (x : Int × Int) : cellsD (l ++ [x]) = cellsD l ++ encD x := by simp [cellsD]
theorem length_cellsD (l : List (Int × Int)) : (cellsD l).length = l.length * 2 := by
  unfold cellsD
  rw [flat_length 2 _ (fun x hx => by obtain ⟨y, _, rfl⟩ := List.mem_map.1 hx; rfl), List.length_map]
theorem dirtL_le (l : List Fm) : (dirtL l).length ≤ l.length := by unfold dirtL; rw [List.length_map]; exact List.length_filter_le _ _
theorem Try.info45 : (Try.prog.info? 45).map (fun i => (i.zero, i.size, i.bytes)) = some (some (.agg #[.int .i64 0, .int .i64 0]), 2, 16) := by kernel_rfl
theorem BytesOk.form {w : World} {bl : List Nat} {f : Fm} {v : Value} (h : BytesOk w bl f v) : ∃ a m c, v = .slice a m c := by
  rcases h with ⟨_, rfl⟩ | ⟨g, c, rfl, _⟩
  · exact ⟨_, _, _, rfl⟩
  · exact ⟨_, _, _, rfl⟩
section
variable {Φ : Force} {w0 w w' : World} {P G q p n : Nat} {xs bl ff : List Nat} {vs : List Value} {S : Pl Φ.σ} {D D' : Dv}
set_option maxHeartbeats 1000000 in
set_option maxRecDepth 100000 in
theorem ins_none (po : Option Addr) (c : Nat) (fv : Value) (W : World) : Calls Try.prog 57 #[.slice po 0 c, .int .i64 0, .int .i64 0, fv] W fun e w' => e = .returned (.tuple #[]) ∧ w' = W := by
  go_enter Try.func57, Try.ntmps57
  go_wp2
  refine wp_loop_rounds 1 ?_
  rw [rounds_succ]
  go_wp2
  go_end0
  exact ⟨rfl, rfl⟩
set_option maxHeartbeats 1000000 in
set_option maxRecDepth 100000 in
theorem pdq_none (po : Option Addr) (c : Nat) (l : Int) (fv : Value) (W : World) : Calls Try.prog 50 #[.slice po 0 c, .int .i64 0, .int .i64 0, .int .i64 l, fv] W fun e w' => e = .returned (.tuple #[]) ∧ w' = W := by
  have hi := ins_none po c fv
  go_enter Try.func50, Try.ntmps50
  go_wp2
  refine wp_loop_rounds 1 ?_
  rw [rounds_succ]
  go_wp2_with (go_at_call 57; refine (hi _).mono ?_; rintro e w' ⟨rfl, rfl⟩)
  (try simp only [Exit.inBlock, Exit.then]); refine bodyPost_ret (results_none rfl _ _ _) rfl ?_
  exact ⟨rfl, rfl⟩
set_option maxHeartbeats 1000000 in
set_option maxRecDepth 100000 in
theorem sort_none (po : Option Addr) (c : Nat) (fv : Value) (W : World) : Calls Try.prog 37 #[.slice po 0 c, fv] W fun e w' => e = .returned (.tuple #[]) ∧ w' = W := by
  have hp := fun l W => pdq_none po c l fv W
  have hl : ∀ W, Calls Try.prog 51 #[.int .u64 0] W fun e w' => (∃ l : Int, e = .returned (.int .i64 l)) ∧ w' = W := fun W => len_any 0 W (by omega)
  go_enter Try.func37, Try.ntmps37
  go_wp2_with (first
    | (go_at_call 51; refine (hl _).mono ?_; rintro e w' ⟨⟨l, rfl⟩, rfl⟩)
    | (go_at_call 50; refine (hp _ _).mono ?_; rintro e w' ⟨rfl, rfl⟩))
  go_end0
  exact ⟨rfl, rfl⟩
/-- A list of dirty pages in memory. -/
def DirtAt (w : World) (v : Value) (d : List (Int × Int)) : Prop :=
  ∃ ao c, v = .slice ao d.length c ∧ ∀ (j : Nat) x, d[j]? = some x → ∃ g, ao = some ⟨g, 0, none⟩ ∧ w.cell? ⟨g, j * 2, none⟩ = some (.int .i64 x.1) ∧ w.cell? ⟨g, j * 2 + 1, none⟩ = some (.int .i64 x.2)
theorem DirtAt.below {w w' : World} {v : Value} {d : List (Int × Int)} (h : DirtAt w v d) (hb : Below w.heap.size w w') : DirtAt w' v d := by
  obtain ⟨ao, c, h1, h2⟩ := h
  refine ⟨ao, c, h1, fun j x hx => ?_⟩
  obtain ⟨g, a1, a2, a3⟩ := h2 j x hx
  exact ⟨g, a1, (hb.cell (p := ⟨g, j * 2, none⟩) (World.block_lt_of_cell? w _ a2)).trans a2, (hb.cell (p := ⟨g, j * 2 + 1, none⟩) (World.block_lt_of_cell? w _ a3)).trans a3⟩
theorem holds_of_owns {w : World} {g : Nat} {cur : Array Value} {l : List (Int × Int)} (hg : w.heap[g]? = some (.cells cur 45 (0, 0))) (ht : cur.toList.take (l.length * 2) = cellsD l) : Go.Sort.HoldsK encD 2 w g 0 l.toArray := by
  intro j hj
  rw [Go.Sort.size_flatK] at hj
  have hj' : j < l.length * 2 := by simpa using hj
  have e : (cellsD l)[j]? = some ((Go.Sort.flatK encD 2 l.toArray)[j]!) := by
    rw [Go.Sort.get_flatK _ _ _ _ hj]
    have := flat_get 2 (l.map encD) (fun x hx => by obtain ⟨y, _, rfl⟩ := List.mem_map.1 hx; rfl) (j / 2) (by rw [List.length_map]; omega) (j % 2) (by omega)
    rw [show j / 2 * 2 + j % 2 = j by omega] at this
    unfold cellsD
    rw [this, List.getElem_map, getElem!_pos l.toArray (j / 2) (by simp; omega), List.getElem_toArray]
    have h2 : j % 2 = 0 ∨ j % 2 = 1 := by omega
    rcases h2 with h2 | h2 <;> rw [h2] <;> rfl
  refine ⟨?_, frozen_of_row w g _ _ _ hg⟩
  rw [Nat.zero_add, cell_of_row w g j _ _ _ hg]
  rw [← ht, List.getElem?_take, if_pos hj'] at e
  simpa using e
theorem dirt_of_holds {w : World} {g c : Nat} {d : Array (Int × Int)} (h : Go.Sort.HoldsK encD 2 w g 0 d) : DirtAt w (.slice (some ⟨g, 0, none⟩) d.size c) d.toList := by
  refine ⟨some ⟨g, 0, none⟩, c, by simp, fun j x hx => ?_⟩
  obtain ⟨hj, rfl⟩ := List.getElem?_eq_some_iff.1 hx
  have hj' : j < d.size := by simpa using hj
  have a1 := (h.cell (i := j) (c := 0) hj' (by omega)).1
  have a2 := (h.cell (i := j) (c := 1) hj' (by omega)).1
  rw [getElem!_pos d j hj'] at a1 a2
  rw [Nat.zero_add] at a1 a2
  exact ⟨g, rfl, a1, a2⟩
set_option maxHeartbeats 2000000 in
set_option maxRecDepth 100000 in
theorem dirty_any (h : PoolIs Φ w0 w P G q p n xs bl ff vs S D) (h12 : (dirtL S.fs).length ≤ 12) :
    Calls Try.prog 14 #[.pointer (some ⟨P, 0, none⟩)] w fun e w' => ∃ v d, e = .returned v ∧ DirtAt w' v d ∧ d.Perm (dirtL S.fs) ∧ d.Pairwise (fun x y => x.1 ≤ y.1) ∧ Below w.heap.size w w' := by
  have c2 := h.c2
  have hm64 := h.f2
  have H := hide h
  clear h
  go_enter Try.func14, Try.ntmps14
  go_wp2
  go_loopw [11, 3] (fun i v wr => ∃ k : Nat, k ≤ S.fs.length ∧ i = .int .i64 k ∧ Off [] w wr ∧ wr.ownsRow 0 45 2 v (dirtL (S.fs.take k)).length (cellsD (dirtL (S.fs.take k))) ∧ (∀ b, v.ownBlock = some b → w.heap.size ≤ b)) (fun i _ _ => S.fs.length - (intOf i).toNat)
  case atStart => exact ⟨0, by omega, rfl, Off.refl _ _, ⟨by simp [dirtL, cellsD], .inl ⟨rfl, by simp [dirtL]⟩⟩, fun b hb => by simp [Value.ownBlock] at hb⟩
  case round =>
    obtain ⟨k, hk, rfl, hO, hown, hnew⟩ := hrel
    have HO := hide hO
    have HOWN := hide hown
    have HNEW := hide hnew
    clear hO hown hnew
    obtain ⟨N, hN⟩ : ∃ N, S.fs.length = N := ⟨_, rfl⟩
    by_cases hlt : k < S.fs.length
    · obtain ⟨f, hf⟩ : ∃ f, S.fs[k]? = some f := ⟨_, List.getElem?_eq_getElem hlt⟩
      have HW := hide (H.out.belowW (HO.out.below (Nat.le_refl _) (fun k hk => by simp at hk)))
      obtain ⟨v, hv, hB, _, d0, d1, d2, d3, d4, d5, d6⟩ := HW.out.cells k f hf
      have HTK : Hid (S.fs.take (k + 1) = S.fs.take k ++ [f]) := by
        show _ = _
        obtain ⟨hl, rfl⟩ := List.getElem?_eq_some_iff.1 hf
        exact List.take_succ_eq_append_getElem hl
      obtain ⟨va, vm, vc, rfl⟩ := hB.form
      have HLN := hide (Nat.le_trans (dirtL_le (S.fs.take k)) (List.length_take_le k S.fs))
      clear hf hB hv
      rw [hN] at hlt hk c2 hm64
      have HN := hide hN
      clear hN
      by_cases hd : f.dirty = true
      · rw [hd] at d4
        have HD := hide hd
        clear hd
        have HO2 : Hid (Off [] wr ((wr.alloc (.cells #[.bool f.held, .int .i64 f.page, .slice va vm vc, .bool f.asked, .bool true, .int .i64 f.rlsn, .int .i64 f.lsn] 82)).alloc (.cells #[.int .i64 f.page, .int .i64 f.rlsn] 45))) := ((Off.refl _ _).alloc _).alloc _
        have HOWN2 := hide (owns_of_block HOWN.out (fun b hb => HO2.out.block b ((HOWN.out.lt b hb).2) (by simp)))
        have HNW : Hid (((wr.alloc (.cells #[.bool f.held, .int .i64 f.page, .slice va vm vc, .bool f.asked, .bool true, .int .i64 f.rlsn, .int .i64 f.lsn] 82)).alloc (.cells #[.int .i64 f.page, .int .i64 f.rlsn] 45)).heap[wr.heap.size + 1]? = some (.cells (encD (f.page, f.rlsn)).toArray 45 (0, 0))) := by
          show _ = _
          have := heap_alloc_new (wr.alloc (.cells #[.bool f.held, .int .i64 f.page, .slice va vm vc, .bool f.asked, .bool true, .int .i64 f.rlsn, .int .i64 f.lsn] 82)) (.cells #[.int .i64 f.page, .int .i64 f.rlsn] 45)
          rw [show (wr.alloc (.cells #[.bool f.held, .int .i64 f.page, .slice va vm vc, .bool f.asked, .bool true, .int .i64 f.rlsn, .int .i64 f.lsn] 82)).heap.size = wr.heap.size + 1 by simp] at this
          exact this
        have HSRC := hide (src_of_block HNW.out)
        go_wp2_with (refine wpList_append_owned rfl _ _ 42 rfl 45 (.agg #[.int .i64 0, .int .i64 0]) 2 16 Try.underlying42 Try.info45 rfl (by omega) _ _ _ rfl HOWN2.out ⟨wr.heap.size + 1, 0, none⟩ 1 1 (encD (f.page, f.rlsn)) rfl rfl HSRC.out (by intro u hu; simp [encD] at hu; rcases hu with rfl | rfl <;> rfl) (by have := HLN.out; simp only [maxLen]; omega) (by have := HLN.out; omega) ?_; intro v4 w4 r1 r2 r3; have H4 := hide (And.intro r1 (And.intro r2 r3)); clear r1 r2 r3)
        go_roundw
        case rel =>
          have hd' : dirtL (S.fs.take (k + 1)) = dirtL (S.fs.take k) ++ [(f.page, f.rlsn)] := by rw [HTK.out, dirtL_snoc, if_pos HD.out]
          have hO4 := (HO.out.trans (fp' := []) (HO2.out) (fun i hi => by simp at hi))
          refine ⟨k + 1, by rw [HN.out]; omega, by go_num, hO4.grown H4.out.2.1 (fun b hb => .inr (HNEW.out b hb)), ?_, fun b hb => ?_⟩
          · rw [hd', List.length_append, cellsD_snoc]
            exact H4.out.1
          · rcases H4.out.2.2 b hb with h1 | h1
            · exact HNEW.out b h1
            · have := hO4.size; omega
        case measure => rw [HN.out]; simp [intOf]; omega
      · have hd' : f.dirty = false := by simpa using hd
        rw [hd'] at d4
        have HD := hide hd
        clear hd hd'
        have HO2 : Hid (Off [] wr (wr.alloc (.cells #[.bool f.held, .int .i64 f.page, .slice va vm vc, .bool f.asked, .bool false, .int .i64 f.rlsn, .int .i64 f.lsn] 82))) := (Off.refl _ _).alloc _
        go_wp2
        go_roundw
        case rel =>
          have hd' : dirtL (S.fs.take (k + 1)) = dirtL (S.fs.take k) := by rw [HTK.out, dirtL_snoc, if_neg HD.out]
          refine ⟨k + 1, by rw [HN.out]; omega, by go_num, HO.out.trans (fp' := []) HO2.out (fun i hi => by simp at hi), ?_, HNEW.out⟩
          rw [hd']
          exact owns_of_block HOWN.out (fun b hb => HO2.out.block b ((HOWN.out.lt b hb).2) (by simp))
        case measure => rw [HN.out]; simp [intOf]; omega
    · have hk' : k = S.fs.length := by omega
      have hfull : S.fs.take k = S.fs := by rw [hk', List.take_length]
      rw [hfull] at HOWN
      have HB := hide (HO.out.below (Nat.le_refl _) (fun k hk => by simp at hk))
      clear hfull
      obtain ⟨hl, hcase⟩ := HOWN.out
      rcases hcase with ⟨rfl, hn0⟩ | ⟨g, cap, cur, rfl, hg0, hblk, hnc, hcm, hcs, htk⟩
      · have HS := hide (fun W => sort_none none 0 (.func (.func 38) #[] #[]) W)
        have hnil : dirtL S.fs = [] := List.eq_nil_of_length_eq_zero hn0
        have HNI := hide hnil
        clear hnil hn0 hl HOWN
        go_wp2_with (go_at_call 37; refine (HS.out _).mono ?_; rintro e w' ⟨rfl, hw⟩; have hw := hw.symm; subst hw)
        go_ret
        refine ⟨_, [], rfl, ⟨none, 0, rfl, fun j x hx => by simp at hx⟩, by rw [HNI.out], List.Pairwise.nil, HB.out⟩
      · have hH := holds_of_owns hblk htk
        have HS := hide (sort_any g cap (dirtL S.fs).toArray wr hH (Array.getElem?_eq_some_iff.1 hblk).1 (by simpa using h12))
        have hgn : w.heap.size ≤ g := HNEW.out g rfl
        have HSZ : Hid ((dirtL S.fs).toArray.size = (dirtL S.fs).length) := by show _ = _; simp
        rw [HSZ.out] at HS
        obtain ⟨L, hL⟩ : ∃ L, (dirtL S.fs).length = L := ⟨_, rfl⟩
        rw [hL] at HS HSZ
        have HL := hide hL
        clear hl HOWN hblk hnc hcm hcs htk hH HNEW
        rw [hL]
        clear hL
        go_wp2_with (go_at_call 37; refine HS.out.mono ?_; rintro e w5 ⟨rfl, d', hp, hs', hpw, hH', hO5⟩; have H5 := hide (And.intro hp (And.intro hs' (And.intro hpw (And.intro hH' hO5)))); clear hp hs' hpw hH' hO5)
        go_ret
        have hO5 := H5.out.2.2.2.2
        refine ⟨_, d'.toList, rfl, ?_, by simpa using H5.out.1, H5.out.2.2.1, HB.out.trans (hO5.below HB.out.size (fun k hk => by simp at hk; omega))⟩
        have := dirt_of_holds (c := cap) H5.out.2.2.2.1
        rw [H5.out.2.1] at this
        exact this
end
end Go.Proofs.Ytifoafiidplpiaa
