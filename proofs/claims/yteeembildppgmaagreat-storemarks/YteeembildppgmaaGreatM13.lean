/- A part of it: PList SBack. -/
import Derived.Test.YteeembildppgmaaGreatM12
import Derived.Test.YteeembildppgmaaGreatM9
namespace Go.Proofs.YteeembildppgmaaGreat
open Go.RowKit
set_option linter.unusedVariables false
set_option linter.unusedSimpArgs false
def dirtL (l : List Fm) : List (Int × Int) := (l.filter (·.dirty)).map fun f => (f.page, f.rlsn)
def cellsD (l : List (Int × Int)) : List Value := (l.map encD).flatten
theorem dirtL_snoc (l : List Fm) (f : Fm) : dirtL (l ++ [f]) = if f.dirty = true then dirtL l ++ [(f.page, f.rlsn)] else dirtL l := by
  unfold dirtL
  rw [List.filter_append, List.map_append]
  by_cases h : f.dirty = true
  · rw [if_pos h]; simp [h]
  · rw [if_neg h]; simp [h]
theorem cellsD_snoc (l : List (Int × Int)) (x : Int × Int) : cellsD (l ++ [x]) = cellsD l ++ encD x := by simp [cellsD]
theorem dirtL_le (l : List Fm) : (dirtL l).length ≤ l.length := by unfold dirtL; rw [List.length_map]; exact List.length_filter_le _ _
theorem Tryz.info142 : (Tryz.prog.info? 142).map (fun i => (i.zero, i.size, i.bytes)) = some (some (.agg #[.int .i64 0, .int .i64 0]), 2, 16) := by kernel_rfl
theorem BytesOk.form {w : World} {bl : List Nat} {f : Fm} {v : Value} (h : BytesOk w bl f v) : ∃ a m c, v = .slice a m c := by
  rcases h with ⟨_, rfl⟩ | ⟨g, c, rfl, _⟩
  · exact ⟨_, _, _, rfl⟩
  · exact ⟨_, _, _, rfl⟩
section
variable {Φ : Back} {w0 w w' : World} {P G : Nat} {xs bl : List Nat} {vs : List Value} {S : Pl Φ.σ}
set_option maxHeartbeats 1000000 in
set_option maxRecDepth 100000 in
theorem ins_none (po : Option Addr) (c : Nat) (fv : Value) (W : World) : Calls Tryz.prog 168 #[.slice po 0 c, .int .i64 0, .int .i64 0, fv] W fun e w' => e = .returned (.tuple #[]) ∧ w' = W := by
  go_enter Tryz.func168, Tryz.ntmps168
  go_wp2
  refine wp_loop_rounds 1 ?_
  rw [rounds_succ]
  go_wp2
  go_end0
  exact ⟨rfl, rfl⟩
set_option maxHeartbeats 1000000 in
set_option maxRecDepth 100000 in
theorem pdq_none (po : Option Addr) (c : Nat) (l : Int) (fv : Value) (W : World) : Calls Tryz.prog 146 #[.slice po 0 c, .int .i64 0, .int .i64 0, .int .i64 l, fv] W fun e w' => e = .returned (.tuple #[]) ∧ w' = W := by
  have hi := ins_none po c fv
  go_enter Tryz.func146, Tryz.ntmps146
  go_wp2
  refine wp_loop_rounds 1 ?_
  rw [rounds_succ]
  go_wp2_with (go_at_call 168; refine (hi _).mono ?_; rintro e w' ⟨rfl, rfl⟩)
  (try simp only [Exit.inBlock, Exit.then]); refine bodyPost_ret (results_none rfl _ _ _) rfl ?_
  exact ⟨rfl, rfl⟩
set_option maxHeartbeats 1000000 in
set_option maxRecDepth 100000 in
theorem sort_none (po : Option Addr) (c : Nat) (fv : Value) (W : World) : Calls Tryz.prog 117 #[.slice po 0 c, fv] W fun e w' => e = .returned (.tuple #[]) ∧ w' = W := by
  have hp := fun l W => pdq_none po c l fv W
  have hl : ∀ W, Calls Tryz.prog 147 #[.int .u64 0] W fun e w' => (∃ l : Int, e = .returned (.int .i64 l)) ∧ w' = W := fun W => len_any 0 W (by omega)
  go_enter Tryz.func117, Tryz.ntmps117
  go_wp2_with (first
    | (go_at_call 147; refine (hl _).mono ?_; rintro e w' ⟨⟨l, rfl⟩, rfl⟩)
    | (go_at_call 146; refine (hp _ _).mono ?_; rintro e w' ⟨rfl, rfl⟩))
  go_end0
  exact ⟨rfl, rfl⟩
def DirtAt (w : World) (v : Value) (d : List (Int × Int)) : Prop :=
  ∃ ao c, v = .slice ao d.length c ∧ ∀ (j : Nat) x, d[j]? = some x → ∃ g, ao = some ⟨g, 0, none⟩ ∧ w.cell? ⟨g, j * 2, none⟩ = some (.int .i64 x.1) ∧ w.cell? ⟨g, j * 2 + 1, none⟩ = some (.int .i64 x.2)
theorem DirtAt.below {w w' : World} {v : Value} {d : List (Int × Int)} (h : DirtAt w v d) (hb : Below w.heap.size w w') : DirtAt w' v d := by
  obtain ⟨ao, c, h1, h2⟩ := h
  refine ⟨ao, c, h1, fun j x hx => ?_⟩
  obtain ⟨g, a1, a2, a3⟩ := h2 j x hx
  exact ⟨g, a1, (hb.cell (p := ⟨g, j * 2, none⟩) (World.block_lt_of_cell? w _ a2)).trans a2, (hb.cell (p := ⟨g, j * 2 + 1, none⟩) (World.block_lt_of_cell? w _ a3)).trans a3⟩
theorem holds_of_owns {w : World} {g : Nat} {cur : Array Value} {l : List (Int × Int)} (hg : w.heap[g]? = some (.cells cur 142 (0, 0))) (ht : cur.toList.take (l.length * 2) = cellsD l) : Go.Sort.HoldsK encD 2 w g 0 l.toArray := by
  intro j hj
  rw [Go.Sort.size_flatK] at hj
  have hj' : j < l.length * 2 := by simpa using hj
  have e : (cellsD l)[j]? = some ((Go.Sort.flatK encD 2 l.toArray)[j]!) := by
    rw [Go.Sort.get_flatK _ _ _ _ hj]
    have := flat_get 2 (l.map encD) (fun x hx => by obtain ⟨y, _, rfl⟩ := List.mem_map.1 hx; rfl) (j / 2) (by rw [List.length_map]; omega) (j % 2) (by omega)
    rw [show j / 2 * 2 + j % 2 = j by omega] at this
    unfold cellsD
    rw [this, List.getElem_map, getElem!_pos l.toArray (j / 2) (by simp; omega), List.getElem_toArray]
    have h2 : j % 2 = 0 ∨ j % 2 = 1 := by omega
    rcases h2 with h2 | h2 <;> rw [h2] <;> rfl
  refine ⟨?_, frozen_of_row w g _ _ _ hg⟩
  rw [Nat.zero_add, cell_of_row w g j _ _ _ hg]
  rw [← ht, List.getElem?_take, if_pos hj'] at e
  simpa using e
theorem dirt_of_holds {w : World} {g c : Nat} {d : Array (Int × Int)} (h : Go.Sort.HoldsK encD 2 w g 0 d) : DirtAt w (.slice (some ⟨g, 0, none⟩) d.size c) d.toList := by
  refine ⟨some ⟨g, 0, none⟩, c, by simp, fun j x hx => ?_⟩
  obtain ⟨hj, rfl⟩ := List.getElem?_eq_some_iff.1 hx
  have hj' : j < d.size := by simpa using hj
  have a1 := (h.cell (i := j) (c := 0) hj' (by omega)).1
  have a2 := (h.cell (i := j) (c := 1) hj' (by omega)).1
  rw [getElem!_pos d j hj'] at a1 a2
  rw [Nat.zero_add] at a1 a2
  exact ⟨g, rfl, a1, a2⟩
set_option maxHeartbeats 2000000 in
set_option maxRecDepth 100000 in
theorem dirty_any (h : PoolIs Φ w0 w P G xs bl vs S) (h12 : (dirtL S.fs).length ≤ 12) :
    Calls Tryz.prog 89 #[.pointer (some ⟨P, 0, none⟩)] w fun e w' => ∃ v d, e = .returned v ∧ DirtAt w' v d ∧ d.Perm (dirtL S.fs) ∧ d.Pairwise (fun x y => x.1 ≤ y.1) ∧ Below w.heap.size w w' := by
  have c2 := h.c2
  have hm64 := h.f2
  have H := hide h
  clear h
  go_enter Tryz.func89, Tryz.ntmps89
  go_wp2
  go_loopw [11, 3] (fun i v wr => ∃ k : Nat, k ≤ S.fs.length ∧ i = .int .i64 k ∧ Off [] w wr ∧ wr.ownsRow 0 142 2 v (dirtL (S.fs.take k)).length (cellsD (dirtL (S.fs.take k))) ∧ (∀ b, v.ownBlock = some b → w.heap.size ≤ b)) (fun i _ _ => S.fs.length - (intOf i).toNat)
  case atStart => exact ⟨0, by omega, rfl, Off.refl _ _, ⟨by simp [dirtL, cellsD], .inl ⟨rfl, by simp [dirtL]⟩⟩, fun b hb => by simp [Value.ownBlock] at hb⟩
  case round =>
    obtain ⟨k, hk, rfl, hO, hown, hnew⟩ := hrel
    have HO := hide hO
    have HOWN := hide hown
    have HNEW := hide hnew
    clear hO hown hnew
    obtain ⟨N, hN⟩ : ∃ N, S.fs.length = N := ⟨_, rfl⟩
    by_cases hlt : k < S.fs.length
    · obtain ⟨f, hf⟩ : ∃ f, S.fs[k]? = some f := ⟨_, List.getElem?_eq_getElem hlt⟩
      have HW := hide (H.out.belowW (HO.out.below (Nat.le_refl _) (fun k hk => by simp at hk)))
      obtain ⟨v, hv, hB, _, d0, d1, d2, d3, d4, d5, d6⟩ := HW.out.cells k f hf
      have HTK : Hid (S.fs.take (k + 1) = S.fs.take k ++ [f]) := by
        show _ = _
        obtain ⟨hl, rfl⟩ := List.getElem?_eq_some_iff.1 hf
        exact List.take_succ_eq_append_getElem hl
      obtain ⟨va, vm, vc, rfl⟩ := hB.form
      have HLN := hide (Nat.le_trans (dirtL_le (S.fs.take k)) (List.length_take_le k S.fs))
      clear hf hB hv
      rw [hN] at hlt hk c2 hm64
      have HN := hide hN
      clear hN
      by_cases hd : f.dirty = true
      · rw [hd] at d4
        have HD := hide hd
        clear hd
        have HO2 : Hid (Off [] wr ((wr.alloc (.cells #[.bool f.held, .int .i64 f.page, .slice va vm vc, .bool f.asked, .bool true, .int .i64 f.rlsn, .int .i64 f.lsn] 132)).alloc (.cells #[.int .i64 f.page, .int .i64 f.rlsn] 142))) := ((Off.refl _ _).alloc _).alloc _
        have HOWN2 := hide (owns_of_block HOWN.out (fun b hb => HO2.out.block b ((HOWN.out.lt b hb).2) (by simp)))
        have HNW : Hid (((wr.alloc (.cells #[.bool f.held, .int .i64 f.page, .slice va vm vc, .bool f.asked, .bool true, .int .i64 f.rlsn, .int .i64 f.lsn] 132)).alloc (.cells #[.int .i64 f.page, .int .i64 f.rlsn] 142)).heap[wr.heap.size + 1]? = some (.cells (encD (f.page, f.rlsn)).toArray 142 (0, 0))) := by
          show _ = _
          have := heap_alloc_new (wr.alloc (.cells #[.bool f.held, .int .i64 f.page, .slice va vm vc, .bool f.asked, .bool true, .int .i64 f.rlsn, .int .i64 f.lsn] 132)) (.cells #[.int .i64 f.page, .int .i64 f.rlsn] 142)
          rw [show (wr.alloc (.cells #[.bool f.held, .int .i64 f.page, .slice va vm vc, .bool f.asked, .bool true, .int .i64 f.rlsn, .int .i64 f.lsn] 132)).heap.size = wr.heap.size + 1 by simp] at this
          exact this
        have HSRC := hide (src_of_block HNW.out)
        go_wp2_with (refine wpList_append_owned rfl _ _ 67 rfl 142 (.agg #[.int .i64 0, .int .i64 0]) 2 16 Tryz.underlying67 Tryz.info142 rfl (by omega) _ _ _ rfl HOWN2.out ⟨wr.heap.size + 1, 0, none⟩ 1 1 (encD (f.page, f.rlsn)) rfl rfl HSRC.out (by intro u hu; simp [encD] at hu; rcases hu with rfl | rfl <;> rfl) (by have := HLN.out; simp only [maxLen]; omega) (by have := HLN.out; omega) ?_; intro v4 w4 r1 r2 r3; have H4 := hide (And.intro r1 (And.intro r2 r3)); clear r1 r2 r3)
        go_roundw
        case rel =>
          have hd' : dirtL (S.fs.take (k + 1)) = dirtL (S.fs.take k) ++ [(f.page, f.rlsn)] := by rw [HTK.out, dirtL_snoc, if_pos HD.out]
          have hO4 := (HO.out.trans (fp' := []) (HO2.out) (fun i hi => by simp at hi))
          refine ⟨k + 1, by rw [HN.out]; omega, by go_num, hO4.grown H4.out.2.1 (fun b hb => .inr (HNEW.out b hb)), ?_, fun b hb => ?_⟩
          · rw [hd', List.length_append, cellsD_snoc]
            exact H4.out.1
          · rcases H4.out.2.2 b hb with h1 | h1
            · exact HNEW.out b h1
            · have := hO4.size; omega
        case measure => rw [HN.out]; simp [intOf]; omega
      · have hd' : f.dirty = false := by simpa using hd
        rw [hd'] at d4
        have HD := hide hd
        clear hd hd'
        have HO2 : Hid (Off [] wr (wr.alloc (.cells #[.bool f.held, .int .i64 f.page, .slice va vm vc, .bool f.asked, .bool false, .int .i64 f.rlsn, .int .i64 f.lsn] 132))) := (Off.refl _ _).alloc _
        go_wp2
        go_roundw
        case rel =>
          have hd' : dirtL (S.fs.take (k + 1)) = dirtL (S.fs.take k) := by rw [HTK.out, dirtL_snoc, if_neg HD.out]
          refine ⟨k + 1, by rw [HN.out]; omega, by go_num, HO.out.trans (fp' := []) HO2.out (fun i hi => by simp at hi), ?_, HNEW.out⟩
          rw [hd']
          exact owns_of_block HOWN.out (fun b hb => HO2.out.block b ((HOWN.out.lt b hb).2) (by simp))
        case measure => rw [HN.out]; simp [intOf]; omega
    · have hk' : k = S.fs.length := by omega
      have hfull : S.fs.take k = S.fs := by rw [hk', List.take_length]
      rw [hfull] at HOWN
      have HB := hide (HO.out.below (Nat.le_refl _) (fun k hk => by simp at hk))
      clear hfull
      obtain ⟨hl, hcase⟩ := HOWN.out
      rcases hcase with ⟨rfl, hn0⟩ | ⟨g, cap, cur, rfl, hg0, hblk, hnc, hcm, hcs, htk⟩
      · have HS := hide (fun W => sort_none none 0 (.func (.func 118) #[] #[]) W)
        have hnil : dirtL S.fs = [] := List.eq_nil_of_length_eq_zero hn0
        have HNI := hide hnil
        clear hnil hn0 hl HOWN
        go_wp2_with (go_at_call 117; refine (HS.out _).mono ?_; rintro e w' ⟨rfl, hw⟩; have hw := hw.symm; subst hw)
        go_ret
        refine ⟨_, [], rfl, ⟨none, 0, rfl, fun j x hx => by simp at hx⟩, by rw [HNI.out], List.Pairwise.nil, HB.out⟩
      · have hH := holds_of_owns hblk htk
        have HS := hide (sort_any g cap (dirtL S.fs).toArray wr hH (Array.getElem?_eq_some_iff.1 hblk).1 (by simpa using h12))
        have hgn : w.heap.size ≤ g := HNEW.out g rfl
        have HSZ : Hid ((dirtL S.fs).toArray.size = (dirtL S.fs).length) := by show _ = _; simp
        rw [HSZ.out] at HS
        obtain ⟨L, hL⟩ : ∃ L, (dirtL S.fs).length = L := ⟨_, rfl⟩
        rw [hL] at HS HSZ
        have HL := hide hL
        clear hl HOWN hblk hnc hcm hcs htk hH HNEW
        rw [hL]
        clear hL
        go_wp2_with (go_at_call 117; refine HS.out.mono ?_; rintro e w5 ⟨rfl, d', hp, hs', hpw, hH', hO5⟩; have H5 := hide (And.intro hp (And.intro hs' (And.intro hpw (And.intro hH' hO5)))); clear hp hs' hpw hH' hO5)
        go_ret
        have hO5 := H5.out.2.2.2.2
        refine ⟨_, d'.toList, rfl, ?_, by simpa using H5.out.1, H5.out.2.2.1, HB.out.trans (hO5.below HB.out.size (fun k hk => by simp at hk; omega))⟩
        have := dirt_of_holds (c := cap) H5.out.2.2.2.1
        rw [H5.out.2.1] at this
        exact this
end
end Go.Proofs.YteeembildppgmaaGreat
namespace Go.Proofs.YteeembildppgmaaGreat
open Go.RowKit
set_option linter.unusedVariables false
set_option linter.unusedSimpArgs false
theorem newest_wrote (D : Dv) (i j : Nat) (bs : List UInt8) : (D.wrote i bs).newest j = if i = j then bs else D.newest j := by
  unfold Dv.newest
  rw [show (D.wrote i bs).W = D.W ++ [(i, bs)] from rfl, show (D.wrote i bs).L = D.L from rfl, List.reverse_append, List.reverse_singleton, List.singleton_append, List.find?_cons]
  by_cases e : i = j
  · subst e; simp
  · have : (i == j) = false := by simpa using e
    rw [if_neg e]
    simp [this]
theorem laid_getD (L : List (List UInt8)) (j : Nat) (hj : j < L.length) : ∀ V : List (Nat × List UInt8), (laidOver L V.reverse).getD j [] = match V.find? (fun x => x.1 == j) with | some x => x.2 | none => L.getD j []
  | [] => rfl
  | x :: r => by
    have ih := laid_getD L j hj r
    rw [List.reverse_cons, laidOver_snoc, List.find?_cons]
    by_cases e : x.1 = j
    · have h2 : j < (laidOver L r.reverse).length := by rw [length_laidOver]; exact hj
      subst e
      simp [h2]
    · have : (x.1 == j) = false := by simpa using e
      rw [this]
      simp only [List.getD_eq_getElem?_getD] at ih ⊢
      rw [List.getElem?_set_ne e]
      exact ih
theorem laid_newest (D : Dv) (j : Nat) (hj : j < D.L.length) : (laidOver D.L D.W).getD j [] = D.newest j := by
  have := laid_getD D.L j hj D.W.reverse
  rw [List.reverse_reverse] at this
  exact this
theorem newest_synced (D : Dv) (j : Nat) (hj : j < D.L.length) : D.synced.newest j = D.newest j := by
  rw [newest_L (D := D.synced) rfl]
  exact laid_newest D j hj
theorem place_ne {R : Rg} (hw : R.wf) (s j : Nat) (hj : j < R.fr ∨ R.fr + R.n ≤ j) : R.place s ≠ j := by
  unfold Rg.place
  have := Nat.mod_lt s (show R.n > 0 by have := hw.two; omega)
  omega
theorem putN_out {R : Rg} (hw : R.wf) (n0 : Nat) (hn : R.fr + R.n ≤ n0) (j : Nat) (hj : j < R.fr ∨ R.fr + R.n ≤ j) : ∀ (k s : Nat) (D : Dv), D.well → D.L.length = n0 → (∀ t, s ≤ t → t < s + k → R.puts t) → (R.putN s k D).2.newest j = D.newest j
  | 0, s, D, h, _, _ => rfl
  | k + 1, s, D, h, hl, hp => by
    obtain ⟨e, hw2⟩ := well_put1 hw h (by rw [hl]; exact hn) s (hp s (by omega) (by omega))
    have e1 : R.putN s (k + 1) D = R.putN (s + 1) k (D.wrote (R.place s) (R.img s (D.newest (R.place s)))) := by
      show (if (R.put1 D s).1 ≠ 0 then R.put1 D s else R.putN (s + 1) k (R.put1 D s).2) = _
      rw [e, if_neg (by simp)]
    rw [e1, putN_out hw n0 hn j hj k (s + 1) _ hw2 hl (fun t h1 h2 => hp t (by omega) (by omega)), newest_wrote, if_neg (place_ne hw s j hj)]
theorem layD_out {R : Rg} (hw : R.wf) {D : Dv} (h : D.well) (hn : R.fr + R.n ≤ D.L.length) (f l : Nat) (hfl : f ≤ l) (hp1 : R.start ≤ f * 118 + 117) (hp2 : l * 118 < R.tail) (j : Nat) (hj : j < R.fr ∨ R.fr + R.n ≤ j) (hjl : j < D.L.length) :
    (R.layD D f l).2.newest j = D.newest j := by
  obtain ⟨a1, a2, a3⟩ := well_putN hw D.L.length hn (l - f) (f + 1) D h rfl (fun t h1 h2 => ⟨by omega, by omega⟩)
  have a4 := putN_out hw D.L.length hn j hj (l - f) (f + 1) D h rfl (fun t h1 h2 => ⟨by omega, by omega⟩)
  obtain ⟨E, hE⟩ : ∃ E, (R.putN (f + 1) (l - f) D).2 = E := ⟨_, rfl⟩
  rw [hE] at a2 a3 a4
  have b0 : R.layD D f l = R.lay1 E f l := by unfold Rg.layD; rw [a1, if_neg (by simp), hE]
  have hpl : R.place (l + 1) < E.L.length := Rg.place_lt hw E (by rw [a3]; exact hn) (l + 1)
  have b1 : R.lay1 E f l = R.lay2 (E.wrote (R.place (l + 1)) (zerosN 128)) f := by
    unfold Rg.lay1
    rw [live_write E _ _ a2.live hpl (length_zerosN 128), if_neg (show ¬ E.fuse = 0 by have := a2.fuse; omega), if_neg (by simp)]
  have w1 := well_wrote a2 _ (zerosN 128) hpl (length_zerosN 128)
  have n1 : (E.wrote (R.place (l + 1)) (zerosN 128)).newest j = D.newest j := by rw [newest_wrote, if_neg (place_ne hw _ j hj)]; exact a4
  obtain ⟨E1, hE1⟩ : ∃ E1, E.wrote (R.place (l + 1)) (zerosN 128) = E1 := ⟨_, rfl⟩
  have l1 : E1.L = D.L := by rw [← hE1]; exact a3
  rw [hE1] at b1 w1 n1
  have b2 : R.lay2 E1 f = R.lay3 E1.synced f := by
    unfold Rg.lay2
    rw [live_sync E1 w1.live, if_neg (show ¬ E1.fuse = 0 by have := w1.fuse; omega), if_neg (by simp)]
  have w2 := well_synced w1
  have l2 : E1.synced.L.length = D.L.length := by
    show (laidOver _ _).length = _
    rw [length_laidOver, l1]
  obtain ⟨e3, w3⟩ := well_put1 hw w2 (by rw [l2]; exact hn) f ⟨hp1, by omega⟩
  have b3 : R.lay3 E1.synced f = (0, (E1.synced.wrote (R.place f) (R.img f (E1.synced.newest (R.place f)))).synced) := by
    unfold Rg.lay3
    rw [e3, if_neg (by simp), live_sync _ w3.live, if_neg (by have := w3.fuse; omega)]
  rw [b0, b1, b2, b3]
  show (Dv.synced _).newest j = _
  rw [newest_synced _ j (by show j < E1.synced.L.length; rw [l2]; exact hjl), newest_wrote, if_neg (place_ne hw _ j hj), newest_synced E1 j (by rw [l1]; exact hjl), n1]
theorem flushD_out {R : Rg} (hw : R.wf) {D : Dv} (h : D.well) (hn : R.fr + R.n ≤ D.L.length) (he : R.fin ≠ R.tail) (j : Nat) (hj : j < R.fr ∨ R.fr + R.n ≤ j) (hjl : j < D.L.length) : (R.flushD D).2.newest j = D.newest j := by
  have h1 := hw.lo
  have h2 := hw.hi
  exact layD_out hw h hn _ _ (by omega) (by omega) (by omega) j hj hjl

theorem Fs.writeL {w0 w w' : World} {q p fr n : Nat} {failed : Bool} {xs ys Z : List Nat} {D : Dv} (h : Fs w0 w q p fr n failed xs D) (hZ : ∀ k ∈ Z, k ∈ xs ∧ w0.heap.size ≤ k) (hO : Off Z w w') (hy : ∀ k ∈ ys, k ∈ xs ∨ (w.heap.size ≤ k ∧ k < w'.heap.size)) : Fs w0 w' q p fr n failed ys D := by
  obtain ⟨fp, x⟩ := h
  refine ⟨fp, x.fl.off hO (fun hm => x.qx (hZ q hm).1), ⟨x.dv.dev.apart hO (fun k hk hm => (x.dv.xs k (hZ k hm).1).2 hk), x.dv.f0, fun k hk => ?_, ?_⟩, x.nq, x.q0, fun hm => ?_⟩
  · rcases hy k hk with h1 | h1
    · exact ⟨Nat.lt_of_lt_of_le (x.dv.xs k h1).1 hO.size, (x.dv.xs k h1).2⟩
    · exact ⟨h1.2, fun hm => by have := x.dv.dev.lim k hm; omega⟩
  · exact x.dv.below.trans (hO.below x.dv.below.size (fun k hk => (hZ k hk).2))
  · rcases hy q hm with h1 | h1
    · exact x.qx h1
    · have := x.fl.lt; omega
theorem Fs.lts {w0 w : World} {q p fr n : Nat} {failed : Bool} {xs : List Nat} {D : Dv} (h : Fs w0 w q p fr n failed xs D) {k : Nat} (hk : k ∈ xs) : k < w.heap.size := let ⟨_, x⟩ := h; (x.dv.xs k hk).1
theorem DevAt.wc_self {w : World} {p : Nat} {fp : List Nat} {D : Dv} (h : DevAt w p fp D) : DevC w p fp D := ⟨D.calls, h⟩
structure BkIs (w0 w : World) (r q p b lg n : Nat) (xs gp : List Nat) (R : Rg) (dk : List (List UInt8)) (D : Dv) : Prop where
  fs : Fs w0 w q p (2 + lg) n false (b :: (gp ++ xs)) D
  rg : RgAt w r p gp R
  box : w.heap[b]? = some (.cells #[.pointer (some ⟨r, 0, none⟩)] 61 (0, 0))
  g0 : ∀ k ∈ gp, w0.heap.size ≤ k
  b0 : w0.heap.size ≤ b
  gx : ∀ k ∈ gp, k ∉ xs
  bx : b ∉ gp ++ xs
  well : D.well
  wnil : D.W = []
  len : 2 + lg + 5 + 4 * n ≤ D.L.length
  disk : ∀ i, i < n → pageL D.L (2 + lg + 5 + 4 * i) = dk.getD i []
  dlen : dk.length = n
  d512 : ∀ i, i < n → (dk.getD i []).length = 512
  fr : R.fr = 2
  rn : R.n = lg
  nof : R.failed = false
def BkAt (w0 w : World) (r q p b lg n : Nat) (xs : List Nat) (s : Rg × List (List UInt8)) : Prop := ∃ gp D, BkIs w0 w r q p b lg n xs gp s.1 s.2 D
section
variable {w0 w w' : World} {r q p b lg n : Nat} {xs gp gp' : List Nat} {R R' : Rg} {dk : List (List UInt8)} {D : Dv} {s : Rg × List (List UInt8)}
theorem BkIs.at (h : BkIs w0 w r q p b lg n xs gp R dk D) : BkAt w0 w r q p b lg n xs (R, dk) := ⟨_, _, h⟩
theorem BkIs.lt (h : BkIs w0 w r q p b lg n xs gp R dk D) {k : Nat} (hk : k ∈ xs) : k < w.heap.size := h.fs.lts (by simp [hk])
theorem RgAt.keep {w w' : World} {r p : Nat} {gp : List Nat} {R : Rg} (h : RgAt w r p gp R) (hs : w.heap.size ≤ w'.heap.size) (hk : ∀ k ∈ gp, w'.heap[k]? = w.heap[k]?) : RgAt w' r p gp R := by
  obtain ⟨hv, h⟩ := h
  exact ⟨hv, h.stay hs (fun k hk' => hk k (by rcases hk' with rfl | h1; exact h.inQ; exact h.inH k h1))⟩
theorem BkIs.file (h : BkIs w0 w r q p b lg n xs gp R dk D) {ys : List Nat} {dk' : List (List UInt8)} {D' : Dv} (hF : Fs w0 w' q p (2 + lg) n false (b :: (gp ++ ys)) D') (hK : Kept (b :: (gp ++ xs)) w w') (hy : ∀ k ∈ ys, k ∈ xs ∨ w.heap.size ≤ k) (hw : D'.well) (hn : D'.W = []) (hl : D'.L.length = D.L.length)
    (hd : ∀ i, i < n → pageL D'.L (2 + lg + 5 + 4 * i) = dk'.getD i []) (hdl : dk'.length = n) (h5 : ∀ i, i < n → (dk'.getD i []).length = 512) : BkIs w0 w' r q p b lg n ys gp R dk' D' :=
  { h with
    fs := hF
    rg := h.rg.keep hK.1 (fun k hk => hK.2 k (by simp [hk]))
    box := (hK.2 b (by simp)).trans h.box
    gx := fun k hk hm => by
      rcases hy k hm with h1 | h1
      · exact h.gx k hk h1
      · have := h.fs.lts (k := k) (by simp [hk]); omega
    bx := fun hm => by
      rcases List.mem_append.1 hm with h1 | h1
      · exact h.bx (by simp [h1])
      · rcases hy b h1 with h2 | h2
        · exact h.bx (by simp [h2])
        · have := h.fs.lts (k := b) (by simp); omega
    well := hw
    wnil := hn
    len := by rw [hl]; exact h.len
    disk := hd
    dlen := hdl
    d512 := h5 }
theorem BkIs.ring (h : BkIs w0 w r q p b lg n xs gp R dk D) (hO : Off gp w w') (hR : RgAt w' r p gp' R') (hG : ∀ k ∈ gp', k ∈ gp ∨ w.heap.size ≤ k) (h1 : R'.fr = R.fr) (h2 : R'.n = R.n) (h3 : R'.failed = R.failed) : BkIs w0 w' r q p b lg n xs gp' R' dk D ∧ Kept xs w w' := by
  have hK : ∀ k, k ∉ gp → k ∈ b :: (gp ++ xs) → w'.heap[k]? = w.heap[k]? := fun k hn hm => hO.block k (h.fs.lts hm) hn
  have hbg : b ∉ gp := fun hm => h.bx (by simp [hm])
  refine ⟨{ h with
    fs := h.fs.writeL (Z := gp) (fun k hk => ⟨by simp [hk], h.g0 k hk⟩) hO (fun k hm => by
      simp only [List.mem_cons, List.mem_append] at hm ⊢
      rcases hm with h4 | h4 | h4
      · exact .inl (.inl h4)
      · rcases hG k h4 with h5 | h5
        · exact .inl (.inr (.inl h5))
        · exact .inr ⟨h5, rg_lim hR k h4⟩
      · exact .inl (.inr (.inr h4)))
    rg := hR
    box := (hK b hbg (by simp)).trans h.box
    g0 := fun k hk => by
      rcases hG k hk with h5 | h5
      · exact h.g0 k h5
      · have := h.fs.below.size; omega
    gx := fun k hk hm => by
      rcases hG k hk with h5 | h5
      · exact h.gx k h5 hm
      · have := h.lt hm; omega
    bx := fun hm => by
      rcases List.mem_append.1 hm with h4 | h4
      · rcases hG b h4 with h5 | h5
        · exact hbg h5
        · have := h.fs.lts (k := b) (by simp); omega
      · exact h.bx (by simp [h4])
    fr := by rw [h1]; exact h.fr
    rn := by rw [h2]; exact h.rn
    nof := by rw [h3]; exact h.nof }, hO.size, fun k hk => hK k (fun hm => h.gx k hm hk) (by simp [hk])⟩
theorem BkIs.mindNew (h : BkIs w0 w r q p b lg n xs gp R dk D) (hb : Below w.heap.size w w') {ys : List Nat} (hy : ∀ k ∈ ys, k ∈ xs ∨ (w.heap.size ≤ k ∧ k < w'.heap.size)) : BkIs w0 w' r q p b lg n ys gp R dk D :=
  h.file (h.fs.mindNew hb (fun k hm => by
      simp only [List.mem_cons, List.mem_append] at hm ⊢
      rcases hm with h4 | h4 | h4
      · exact .inl (.inl h4)
      · exact .inl (.inr (.inl h4))
      · rcases hy k h4 with h5 | h5
        · exact .inl (.inr (.inr h5))
        · exact .inr h5)) ⟨hb.size, fun k hk => hb.block k (h.fs.lts hk)⟩ (fun k hk => by rcases hy k hk with h5 | h5; exact .inl h5; exact .inr h5.1) h.well h.wnil rfl h.disk h.dlen h.d512
theorem BkIs.writeL (h : BkIs w0 w r q p b lg n xs gp R dk D) {Z ys : List Nat} (hZ : ∀ k ∈ Z, k ∈ xs ∧ w0.heap.size ≤ k) (hO : Off Z w w') (hy : ∀ k ∈ ys, k ∈ xs ∨ (w.heap.size ≤ k ∧ k < w'.heap.size)) : BkIs w0 w' r q p b lg n ys gp R dk D := by
  have hK : ∀ k, k ∉ xs → k ∈ b :: (gp ++ xs) → w'.heap[k]? = w.heap[k]? := fun k hn hm => hO.block k (h.fs.lts hm) (fun hz => hn (hZ k hz).1)
  exact { h with
    fs := h.fs.writeL (fun k hk => ⟨by simp [(hZ k hk).1], (hZ k hk).2⟩) hO (fun k hm => by
      simp only [List.mem_cons, List.mem_append] at hm ⊢
      rcases hm with h4 | h4 | h4
      · exact .inl (.inl h4)
      · exact .inl (.inr (.inl h4))
      · rcases hy k h4 with h5 | h5
        · exact .inl (.inr (.inr h5))
        · exact .inr h5)
    rg := h.rg.keep hO.size (fun k hk => hK k (h.gx k hk) (by simp [hk]))
    box := (hK b (fun hm => h.bx (by simp [hm])) (by simp)).trans h.box
    gx := fun k hk hm => by
      rcases hy k hm with h5 | h5
      · exact h.gx k hk h5
      · have := h.fs.lts (k := k) (by simp [hk]); omega
    bx := fun hm => by
      rcases List.mem_append.1 hm with h4 | h4
      · exact h.bx (by simp [h4])
      · rcases hy b h4 with h5 | h5
        · exact h.bx (by simp [h5])
        · have := h.fs.lts (k := b) (by simp); omega }
theorem bk_flush (h : BkIs w0 w r q p b lg n xs gp R dk D) :
    Calls Tryz.prog 68 #[.pointer (some ⟨r, 0, none⟩)] w fun e w' => e = .returned (.int .i64 0) ∧ (∃ D', BkIs w0 w' r q p b lg n xs gp { R with fin := R.tail } dk D') ∧ Kept xs w w' := by
  obtain ⟨fp, x⟩ := h.fs
  have hlen := h.len
  have hsz := x.dv.below.size
  refine (flush_well h.rg x.dv.dev.wc_self (fun k hk => (x.dv.xs k (by simp [hk])).2) h.well (by rw [h.fr, h.rn]; omega) h.wnil h.nof).mono ?_
  rintro e w' ⟨rfl, fp', D', a1, ⟨c, a2⟩, a3, a4, a5, a6, _, a8, a9, a10⟩
  have hne : ∀ k ∈ xs, k ∉ gp ++ fp := fun k hk hm => by
    rcases List.mem_append.1 hm with h1 | h1
    · exact h.gx k h1 hk
    · exact (x.dv.xs k (by simp [hk])).2 h1
  have hbn : b ∉ gp ++ fp := fun hm => by
    rcases List.mem_append.1 hm with h1 | h1
    · exact h.bx (by simp [h1])
    · exact (x.dv.xs b (by simp)).2 h1
  have hq : q ∉ gp ++ fp := fun hm => by
    rcases List.mem_append.1 hm with h1 | h1
    · exact x.qx (by simp [h1])
    · exact x.nq h1
  have hout : ∀ j, 2 + lg ≤ j → j < D.L.length → D'.L.getD j [] = D.L.getD j [] := fun j hj hjl => by
    rw [← newest_L a5, ← newest_L h.wnil]
    rcases a6 with rfl | rfl
    · rfl
    · by_cases he : R.fin = R.tail
      · exact (congrArg (fun X => Dv.newest X j) (a8 he))
      · exact flushD_out h.rg.wf h.well (by rw [h.fr, h.rn]; omega) he j (by rw [h.fr, h.rn]; exact .inr hj) hjl
  refine ⟨rfl, ⟨D'.wc c, { h with
    fs := ⟨fp', x.fl.off a9 hq, ⟨a2, fun k hk => ?_, fun k hk => ⟨Nat.lt_of_lt_of_le (x.dv.xs k hk).1 a9.size, fun hm => ?_⟩, x.dv.below.trans (a9.below hsz (fun k hk => ?_))⟩, fun hm => ?_, x.q0, x.qx⟩
    rg := a1
    box := (a9.block b (h.fs.lts (by simp)) hbn).trans h.box
    well := ⟨a2.wf, a3.live, a3.fuse⟩
    wnil := a5
    len := by show _ ≤ D'.L.length; rw [a4]; exact h.len
    disk := fun i hi => by
      rw [← h.disk i hi]
      show pageL D'.L _ = _
      unfold pageL
      rw [hout _ (by omega) (by omega), hout _ (by omega) (by omega), hout _ (by omega) (by omega), hout _ (by omega) (by omega)] }⟩, a9.size, fun k hk => a9.block k (h.lt hk) (hne k hk)⟩
  · rcases a10 k hk with h1 | h1
    · exact x.dv.f0 k h1
    · omega
  · rcases a10 k hm with h1 | h1
    · exact (x.dv.xs k hk).2 h1
    · have := (x.dv.xs k hk).1; omega
  · rcases List.mem_append.1 hk with h1 | h1
    · exact h.g0 k h1
    · exact x.dv.f0 k h1
  · rcases a10 q hm with h1 | h1
    · exact x.nq h1
    · have := x.fl.lt; omega
theorem bk_fread (h : BkIs w0 w r q p b lg n xs gp R dk D) (i : Nat) (hi : i < n) :
    Calls Tryz.prog 94 #[.pointer (some ⟨q, 0, none⟩), .int .i64 (i : Int)] w fun e w' => ∃ g, e = .returned (.tuple #[.slice (some ⟨g, 0, none⟩) 512 512, .int .i64 0]) ∧ w.heap.size ≤ g ∧ w'.heap[g]? = some (.cells (secCells (dk.getD i [])).toArray 5 (0, 0)) ∧
      (∃ D', BkIs w0 w' r q p b lg n (g :: xs) gp R dk D') ∧ Kept xs w w' := by
  have hlen := h.len
  refine (b_read i h.fs h.well.live (by rw [h.wnil]; simp) (by omega) hi).mono ?_
  rintro e w' ⟨g, rfl, hg, hblk, hF, hK⟩
  rw [four_L h.wnil, h.disk i hi] at hblk
  refine ⟨g, rfl, hg, hblk, ⟨D.more 4, h.file (hF.mind (fun k hk => .inl (by
      simp only [List.mem_cons, List.mem_append] at hk ⊢
      rcases hk with h3 | h3 | h3 | h3
      · exact .inr (.inl h3)
      · exact .inr (.inr (.inl h3))
      · exact .inl h3
      · exact .inr (.inr (.inr h3))))) hK (fun k hk => ?_) (well_more h.well 4) (by rw [more_W]; exact h.wnil) (by rw [more_L]) (fun j hj => by rw [more_L]; exact h.disk j hj) h.dlen h.d512⟩, ⟨hK.1, fun k hk => hK.2 k (by simp [hk])⟩⟩
  rcases List.mem_cons.1 hk with h3 | h3
  · exact .inr (by omega)
  · exact .inl h3
theorem bk_fwrite (h : BkIs w0 w r q p b lg n xs gp R dk D) (i g c : Nat) (bs : List UInt8) (hl : bs.length = 512) (hc : 512 ≤ c) (hg : g ∈ xs) (hs : SrcAt w g 0 bs) (hi : i < n) :
    Calls Tryz.prog 116 #[.pointer (some ⟨q, 0, none⟩), .int .i64 (i : Int), .slice (some ⟨g, 0, none⟩) 512 c] w fun e w' => e = .returned (.int .i64 0) ∧
      (∃ D', BkIs w0 w' r q p b lg n xs gp R (dk.set i bs) D') ∧ Kept xs w w' := by
  have hlen := h.len
  obtain ⟨fp, x⟩ := h.fs
  obtain ⟨E, e1, e2, e3, e4, e5⟩ := carJ_well h.well h.wnil (2 + lg) i n bs hl (by omega) hi
  have hmax := x.dv.dev.wf.max
  refine (fwrite_go i g c bs hl hc x.fl x.dv.dev x.nq hs (x.dv.xs g (by simp [hg])).2 (by rw [h.wnil]; simp) (by omega) hi (by omega)).mono ?_
  rintro e w' ⟨rfl, fp', h1, h2, h3, h4, h5⟩
  rw [e1] at h1 h2 ⊢
  have hsz := x.dv.below.size
  have hF : Fs w0 w' q p (2 + lg) n false (b :: (gp ++ xs)) E := by
    refine ⟨fp', h1, ⟨h2, fun k hk => ?_, fun k hk => ⟨Nat.lt_of_lt_of_le (x.dv.xs k hk).1 h3.size, fun hm => ?_⟩, x.dv.below.trans (h3.below hsz (fun k hk => ?_))⟩, h5, x.q0, x.qx⟩
    · rcases h4 k hk with h6 | h6
      · exact x.dv.f0 k h6
      · omega
    · rcases h4 k hm with h6 | h6
      · exact (x.dv.xs k hk).2 h6
      · have := (x.dv.xs k hk).1; omega
    · rcases List.mem_cons.1 hk with h6 | h6
      · rw [h6]; exact x.q0
      · exact x.dv.f0 k h6
  have hK : Kept (b :: (gp ++ xs)) w w' := ⟨h3.size, fun k hk => h3.block k (x.dv.xs k hk).1 (fun hm => by
    rcases List.mem_cons.1 hm with h6 | h6
    · exact x.qx (h6 ▸ hk)
    · exact (x.dv.xs k hk).2 h6)⟩
  refine ⟨rfl, ⟨E, h.file hF hK (fun k hk => .inl hk) e2 e3 (by rw [e4, length_wroteL]) (fun j hj => ?_) (by rw [List.length_set]; exact h.dlen) (fun j hj => ?_)⟩, ⟨hK.1, fun k hk => hK.2 k (by simp [hk])⟩⟩
  · rw [e4, page_wroteL D.L (2 + lg) i j n bs hl (by omega) hi hj]
    by_cases e : j = i
    · rw [if_pos e, e, List.getD_eq_getElem?_getD, List.getElem?_set_self (by rw [h.dlen]; exact hi)]
      rfl
    · rw [if_neg e, h.disk j hj, List.getD_eq_getElem?_getD, List.getD_eq_getElem?_getD, List.getElem?_set_ne (Ne.symm e)]
  · by_cases e : j = i
    · rw [e, List.getD_eq_getElem?_getD, List.getElem?_set_self (by rw [h.dlen]; exact hi)]
      exact hl
    · rw [List.getD_eq_getElem?_getD, List.getElem?_set_ne (Ne.symm e), ← List.getD_eq_getElem?_getD]
      exact h.d512 j hj
set_option maxHeartbeats 400000 in
theorem bk_force (h : BkIs w0 w r q p b lg n xs gp R dk D) (l : Int) :
    Calls Tryz.prog 75 #[.int .i64 l, .pointer (some ⟨b, 0, none⟩)] w fun e w' => e = .returned (.int .i64 0) ∧ BkAt w0 w' r q p b lg n xs (if (R.fin : Int) < l then ({ R with fin := R.tail }, dk) else (R, dk)) ∧ Kept xs w w' := by
  have kb : w.cell? ⟨b, 0, none⟩ = some (.pointer (some ⟨r, 0, none⟩)) := by rw [cell_of_row w b 0 _ _ _ h.box]; rfl
  have HE := hide (end_any h.rg)
  have HF := hide (bk_flush h)
  have H := hide h
  clear h
  obtain ⟨F, hF⟩ : ∃ F : Nat, R.fin = F := ⟨_, rfl⟩
  rw [hF] at HE ⊢
  clear hF
  by_cases hl : (F : Int) < l
  · rw [if_pos hl]
    go_enter Tryz.func75, Tryz.ntmps75
    go_wp2_with (first
      | (go_at_call 76; refine HE.out.mono ?_; rintro e w' ⟨rfl, hw⟩; have hw := hw.symm; subst hw)
      | (go_at_call 68; refine HF.out.mono ?_; rintro e w2 ⟨rfl, h2, hK2⟩; have H2 := hide (And.intro h2 hK2); clear h2 hK2))
    go_ret
    obtain ⟨D2, h2⟩ := H2.out.1
    exact ⟨rfl, h2.at, H2.out.2⟩
  · rw [if_neg hl]
    go_enter Tryz.func75, Tryz.ntmps75
    go_wp2_with (go_at_call 76; refine HE.out.mono ?_; rintro e w' ⟨rfl, hw⟩; have hw := hw.symm; subst hw)
    go_ret
    exact ⟨rfl, H.out.at, Kept.refl _ _⟩
end
@[reducible] def stBack (r q p b lg n : Nat) : Back := {
  σ := Rg × List (List UInt8)
  q := q
  n := n
  g := 75
  cb := #[.pointer (some ⟨b, 0, none⟩)]
  held := fun w0 w xs s => BkAt w0 w r q p b lg n xs s
  step := fun s l => (0, if (s.1.fin : Int) < l then ({ s.1 with fin := s.1.tail }, s.2) else s)
  disk := fun s i => s.2.getD i []
  wr := fun s i bs => (s.1, s.2.set i bs)
  lts := fun h hk => let ⟨_, _, x⟩ := h; x.lt hk
  below := fun h => let ⟨_, _, x⟩ := h; x.fs.below
  mindNew := fun h hb hy => let ⟨_, _, x⟩ := h; ⟨_, _, x.mindNew hb hy⟩
  writeL := fun h hZ hO hy => let ⟨_, _, x⟩ := h; ⟨_, _, x.writeL hZ hO hy⟩
  d512 := fun h hi => let ⟨_, _, x⟩ := h; x.d512 _ hi
  enters := fun args w => by kernel_rfl
  force := fun h _ _ => let ⟨_, _, x⟩ := h; bk_force x _
  pages := fun h => let ⟨_, _, x⟩ := h; b_pages x.fs
  fread := fun h hi => let ⟨_, _, x⟩ := h; (bk_fread x _ hi).mono (fun _ _ ⟨g, a1, a2, a3, ⟨_, a4⟩, a5⟩ => ⟨g, a1, a2, a3, ⟨_, _, a4⟩, a5⟩)
  fwrite := fun h hl hc hb hs hi => let ⟨_, _, x⟩ := h; (bk_fwrite x _ _ _ _ hl hc hb hs hi).mono (fun _ _ ⟨a1, ⟨_, a2⟩, a3⟩ => ⟨a1, ⟨_, _, a2⟩, a3⟩) }
end Go.Proofs.YteeembildppgmaaGreat
