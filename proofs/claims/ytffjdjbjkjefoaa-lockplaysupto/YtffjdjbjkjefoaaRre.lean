/- Release, the document's way. -/
import Derived.Test.YtffjdjbjkjefoaaRto
namespace Go.Proofs.Ytffjdjbjkjefoaa
open Go.RowKit Go.WideAt
set_option linter.unusedVariables false
set_option linter.unusedSimpArgs false

theorem Try.info81 : (Try.prog.info? 81).map (fun i => (i.zero, i.size, i.bytes)) = some (some (.agg #[.int .i64 0, .string ⟨#[]⟩, .int .i64 0]), 3, 32) := by kernel_rfl
theorem build39 (a : Int) (x : ByteArray) (n : Int) (w : World) : (Instr.buildSlice 39 1 #[(0, .agg #[.int .i64 a, .string x, .int .i64 n])]).run Try.prog w = .ok (.slice (some ⟨w.heap.size, 0, none⟩) 1 1) (w.alloc (.cells #[.int .i64 a, .string x, .int .i64 n] 81)) := by kernel_rfl
theorem flatH_snoc (L : List Ht) (x : Ht) : flatH (L ++ [x]) = flatH L ++ [.int .i64 x.1, scell x.2.1, .int .i64 x.2.2] := by
  unfold flatH
  rw [List.flatMap_append]
  rfl
theorem filter_take {hs : List Ht} {k : Nat} {x : Ht} (hx : hs[k]? = some x) (p : Ht → Bool) : (hs.take (k + 1)).filter p = if p x = true then (hs.take k).filter p ++ [x] else (hs.take k).filter p := by
  rw [take_snoc hx, List.filter_append]
  by_cases h : p x = true
  · rw [if_pos h]; simp [h]
  · rw [if_neg h]; simp [h]
theorem RtAt.off {w w' : World} {base rt : Nat} {v : Value} {hs : List Ht} {fp : List Nat} (h : RtAt w base rt v hs) (ho : Off fp w w') (h1 : rt ∉ fp) (h2 : ∀ k ∈ fp, v.ownBlock ≠ some k) : RtAt w' base rt v hs :=
  ⟨(ho.block rt (lt_of_heap h.cell) h1).trans h.cell, h.low, owns_off h.own ho h2⟩
set_option maxRecDepth 100000 in
set_option maxHeartbeats 2000000 in
theorem rrelease_any {w : World} {base rt : Nat} {v : Value} {hs : List Ht} (h : RtAt w base rt v hs) (hl : hs.length ≤ 1000000000) (id : Int) :
    Calls Try.prog 23 #[.pointer (some ⟨rt, 0, none⟩), .int .i64 id] w fun e w' => e = .returned (.tuple #[]) ∧ ∃ v', RtAt w' base rt v' (hs.filter fun x => x.1 != id) ∧ Off [rt] w w' ∧ (∀ k, v'.ownBlock = some k → w.heap.size ≤ k) := by
  obtain ⟨ao, c, rfl⟩ := owns_len h.own
  have HR := hide h
  have c0' := h.cell0
  have HC0 : Hid (∀ W, Below w.heap.size w W → W.cell? ⟨rt, 0, none⟩ = some (.slice ao hs.length c)) := fun W hW => (hW.cell (p := ⟨rt, 0, none⟩) (World.block_lt_of_cell? _ _ c0')).trans c0'
  clear h c0'
  obtain ⟨n, hn⟩ : ∃ n, hs.length = n := ⟨_, rfl⟩
  have HN := hide hn
  rw [hn] at hl HC0
  have HC : Hid (∀ i x, hs[i]? = some x → ∃ g, ao = some ⟨g, 0, none⟩ ∧ w.cell? ⟨g, i * 3, none⟩ = some (.int .i64 x.1) ∧ w.cell? ⟨g, i * 3 + 1, none⟩ = some (scell x.2.1) ∧ w.cell? ⟨g, i * 3 + 2, none⟩ = some (.int .i64 x.2.2)) := fun i x hx => by
    obtain ⟨g, c', e, h1⟩ := HR.out.get hx
    injection e with e1
    exact ⟨g, e1, h1⟩
  clear hn
  go_enter Try.func23, Try.ntmps23
  go_upto_region 2 with fail
  go_loopw [4, 5] (fun u i wr => ∃ k : Nat, k ≤ n ∧ i = .int .i64 (k : Int) ∧ wr.ownsRow w.heap.size 81 3 u ((hs.take k).filter fun x => x.1 != id).length (flatH ((hs.take k).filter fun x => x.1 != id)) ∧ Below w.heap.size w wr) (fun _ i _ => n - (intOf i).toNat)
  case atStart => exact ⟨0, by omega, rfl, ⟨rfl, .inl ⟨rfl, rfl⟩⟩, Below.refl _ _⟩
  case round =>
    obtain ⟨k, hk, rfl, hr, hB⟩ := hrel
    have HRW := hide hr
    have HB := hide hB
    have c0 := HC0.out _ hB
    clear hr hB
    by_cases hlt : k < n
    · obtain ⟨x, hx⟩ : ∃ x, hs[k]? = some x := ⟨_, List.getElem?_eq_getElem (by rw [HN.out]; exact hlt)⟩
      obtain ⟨g, hao, d1, d2, d3⟩ := HC.out k x hx
      subst hao
      have c1 := (HB.out.cell (p := ⟨g, k * 3, none⟩) (World.block_lt_of_cell? _ _ d1)).trans d1
      have c2 := (HB.out.cell (p := ⟨g, k * 3 + 1, none⟩) (World.block_lt_of_cell? _ _ d2)).trans d2
      have c3 := (HB.out.cell (p := ⟨g, k * 3 + 2, none⟩) (World.block_lt_of_cell? _ _ d3)).trans d3
      have HTK := hide (filter_take hx fun x => x.1 != id)
      have hlk : ((hs.take k).filter fun x => x.1 != id).length ≤ k := Nat.le_trans (List.length_filter_le _ _) (by rw [List.length_take]; omega)
      clear hx d1 d2 d3
      obtain ⟨y, s, md⟩ := x
      change wr.cell? ⟨g, k * 3, none⟩ = some (.int .i64 y) at c1
      change wr.cell? ⟨g, k * 3 + 1, none⟩ = some (scell s) at c2
      change wr.cell? ⟨g, k * 3 + 2, none⟩ = some (.int .i64 md) at c3
      generalize (hs.take k).filter (fun x => x.1 != id) = F at *
      by_cases hy : y = id
      · have hy' : (y != id) = false := by simp [hy]
        have hF : (hs.take (k + 1)).filter (fun x => x.1 != id) = F := by have h := HTK.out; rwa [if_neg (by show ¬ (y != id) = true; rw [hy']; simp)] at h
        go_wp2
        refine ⟨⟨k + 1, by omega, by go_num, by rw [hF]; exact HRW.out, HB.out⟩, ?_⟩
        simp [intOf]
        omega
      · have hy' : (y != id) = true := by simp [hy]
        have hF : (hs.take (k + 1)).filter (fun x => x.1 != id) = F ++ [(y, s, md)] := by have h := HTK.out; rwa [if_pos (show (y != id) = true from hy')] at h
        have hbs := build39 y (strOf s) md wr
        have HR2 := hide (row_new wr 81 [.int .i64 y, .string (strOf s), .int .i64 md] 1 (by omega))
        have HB2 : Hid (Below w.heap.size w (wr.alloc (.cells #[.int .i64 y, .string (strOf s), .int .i64 md] 81))) := HB.out.trans ((Below.refl _ wr).alloc HB.out.size _)
        have HO2 : Hid ((wr.alloc (.cells #[.int .i64 y, .string (strOf s), .int .i64 md] 81)).ownsRow w.heap.size 81 3 u4 F.length (flatH F)) := owns_below HRW.out ((Below.refl _ wr).alloc (Nat.le_refl _) _) (Nat.le_refl _)
        go_wp2_with (refine wpList_append_row rfl (.tmp 25) (.tmp 33) 39 rfl w.heap.size 81 _ 3 32 Try.underlying39 Try.info81 rfl (by omega) _ _ _ _ 1 _ rfl rfl HO2.out HR2.out rfl (by simp [Value.oneCell']) (by omega) (by omega) HB2.out.size ?_; intro v7 w7 ho7 hg7)
        refine ⟨⟨k + 1, by omega, by go_num, ?_, HB2.out.grown hg7 HB2.out.size (fun k hk => (HO2.out.lt k hk).1)⟩, ?_⟩
        · rw [hF, flatH_snoc, List.length_append]
          exact ho7
        · simp [intOf]
          omega
    · obtain rfl : k = n := by omega
      have hd : hs.take k = hs := List.take_of_length_le (by rw [HN.out]; exact Nat.le_refl _)
      rw [hd] at HRW
      have hcell := (HB.out.block rt (lt_of_heap HR.out.cell)).trans HR.out.cell
      have hfz := frozen_row (o := 0) hcell
      obtain ⟨ap, d, rfl⟩ := owns_len HRW.out
      have hag : ∀ w, (isAgg 39).run Try.prog w = .ok false w := fun w => by kernel_rfl
      have hlr : rt < w.heap.size := lt_of_heap HR.out.cell
      go_wp2
      go_end0
      have ho : Off [rt] wr (wr.setCell ⟨rt, 0, none⟩ (.slice ap (hs.filter fun x => x.1 != id).length d)) := (Off.refl [rt] wr).setCell _ _ (.inl (by simp))
      have hob : ∀ k, (Value.slice ap (hs.filter fun x => x.1 != id).length d).ownBlock = some k → w.heap.size ≤ k := fun k hk => (HRW.out.lt k hk).1
      refine ⟨rfl, _, ⟨heap_set_same _ hcell, HR.out.low, owns_off (owns_mono HRW.out (Nat.le_trans HR.out.low (Nat.le_of_lt hlr))) ho (fun k hk e => ?_)⟩, (Off.of_below HB.out [rt]).setCell _ _ (.inl (by simp)), hob⟩
      rw [List.mem_singleton] at hk
      subst hk
      have := hob k e
      omega
end Go.Proofs.Ytffjdjbjkjefoaa
