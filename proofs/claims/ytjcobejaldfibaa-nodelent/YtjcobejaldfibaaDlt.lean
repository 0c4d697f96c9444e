/- slices.Delete of one text out of a row of one's own. -/
import Derived.Test.YtjcobejaldfibaaNod
import Derived.Shelf.SlicesE.Delete
namespace Go.Proofs.Ytjcobejaldfibaa
open Go.RowKit
set_option linter.unusedVariables false
set_option linter.unusedSimpArgs false

theorem heap_setCells {g : Nat} {t : TypeId} : ∀ (vs : List Value) (w : World) (C : Array Value) (o : Nat), w.heap[g]? = some (.cells C t (0, 0)) → o + vs.length ≤ C.size →
    (w.setCells g o vs).heap[g]? = some (.cells (C.toList.take o ++ vs ++ C.toList.drop (o + vs.length)).toArray t (0, 0))
  | [], w, C, o, h, hl => by
    rw [setCells_nil, h]
    simp
  | v :: vs, w, C, o, h, hl => by
    have h1 := heap_set_same (o := o) v h
    have ih := heap_setCells vs (w.setCell ⟨g, o, none⟩ v) (C.setIfInBounds o v) (o + 1) h1 (by simp at hl ⊢; omega)
    have e : w.setCells g o (v :: vs) = (w.setCell ⟨g, o, none⟩ v).setCells g (o + 1) vs := rfl
    rw [e, ih]
    refine congrArg (fun x => some (Obj.cells x t (0, 0))) (Array.ext' ?_)
    have ho : o < C.toList.length := by simp at hl ⊢; omega
    simp only [Array.toList_setIfInBounds]
    rw [List.take_succ_eq_append_getElem (by simpa using ho), List.take_set_of_le (Nat.le_refl _), List.drop_set_of_lt (by omega), List.getElem_set_self]
    simp [Nat.add_assoc, Nat.add_comm 1]
theorem off_setCells (g : Nat) : ∀ (vs : List Value) (w : World) (o : Nat), Off [g] w (w.setCells g o vs)
  | [], w, o => Off.refl _ _
  | v :: vs, w, o => by
    have e : w.setCells g o (v :: vs) = (w.setCell ⟨g, o, none⟩ v).setCells g (o + 1) vs := rfl
    rw [e]
    exact ((Off.refl [g] w).setCell ⟨g, o, none⟩ v (.inl (by simp))).trans (off_setCells g vs _ _) (fun i hi => .inl hi)
theorem Try.zero28 (w : World) : (zeroValue 28).run Try.prog w = .ok (.slice none 0 0) w := by kernel_rfl
theorem Try.info28' : ∃ i, Try.prog.info? 28 = some i ∧ i.size = 1 := by
  obtain ⟨i, hi, hz⟩ := Option.map_eq_some_iff.1 Try.info28
  simp only [Prod.mk.injEq] at hz
  exact ⟨i, hi, hz.2.1⟩
set_option maxHeartbeats 4000000 in
set_option maxRecDepth 1000000 in
theorem delete_cells {w : World} {g cap n i j : Nat} {cur : Array Value} {us : List Value} (hg : w.heap[g]? = some (.cells cur 28 (0, 0))) (hul : us.length = n) (hn : n ≤ cap) (hcm : cap ≤ maxLen) (hcs : cur.size = cap) (hus : cur.toList.take n = us) (h1 : ∀ u ∈ us, u.oneCell' = true) (hi : i < j) (hj : j ≤ n) :
    Calls Try.prog 28 #[.slice (some ⟨g, 0, none⟩) n cap, .int .i64 (i : Int), .int .i64 (j : Int)] w fun e w' => e = .returned (.slice (some ⟨g, 0, none⟩) (n - (j - i)) cap) ∧ Off [g] w w' ∧ ∃ cur' : Array Value, w'.heap[g]? = some (.cells cur' 28 (0, 0)) ∧ cur'.size = cap ∧ cur'.toList.take (n - (j - i)) = us.take i ++ us.drop j := by
  simp only [maxLen] at hcm
  have mixed : Try.prog.follows Departure.mixedOrders = true := by kernel_rfl
  obtain ⟨i0, hi0, hz1⟩ := Try.info28'
  obtain ⟨news, hnews⟩ : ∃ news, news = us.drop j := ⟨_, rfl⟩
  have hlen : news.length = n - j := by rw [hnews, List.length_drop, hul]
  have hcell : ∀ t, t < n → w.cell? ⟨g, t, none⟩ = us[t]? := fun t ht => by
    rw [cell_row hg, ← hus, List.getElem?_take_of_lt ht]
    simp
  have hsome : ∀ t, t < cap → (w.cell? ⟨g, t, none⟩).isSome = true := fun t ht => by
    rw [cell_row hg]
    simp [hcs, ht]
  obtain ⟨A, hA, hsrc⟩ : ∃ A : Addr, (if cap = j then some (⟨g, 0, none⟩ : Addr) else some ⟨g, 0 + j, none⟩) = some A ∧ Hid (∀ t u, news[t]? = some u → w.drew.cell? (A.add t) = some u) := by
    by_cases h : cap = j
    · refine ⟨⟨g, 0, none⟩, by simp [h], fun t u hu => ?_⟩
      have h0 : news.length = 0 := by rw [hlen]; omega
      rw [List.length_eq_zero_iff.1 h0] at hu
      simp at hu
    · refine ⟨⟨g, 0 + j, none⟩, by simp [h], fun t u hu => ?_⟩
      have ht : t < n - j := by
        have := (List.getElem?_eq_some_iff.1 hu).1
        rwa [hlen] at this
      rw [hnews, List.getElem?_drop] at hu
      rw [Addr.add_lit, Nat.zero_add]
      exact (hcell (j + t) (by omega)).trans hu
  rw [Nat.zero_add] at hA
  have s1 : Hid (news.length = (n - j) * 1) := by rw [Nat.mul_one]; exact hlen
  have s2 : Hid (∀ u ∈ news, u.oneCell' = true) := by
    intro u hu
    rw [hnews] at hu
    exact h1 u (List.mem_of_mem_drop hu)
  have s3 : Hid (∀ t, t < news.length → (w.drew.cell? ⟨g, 0 + i * 1 + t, none⟩).isSome = true ∧ w.drew.frozen? ⟨g, 0 + i * 1 + t, none⟩ = false) := by
    intro t ht
    rw [hlen] at ht
    exact ⟨hsome _ (by omega), frozen_row (w := w.drew) hg⟩
  have hg1 : w.drew.heap[g]? = some (.cells cur 28 (0, 0)) := hg
  obtain ⟨W1, hW1⟩ : ∃ W1, W1 = w.drew.setCells g (0 + i * 1) news := ⟨_, rfl⟩
  have HG1 : Hid (W1.heap[g]? = some (.cells (cur.toList.take i ++ news ++ cur.toList.drop (i + (n - j))).toArray 28 (0, 0))) := by
    have := heap_setCells news w.drew cur (0 + i * 1) hg1 (by rw [hlen, hcs]; omega)
    rw [hW1]
    have e : 0 + i * 1 + news.length = i + (n - j) := by rw [hlen]; omega
    rw [e, Nat.mul_one, Nat.zero_add] at this
    rw [Nat.mul_one, Nat.zero_add]
    exact this
  have HO1 : Hid (Off [g] w W1) := by
    rw [hW1]
    exact ((Off.refl [g] w).drew).trans (off_setCells g news _ _) (fun i hi => .inl hi)
  have hcl : ∀ ty, (Builtin.clear_ #[22] ty #[.slice (some ⟨g, i + (n - j), none⟩) (n - (i + (n - j))) (cap - (i + (n - j)))]).run Try.prog W1 = .ok (.tuple #[]) (W1.setCells g (i + (n - j)) (List.replicate (n - (i + (n - j))) (.slice none 0 0))) :=
    fun ty => Lib.run_clear_slice W1 _ _ ty _ Try.underlying22 Try.zero28 rfl rfl g (i + (n - j)) _ _ (by omega) (fun t ht => by rw [cell_row HG1.out]; simp [hcs, hlen]; omega) (fun t ht => frozen_row HG1.out)
  have hW : Hid (W1 = w.drew.setCells g (0 + i * 1) news) := hW1
  have hic : i ≤ cap := by omega
  have hjc : j ≤ cap := by omega
  have HUS := hide hus
  have HNW := hide hnews
  have HNL := hide hlen
  have HUL := hide hul
  have HCS := hide hcs
  clear hW1 hnews hlen hcell hsome hg hg1 hus hul hcs h1
  go_enter Try.func28, Try.ntmps28
  go_wp2_with fail
  go_region_law_o (refine step_append_room rfl (.tmp 22) (.tmp 25) 22 rfl 28 i0 1 Try.underlying22 hi0 hz1 g 0 i cap (by simp [Act.eval, Act.put]) A (n - j) (cap - j) news (by simp [Act.eval, Act.put]) s1.out hsrc.out s2.out (by omega) s3.out ?_; rw [← hW.out])
  go_wp2
  go_ret
  have e1 : i + (n - j) = n - (j - i) := by omega
  have hul := HUL.out
  have hcs := HCS.out
  have hnl := HNL.out
  have h2 : (cur.toList.take i ++ news).length = i + (n - j) := by simp [hnl, hcs]; omega
  have hg2 := heap_setCells (List.replicate (n - (i + (n - j))) nilS) W1 _ (i + (n - j)) HG1.out (by simp [hnl, hcs]; omega)
  refine ⟨by rw [e1]; rfl, ?_, _, hg2, ?_, ?_⟩
  · exact HO1.out.trans (off_setCells g _ _ _) (fun i hi => .inl hi)
  · simp [hnl, hcs]; omega
  · have h3 : cur.toList.take i = us.take i := by rw [← HUS.out, List.take_take, Nat.min_eq_left (by omega)]
    rw [← e1, ← h2, List.take_left, List.append_assoc, List.take_left, h3, HNW.out]
theorem delete_owns {w : World} {base n i j : Nat} {v : Value} {us : List Value} (h : w.ownsRow base 28 1 v n us) (h1 : ∀ u ∈ us, u.oneCell' = true) (hi : i < j) (hj : j ≤ n) :
    Calls Try.prog 28 #[v, .int .i64 (i : Int), .int .i64 (j : Int)] w fun e w' => ∃ v', e = .returned v' ∧ v'.ownBlock = v.ownBlock ∧ w'.ownsRow base 28 1 v' (n - (j - i)) (us.take i ++ us.drop j) ∧ ∃ g, v.ownBlock = some g ∧ Off [g] w w' := by
  have hul : us.length = n := by have := h.1; omega
  rcases h.2 with ⟨rfl, rfl⟩ | ⟨g, cap, cur, rfl, hb, hg, h2, h3, h4, h5⟩
  · omega
  · rw [Nat.mul_one] at h4 h5
    refine (delete_cells hg hul h2 h3 h4 h5 h1 hi hj).mono ?_
    rintro e w' ⟨rfl, ho, cur', hg', hs', ht'⟩
    refine ⟨_, rfl, rfl, ⟨by simp [hul]; omega, .inr ⟨g, cap, cur', rfl, hb, hg', by omega, h3, by omega, by rw [Nat.mul_one]; exact ht'⟩⟩, g, rfl, ho⟩

/-! ### What stays where other blocks are written -/
theorem owns_oth {w w' : World} {base : Nat} {e t : TypeId} {size : Nat} {v : Value} {n : Nat} {xs : List Value} (h : w.ownsRow base t size v n xs) (ho : Oth e w w') (ht : t ≠ e) : w'.ownsRow base t size v n xs := by
  refine owns_stay h (fun k hk => ?_)
  rcases h.2 with ⟨rfl, _⟩ | ⟨g, cap, cur, rfl, hb, hg, _⟩
  · simp [Value.ownBlock] at hk
  · have : g = k := by simpa [Value.ownBlock] using hk
    subst this
    exact (ho g _ _ _ ht hg).trans hg.symm
theorem OwnT.oth {base : Nat} {w w' : World} {us : List Value} {L : List (List UInt8)} {e : TypeId} (h : OwnT base w us L) (ho : Oth e w w') (he : 5 ≠ e) : OwnT base w' us L :=
  h.stay (fun k C fr _ hk => (ho k C 5 fr he hk).trans hk.symm)
theorem TsOwn.oth {base : Nat} {w w' : World} {v : Value} {L : List (List UInt8)} {e : TypeId} (h : TsOwn base w v L) (ho : Oth e w w') (he : 5 ≠ e) (he' : 28 ≠ e) : TsOwn base w' v L :=
  let ⟨us, h1, h2⟩ := h.out
  ⟨us, h1.oth ho he, owns_oth h2 ho he'⟩
theorem NdOwn.oth {base : Nat} {w w' : World} {N : Nd} {vk vv vi : Value} (h : NdOwn base w N vk vv vi) (ho : Oth 26 w w') : NdOwn base w' N vk vv vi :=
  ⟨h.keys.oth ho (by decide) (by decide), h.vals.oth ho (by decide) (by decide), owns_oth h.kids ho (by decide), h.apart⟩
theorem Box.oth {t e : TypeId} {w w' : World} {b : Nat} {c0 c1 c2 c3 c4 : Value} (h : Box t w b c0 c1 c2 c3 c4) (ho : Oth e w w') (ht : t ≠ e) : Box t w' b c0 c1 c2 c3 c4 := ⟨ho b _ _ _ ht h.heap⟩
theorem Box.othSet {t : TypeId} {w : World} {b : Nat} {c0 c1 c2 c3 c4 : Value} (h : Box t w b c0 c1 c2 c3 c4) (o : Nat) (v : Value) : Oth t w (w.setCell ⟨b, o, none⟩ v) := fun q C s fr hs hq => by
  refine (set_stay b o v (fun e => ?_)).trans hq
  subst e
  rw [h.heap] at hq
  simp at hq
  exact hs hq.2.1.symm
theorem Box.othAll {t : TypeId} {w : World} {b : Nat} {c0 c1 c2 c3 c4 : Value} (h : Box t w b c0 c1 c2 c3 c4) (v0 v1 v2 v3 v4 : Value) :
    Oth t w (((((w.setCell ⟨b, 0, none⟩ v0).setCell ⟨b, 1, none⟩ v1).setCell ⟨b, 2, none⟩ v2).setCell ⟨b, 3, none⟩ v3).setCell ⟨b, 4, none⟩ v4) :=
  ((((h.othSet 0 v0).trans ((h.set0 v0).othSet 1 v1)).trans (((h.set0 v0).set1 v1).othSet 2 v2)).trans ((((h.set0 v0).set1 v1).set2 v2).othSet 3 v3)).trans (((((h.set0 v0).set1 v1).set2 v2).set3 v3).othSet 4 v4)
/-- Of a row of texts a part is taken out. -/
theorem deleteT {base : Nat} {w : World} {v : Value} {L : List (List UInt8)} {i j : Nat} (h : TsOwn base w v L) (hi : i < j) (hj : j ≤ L.length) :
    Calls Try.prog 28 #[v, .int .i64 (i : Int), .int .i64 (j : Int)] w fun e w' => ∃ v', e = .returned v' ∧ TsOwn base w' v' (L.take i ++ L.drop j) ∧ v'.ownBlock = v.ownBlock ∧ Oth 28 w w' ∧ ∃ g, v.ownBlock = some g ∧ base ≤ g ∧ Off [g] w w' := by
  obtain ⟨us, h1, h2⟩ := h.out
  refine (delete_owns h2 h1.one hi hj).mono ?_
  rintro e w' ⟨v', rfl, hv, ho, g, hg, hoff⟩
  have hoth : Oth 28 w w' := fun q C t fr ht hq => by
    refine (hoff.block q (lt_of_heap hq) (fun hm => ?_)).trans hq
    simp at hm
    subst hm
    exact owns_ne h2 hq ht hg
  refine ⟨v', rfl, ⟨us.take i ++ us.drop j, ((h1.take i).append (h1.drop j)).oth hoth (by decide), ?_⟩, hv, hoth, g, hg, (h2.lt g hg).1, hoff⟩
  have e : (L.take i ++ L.drop j).length = L.length - (j - i) := by simp; omega
  rw [e]
  exact ho
theorem TsOwn.apart {base : Nat} {w w' : World} {v : Value} {L : List (List UInt8)} {g : Nat} (h : TsOwn base w v L) (ho : Off [g] w w') (hoth : Oth 28 w w') (hg : v.ownBlock ≠ some g) : TsOwn base w' v L :=
  let ⟨us, h1, h2⟩ := h.out
  ⟨us, h1.oth hoth (by decide), owns_off h2 ho (fun k hk => by simp at hk; subst hk; exact hg)⟩
end Go.Proofs.Ytjcobejaldfibaa
