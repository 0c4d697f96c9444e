/- Get, New. -/
import Derived.Test.YtifoafiidplpiaaPGet
namespace Go.Proofs.Ytifoafiidplpiaa
open Go.RowKit
set_option linter.unusedVariables false
set_option linter.unusedSimpArgs false

section
variable {Φ : Force} {w0 w w' : World} {P G q p n : Nat} {xs bl ff : List Nat} {vs : List Value} {S : Pl Φ.σ} {D D' : Dv}
/-- A block that was apart becomes one of bytes. -/
theorem PoolIs.own {g : Nat} (h : PoolIs Φ w0 w P G q p n (g :: xs) bl ff vs S D) (hg : g ∉ xs) : PoolIs Φ w0 w P G q p n xs (g :: bl) ff vs S D :=
  { h with
    fs := h.fs.mind (fun k hk => by
      simp only [List.mem_cons, List.mem_append, List.cons_append] at hk ⊢
      rcases hk with h3 | h3 | h3 | h3 | h3 | h3
      · exact .inl (.inl h3)
      · exact .inl (.inr (.inl h3))
      · exact .inl (.inr (.inr (.inr (.inr (.inl h3)))))
      · exact .inl (.inr (.inr (.inl h3)))
      · exact .inl (.inr (.inr (.inr (.inl h3))))
      · exact .inl (.inr (.inr (.inr (.inr (.inr h3))))))
    byt := fun i f v a b => (h.byt i f v a b).stay rfl (Nat.le_refl _) (fun k hk => ⟨by simp [hk], rfl⟩)
    pb := fun hm => h.pb (by
      simp only [List.mem_cons, List.mem_append, List.cons_append] at hm ⊢
      rcases hm with h3 | h3 | h3 | h3
      · exact .inr (.inr (.inl h3))
      · exact .inl h3
      · exact .inr (.inl h3)
      · exact .inr (.inr (.inr h3)))
    gb := fun hm => h.gb (by
      simp only [List.mem_cons, List.mem_append, List.cons_append] at hm ⊢
      rcases hm with h3 | h3 | h3 | h3
      · exact .inr (.inr (.inl h3))
      · exact .inl h3
      · exact .inr (.inl h3)
      · exact .inr (.inr (.inr h3)))
    bx := fun k hk hm => by
      simp only [List.mem_append] at hm
      rcases List.mem_cons.1 hk with h3 | h3
      · subst h3
        rcases hm with h4 | h4
        · exact h.fx k h4 (by simp)
        · exact hg h4
      · rcases hm with h4 | h4
        · exact h.bx k h3 (by simp [h4])
        · exact h.bx k h3 (by simp [h4])
    fx := fun k hk hm => h.fx k hk (by simp [hm]) }
theorem pool_fread (h : PoolIs Φ w0 w P G q p n xs bl ff vs S D) (i : Nat) (hi : i < n) :
    Calls Try.prog 11 #[.pointer (some ⟨q, 0, none⟩), .int .i64 (i : Int)] w fun e w' => ∃ g, e = .returned (.tuple #[.slice (some ⟨g, 0, none⟩) 512 512, .int .i64 0]) ∧ w.heap.size ≤ g ∧ w'.heap[g]? = some (.cells (secCells (S.disk.getD i [])).toArray 5 (0, 0)) ∧
      (∃ D', PoolIs Φ w0 w' P G q p n (g :: xs) bl ff vs S D') ∧ Kept xs w w' := by
  have hlen := h.len
  refine (b_read i h.fs h.well.live (by rw [h.wnil]; simp) (by omega) hi).mono ?_
  rintro e w' ⟨g, rfl, hg, hblk, hF, hK⟩
  rw [four_L h.wnil, h.disk i hi] at hblk
  have lt : ∀ k ∈ P :: G :: (bl ++ (ff ++ xs)), k < w.heap.size := fun k hk => h.fs.lts hk
  have hF0 : Fs w0 w' q p 0 n false (P :: G :: (bl ++ (ff ++ xs))) (D.more 4) := hF.mind (fun k hk => .inl (by simp only [List.mem_cons] at hk ⊢; exact .inr hk))
  have y := h.kept hF0 hK (well_more h.well 4) (by rw [more_W]; exact h.wnil) (by rw [more_L]; exact h.len) S.disk (fun j hj => by rw [more_L]; exact h.disk j hj) h.dlen h.d512
  refine ⟨g, rfl, hg, hblk, ⟨D.more 4, { y with
    fs := hF.mind (fun k hk => .inl (by
      simp only [List.mem_cons, List.mem_append] at hk ⊢
      rcases hk with h3 | h3 | h3 | h3 | h3 | h3
      · exact .inr (.inl h3)
      · exact .inr (.inr (.inl h3))
      · exact .inr (.inr (.inr (.inl h3)))
      · exact .inr (.inr (.inr (.inr (.inl h3))))
      · exact .inl h3
      · exact .inr (.inr (.inr (.inr (.inr h3))))))
    pb := fun hm => by
      simp only [List.mem_cons, List.mem_append] at hm
      rcases hm with h3 | h3 | h3 | h3
      · exact h.pb (by simp [h3])
      · exact h.pb (by simp [h3])
      · have := lt P (by simp); omega
      · exact h.pb (by simp [h3])
    gb := fun hm => by
      simp only [List.mem_cons, List.mem_append] at hm
      rcases hm with h3 | h3 | h3 | h3
      · exact h.gb (by simp [h3])
      · exact h.gb (by simp [h3])
      · have := lt G (by simp); omega
      · exact h.gb (by simp [h3])
    bx := fun k hk hm => by
      simp only [List.mem_cons, List.mem_append] at hm
      rcases hm with h3 | h3 | h3
      · exact h.bx k hk (by simp [h3])
      · have := lt k (by simp [hk]); omega
      · exact h.bx k hk (by simp [h3])
    fx := fun k hk hm => by
      rcases List.mem_cons.1 hm with h3 | h3
      · have := lt k (by simp [hk]); omega
      · exact h.fx k hk h3 }⟩, hK.mono (fun k hk => by simp [hk])⟩

set_option maxHeartbeats 1000000 in
set_option maxRecDepth 100000 in
theorem get_ok (h : PoolAt Φ w0 w P G q p n xs S) (m : Int) (hok : Φ.ok S.fo) (hpg : S.sound n) (hfu : S.full) (hwr : S.wr ≤ 1000000) (hz : (S.get n m).2.1 = 0) :
    Calls Try.prog 19 #[.pointer (some ⟨P, 0, none⟩), .int .i64 m] w fun e w' => ∃ g c cur, e = .returned (.tuple #[.slice (some ⟨g, 0, none⟩) 512 c, .int .i64 0]) ∧ w.heap.size ≤ g ∧ BlkAt w' g c (S.get n m).1 cur ∧ PoolAt Φ w0 w' P G q p n (g :: xs) (S.get n m).2.2 ∧ Kept xs w w' := by
  obtain ⟨bl, ff, vs, D, h⟩ := h
  have HFI := hide (find_any h m)
  cases hf : S.find m with
  | some i =>
    obtain ⟨f, hfi, hfd, hhe, hpm, hfm, hi⟩ := find_some hf
    have HGE : Hid (S.get n m = (f.bs, 0, { S with fs := S.fs.set i { f with asked := true } })) := by show _ = _; unfold Pl.get; rw [hf]; simp only [hfd]
    have hb5 := hfu f hfm hhe
    obtain ⟨v, hv, hB, _, _, _, _, d3, _⟩ := h.cells i f hfi
    have g3 := h.fzG (i * 7 + 3)
    have hO : Off [G] w (w.setCell ⟨G, i * 7 + 3, none⟩ (.bool true)) := (Off.refl _ _).setCell _ _ (by simp)
    have HK1 := hide (h.keptG hO)
    have h1 := h.mark i f hfi true
    obtain ⟨v1, hv1, hB1, _, _, _, k2, _⟩ := h1.cells i { f with asked := true } (List.getElem?_set_self hi)
    rw [hv] at hv1
    cases hv1
    rcases hB1 with ⟨hb0, _⟩ | ⟨g, c, rfl, hc, hb5', hgb, hsr⟩
    · have hb0 : f.bs = [] := hb0
      rw [hb0] at hb5
      simp at hb5
    have hsr : SrcAt (w.setCell ⟨G, i * 7 + 3, none⟩ (.bool true)) g 0 f.bs := hsr
    have HCL := hide (clone_any (c := c) hsr hb5)
    have H1 := hide h1
    rw [hf] at HFI
    have HFI : Hid (Calls Try.prog 29 #[.pointer (some ⟨P, 0, none⟩), .int .i64 m] w fun e w' => e = .returned (.pointer (some ⟨G, i * 7, none⟩)) ∧ w' = w) := HFI
    clear h hpg hfu hf hfi hfd hhe hpm hfm hok hB hv hO h1 hsr hgb hb5' hb5 hz
    go_enter Try.func19, Try.ntmps19
    go_wp2_with (first
      | (go_at_call 29; refine HFI.out.mono ?_; rintro e w' ⟨rfl, hw⟩; have hw := hw.symm; subst hw)
      | (go_at_call 41; refine HCL.out.mono ?_; rintro e w2 ⟨g', c', cur, rfl, hg', hk, hb⟩; have H2 := hide (And.intro hg' (And.intro hk hb)); clear hg' hk hb))
    go_ret2
    rw [HGE.out]
    have hsz : w.heap.size ≤ (w.setCell ⟨G, i * 7 + 3, none⟩ (.bool true)).heap.size := HK1.out.1
    refine ⟨g', c', cur, rfl, Nat.le_trans hsz H2.out.1, H2.out.2.1, (H1.out.mindNew H2.out.2.2 (fun k hk => ?_)).at, HK1.out.trans ⟨H2.out.2.2.size, fun k hk => H2.out.2.2.block k (H1.out.fs.lts (by simp [hk]))⟩⟩
    rcases List.mem_cons.1 hk with h3 | h3
    · subst h3
      exact .inr ⟨H2.out.1, H2.out.2.1.lt⟩
    · exact .inl h3
  | none =>
    have c0 := h.c0
    have HGE0 : Hid (S.get n m = if m < 0 ∨ (n : Int) ≤ m then ([], 1, S) else if S.free.1 ≠ 0 then ([], S.free.1, S.free.2.2) else (S.disk.getD m.toNat [], 0, { S.free.2.2 with fs := S.free.2.2.fs.set S.free.2.1 (Fm.read m (S.disk.getD m.toNat [])) })) := by show _ = _; unfold Pl.get; rw [hf]
    have hin : ¬ (m < 0 ∨ (n : Int) ≤ m) := fun hc => by
      have := HGE0.out
      rw [if_pos hc] at this
      rw [this] at hz
      simp at hz
    have hfz : S.free.1 = 0 := by
      by_cases hc : S.free.1 = 0
      · exact hc
      · have := HGE0.out
        rw [if_neg hin, if_pos hc] at this
        rw [this] at hz
        exact hz
    have hlen := free_len S h.hand
    obtain ⟨⟨x, i, T⟩, hT⟩ : ∃ T, S.free = T := ⟨_, rfl⟩
    obtain ⟨k, rfl⟩ : ∃ k : Nat, m = (k : Int) := ⟨m.toNat, by omega⟩
    have hkn : k < n := by omega
    have HGE : Hid (S.get n (k : Int) = (S.disk.getD k [], 0, { T with fs := T.fs.set i (Fm.read (k : Int) (S.disk.getD k [])) })) := by
      show _ = _
      rw [HGE0.out, if_neg hin, if_neg (by rw [hfz]; simp), hT]
      rfl
    have h5 := h.d512 k hkn
    have HRD := hide (pool_fread h k hkn)
    have HFREE := hide (fun (W : World) (bl ff : List Nat) (vs : List Value) (D : Dv) (g : Nat) (hW : PoolIs Φ w0 W P G q p n (g :: xs) bl ff vs S D) => free_any hW hok hpg hwr)
    rw [hT] at hlen hfz HFREE
    have hfz : x = 0 := hfz
    subst hfz
    have HLT : Hid (∀ k ∈ xs, k < w.heap.size) := fun k hk => h.fs.lts (by simp [hk])
    have HL := hide hlen
    rw [hf] at HFI
    have HFI : Hid (Calls Try.prog 29 #[.pointer (some ⟨P, 0, none⟩), .int .i64 (k : Int)] w fun e w' => e = .returned (.pointer none) ∧ w' = w) := HFI
    clear h hpg hfu hf hok hT hlen HGE0 hin hz
    generalize S.disk.getD k [] = bs at *
    go_enter Try.func19, Try.ntmps19
    go_wp2_with (first
      | (go_at_call 29; refine HFI.out.mono ?_; rintro e w' ⟨rfl, hw⟩; have hw := hw.symm; subst hw)
      | (go_at_call 11; refine HRD.out.mono ?_; rintro e w2 ⟨g, rfl, hg, hblk, ⟨D2, h2⟩, hK2⟩; have HFR := hide (HFREE.out w2 bl ff vs D2 g h2); have H2 := hide (And.intro hg (And.intro hblk hK2)); clear hg hblk hK2 h2 HFREE)
      | (go_at_call 35; refine HFR.out.mono ?_; rintro e w3 ⟨rfl, ⟨bl3, ff3, vs3, D3, h3⟩, hK3⟩; have hgx : g ∉ xs := fun hm => by have := HLT.out g hm; have := H2.out.1; omega
         have hsr : SrcAt w3 g 0 bs := (SrcAt.block H2.out.2.1).of hK3.1 (hK3.2 g (by simp))
         obtain ⟨w4, r1, r2, r3⟩ := (h3.own hgx).storeAll i HL.out (Fm.read (k : Int) bs) (.slice (some ⟨g, 0, none⟩) 512 512) (.inr ⟨g, 512, rfl, Nat.le_refl _, h5, by simp, hsr⟩) (by simp [Fm.read]); have HR1 := hide r1
         have hsr4 : SrcAt w4 g 0 bs := by
           obtain ⟨v4, hv4, hB4, _⟩ := r2.cells i (Fm.read (k : Int) bs) (List.getElem?_set_self HL.out)
           rw [List.getElem?_set_self (by have := r2.vlen; simp at this; rw [this]; exact HL.out)] at hv4
           cases hv4
           rcases hB4 with ⟨_, hb4⟩ | ⟨g4, c4, hb4, _, _, _, hs4⟩
           · cases hb4
           · cases hb4
             exact hs4
         have HCL := hide (clone_any (c := 512) hsr4 h5)
         have H4 := hide (And.intro r2 (H2.out.2.2.trans ((hK3.mono (fun k hk => by simp [hk])).trans r3)))
         clear r1 r2 r3 h3 hK3 hsr hsr4)
      | (refine wpList_store_in rfl 82 _ _ rfl rfl G (i * 7) (fCells (Fm.read (k : Int) bs) (.slice (some ⟨g, 0, none⟩) 512 512)) w4 rfl rfl HR1.out ?_)
      | (go_at_call 41; refine HCL.out.mono ?_; rintro e w5 ⟨g', c', cur, rfl, hg', hk, hb⟩; have H5 := hide (And.intro hg' (And.intro hk hb)); clear hg' hk hb))
    go_ret2
    rw [HGE.out]
    refine ⟨g', c', cur, rfl, Nat.le_trans H4.out.2.1 H5.out.1, H5.out.2.1, (H4.out.1.mindNew H5.out.2.2 (fun k hk => ?_)).at, H4.out.2.trans ⟨H5.out.2.2.size, fun k hk => H5.out.2.2.block k (H4.out.1.fs.lts (by simp [hk]))⟩⟩
    rcases List.mem_cons.1 hk with h3 | h3
    · subst h3
      exact .inr ⟨H5.out.1, H5.out.2.1.lt⟩
    · exact .inl h3
end
end Go.Proofs.Ytifoafiidplpiaa
