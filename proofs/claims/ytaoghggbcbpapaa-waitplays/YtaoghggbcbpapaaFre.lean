/- Free. -/
import Derived.Test.YtaoghggbcbpapaaCyc
namespace Go.Proofs.Ytaoghggbcbpapaa
open Go.RowKit
set_option linter.unusedVariables false
set_option linter.unusedSimpArgs false

/-- Who goes, so far. -/
structure GoUp (E : List (Int × Int)) (nums : List Int) (k : Nat) (G : List Int) : Prop where
  rise : G.Pairwise (· < ·)
  just : ∀ x, x ∈ G ↔ ∃ i, i < k ∧ nums[i]? = some x ∧ Top E x
  len : G.length ≤ k
theorem GoUp.start (E : List (Int × Int)) (nums : List Int) : GoUp E nums 0 [] := ⟨by simp, fun x => by simp, by simp⟩
theorem GoUp.take {E : List (Int × Int)} {nums : List Int} {k : Nat} {C : List Int} (h : GoUp E nums k C) (hr : nums.Pairwise (· < ·)) {x : Int} (hx : nums[k]? = some x) (ht : Top E x) : GoUp E nums (k + 1) (C ++ [x]) := by
  refine ⟨?_, fun y => ?_, by rw [List.length_append]; have := h.len; simp; omega⟩
  · rw [List.pairwise_append]
    refine ⟨h.rise, by simp, fun y hy z hz => ?_⟩
    rw [List.mem_singleton] at hz
    subst hz
    obtain ⟨i, hi, h1, _⟩ := (h.just y).1 hy
    have h2 : ¬ z ≤ y := fun h => by have := (rise_le hr hx h1).2 h; omega
    omega
  · rw [List.mem_append, h.just y, List.mem_singleton]
    constructor
    · rintro (⟨i, hi, h1⟩ | e)
      · exact ⟨i, by omega, h1⟩
      · subst e; exact ⟨k, by omega, hx, ht⟩
    · rintro ⟨i, hi, h1, h2⟩
      by_cases e : i = k
      · subst e
        rw [hx] at h1
        injection h1 with h1
        exact .inr h1.symm
      · exact .inl ⟨i, by omega, h1, h2⟩
theorem GoUp.skip {E : List (Int × Int)} {nums : List Int} {k : Nat} {C : List Int} (h : GoUp E nums k C) {x : Int} (hx : nums[k]? = some x) (hn : ¬ Top E x) : GoUp E nums (k + 1) C := by
  refine ⟨h.rise, fun y => ?_, by have := h.len; omega⟩
  rw [h.just y]
  constructor
  · rintro ⟨i, hi, h1⟩; exact ⟨i, by omega, h1⟩
  · rintro ⟨i, hi, h1, h2⟩
    by_cases e : i = k
    · subst e
      rw [hx] at h1
      injection h1 with h1
      subst h1
      exact absurd h2 hn
    · exact ⟨i, by omega, h1, h2⟩
theorem GoUp.free {E : List (Int × Int)} {nums : List Int} {G : List Int} (h : GoUp E nums nums.length G) (hN : NumsIs E nums) : FreeIs E (apt E G) := by
  refine ⟨_, rfl, fun e he => ?_⟩
  have key : ∀ x, x ∈ nums → (x ∈ G ↔ Top E x) := by
    intro x hx
    rw [h.just x]
    constructor
    · rintro ⟨_, _, _, h⟩; exact h
    · intro ht
      obtain ⟨i, hi, e⟩ := List.mem_iff_getElem.1 hx
      exact ⟨i, hi, by rw [List.getElem?_eq_getElem hi, e], ht⟩
  obtain ⟨h1, h2⟩ := hN.ends e he
  rw [← key _ h1, ← key _ h2]
  simp
set_option maxHeartbeats 4000000 in
set_option maxRecDepth 100000 in
theorem free_any {w : World} {a : Option Addr} {c : Nat} {E : List (Int × Int)} (hE : EdgesAt w a E) :
    Calls Try.prog 9 #[.slice a E.length c] w fun e w' => ∃ v F, e = .returned v ∧ w'.ownsRow w.heap.size 24 2 v F.length (ecells F) ∧ FreeIs E F ∧ Below w.heap.size w w' := by
  have HNB := hide (numbers_any (c := c) hE)
  have HE := hide hE
  have hlen := hE.len
  obtain ⟨n, hn⟩ : ∃ n, E.length = n := ⟨_, rfl⟩
  have HN := hide hn
  rw [hn] at hlen ⊢
  clear hn hE
  rw [HN.out] at HNB
  go_enter Try.func9, Try.ntmps9
  go_upto_region 2 with (go_at_call 18; refine HNB.out.mono ?_; rintro e w1 ⟨vn, nums, rfl, hnr, hnu, hb1⟩)
  have hnl : nums.length ≤ 2000000 := by have := hnu.len; have := HN.out; omega
  have HRW1 : Hid (Row w1 vn nums.length (nums.map icell)) := Row.of_owns hnr
  have HNU := hide hnu
  have HB1 := hide hb1
  have HE1 : Hid (EdgesAt w1 a E) := HE.out.belowW hb1
  have H19 : Hid (Calls Try.prog 19 #[vn, .slice a n c] w1 fun e w' => ∃ g vs Nx, e = .returned (.slice (some ⟨g, 0, none⟩) nums.length nums.length) ∧ NextAt w' g vs Nx ∧ WaysIs nums E Nx ∧ Below w1.heap.size w1 w') := by
    have := ways_any (c := c) HRW1.out hnu.rise hnl HE1.out hnu.ends
    rw [HN.out] at this
    exact this
  obtain ⟨an, cn, rfl, _⟩ := int_cells HRW1.out
  clear hnr hb1 HNB hnu
  obtain ⟨m, hm⟩ : ∃ m, nums.length = m := ⟨_, rfl⟩
  have HM := hide hm
  rw [hm] at hnl HRW1 H19 ⊢
  clear hm
  go_upto_region 4 with (go_at_call 19; refine H19.out.mono ?_; rintro e w2 ⟨g2, vs2, Nx, rfl, hn2, hs2, hb2⟩)
  have HRN : Hid (Row w2 (.slice an m cn) nums.length (nums.map icell)) := by have := HRW1.out; rw [← HM.out] at this ⊢; exact this.belowW hb2
  have HNX := hide hn2
  have HWS := hide hs2
  have HB2 : Hid (Below w.heap.size w w2) := bt HB1.out (Nat.le_refl _) hb2
  have H20 : Hid (∀ W k, k < m → Below w2.heap.size w2 W → Calls Try.prog 20 #[.slice (some ⟨g2, 0, none⟩) m m, .int .i64 ((k : Nat) : Int), .int .i64 ((k : Nat) : Int)] W fun e w' => ∃ s bs, e = .returned (.slice (some ⟨s, 0, none⟩) (k + 1) (k + 1)) ∧ w'.heap[s]? = some (.cells (bs.map Value.bool).toArray 4 (0, 0)) ∧ ReIs Nx k k bs ∧ Below W.heap.size W w') := fun W k hk hb => by
    have hl : Nx.length = m := HWS.out.len.trans HM.out
    have := reached_any (fr := k) (last := k) (HNX.out.belowW hb) (by omega) (HWS.out.lists (by have := HN.out; omega)) (by omega) (by omega)
    rw [hl] at this
    exact this
  have H21 : Hid (∀ W vg G, Below w.heap.size w W → Row W vg G.length (G.map icell) → G.Pairwise (· < ·) → G.length ≤ 2000000 → Calls Try.prog 21 #[.slice a n c, vg] W fun e w' => ∃ v, e = .returned v ∧ w'.ownsRow W.heap.size 24 2 v (apt E G).length (ecells (apt E G)) ∧ Below W.heap.size W w') := fun W vg G hb h1 h2 h3 => by
    have := apart_any (c := c) (HE.out.belowW hb) h1 h2 h3
    rw [HN.out] at this
    exact this
  clear hn2 hs2 hb2 H19 HRW1 HE1
  go_wp2
  go_loopw [5, 15] (fun v i wr => ∃ (k : Nat) (G : List Int), k ≤ m ∧ i = .int .i64 k ∧ GoUp E nums k G ∧ wr.ownsRow w2.heap.size 3 1 v G.length (G.map icell) ∧ Below w2.heap.size w2 wr) (fun _ i _ => m - (intOf i).toNat)
  case atStart => exact ⟨0, [], by omega, rfl, GoUp.start _ _, ⟨rfl, .inl ⟨rfl, rfl⟩⟩, Below.refl _ _⟩
  case round =>
    obtain ⟨k, G, hk, rfl, hG, hrow, hB⟩ := hrel
    have HG := hide hG
    have HROW := hide hrow
    have HB := hide hB
    clear hG hrow hB
    by_cases hlt : k < m
    · obtain ⟨x, hx⟩ : ∃ x, nums[k]? = some x := ⟨_, List.getElem?_eq_getElem (by rw [HM.out]; exact hlt)⟩
      obtain ⟨a', c', e', hcell⟩ := int_cells HRN.out
      obtain ⟨gn, on, ea, hgn, hcn⟩ := hcell k x hx
      injection e' with e1 e2 e3
      subst e1
      subst ea
      have hcx : wr.cell? ⟨gn, on + k, none⟩ = some (.int .i64 x) := (HB.out.cell (p := ⟨gn, on + k, none⟩) hgn).trans hcn
      have HXK := hide hx
      have HC20 := hide (H20.out wr k hlt HB.out)
      clear e2 e3 hcell hcn hx
      obtain ⟨K1, hK1⟩ : ∃ K1 : Nat, k + 1 = K1 := ⟨_, rfl⟩
      have hkK : k < K1 := by omega
      rw [hK1] at HC20
      clear hK1
      have HDEC : Hid (∀ bs, ReIs Nx k k bs → (bs[k]? = some true ↔ Top E x)) := fun bs h => reach_is HNU.out.rise HNU.out.ends HWS.out h HXK.out HXK.out HXK.out (Nat.le_refl _)
      go_upto_if 26 with (go_at_call 20; refine HC20.out.mono ?_; rintro e w3 ⟨s3, bs, rfl, hc3, hre3, hb3⟩; obtain ⟨bk, hbk⟩ : ∃ b, bs[k]? = some b := ⟨_, List.getElem?_eq_getElem (by rw [hre3.len]; omega)⟩; have HTOP := hide (HDEC.out bs hre3); have hck := bool_cell hc3 hbk; have HBK := hide hbk; have HB3 := hide hb3; clear hc3 hre3 hb3 hbk)
      cases bk
      · have HSK : Hid (GoUp E nums (k + 1) G) := HG.out.skip HXK.out (fun h => by have := HTOP.out.2 h; rw [HBK.out] at this; cases this)
        go_wp2
        go_roundw
        case rel => exact ⟨k + 1, G, by omega, by go_num, HSK.out, owns_below HROW.out HB3.out (Nat.le_refl _), bt HB.out (Nat.le_refl _) HB3.out⟩
        case measure => simp [intOf]; omega
      · have HTA : Hid (GoUp E nums (k + 1) (G ++ [x])) := HG.out.take HNU.out.rise HXK.out (HTOP.out.1 HBK.out)
        have HR3 := hide (owns_below HROW.out HB3.out (Nat.le_refl _))
        have HBB : Hid (Below w2.heap.size w2 w3) := bt HB.out (Nat.le_refl _) HB3.out
        have HR2 := hide (row_new w3 3 [.int .i64 x] 1 (by omega))
        have HB4 : Hid (Below w2.heap.size w2 (w3.alloc (.cells #[.int .i64 x] 3))) := HBB.out.trans ((Below.refl _ w3).alloc HBB.out.size _)
        have HO2 : Hid ((w3.alloc (.cells #[.int .i64 x] 3)).ownsRow w2.heap.size 3 1 u5 G.length (G.map icell)) := owns_below HR3.out ((Below.refl _ w3).alloc (Nat.le_refl _) _) (Nat.le_refl _)
        have HCL : Hid (G.length ≤ 2000000) := Nat.le_trans HG.out.len (by omega)
        go_wp2_with (refine wpList_append_row rfl (.tmp 27) (.tmp 29) 29 rfl w2.heap.size 3 (.int .i64 0) 1 8 Try.underlying29 Try.info3 rfl (by omega) _ _ _ _ 1 _ rfl rfl HO2.out HR2.out rfl (by simp [Value.oneCell']) (by have := HCL.out; omega) (by have := HCL.out; omega) HB4.out.size ?_; intro v7 w7' ho7 hg7)
        go_roundw
        case rel =>
          refine ⟨k + 1, G ++ [x], by omega, by go_num, HTA.out, ?_, HB4.out.grown hg7 HB4.out.size (fun k hk => (HO2.out.lt k hk).1)⟩
          have : (G ++ [x]).map icell = G.map icell ++ [.int .i64 x] := by simp [icell]
          rw [this, List.length_append]
          exact ho7
        case measure => simp [intOf]; omega
    · have hkm : k = m := by omega
      have HGM : Hid (GoUp E nums nums.length G) := by rw [HM.out, ← hkm]; exact HG.out
      have HBW : Hid (Below w.heap.size w wr) := bt HB2.out (Nat.le_refl _) HB.out
      have HC21 := hide (H21.out wr u5 G HBW.out (Row.of_owns HROW.out) HGM.out.rise (Nat.le_trans HG.out.len (by omega)))
      have HFR := hide (HGM.out.free HNU.out)
      clear hkm H20 H21
      go_wp2_with (go_at_call 21; refine HC21.out.mono ?_; rintro e w5 ⟨v5, rfl, hr5, hb5⟩)
      go_ret
      exact ⟨_, _, rfl, owns_mono hr5 HBW.out.size, HFR.out, bt HBW.out (Nat.le_refl _) hb5⟩
end Go.Proofs.Ytaoghggbcbpapaa
