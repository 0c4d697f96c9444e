/- Cycle and Victim. -/
import Derived.Test.YtaoghggbcbpapaaRea
namespace Go.Proofs.Ytaoghggbcbpapaa
open Go.RowKit
set_option linter.unusedVariables false
set_option linter.unusedSimpArgs false

/-- Places that can be reached, as numbers that can be reached. -/
theorem reach_is {nums : List Int} {F : List (Int × Int)} {Nx : List (List Nat)} (hr : nums.Pairwise (· < ·)) (hin : ∀ e ∈ F, e.1 ∈ nums ∧ e.2 ∈ nums) (hW : WaysIs nums F Nx) {i last : Nat} {bs : List Bool} (hRe : ReIs Nx i last bs) {a z x : Int} {t : Nat}
    (ha : nums[i]? = some a) (hz : nums[last]? = some z) (hx : nums[t]? = some x) (ht : t ≤ last) : bs[t]? = some true ↔ Rch (StpTo F z) a x := by
  rw [hRe.just t ht]
  have hget : ∀ (j : Nat) y, nums[j]? = some y → nums.getD j 0 = y := fun j y h => by rw [List.getD_eq_getElem?_getD, h]; rfl
  have hok : ∀ j, j < nums.length → nums[j]? = some (nums.getD j 0) := fun j h => by rw [List.getD_eq_getElem?_getD, List.getElem?_eq_getElem h]; rfl
  have := rch_map (S := St Nx last) (T := StpTo F z) (fun j => nums.getD j 0) (fun j => j < nums.length)
    (fun u v hu hv e => by
      have h1 := hok u hu
      have h2 := hok v hv
      have e : nums.getD u 0 = nums.getD v 0 := e
      rw [e] at h1
      exact rise_inj hr h1 h2)
    (fun u v h => by
      obtain ⟨⟨L, hL, hm⟩, _⟩ := h
      obtain ⟨p, q, _, h2, _⟩ := (hW.just u L hL v).1 hm
      exact (List.getElem?_eq_some_iff.1 h2).1)
    (fun u v hu hv => by
      have h1 := hok u hu
      have h2 := hok v hv
      constructor
      · rintro ⟨⟨L, hL, hm⟩, hle⟩
        obtain ⟨p, q, k1, k2, k3⟩ := (hW.just u L hL v).1 hm
        refine ⟨?_, (rise_le hr h2 hz).1 hle⟩
        show (nums.getD u 0, nums.getD v 0) ∈ F
        rw [hget u p k1, hget v q k2]
        exact k3
      · rintro ⟨k1, k2⟩
        obtain ⟨L, hL⟩ : ∃ L, Nx[u]? = some L := ⟨_, List.getElem?_eq_getElem (by rw [hW.len]; exact hu)⟩
        exact ⟨⟨L, hL, (hW.just u L hL v).2 ⟨_, _, h1, h2, k1⟩⟩, (rise_le hr h2 hz).2 k2⟩)
    (fun u y hu h => by
      have := (hin _ h.1).2
      obtain ⟨k, hk, e⟩ := List.mem_iff_getElem.1 this
      refine ⟨k, hk, ?_⟩
      show y = nums.getD k 0
      rw [List.getD_eq_getElem?_getD, List.getElem?_eq_getElem hk, e]
      rfl)
    (List.getElem?_eq_some_iff.1 ha).1 (List.getElem?_eq_some_iff.1 hx).1
  rw [this]
  show Rch (StpTo F z) (nums.getD i 0) (nums.getD t 0) ↔ _
  rw [hget i a ha, hget t x hx]
theorem reach_all {nums : List Int} {F : List (Int × Int)} (hr : nums.Pairwise (· < ·)) (hin : ∀ e ∈ F, e.1 ∈ nums ∧ e.2 ∈ nums) {last : Nat} (hl : last + 1 = nums.length) {z : Int} (hz : nums[last]? = some z) {a x : Int} : Rch (StpTo F z) a x ↔ Rch (Stp F) a x := by
  constructor
  · intro h; exact h.mono (fun _ _ s => s.1)
  · intro h
    refine h.mono (fun u v s => ⟨s, ?_⟩)
    obtain ⟨k, hk, e⟩ := List.mem_iff_getElem.1 (hin _ s).2
    have hv : nums[k]? = some v := by rw [List.getElem?_eq_getElem hk, e]
    exact (rise_le hr hv hz).1 (by omega)
/-- The round so far. -/
structure CycUp (nums : List Int) (A B : List Bool) (k : Nat) (C : List Int) : Prop where
  rise : C.Pairwise (· < ·)
  just : ∀ x, x ∈ C ↔ ∃ i, i < k ∧ nums[i]? = some x ∧ A[i]? = some true ∧ B[i]? = some true
  len : C.length ≤ k
theorem CycUp.start (nums : List Int) (A B : List Bool) : CycUp nums A B 0 [] := ⟨by simp, fun x => by simp, by simp⟩
theorem CycUp.take {nums : List Int} {A B : List Bool} {k : Nat} {C : List Int} (h : CycUp nums A B k C) (hr : nums.Pairwise (· < ·)) {x : Int} (hx : nums[k]? = some x) (hA : A[k]? = some true) (hB : B[k]? = some true) : CycUp nums A B (k + 1) (C ++ [x]) := by
  refine ⟨?_, fun y => ?_, by rw [List.length_append]; have := h.len; simp; omega⟩
  · rw [List.pairwise_append]
    refine ⟨h.rise, by simp, fun y hy z hz => ?_⟩
    rw [List.mem_singleton] at hz
    subst hz
    obtain ⟨i, hi, h1, _⟩ := (h.just y).1 hy
    have h2 : ¬ z ≤ y := fun h => by have := (rise_le hr hx h1).2 h; omega
    omega
  · rw [List.mem_append, h.just y, List.mem_singleton]
    constructor
    · rintro (⟨i, hi, h1⟩ | e)
      · exact ⟨i, by omega, h1⟩
      · subst e; exact ⟨k, by omega, hx, hA, hB⟩
    · rintro ⟨i, hi, h1, h2⟩
      by_cases e : i = k
      · subst e
        rw [hx] at h1
        injection h1 with h1
        exact .inr h1.symm
      · exact .inl ⟨i, by omega, h1, h2⟩
theorem CycUp.skip {nums : List Int} {A B : List Bool} {k : Nat} {C : List Int} (h : CycUp nums A B k C) (hn : ¬ (A[k]? = some true ∧ B[k]? = some true)) : CycUp nums A B (k + 1) C := by
  refine ⟨h.rise, fun y => ?_, by have := h.len; omega⟩
  rw [h.just y]
  constructor
  · rintro ⟨i, hi, h1⟩; exact ⟨i, by omega, h1⟩
  · rintro ⟨i, hi, h1, h2⟩
    by_cases e : i = k
    · subst e; exact absurd h2 hn
    · exact ⟨i, by omega, h1, h2⟩
theorem int_cells {w : World} {v : Value} {l : List Int} (h : Row w v l.length (l.map icell)) : ∃ a c, v = .slice a l.length c ∧ ∀ (i : Nat) (x : Int), l[i]? = some x → ∃ g o, a = some ⟨g, o, none⟩ ∧ g < w.heap.size ∧ w.cell? ⟨g, o + i, none⟩ = some (.int .i64 x) := by
  obtain ⟨ao, c, rfl, _, _, h3⟩ := h
  refine ⟨ao, c, rfl, fun i x hx => ?_⟩
  obtain ⟨g, o, e, hr⟩ := h3 (by
    intro e
    rw [List.map_eq_nil_iff] at e
    subst e
    simp at hx)
  have := hr i (icell x) (by simp [hx])
  exact ⟨g, o, e, World.block_lt_of_cell? _ _ this, this⟩
theorem WaysIs.lists {nums : List Int} {E : List (Int × Int)} {Nx : List (List Nat)} (h : WaysIs nums E Nx) (hE : E.length ≤ 1000000) : ∀ (a : Nat) L, Nx[a]? = some L → L.length ≤ 1000000 ∧ ∀ b ∈ L, b < Nx.length := fun a L hL => ⟨Nat.le_trans (h.short a L hL) hE, fun b hb => by
  obtain ⟨x, y, _, h2, _⟩ := (h.just a L hL b).1 hb
  rw [h.len]
  exact (List.getElem?_eq_some_iff.1 h2).1⟩
theorem bool_cell {w : World} {s : Nat} {bs : List Bool} {i : Nat} {b : Bool} (h : w.heap[s]? = some (.cells (bs.map Value.bool).toArray 4 (0, 0))) (hb : bs[i]? = some b) : w.cell? ⟨s, i, none⟩ = some (.bool b) := by
  rw [cell_row h]
  simp [hb]
theorem NumsIs.ends {E : List (Int × Int)} {nums : List Int} (h : NumsIs E nums) : ∀ e ∈ E, e.1 ∈ nums ∧ e.2 ∈ nums := fun e he => ⟨(h.just _).2 ⟨e, he, .inl rfl⟩, (h.just _).2 ⟨e, he, .inr rfl⟩⟩
theorem bt {b : Nat} {w w1 w2 : World} (h : Below b w w1) (hb : b ≤ w.heap.size) (k : Below w1.heap.size w1 w2) : Below b w w2 := h.trans (k.mono (Nat.le_trans hb h.size))
theorem below_drewN' {b : Nat} {w w1 : World} (h : Below b w w1) (q : Nat) : Below b w (w1.drewN q) := ⟨h.os, h.tape, h.output, h.size, h.block⟩
set_option maxHeartbeats 4000000 in
set_option maxRecDepth 100000 in
theorem cycle_any {w : World} {a : Option Addr} {c : Nat} {E : List (Int × Int)} (hE : EdgesAt w a E) (fr : Int) :
    Calls Try.prog 10 #[.slice a E.length c, .int .i64 fr] w fun e w' => ∃ v C, e = .returned v ∧ w'.ownsRow w.heap.size 3 1 v C.length (C.map icell) ∧ CycIs E fr C ∧ C.length ≤ 2000000 ∧ Below w.heap.size w w' := by
  have HNB := hide (numbers_any (c := c) hE)
  have HE := hide hE
  have hlen := hE.len
  obtain ⟨n, hn⟩ : ∃ n, E.length = n := ⟨_, rfl⟩
  have HN := hide hn
  rw [hn] at hlen ⊢
  clear hn hE
  rw [HN.out] at HNB
  go_enter Try.func10, Try.ntmps10
  go_upto_region 2 with (go_at_call 18; refine HNB.out.mono ?_; rintro e w1 ⟨vn, nums, rfl, hnr, hnu, hb1⟩)
  have hnl : nums.length ≤ 2000000 := by have := hnu.len; have := HN.out; omega
  have HRW1 : Hid (Row w1 vn nums.length (nums.map icell)) := Row.of_owns hnr
  have HNU := hide hnu
  have HB1 := hide hb1
  have HS := hide (search_any HRW1.out hnu.rise (by omega) fr)
  obtain ⟨an, cn, rfl, _⟩ := int_cells HRW1.out
  clear hnr hb1 HNB
  obtain ⟨m, hm⟩ : ∃ m, nums.length = m := ⟨_, rfl⟩
  have HM := hide hm
  rw [hm] at hnl HS HRW1 ⊢
  clear hm
  obtain ⟨pa, hpa⟩ : ∃ i, place nums fr = i := ⟨_, rfl⟩
  have HPA := hide hpa
  rw [hpa] at HS
  clear hpa
  cases hc : nums.contains fr with
  | false =>
    rw [hc] at HS
    have HNO : Hid (∀ x, ¬ Both E fr x) := by
      intro x h
      obtain ⟨y, hy⟩ := h.1.first
      have := (HNU.out.just fr).2 ⟨_, hy, .inl rfl⟩
      rw [← List.contains_iff_mem, hc] at this
      cases this
    go_wp2_with (go_at_call 22; refine HS.out.mono ?_; rintro e w5 ⟨rfl, q5, rfl⟩)
    go_ret
    exact ⟨_, [], rfl, ⟨rfl, .inl ⟨rfl, rfl⟩⟩, ⟨by simp, fun x => by simp; exact HNO.out x⟩, by simp, below_drewN' HB1.out q5⟩
  | true =>
    rw [hc] at HS
    have hfm : fr ∈ nums := List.contains_iff_mem.1 hc
    obtain ⟨hp1, hp2⟩ := place_mem HNU.out.rise hfm
    rw [HPA.out] at hp1 hp2
    rw [HM.out] at hp2
    have HP1 := hide hp1
    clear hp1 hfm hc
    obtain ⟨last, hlast⟩ : ∃ last, m = last + 1 := ⟨m - 1, by omega⟩
    have hl1 : (m : Int) - 1 = (last : Int) := by omega
    have HL1 := hide hl1
    have HLAST := hide hlast
    clear hl1 hlast
    obtain ⟨z, hz⟩ : ∃ z, nums[last]? = some z := ⟨_, List.getElem?_eq_getElem (by have := HM.out; have := HLAST.out; omega)⟩
    have HZ := hide hz
    clear hz
    have HEB : Hid (∀ W, Below w.heap.size w W → EdgesAt W a E) := fun W hb => HE.out.belowW hb
    have HNR : Hid (∀ W, Below w1.heap.size w1 W → Row W (.slice an m cn) nums.length (nums.map icell)) := fun W hb => by have := HRW1.out; rw [← HM.out] at this ⊢; exact this.belowW hb
    have HW19 : Hid (∀ W aa cc (F : List (Int × Int)), F.length = n → EdgesAt W aa F → (∀ e ∈ F, e.1 ∈ nums ∧ e.2 ∈ nums) → Below w1.heap.size w1 W → Calls Try.prog 19 #[.slice an m cn, .slice aa n cc] W fun e w' => ∃ g vs Nx, e = .returned (.slice (some ⟨g, 0, none⟩) m m) ∧ NextAt w' g vs Nx ∧ WaysIs nums F Nx ∧ Below W.heap.size W w') := fun W aa cc F hF hEd hin hb => by
      have := ways_any (c := cc) (HNR.out W hb) HNU.out.rise (by rw [HM.out]; exact hnl) hEd hin
      rw [HM.out, hF] at this
      exact this
    have HW20 : Hid (∀ W (F : List (Int × Int)) g vs Nx, F.length = n → NextAt W g vs Nx → WaysIs nums F Nx → Calls Try.prog 20 #[.slice (some ⟨g, 0, none⟩) m m, .int .i64 (pa : Int), .int .i64 ((m : Int) - 1)] W fun e w' => ∃ s bs, e = .returned (.slice (some ⟨s, 0, none⟩) m m) ∧ w'.heap[s]? = some (.cells (bs.map Value.bool).toArray 4 (0, 0)) ∧ ReIs Nx pa last bs ∧ Below W.heap.size W w') := fun W F g vs Nx hF hNx hWs => by
      have hlen : Nx.length = m := hWs.len.trans HM.out
      have := reached_any (fr := pa) (last := last) hNx (by omega) (hWs.lists (by omega)) (by omega) (by have := HLAST.out; omega)
      rw [hlen, ← HLAST.out] at this
      rw [HL1.out]
      exact this
    have HTU : Hid (∀ W, Below w.heap.size w W → Calls Try.prog 23 #[.slice a n c] W fun e w' => ∃ v, e = .returned v ∧ w'.ownsRow W.heap.size 24 2 v (turn E).length (ecells (turn E)) ∧ Below W.heap.size W w') := fun W hb => by
      have := turned_any (c := c) (HE.out.belowW hb)
      rw [HN.out] at this
      exact this
    go_upto_region 6 with (go_at_call 22; refine HS.out.mono ?_; rintro e w5 ⟨rfl, q5, hw5⟩; have HW5 := hide hw5; clear hw5)
    have HB5 : Hid (Below w1.heap.size w1 w5) := by rw [HW5.out]; exact below_drewN _ _ _
    have HB5' : Hid (Below w.heap.size w w5) := bt HB1.out (Nat.le_refl _) HB5.out
    clear HW5
    go_upto_region 7 with (first
      | (go_at_call 19; go_loud (refine (HW19.out _ _ _ E HN.out (HEB.out _ HB5'.out) HNU.out.ends HB5.out).mono ?_; rintro e w6 ⟨g6, vs6, Nx6, rfl, hn6, hs6, hb6⟩; have HN6 := hide hn6; have HS6 := hide hs6; have HB6 := hide hb6; clear hn6 hs6 hb6))
      | (go_at_call 20; refine (HW20.out _ E _ vs6 Nx6 HN.out HN6.out HS6.out).mono ?_; rintro e w7 ⟨s7, A, rfl, hc7, hre7, hb7⟩))
    have HC7 := hide hc7
    have HRE7 := hide hre7
    have HB7 : Hid (Below w1.heap.size w1 w7) := bt (bt HB5.out (Nat.le_refl _) HB6.out) (Nat.le_refl _) hb7
    have HB7' : Hid (Below w.heap.size w w7) := bt HB1.out (Nat.le_refl _) HB7.out
    clear hc7 hre7 hb7 HB5 HB5' HN6 HB6
    have hTl : (turn E).length = n := by rw [turn_len, HN.out]
    have HTL := hide hTl
    clear hTl
    have HTI : Hid (∀ e ∈ turn E, e.1 ∈ nums ∧ e.2 ∈ nums) := by
      rintro ⟨x, y⟩ h
      have := HNU.out.ends _ (mem_turn.1 h)
      exact ⟨this.2, this.1⟩
    go_upto_region 9 with (first
      | (go_at_call 23; refine (HTU.out _ HB7'.out).mono ?_; rintro e w8 ⟨v8, rfl, hr8, hb8⟩; obtain ⟨a8, c8, rfl, he8⟩ := EdgesAt.of_owns hr8 (by rw [HTL.out]; exact hlen); rw [HTL.out]; have HE8 := hide he8; have HB8 : Hid (Below w1.heap.size w1 w8) := bt HB7.out (Nat.le_refl _) hb8; have HC8 : Hid (w8.heap[s7]? = some (.cells (A.map Value.bool).toArray 4 (0, 0))) := (hb8.block _ (lt_of_heap HC7.out)).trans HC7.out; clear hr8 hb8 he8)
      | (go_at_call 19; refine (HW19.out _ _ _ (turn E) HTL.out HE8.out HTI.out HB8.out).mono ?_; rintro e w9 ⟨g9, vs9, Nx9, rfl, hn9, hs9, hb9⟩; have HN9 := hide hn9; have HS9 := hide hs9; have HB9 := hide hb9; clear hn9 hs9 hb9)
      | (go_at_call 20; refine (HW20.out _ (turn E) _ vs9 Nx9 HTL.out HN9.out HS9.out).mono ?_; rintro e w10 ⟨s10, B, rfl, hc10, hre10, hb10⟩))
    have hbb : Below w8.heap.size w8 w10 := bt HB9.out (Nat.le_refl _) hb10
    have HBX : Hid (Below w1.heap.size w1 w10) := bt HB8.out (Nat.le_refl _) hbb
    have HBY : Hid (Below w.heap.size w w10) := bt HB1.out (Nat.le_refl _) HBX.out
    have HCA : Hid (w10.heap[s7]? = some (.cells (A.map Value.bool).toArray 4 (0, 0))) := (hbb.block _ (lt_of_heap HC8.out)).trans HC8.out
    have HCB := hide hc10
    have HRB := hide hre10
    have HRN : Hid (Row w10 (.slice an m cn) nums.length (nums.map icell)) := HNR.out _ HBX.out
    have HFIN : Hid (∀ C, CycUp nums A B m C → CycIs E fr C) := by
      intro C hC
      refine ⟨hC.rise, fun x => ?_⟩
      rw [hC.just x]
      have key : ∀ (i : Nat) x, nums[i]? = some x → ((A[i]? = some true ↔ Rch (Stp E) fr x) ∧ (B[i]? = some true ↔ Rch (Stp E) x fr)) := by
        intro i x hi
        have hil := (List.getElem?_eq_some_iff.1 hi).1
        rw [HM.out] at hil
        have hle : i ≤ last := by have := HLAST.out; omega
        have hlm : last + 1 = nums.length := by rw [HM.out, HLAST.out]
        refine ⟨?_, ?_⟩
        · rw [reach_is HNU.out.rise HNU.out.ends HS6.out HRE7.out HP1.out HZ.out hi hle, reach_all HNU.out.rise HNU.out.ends hlm HZ.out]
        · rw [reach_is HNU.out.rise HTI.out HS9.out HRB.out HP1.out HZ.out hi hle, reach_all HNU.out.rise HTI.out hlm HZ.out, rch_turn]
      constructor
      · rintro ⟨i, _, h1, h2, h3⟩
        exact ⟨(key i x h1).1.1 h2, (key i x h1).2.1 h3⟩
      · rintro ⟨h1, h2⟩
        have hmem : x ∈ nums := by
          obtain ⟨y, hy⟩ := h1.last
          exact (HNU.out.ends _ hy).2
        obtain ⟨i, hi, e⟩ := List.mem_iff_getElem.1 hmem
        have h3 : nums[i]? = some x := by rw [List.getElem?_eq_getElem hi, e]
        exact ⟨i, by rw [← HM.out]; exact hi, h3, (key i x h3).1.2 h1, (key i x h3).2.2 h2⟩
    have hAl : A.length = m := by rw [HRE7.out.len, HLAST.out]
    have hBl : B.length = m := by rw [HRB.out.len, HLAST.out]
    have HAL := hide hAl
    have HBL := hide hBl
    clear hc10 hre10 hb10 hbb hAl hBl HB7 HB7' HC7 HC8 HB8 HE8 HN9 HB9 HTU HW19 HW20 HEB HNR HRW1 HS
    go_wp2
    go_loopw [11, 42] (fun v i wr => ∃ (k : Nat) (C : List Int), k ≤ m ∧ i = .int .i64 k ∧ CycUp nums A B k C ∧ wr.ownsRow w10.heap.size 3 1 v C.length (C.map icell) ∧ Below w10.heap.size w10 wr) (fun _ i _ => m - (intOf i).toNat)
    case atStart => exact ⟨0, [], by omega, rfl, CycUp.start _ _ _, ⟨rfl, .inl ⟨rfl, rfl⟩⟩, Below.refl _ _⟩
    case round =>
      obtain ⟨k, C, hk, rfl, hC, hrow, hB⟩ := hrel
      have HC := hide hC
      have HROW := hide hrow
      have HB := hide hB
      clear hC hrow hB
      by_cases hlt : k < m
      · obtain ⟨x, hx⟩ : ∃ x, nums[k]? = some x := ⟨_, List.getElem?_eq_getElem (by rw [HM.out]; exact hlt)⟩
        obtain ⟨a', c', e', hcell⟩ := int_cells HRN.out
        obtain ⟨gn, on, ea, hgn, hcn⟩ := hcell k x hx
        injection e' with e1 e2 e3
        subst e1
        subst ea
        have hcx : wr.cell? ⟨gn, on + k, none⟩ = some (.int .i64 x) := (HB.out.cell (p := ⟨gn, on + k, none⟩) hgn).trans hcn
        obtain ⟨ba, hba⟩ : ∃ b, A[k]? = some b := ⟨_, List.getElem?_eq_getElem (by rw [HAL.out]; exact hlt)⟩
        obtain ⟨bb, hbb⟩ : ∃ b, B[k]? = some b := ⟨_, List.getElem?_eq_getElem (by rw [HBL.out]; exact hlt)⟩
        have hca : wr.cell? ⟨s7, k, none⟩ = some (.bool ba) := (HB.out.cell (p := ⟨s7, k, none⟩) (lt_of_heap HCA.out)).trans (bool_cell HCA.out hba)
        have hcb : wr.cell? ⟨s10, k, none⟩ = some (.bool bb) := (HB.out.cell (p := ⟨s10, k, none⟩) (lt_of_heap HCB.out)).trans (bool_cell HCB.out hbb)
        have HXK := hide hx
        have HBA := hide hba
        have HBB := hide hbb
        clear e2 e3 hcell hcn hx hba hbb
        cases ba with
        | false =>
          have HSK : Hid (CycUp nums A B (k + 1) C) := HC.out.skip (by rw [HBA.out]; simp)
          go_wp2
          go_roundw
          case rel => exact ⟨k + 1, C, by omega, by go_num, HSK.out, HROW.out, HB.out⟩
          case measure => simp [intOf]; omega
        | true =>
          cases bb with
          | false =>
            have HSK : Hid (CycUp nums A B (k + 1) C) := HC.out.skip (by rw [HBB.out]; simp)
            go_wp2
            go_roundw
            case rel => exact ⟨k + 1, C, by omega, by go_num, HSK.out, HROW.out, HB.out⟩
            case measure => simp [intOf]; omega
          | true =>
            have HTA : Hid (CycUp nums A B (k + 1) (C ++ [x])) := HC.out.take HNU.out.rise HXK.out HBA.out HBB.out
            have HR2 := hide (row_new wr 3 [.int .i64 x] 1 (by omega))
            have HB2 : Hid (Below w10.heap.size w10 (wr.alloc (.cells #[.int .i64 x] 3))) := HB.out.trans ((Below.refl _ wr).alloc HB.out.size _)
            have HO2 : Hid ((wr.alloc (.cells #[.int .i64 x] 3)).ownsRow w10.heap.size 3 1 u11 C.length (C.map icell)) := owns_below HROW.out ((Below.refl _ wr).alloc (Nat.le_refl _) _) (Nat.le_refl _)
            have HCL : Hid (C.length ≤ 2000000) := Nat.le_trans HC.out.len (by omega)
            go_wp2_with (refine wpList_append_row rfl (.tmp 57) (.tmp 59) 29 rfl w10.heap.size 3 (.int .i64 0) 1 8 Try.underlying29 Try.info3 rfl (by omega) _ _ _ _ 1 _ rfl rfl HO2.out HR2.out rfl (by simp [Value.oneCell']) (by have := HCL.out; omega) (by have := HCL.out; omega) HB2.out.size ?_; intro v7 w7' ho7 hg7)
            go_roundw
            case rel =>
              refine ⟨k + 1, C ++ [x], by omega, by go_num, HTA.out, ?_, HB2.out.grown hg7 HB2.out.size (fun k hk => (HO2.out.lt k hk).1)⟩
              have : (C ++ [x]).map icell = C.map icell ++ [.int .i64 x] := by simp [icell]
              rw [this, List.length_append]
              exact ho7
            case measure => simp [intOf]; omega
      · have hkm : k = m := by omega
        have HCM : Hid (CycUp nums A B m C) := by rw [← hkm]; exact HC.out
        clear hkm
        go_wp2
        go_ret
        exact ⟨_, C, rfl, owns_mono HROW.out HBY.out.size, HFIN.out C HCM.out, Nat.le_trans HCM.out.len hnl, bt HBY.out (Nat.le_refl _) HB.out⟩
/-- What Victim tells. -/
def VicIs (E : List (Int × Int)) (a v : Int) (ok : Bool) : Prop := (ok = false ∧ v = 0 ∧ ¬ Rch (Stp E) a a) ∨ (ok = true ∧ Both E a v ∧ ∀ x, Both E a x → x ≤ v)
theorem CycIs.vic {E : List (Int × Int)} {a : Int} {C : List Int} (h : CycIs E a C) : VicIs E a (C.getLast?.getD 0) (!C.isEmpty) := by
  rcases List.eq_nil_or_concat C with rfl | ⟨D, x, rfl⟩
  · exact .inl ⟨rfl, rfl, h.nil_iff.1 rfl⟩
  · rw [List.concat_eq_append] at h ⊢
    refine .inr ⟨by simp, ?_, fun y hy => ?_⟩
    · rw [← h.just]; simp
    · have := le_of_rise h.rise ((h.just y).2 hy) (m := x) (by simp)
      simpa using this
set_option maxHeartbeats 1000000 in
theorem victim_any {w : World} {a : Option Addr} {c : Nat} {E : List (Int × Int)} (hE : EdgesAt w a E) (fr : Int) :
    Calls Try.prog 8 #[.slice a E.length c, .int .i64 fr] w fun e w' => ∃ v ok, e = .returned (.tuple #[.int .i64 v, .bool ok]) ∧ VicIs E fr v ok ∧ Below w.heap.size w w' := by
  have HC := hide (cycle_any (c := c) hE fr)
  clear hE
  go_enter Try.func8, Try.ntmps8
  go_upto_region 2 with (go_at_call 10; refine HC.out.mono ?_; rintro e w1 ⟨v1, C, rfl, hr, hC, hl, hb⟩)
  have HV := hide hC.vic
  have HB := hide hb
  obtain ⟨a1, c1, rfl, hcell⟩ := int_cells (Row.of_owns hr)
  clear hr hb HC hC
  rcases List.eq_nil_or_concat C with rfl | ⟨D, x, rfl⟩
  · have HV' : Hid (VicIs E fr 0 false) := HV.out
    clear HV hcell
    go_wp2
    go_ret2
    exact ⟨_, _, rfl, HV'.out, HB.out⟩
  · rw [List.concat_eq_append] at HV hcell hl ⊢
    have HV' : Hid (VicIs E fr x true) := by
      have h := HV.out
      have e1 : (D ++ [x]).getLast?.getD 0 = x := by simp
      have e2 : (!(D ++ [x]).isEmpty) = true := by simp
      rw [e1, e2] at h
      exact h
    obtain ⟨g, o, rfl, hg, hc⟩ := hcell D.length x (by simp)
    have hlen : (D ++ [x]).length = D.length + 1 := by simp
    rw [hlen] at hl ⊢
    obtain ⟨dl, hdl⟩ : ∃ d, D.length = d := ⟨_, rfl⟩
    rw [hdl] at hl hc ⊢
    clear HV hcell hlen hdl
    go_wp2
    go_ret2
    exact ⟨_, _, rfl, HV'.out, HB.out⟩
end Go.Proofs.Ytaoghggbcbpapaa
