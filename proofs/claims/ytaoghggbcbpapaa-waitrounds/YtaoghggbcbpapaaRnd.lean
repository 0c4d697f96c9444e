/- WaitRounds's walk. -/
import Derived.Test.YtaoghggbcbpapaaFrw
namespace Go.Proofs.Ytaoghggbcbpapaa
open Go.RowKit
set_option linter.unusedVariables false
set_option linter.unusedSimpArgs false

/-- The first k edges of a round of N. -/
def ring (N k : Nat) : List (Int × Int) := (List.range k).map fun j : Nat => ((j : Int) + 1, ((j : Int) + 1) % (N : Int) + 1)
theorem ring_len (N k : Nat) : (ring N k).length = k := by simp [ring]
theorem ring_succ (N k : Nat) : ring N (k + 1) = ring N k ++ [((k : Int) + 1, ((k : Int) + 1) % (N : Int) + 1)] := by simp [ring, List.range_succ]
theorem mem_ring {N : Nat} {a b : Int} : (a, b) ∈ ring N N ↔ 1 ≤ a ∧ a ≤ N ∧ b = a % N + 1 := by
  unfold ring
  rw [List.mem_map]
  constructor
  · rintro ⟨j, hj, e⟩
    rw [List.mem_range] at hj
    simp only [Prod.mk.injEq] at e
    obtain ⟨rfl, rfl⟩ := e
    exact ⟨by omega, by omega, rfl⟩
  · rintro ⟨h1, h2, rfl⟩
    refine ⟨(a - 1).toNat, List.mem_range.2 (by omega), ?_⟩
    have : (((a - 1).toNat : Nat) : Int) + 1 = a := by omega
    rw [this]
section
variable {N : Nat} {M : List (Int × Int)}
theorem rg_up {E : List (Int × Int)} (hE : E = ring N N ++ M) {a : Int} (ha : 1 ≤ a) (hb : a < N) : Stp E a (a + 1) := by
  subst hE
  refine List.mem_append.2 (.inl (mem_ring.2 ⟨ha, by omega, ?_⟩))
  rw [Int.emod_eq_of_lt (by omega) hb]
theorem rg_back {E : List (Int × Int)} (hE : E = ring N N ++ M) (h1 : 1 ≤ N) : Stp E N 1 := by
  subst hE
  refine List.mem_append.2 (.inl (mem_ring.2 ⟨by omega, by omega, ?_⟩))
  rw [Int.emod_self]
  rfl
theorem rg_to {E : List (Int × Int)} (hE : E = ring N N ++ M) {a : Int} (ha : 1 ≤ a) : ∀ d : Nat, a + d ≤ N → d = 0 ∨ Rch (Stp E) a (a + d)
  | 0, _ => .inl rfl
  | d + 1, h => by
    refine .inr ?_
    have hs : Stp E (a + d) (a + (d + 1 : Nat)) := by
      have := rg_up hE (a := a + d) (by omega) (by omega)
      rwa [show a + (d : Int) + 1 = a + ((d + 1 : Nat) : Int) by omega] at this
    rcases rg_to hE ha d (by omega) with e | e
    · subst e
      have h0 : a + ((0 : Nat) : Int) = a := by omega
      rw [h0] at hs
      exact Rch.one hs
    · exact e.tail hs
theorem rg_one {E : List (Int × Int)} (hE : E = ring N N ++ M) (h1 : 1 ≤ N) {y : Int} (hy : 1 ≤ y) (hN : y ≤ N) : Rch (Stp E) y 1 := by
  have hb := rg_back hE h1
  rcases rg_to hE hy (N - y).toNat (by omega) with e | e
  · have : y = N := by omega
    subst this
    exact Rch.one hb
  · rw [show y + (((N - y).toNat : Nat) : Int) = N by omega] at e
    exact e.tail hb
theorem rg_from {E : List (Int × Int)} (hE : E = ring N N ++ M) (h1 : 1 ≤ N) {y : Int} (hy : 1 ≤ y) (hN : y ≤ N) : Rch (Stp E) 1 y := by
  have h11 := rg_one hE h1 (y := 1) (by omega) (by omega)
  rcases rg_to hE (a := 1) (by omega) (y - 1).toNat (by omega) with e | e
  · have : y = 1 := by omega
    subst this
    exact h11
  · rw [show (1 : Int) + (((y - 1).toNat : Nat) : Int) = y by omega] at e
    exact e
theorem rg_high (h1 : 1 ≤ N) (hM : ∀ e ∈ M, (N : Int) < e.2) {E : List (Int × Int)} (hE : E = ring N N ++ M) {y z : Int} (hy : N < y) (r : Rch (Stp E) y z) : N < z := by
  subst hE
  refine r.closed (P := fun x => (N : Int) < x) (fun x hx => ?_) (fun x u p s => ?_)
  · rcases List.mem_append.1 hx with h | h
    · have := mem_ring.1 h; omega
    · exact hM _ h
  · rcases List.mem_append.1 s with h | h
    · have := mem_ring.1 h; omega
    · exact hM _ h
theorem rg_pos (h1 : 1 ≤ N) (hM : ∀ e ∈ M, (N : Int) < e.2) {E : List (Int × Int)} (hE : E = ring N N ++ M) {y z : Int} (r : Rch (Stp E) y z) : 1 ≤ z := by
  subst hE
  obtain ⟨c, hc⟩ := r.last
  rcases List.mem_append.1 hc with h | h
  · have := (mem_ring.1 h).2.2
    have := Int.emod_nonneg c (b := (N : Int)) (by omega)
    omega
  · have := hM _ h; simp at this; omega
theorem rg_both (h1 : 1 ≤ N) (hM : ∀ e ∈ M, (N : Int) < e.2) {E : List (Int × Int)} (hE : E = ring N N ++ M) {a : Int} (ha : 1 ≤ a) (haN : a ≤ N) (y : Int) : Both E a y ↔ 1 ≤ y ∧ y ≤ N := by
  constructor
  · rintro ⟨r1, r2⟩
    refine ⟨rg_pos h1 hM hE r1, Classical.byContradiction fun h => ?_⟩
    have := rg_high h1 hM hE (by omega) r2
    omega
  · rintro ⟨h2, h3⟩
    exact ⟨(rg_one hE h1 ha haN).trans (rg_from hE h1 h2 h3), (rg_one hE h1 h2 h3).trans (rg_from hE h1 ha haN)⟩
theorem rg_cyc (h1 : 1 ≤ N) (hM : ∀ e ∈ M, (N : Int) < e.2) {E : List (Int × Int)} (hE : E = ring N N ++ M) {C : List Int} (h : CycIs E 1 C) : C.length = N := by
  have : C = (List.range N).map fun j : Nat => (j : Int) + 1 := by
    refine rising_ext h.rise ?_ fun x => ?_
    · rw [List.pairwise_map]
      exact List.pairwise_lt_range.imp (fun h => by omega)
    · rw [h.just, rg_both h1 hM hE (by omega) (by omega), List.mem_map]
      constructor
      · rintro ⟨h2, h3⟩
        exact ⟨(x - 1).toNat, List.mem_range.2 (by omega), by omega⟩
      · rintro ⟨j, hj, rfl⟩
        rw [List.mem_range] at hj
        omega
  rw [this]
  simp
theorem rg_vic (h1 : 1 ≤ N) (hM : ∀ e ∈ M, (N : Int) < e.2) {E : List (Int × Int)} (hE : E = ring N N ++ M) {v : Int} {ok : Bool} (h : VicIs E N v ok) : v = N ∧ ok = true := by
  have hb := rg_both h1 hM hE (a := N) (by omega) (by omega)
  rcases h with ⟨_, _, h⟩ | ⟨h2, h3, h4⟩
  · exact absurd ((hb N).2 ⟨by omega, by omega⟩).1 h
  · have := h4 N ((hb N).2 ⟨by omega, by omega⟩)
    have := (hb v).1 h3
    exact ⟨by omega, h2⟩
theorem rg_gone (h1 : 1 ≤ N) (hM : ∀ e ∈ M, (N : Int) < e.2) {E : List (Int × Int)} (hE : E = ring N N ++ M) : ¬ Rch (Stp (without E N)) 1 1 := by
  subst hE
  intro r
  have key : ∀ a b, 1 ≤ a → Stp (without (ring N N ++ M) N) a b → 1 < b := by
    intro a b ha hs
    obtain ⟨h2, h3, h4⟩ := mem_without.1 hs
    rcases List.mem_append.1 h2 with h | h
    · obtain ⟨k1, k2, k3⟩ := mem_ring.1 h
      rw [Int.emod_eq_of_lt (by omega) (by omega)] at k3
      omega
    · have := hM _ h; simp at this; omega
  have := r.closed (P := fun x => 1 < x) (fun x hx => key 1 x (by omega) hx) (fun x y p s => key x y (by omega) s)
  omega
end
set_option maxHeartbeats 4000000 in
set_option maxRecDepth 100000 in
theorem rounds_walk (x : Int) (a : Option Addr) (n c : Nat) (w : World) (h1 : n ≤ 9223372036854775807) (h2 : n ≤ 1000000 → ∃ E : List (Int × Int), E.length = n ∧ EdgesAt w a E) :
    Calls Try.prog 6 #[.int .i64 x, .slice a n c] w fun e w' => e = .returned (.bool true) ∧ Below w.heap.size w w' := by
  have HAW : Hid (∀ W, Calls Try.prog 7 #[] W fun e w' => e = .returned (.bool true) ∧ Below W.heap.size W w') := awake_any
  have h2' := hide h2
  clear h2
  by_cases hx1 : x < 1
  · go_enter Try.func6, Try.ntmps6
    go_wp2_with (go_at_call 7; refine (HAW.out _).mono ?_; rintro e w1 ⟨rfl, hb1⟩)
    go_ret
    exact ⟨rfl, hb1⟩
  by_cases hx2 : 20 < x
  · go_enter Try.func6, Try.ntmps6
    go_wp2_with (go_at_call 7; refine (HAW.out _).mono ?_; rintro e w1 ⟨rfl, hb1⟩)
    go_ret
    exact ⟨rfl, hb1⟩
  by_cases hbig : 20 < n
  · go_enter Try.func6, Try.ntmps6
    go_wp2_with (go_at_call 7; refine (HAW.out _).mono ?_; rintro e w1 ⟨rfl, hb1⟩)
    go_ret
    exact ⟨rfl, hb1⟩
  obtain ⟨E, hn, hE⟩ := h2'.out (by omega)
  have HN := hide hn
  have HE := hide hE
  obtain ⟨N, rfl⟩ : ∃ N : Nat, x = (N : Int) := ⟨x.toNat, by omega⟩
  have hN1 : 1 ≤ N := by omega
  have hN2 : N ≤ 20 := by omega
  clear h2' hn hE h1 hx1 hx2
  have hb1 := run_build24
  have hb2 := run_buildS24
  go_enter Try.func6, Try.ntmps6
  go_wp2
  go_loopw [5, 6] (fun v i wr => ∃ k : Nat, k ≤ N ∧ i = .int .i64 ((k : Int) + 1) ∧ wr.ownsRow w.heap.size 24 2 v (ring N k).length (ecells (ring N k)) ∧ Below w.heap.size w wr) (fun _ i _ => N + 1 - (intOf i).toNat)
  case atStart => exact ⟨0, by omega, rfl, ⟨by simp [ring, ecells], .inl ⟨rfl, by simp [ring]⟩⟩, Below.refl _ _⟩
  case round =>
    obtain ⟨k, hk, rfl, hrow, hB⟩ := hrel
    have HROW := hide hrow
    have HB := hide hB
    clear hrow hB
    by_cases hlt : k < N
    · obtain ⟨y, hy⟩ : ∃ y, ((k : Int) + 1) % (N : Int) = y := ⟨_, rfl⟩
      have hy0 : 0 ≤ y := by rw [← hy]; exact Int.emod_nonneg _ (by omega)
      have hy1 : y < N := by rw [← hy]; exact Int.emod_lt_of_pos _ (by omega)
      have hyt : ((k : Int) + 1).tmod (N : Int) = y := by rw [Int.tmod_eq_emod_of_nonneg (show (0 : Int) ≤ (k : Int) + 1 by omega)]; exact hy
      have HR2 := hide (row_new wr 24 [.int .i64 ((k : Int) + 1), .int .i64 (y + 1)] 1 (by omega))
      have HB2 : Hid (Below w.heap.size w (wr.alloc (.cells #[.int .i64 ((k : Int) + 1), .int .i64 (y + 1)] 24))) := HB.out.trans ((Below.refl _ wr).alloc HB.out.size _)
      have HO2 : Hid ((wr.alloc (.cells #[.int .i64 ((k : Int) + 1), .int .i64 (y + 1)] 24)).ownsRow w.heap.size 24 2 u5 (ring N k).length (ecells (ring N k))) := owns_below HROW.out ((Below.refl _ wr).alloc (Nat.le_refl _) _) (Nat.le_refl _)
      have HSU : Hid (ring N (k + 1) = ring N k ++ [((k : Int) + 1, y + 1)]) := by rw [← hy]; exact ring_succ N k
      have HRL : Hid ((ring N k).length ≤ 20) := by show (ring N k).length ≤ 20; rw [ring_len]; omega
      go_wp2_with (refine wpList_append_row rfl (.tmp 28) (.tmp 35) 22 rfl w.heap.size 24 (.agg #[.int .i64 0, .int .i64 0]) 2 16 Try.underlying22 Try.info24 rfl (by omega) _ _ _ _ 1 _ rfl rfl HO2.out HR2.out rfl (by simp [Value.oneCell']) (by have := HRL.out; omega) (by have := HRL.out; omega) HB2.out.size ?_; intro v7 w7 ho7 hg7)
      go_roundw
      case rel =>
        refine ⟨k + 1, by omega, by go_num, ?_, HB2.out.grown hg7 HB2.out.size (fun k hk => (HO2.out.lt k hk).1)⟩
        rw [HSU.out, ecells_snoc, List.length_append]
        exact ho7
      case measure => simp [intOf]; omega
    · have hkN : k = N := by omega
      rw [hkN] at HROW
      obtain ⟨wa, hwa⟩ : ∃ wa, wr = wa := ⟨_, rfl⟩
      subst hwa
      clear hkN
      go_wp2
      go_loopw [5, 7] (fun v i wr => ∃ (k : Nat) (M : List (Int × Int)), k ≤ n ∧ i = .int .i64 k ∧ (∀ e ∈ M, (N : Int) < e.2) ∧ M.length ≤ k ∧ wr.ownsRow w.heap.size 24 2 v (ring N N ++ M).length (ecells (ring N N ++ M)) ∧ Below w.heap.size w wr) (fun _ i _ => n - (intOf i).toNat)
      case atStart => exact ⟨0, [], by omega, rfl, by simp, by simp, by rw [List.append_nil]; exact HROW.out, HB.out⟩
      case round =>
        clear HROW HB
        obtain ⟨k, M, hk, rfl, hM, hMl, hrow, hB⟩ := hrel
        have HM := hide hM
        have HROW := hide hrow
        have HB := hide hB
        clear hM hrow hB
        by_cases hlt : k < n
        · obtain ⟨⟨p, q⟩, hx⟩ : ∃ x, E[k]? = some x := ⟨_, List.getElem?_eq_getElem (by rw [HN.out]; exact hlt)⟩
          obtain ⟨b, o, hab, hbl, hrg⟩ := HE.out.at' k _ hx
          subst hab
          have HRG : Hid (wr.rangeAt b (o + k * 2) [.int .i64 p, .int .i64 q]) := fun j v hv => (HB.out.cell (p := ⟨b, o + k * 2 + j, none⟩) hbl).trans (hrg j v hv)
          have hc0 : wr.cell? ⟨b, o + k * 2, none⟩ = some (.int .i64 p) := HRG.out 0 _ rfl
          have hc1 : wr.cell? ⟨b, o + k * 2 + 1, none⟩ = some (.int .i64 q) := HRG.out 1 _ rfl
          clear hrg hx
          by_cases hq : (N : Int) < q
          · have HR2 := hide (row_new wr 24 [.int .i64 p, .int .i64 q] 1 (by omega))
            have HB2 : Hid (Below w.heap.size w (wr.alloc (.cells #[.int .i64 p, .int .i64 q] 24))) := HB.out.trans ((Below.refl _ wr).alloc HB.out.size _)
            have HO2 : Hid ((wr.alloc (.cells #[.int .i64 p, .int .i64 q] 24)).ownsRow w.heap.size 24 2 u5 (ring N N ++ M).length (ecells (ring N N ++ M))) := owns_below HROW.out ((Below.refl _ wr).alloc (Nat.le_refl _) _) (Nat.le_refl _)
            have HRL : Hid ((ring N N ++ M).length ≤ 40) := by show (ring N N ++ M).length ≤ 40; rw [List.length_append, ring_len]; omega
            have HM2 : Hid (∀ e ∈ M ++ [(p, q)], (N : Int) < e.2) := by
              intro e he
              rcases List.mem_append.1 he with h | h
              · exact HM.out e h
              · rw [List.mem_singleton] at h; subst h; exact hq
            by_cases hp : p ≤ (N : Int)
            · go_wp2_with (first
                | (refine wpList_load_mid rfl 24 _ rfl b (o + k * 2) rfl [.int .i64 p, .int .i64 q] _ HRG.out Try.underlying24 rfl Try.size24 ?_)
                | (refine wpList_append_row rfl (.tmp 77) (.tmp 82) 22 rfl w.heap.size 24 (.agg #[.int .i64 0, .int .i64 0]) 2 16 Try.underlying22 Try.info24 rfl (by omega) _ _ _ _ 1 _ rfl rfl HO2.out HR2.out rfl (by simp [Value.oneCell']) (by have := HRL.out; omega) (by have := HRL.out; omega) HB2.out.size ?_; intro v7 w7 ho7 hg7))
              go_roundw
              case rel =>
                refine ⟨k + 1, M ++ [(p, q)], by omega, by go_num, HM2.out, by rw [List.length_append]; simp; omega, ?_, HB2.out.grown hg7 HB2.out.size (fun k hk => (HO2.out.lt k hk).1)⟩
                rw [← List.append_assoc, ecells_snoc, List.length_append]
                exact ho7
              case measure => simp [intOf]; omega
            · have hp' : (N : Int) < p := by omega
              go_wp2_with (first
                | (refine wpList_load_mid rfl 24 _ rfl b (o + k * 2) rfl [.int .i64 p, .int .i64 q] _ HRG.out Try.underlying24 rfl Try.size24 ?_)
                | (refine wpList_append_row rfl (.tmp 77) (.tmp 82) 22 rfl w.heap.size 24 (.agg #[.int .i64 0, .int .i64 0]) 2 16 Try.underlying22 Try.info24 rfl (by omega) _ _ _ _ 1 _ rfl rfl HO2.out HR2.out rfl (by simp [Value.oneCell']) (by have := HRL.out; omega) (by have := HRL.out; omega) HB2.out.size ?_; intro v7 w7 ho7 hg7))
              go_roundw
              case rel =>
                refine ⟨k + 1, M ++ [(p, q)], by omega, by go_num, HM2.out, by rw [List.length_append]; simp; omega, ?_, HB2.out.grown hg7 HB2.out.size (fun k hk => (HO2.out.lt k hk).1)⟩
                rw [← List.append_assoc, ecells_snoc, List.length_append]
                exact ho7
              case measure => simp [intOf]; omega
          · by_cases hp : (N : Int) < p
            · go_wp2
              go_roundw
              case rel => exact ⟨k + 1, M, by omega, by go_num, HM.out, by omega, HROW.out, HB.out⟩
              case measure => simp [intOf]; omega
            · go_wp2
              go_roundw
              case rel => exact ⟨k + 1, M, by omega, by go_num, HM.out, by omega, HROW.out, HB.out⟩
              case measure => simp [intOf]; omega
        · obtain ⟨a5, c5, rfl, hE5⟩ := EdgesAt.of_owns HROW.out (by rw [List.length_append, ring_len]; omega)
          generalize wr = w5 at *
          obtain ⟨F, hF⟩ : ∃ F, ring N N ++ M = F := ⟨_, rfl⟩
          have HF : Hid (F = ring N N ++ M) := hF.symm
          have hFl0 : F.length ≤ 40 := by rw [← hF, List.length_append, ring_len]; omega
          rw [hF] at hE5 ⊢
          obtain ⟨m, hm⟩ : ∃ m, F.length = m := ⟨_, rfl⟩
          rw [hm] at hFl0 ⊢
          have HE5 := hide hE5
          have HB5 := hide (show Below w.heap.size w w5 from HB.out)
          have HCY : Hid (Calls Try.prog 10 #[.slice a5 m c5, .int .i64 1] w5 fun e w' => ∃ a1 c1, e = .returned (.slice a1 N c1) ∧ Below w5.heap.size w5 w') := by
            have h := cycle_any (c := c5) HE5.out 1
            rw [hm] at h
            refine h.mono ?_
            rintro e w' ⟨v, C, rfl, h1, h2, h3, h4⟩
            obtain ⟨a1, c1, rfl⟩ := owns_len h1
            rw [rg_cyc hN1 HM.out HF.out h2]
            exact ⟨a1, c1, rfl, h4⟩
          have HVI : Hid (∀ W, Below w5.heap.size w5 W → Calls Try.prog 8 #[.slice a5 m c5, .int .i64 (N : Int)] W fun e w' => e = .returned (.tuple #[.int .i64 (N : Int), .bool true]) ∧ Below W.heap.size W w') := fun W hb => by
            have h := victim_any (c := c5) (HE5.out.belowW hb) (N : Int)
            rw [hm] at h
            refine h.mono ?_
            rintro e w' ⟨v, ok, rfl, h2, h4⟩
            obtain ⟨rfl, rfl⟩ := rg_vic hN1 HM.out HF.out h2
            exact ⟨rfl, h4⟩
          have HWO : Hid (∀ W, Below w5.heap.size w5 W → Calls Try.prog 15 #[.slice a5 m c5, .int .i64 (N : Int)] W fun e w' => ∃ a1 c1, e = .returned (.slice a1 (without F N).length c1) ∧ EdgesAt w' a1 (without F N) ∧ Below W.heap.size W w') := fun W hb => by
            have h := without_any (c := c5) (HE5.out.belowW hb) (N : Int)
            rw [hm] at h
            refine h.mono ?_
            rintro e w' ⟨v, rfl, h2, h4⟩
            obtain ⟨a1, c1, rfl, he⟩ := EdgesAt.of_owns h2 (Nat.le_trans (List.length_filter_le _ _) (by rw [hm]; omega))
            exact ⟨a1, c1, rfl, he, h4⟩
          have HCZ : Hid (∀ W a1 c1, EdgesAt W a1 (without F N) → Calls Try.prog 10 #[.slice a1 (without F N).length c1, .int .i64 1] W fun e w' => ∃ a1 c1, e = .returned (.slice a1 0 c1) ∧ Below W.heap.size W w') := fun W a1 c1 he => by
            refine (cyc_len he rfl 1).mono ?_
            rintro e w' ⟨a2, c2, n2, rfl, h0, _, h3⟩
            have : n2 = 0 := h0.2 (rg_gone hN1 HM.out HF.out)
            subst this
            exact ⟨a2, c2, rfl, h3⟩
          clear hE5 hF hm HROW HB
          go_upto_region 15 with (first
            | (go_at_call 10; refine HCY.out.mono ?_; rintro e w6 ⟨a6, c6, rfl, hb6⟩; have HB6 := hide hb6; clear hb6)
            | (go_at_call 8; refine (HVI.out _ HB6.out).mono ?_; rintro e w7 ⟨rfl, hb7⟩))
          have HB7 : Hid (Below w5.heap.size w5 w7) := bt HB6.out (Nat.le_refl _) hb7
          clear hb7
          go_wp2_with (first
            | (go_at_call 15; refine (HWO.out _ HB7.out).mono ?_; rintro e w8 ⟨a8, c8, rfl, he8, hb8⟩; have HE8 := hide he8; have HB8 : Hid (Below w5.heap.size w5 w8) := bt HB7.out (Nat.le_refl _) hb8; clear he8 hb8)
            | (go_at_call 10; refine (HCZ.out _ _ _ HE8.out).mono ?_; rintro e w9 ⟨a9, c9, rfl, hb9⟩; have HB9 : Hid (Below w5.heap.size w5 w9) := bt HB8.out (Nat.le_refl _) hb9; clear hb9)
            | (go_at_call 7; refine (HAW.out _).mono ?_; rintro e w10 ⟨rfl, hb10⟩))
          go_ret
          exact ⟨rfl, bt HB5.out (Nat.le_refl _) (bt HB9.out (Nat.le_refl _) hb10)⟩
end Go.Proofs.Ytaoghggbcbpapaa
