/- The walk of ValueSums: the first loop. -/
import Derived.Test.YtigafjdacllohabDoorSmq
import Derived.BigRegion
import Derived.Laws.BitsAllLaws
namespace Go.Proofs.YtigafjdacllohabDoor
set_option maxRecDepth 100000
open Go.RowKit
set_option linter.unusedVariables false
set_option linter.unusedSimpArgs false

theorem i64_and32 (n : Int) : bits .and .i64 n 4294967295 = n % 4294967296 := by
  have h127 : (BitVec.ofInt 64 4294967295).toNat = 2 ^ 32 - 1 := by decide
  have key : (BitVec.ofInt 64 n &&& BitVec.ofInt 64 4294967295).toNat = (n % ((2 ^ 64 : Nat) : Int)).toNat % 2 ^ 32 := by
    rw [BitVec.toNat_and, BitVec.toNat_ofInt, h127, Nat.and_two_pow_sub_one_eq_mod]
  show IntKind.i64.wrap ((BitVec.ofInt 64 n &&& BitVec.ofInt 64 4294967295).toNat : Nat) = n % 4294967296
  rw [key, IntKind.wrap_i64]
  omega
def IsAt (w : World) (v : Value) (l : List Int) : Prop := Row w v l.length (l.map fun n => Value.int .i64 n)
theorem IsAt.belowW {w w' : World} {v : Value} {l : List Int} (h : IsAt w v l) (hb : Below w.heap.size w w') : IsAt w' v l := Row.belowW h hb
theorem IsAt.len {w : World} {v : Value} {l : List Int} (h : IsAt w v l) : ∃ ao c, v = .slice ao l.length c ∧ l.length ≤ c ∧ c ≤ maxLen := let ⟨ao, c, e, h1, h2, _⟩ := h; ⟨ao, c, e, h1, h2⟩
theorem IsAt.get {w : World} {ao : Option Addr} {n c : Nat} {l : List Int} (h : IsAt w (.slice ao n c) l) (i : Nat) (hi : i < l.length) : ∃ g o, ao = some ⟨g, o, none⟩ ∧ w.cell? ⟨g, o + i, none⟩ = some (.int .i64 (l.getD i 0)) := by
  obtain ⟨ao', c', e, h1, h2, h3⟩ := h
  injection e with e1 e2 e3
  subst e1
  obtain ⟨g, o, ea, hr⟩ := h3 (fun h0 => by rw [List.map_eq_nil_iff] at h0; rw [h0] at hi; simp at hi)
  exact ⟨g, o, ea, hr i _ (by simp [hi])⟩
theorem sum_snocD (l : List Int) (i : Nat) (h : i < l.length) : hiS (l.take (i + 1)) = hiS (l.take i) + l.getD i 0 / 4294967296 ∧ loS (l.take (i + 1)) = loS (l.take i) + l.getD i 0 % 4294967296 := by
  have e : l.getD i 0 = l[i] := by simp [h]
  rw [e]; exact sum_snoc l i h
theorem intsL_snoc (l : List Int) (i : Nat) (h : i < l.length) : intsL (l.take (i + 1)) = intsL (l.take i) ++ [nV (l.getD i 0)] := by
  have e : l.getD i 0 = l[i] := by simp [h]
  rw [e]; unfold intsL; rw [List.take_succ_eq_append_getElem h, List.map_append]; rfl
theorem fdiv32 (n : Int) : n.fdiv 4294967296 = n / 4294967296 := Int.fdiv_eq_ediv_of_nonneg n (by decide)
theorem vals_head {w0 w : World} {a : Option Addr} {n c : Nat} {b : List Vl} (h : Vals w0 w (.slice a n c) b) (hn : 0 < n) : ∃ g, a = some ⟨g, 0, none⟩ := by
  obtain ⟨hb, hl, hr⟩ := h
  rcases hr with ⟨e, _⟩ | ⟨g', cap, cur, e, _⟩
  · injection e with e1 e2 e3; omega
  · injection e with e1 e2 e3; exact ⟨_, e1⟩
theorem tmod_bound (y : Int) (j : Nat) (hj : 0 < j) : -(j : Int) < y.tmod j ∧ y.tmod j < j := by
  have h2 := Int.tmod_lt_of_pos y (show (0 : Int) < j by omega)
  have h3 := Int.tmod_lt_of_pos (-y) (show (0 : Int) < j by omega)
  rw [Int.neg_tmod] at h3
  omega
theorem turn_place (y : Int) (j : Nat) (hj : 0 < j) : ∃ K : Nat, K < j ∧ (y.tmod j + j).tmod j = (K : Int) := by
  have h := tmod_bound y j hj
  have h1 : 0 ≤ (y.tmod j + j).tmod j := Int.tmod_nonneg _ (by omega)
  have h2 := Int.tmod_lt_of_pos (y.tmod j + j) (show (0 : Int) < j by omega)
  exact ⟨((y.tmod j + j).tmod j).toNat, by omega, by omega⟩
theorem vals_own_lt {w0 w : World} {v : Value} {b : List Vl} (h : Vals w0 w v b) (k : Nat) (hk : v.ownBlock = some k) : k < w.heap.size := by
  obtain ⟨hb, hl, hr⟩ := h
  rcases hr with ⟨e, _⟩ | ⟨g', cap, cur, e, hg, hc, _⟩
  · rw [e] at hk; cases hk
  · rw [e] at hk; injection hk with hk; subst hk; exact lt_of_heap hc
theorem sum_tail_ty {l : List Int} {b : List Vl} (hp : b.Perm (intsL l)) : ∀ V ∈ b ++ [Vl.zero], V.ty = 0 ∨ V.ty = 1 := by
  intro V hV
  rcases List.mem_append.1 hV with h | h
  · exact .inr (intsL_ty l V (hp.mem_iff.1 h))
  · rw [List.mem_singleton.1 h]; exact .inl rfl
theorem sum_tail_small {l : List Int} {b : List Vl} (hp : b.Perm (intsL l)) (hn : ∀ n ∈ l, small n) : ∀ V ∈ b ++ [Vl.zero], small V.n := by
  intro V hV
  rcases List.mem_append.1 hV with h | h
  · exact intsL_small l hn V (hp.mem_iff.1 h)
  · rw [List.mem_singleton.1 h]; unfold small Vl.zero; simp
theorem run_neqVV (w : World) (V : Vl) : (binOp .neq 23 (.agg #[.int .i64 V.ty, .int .i64 V.n, .string (strOf V.t), .bool V.b]) (.agg #[.int .i64 V.ty, .int .i64 V.n, .string (strOf V.t), .bool V.b])).run Tryd.prog w = .ok (.bool false) w := by
  rw [run_neq_struct, eq23 w V V true (by simp)]
  rfl
theorem i64_or32 (h l : Int) (h1 : -2147483648 ≤ h) (h2 : h < 2147483648) (l0 : 0 ≤ l) (l1 : l < 4294967296) : bits .or .i64 (h * 4294967296) l = h * 4294967296 + l := by
  show IntKind.i64.wrap ((BitVec.ofInt 64 (h * 4294967296) ||| BitVec.ofInt 64 l).toNat : Nat) = h * 4294967296 + l
  rw [BitVec.toNat_or, BitVec.toNat_ofInt, BitVec.toNat_ofInt, nat_join 32 _ _ (by omega) (by omega), IntKind.wrap_i64]
  omega
theorem vals_empty (w : World) : Vals w (w.alloc (.cells #[] 23)) (.slice (some ⟨w.heap.size, 0, none⟩) 0 0) [] :=
  ⟨(Below.refl _ _).alloc (Nat.le_refl _) _, rfl, .inr ⟨w.heap.size, 0, #[], rfl, Nat.le_refl _, heap_alloc_new w _, Nat.le_refl _, by simp only [maxLen]; omega, rfl, rfl⟩⟩
set_option maxHeartbeats 4000000 in
theorem sums_walk {w : World} {v v' : Value} {l by_ : List Int} (h : IsAt w v l) (hby : IsAt w v' by_) (hn : ∀ n ∈ l, small n) (hbn : ∀ n ∈ by_, small n) (m : Int) (hm : w.cell? ⟨1, 0, none⟩ = some (.int .i64 m)) :
    Calls Tryd.prog 4 #[v, v'] w fun e w' => e = .returned (.bool true) ∧ Below w.heap.size w w' := by
  obtain ⟨ao, c, rfl, hc1, hc2⟩ := h.len
  obtain ⟨ao', c', rfl, hd1, hd2⟩ := hby.len
  simp only [maxLen] at hc2 hd2
  have HI : Hid (∀ n W, Calls Tryd.prog 6 #[.int .i64 n] W fun e w' => e = .returned (.agg #[.int .i64 1, .int .i64 n, .string { data := #[] }, .bool false]) ∧ Below W.heap.size W w') := lawInt_any
  have HAW : Hid (∀ W, Below w.heap.size w W → Calls Tryd.prog 7 #[] W fun e w' => e = .returned (.bool true) ∧ Below W.heap.size W w') := fun W hW => awake_any m W ((hW.cell (p := ⟨1, 0, none⟩) (World.block_lt_of_cell? w _ hm)).trans hm)
  have H := hide h
  have HB := hide hby
  have HS := hide hn
  have HSB := hide hbn
  clear h hby hn hbn hm
  go_enter Tryd.func4, Tryd.ntmps4
  by_cases hlen : 200 < l.length
  · have hd : decide (200 < l.length) = true := decide_eq_true hlen
    go_wp2_with (go_at_call 7; refine (HAW.out _ (Below.refl _ _)).mono ?_; rintro e W1 ⟨rfl, hB1⟩)
    go_ret
    exact ⟨rfl, hB1⟩
  · obtain ⟨L, hL⟩ : ∃ L, l.length = L := ⟨_, rfl⟩
    rw [hL] at H hc1 hlen ⊢
    have HLE := hide hL
    clear hL
    go_upto_region 6 with fail
    go_loopw [8, 5, 6, 7] (fun i u h o wr => ∃ j : Nat, j ≤ L ∧ i = .int .i64 (j : Int) ∧ Vals w wr u (intsL (l.take j)) ∧ h = .int .i64 (hiS (l.take j)) ∧ o = .int .i64 (loS (l.take j))) (fun i _ _ _ _ => L - (intOf i).toNat)
    case atStart => exact ⟨0, Nat.zero_le _, rfl, Vals.nil (Below.refl _ _), rfl, rfl⟩
    case round =>
      obtain ⟨j, hj, rfl, hV, rfl, rfl⟩ := hrel
      have HV := hide hV
      clear hV
      by_cases hlt : j < L
      · obtain ⟨g, o, hao, k0⟩ := H.out.get j (by rw [HLE.out]; exact hlt)
        subst hao
        have hgl := World.block_lt_of_cell? w _ k0
        have HK : Hid (∀ W, Below w.heap.size w W → W.cell? ⟨g, o + j, none⟩ = some (.int .i64 (l.getD j 0))) := fun W hW => (hW.cell (p := ⟨g, o + j, none⟩) hgl).trans k0
        have HX := hide (sum_snocD l j (by rw [HLE.out]; exact hlt))
        have HY := hide (intsL_snoc l j (by rw [HLE.out]; exact hlt))
        have HTL : Hid ((intsL (l.take j)).length ≤ 200) := by unfold Hid; rw [intsL_len, List.length_take]; omega
        have hx : small (l.getD j 0) := by
          have e : l.getD j 0 = l[j]'(by rw [HLE.out]; exact hlt) := by simp [HLE.out, hlt]
          rw [e]; exact HS.out _ (List.getElem_mem _)
        have hh : -429496729600 ≤ hiS (l.take j) ∧ hiS (l.take j) ≤ 429496729600 := by
          have := hiS_bound (l.take j) (fun n hn => HS.out n (List.mem_of_mem_take hn))
          rw [List.length_take] at this
          omega
        have ho : 0 ≤ loS (l.take j) ∧ loS (l.take j) ≤ 858993459200 := by
          have := loS_bound (l.take j)
          rw [List.length_take] at this
          omega
        generalize l.getD j 0 = x at *
        generalize hiS (l.take j) = hv at *
        generalize loS (l.take j) = lv at *
        clear k0
        have k0 := HK.out wr HV.out.below
        have hgl := World.block_lt_of_cell? wr _ k0
        unfold small at hx
        have hbv := buildV (nV x)
        have HBN : Hid (∀ W : World, VsAt (W.alloc (.cells #[.int .i64 1, .int .i64 x, .string { data := #[] }, .bool false] 23)) (.slice (some ⟨W.heap.size, 0, none⟩) 1 1) [nV x]) := fun W => vsAt1 W (nV x)
        go_upto_region 9 with (first
          | (go_at_call 6; refine (HI.out _ _).mono ?_; rintro e w5 ⟨rfl, hb5⟩; have HB5 := hide hb5; clear hb5)
          | (refine wpList_append_vals rfl (.tmp 26) (.tmp 32) rfl w _ _ _ _ rfl rfl ((HV.out.belowW HB5.out).belowW ((Below.refl _ _).alloc (Nat.le_refl _) _)) (HBN.out _) (by have := HTL.out; simp; omega) ?_; intro u6 W6 hV6 hg6; have HV6 := hide hV6; clear hV6 hg6))
        have k6 := HK.out W6 HV6.out.below
        clear hbv HBN k0 hgl HB5 HV
        have hgl := World.block_lt_of_cell? W6 _ k6
        go_wp2
        refine ⟨⟨j + 1, hlt, by go_num, by rw [HY.out]; exact HV6.out, by rw [HX.out.1], ?_⟩, ?_⟩
        · rw [HX.out.2, i64_and32]; congr 1; unfold wrap64; omega
        · simp [intOf]; omega
      · obtain rfl : j = L := by omega
        have htl : l.take j = l := List.take_of_length_le (by rw [HLE.out]; exact Nat.le_refl _)
        rw [htl] at HV ⊢
        clear htl hlt hj
        have hh : -429496729600 ≤ hiS l ∧ hiS l ≤ 429496729600 := by
          have := hiS_bound l HS.out
          have := HLE.out
          omega
        have ho : 0 ≤ loS l ∧ loS l ≤ 858993459200 := by
          have := loS_bound l
          have := HLE.out
          omega
        have HN : Hid ((intsL l).length ≤ 200) := by unfold Hid; rw [intsL_len, HLE.out]; omega
        have HE := hide (vals_empty wr)
        go_upto_region 12 with (refine wpList_append_vals rfl (.tmp 48) (.tmp 49) rfl wr _ _ _ _ rfl rfl HE.out (HV.out.at.belowW ((Below.refl _ _).alloc (Nat.le_refl _) _)) (by have := HN.out; simp; omega) ?_; intro u9 W9 hV9 hg9; have HV9 := hide hV9; clear hV9 hg9)
        rw [List.nil_append] at HV9
        clear HE
        obtain ⟨a9, c9, hu9, q1, q2⟩ := HV9.out.at.len
        subst hu9
        simp only [maxLen] at q2
        rw [intsL_len, HLE.out] at HV9 q1 ⊢
        go_upto_region 13 with fail
        obtain ⟨wo, hwo⟩ : ∃ wo, wo = wr := ⟨_, rfl⟩
        subst hwo
        go_loopw [10, 11] (fun i k wr2 => ∃ (n : Nat) (b : List Vl), n ≤ j ∧ i = .int .i64 (n : Int) ∧ b.Perm (intsL l) ∧ Vals wo wr2 (.slice a9 j c9) b) (fun i _ _ => j - (intOf i).toNat)
        case atStart => exact ⟨0, _, Nat.zero_le _, rfl, List.Perm.refl _, HV9.out⟩
        case round =>
          obtain ⟨n, b, hnj, rfl, hp, hV2⟩ := hrel
          have hbl : b.length = j := by rw [hp.length_eq, intsL_len, HLE.out]
          have HV2 := hide hV2
          have HB2 := hide (HV.out.below.trans (hV2.below.mono HV.out.below.size))
          have HP := hide hp
          clear hV2 hp
          by_cases hA : n < j
          · by_cases hB : n < by_.length
            · obtain ⟨g9, hg9⟩ := vals_head HV2.out (by omega)
              subst hg9
              obtain ⟨g2, o2, hao, k0⟩ := HB.out.get n hB
              subst hao
              have x1 := (HB2.out.cell (p := ⟨g2, o2 + n, none⟩) (World.block_lt_of_cell? w _ k0)).trans k0
              have hgl := World.block_lt_of_cell? wr _ x1
              clear k0
              generalize by_.getD n 0 = y at *
              obtain ⟨K, hKj, hK⟩ := turn_place y j (by omega)
              have hj0 : ((j : Int) == 0) = false := beq_eq_false_iff_ne.2 (by omega)
              have hj1 : (j : Int) ≠ 0 := by omega
              have ht := tmod_bound y j (by omega)
              go_upto_region 16 with fail
              have HV3 := hide ((vals_swap HV2.out n K (by omega) (by omega)).belowW (below_drewN _ _ 1))
              obtain ⟨n0, n1, n2, n3⟩ := vals_cells HV2.out n (by omega)
              have hcK := vals_cells HV2.out K (by omega)
              obtain ⟨⟨z0, e0⟩, ⟨z1, e1⟩, ⟨z2, e2⟩, z3, e3⟩ := swap_cells (o := n * 4) (b.getD K Vl.zero) hcK
              obtain ⟨k0, k1, k2, k3⟩ := hcK
              have zf := vals_frozen HV2.out
              have HP3 := hide ((swapL_perm b n K (by omega) (by omega)).trans HP.out)
              clear HV2 HB2 x1 hgl
              generalize b.getD n Vl.zero = Vn at *
              generalize b.getD K Vl.zero = VK at *
              have i1 : (n : Int) < (j : Int) := by omega
              have i2 : (K : Int) < (j : Int) := by omega
              go_region
              go_wp2
              refine ⟨⟨n + 1, swapL b n K, hA, by go_num, HP3.out, HV3.out⟩, ?_⟩
              simp [intOf]; omega
            · have HSA : Hid (∀ W, Below wo.heap.size wo W → Calls Tryd.prog 8 #[u5] W fun e w' => e = .returned (telling (sumV (intsL l)) (sumE (intsL l))) ∧ Below W.heap.size W w') := fun W hW => sum_any (HV.out.at.belowW hW) (fun V hV => .inr (intsL_ty l V hV)) (intsL_small l HS.out) (by have := HN.out; omega)
              have hband : ∀ n : Int, bits .and .i64 n 4294967295 = n % 4294967296 := i64_and32
              unfold telling at HSA
              obtain ⟨SV, hSV⟩ : ∃ SV, sumV (intsL l) = SV := ⟨_, rfl⟩
              obtain ⟨SE, hSE⟩ : ∃ SE, sumE (intsL l) = SE := ⟨_, rfl⟩
              rw [hSV, hSE] at HSA
              have HSVE := hide (And.intro hSV hSE)
              clear hSV hSE
              go_upto_region 20 with (go_at_call 8; refine (HSA.out _ HV2.out.below).mono ?_; rintro e W3 ⟨rfl, hB3⟩; have HB3 := hide hB3; clear hB3)
              have hbv : ∀ W : World, (Instr.buildSlice 31 1 #[(0, .agg #[.int .i64 0, .int .i64 0, .string { data := #[] }, .bool false])]).run Tryd.prog W = .ok (.slice (some ⟨W.heap.size, 0, none⟩) 1 1) (W.alloc (.cells #[.int .i64 0, .int .i64 0, .string { data := #[] }, .bool false] 23)) := buildV Vl.zero
              have HBN : Hid (∀ W : World, VsAt (W.alloc (.cells #[.int .i64 0, .int .i64 0, .string { data := #[] }, .bool false] 23)) (.slice (some ⟨W.heap.size, 0, none⟩) 1 1) [Vl.zero]) := fun W => vsAt1 W Vl.zero
              have HSC : Hid (∀ (W : World) (u : Value), VsAt W u (b ++ [Vl.zero]) → Calls Tryd.prog 8 #[u] W fun e w' => e = .returned (.tuple #[.agg #[.int .i64 SV.ty, .int .i64 SV.n, .string (strOf SV.t), .bool SV.b], .int .i64 SE]) ∧ Below W.heap.size W w') := fun W u hu => by
                have h8 := sum_any hu (sum_tail_ty HP.out) (sum_tail_small HP.out HS.out) (by rw [List.length_append, hbl]; simp; omega)
                rw [(sum_same HP.out).1, (sum_same HP.out).2, HSVE.out.1, HSVE.out.2] at h8
                exact h8
              have HBX : Hid (Box (W3.alloc (.cells #[.int .i64 SV.ty, .int .i64 SV.n, .string (strOf SV.t), .bool SV.b] 23)) W3.heap.size SV) := heap_alloc_new _ _
              have HA3 : Hid (Below W3.heap.size W3 (W3.alloc (.cells #[.int .i64 SV.ty, .int .i64 SV.n, .string (strOf SV.t), .bool SV.b] 23))) := (Below.refl _ _).alloc (Nat.le_refl _) _
              have HVB := hide (HV2.out.belowW (HB3.out.trans (HA3.out.mono HB3.out.size)))
              have HB4 := hide (HB2.out.trans ((HB3.out.trans (HA3.out.mono HB3.out.size)).mono HB2.out.size))
              have HNE : Hid (some W3.heap.size ≠ (Value.slice a9 j c9).ownBlock) := fun e => by
                have := vals_own_lt HV2.out _ e.symm
                have := HB3.out.size
                omega
              obtain ⟨p12, hp12⟩ : ∃ p, W3.heap.size = p := ⟨_, rfl⟩
              obtain ⟨W4, hW4⟩ : ∃ W4, W3.alloc (.cells #[.int .i64 SV.ty, .int .i64 SV.n, .string (strOf SV.t), .bool SV.b] 23) = W4 := ⟨_, rfl⟩
              rw [hW4] at HBX HVB HB4 ⊢
              rw [hp12] at HBX HNE ⊢
              clear hW4 hp12 HA3 HB3 HV2 HB2
              go_upto_region 21 with (first
                | (refine wpList_append_vals rfl (.tmp 102) (.tmp 104) rfl wo _ _ _ _ rfl rfl (HVB.out.belowW ((Below.refl _ _).alloc (Nat.le_refl _) _)) (HBN.out _) (by simp; omega) ?_; intro u10 W6 hV6 hg6; have HBX6 : Hid (Box W6 p12 SV) := (hg6.block p12 (lt_of_heap (HBX.out.belowW ((Below.refl _ _).alloc (Nat.le_refl _) _))) HNE.out).trans (HBX.out.belowW ((Below.refl _ _).alloc (Nat.le_refl _) _)); have HV6 := hide hV6; clear hV6 hg6)
                | (go_at_call 8; refine (HSC.out _ _ HV6.out.at).mono ?_; rintro e W7 ⟨rfl, hB7⟩; have HB7 := hide hB7; clear hB7; have HBX7 := hide (HBX6.out.belowW HB7.out)))
              have HB6 := HV.out.below.trans (HV6.out.below.mono HV.out.below.size)
              have HB7' := HB6.trans (HB7.out.mono HB6.size)
              have HB8 := hide (HB7'.trans (((Below.refl _ W7).alloc (Nat.le_refl _) (.cells #[.int .i64 SV.ty, .int .i64 SV.n, .string (strOf SV.t), .bool SV.b] 23)).mono HB7'.size))
              have HX12 : Hid (Box (W7.alloc (.cells #[.int .i64 SV.ty, .int .i64 SV.n, .string (strOf SV.t), .bool SV.b] 23)) p12 SV) := HBX7.out.belowW ((Below.refl _ _).alloc (Nat.le_refl _) _)
              have HX14 : Hid (Box (W7.alloc (.cells #[.int .i64 SV.ty, .int .i64 SV.n, .string (strOf SV.t), .bool SV.b] 23)) W7.heap.size SV) := heap_alloc_new _ _
              obtain ⟨p14, hp14⟩ : ∃ p, W7.heap.size = p := ⟨_, rfl⟩
              obtain ⟨W8, hW8⟩ : ∃ W, W7.alloc (.cells #[.int .i64 SV.ty, .int .i64 SV.n, .string (strOf SV.t), .bool SV.b] 23) = W := ⟨_, rfl⟩
              rw [hW8] at HX12 HX14 HB8 ⊢
              rw [hp14] at HX14 ⊢
              clear hW8 hp14 HB7 HBX7 HBX6 HV6 HB4 HVB HBX HB6 HB7' hbv HBN HSC HSA
              obtain ⟨x0, x1, x2, x3⟩ := HX12.out.cells
              obtain ⟨y0, y1, y2, y3⟩ := HX14.out.cells
              have hneq := fun W => run_neqVV W SV
              go_upto_region 23 with fail
              clear x0 x1 x2 x3 y0 y1 y2 y3 hneq HX14
              by_cases hj0 : j = 0
              · subst hj0
                have hl0 : l = [] := List.eq_nil_of_length_eq_zero HLE.out
                subst hl0
                obtain ⟨r1, r2⟩ := HSVE.out
                rw [sum_none.1] at r1
                rw [sum_none.2] at r2
                subst r1 r2
                have hx := HX12.out.cells
                obtain ⟨x0, x1, x2, x3⟩ : W8.cell? ⟨p12, 0, none⟩ = some (.int .i64 0) ∧ W8.cell? ⟨p12, 1, none⟩ = some (.int .i64 0) ∧ W8.cell? ⟨p12, 2, none⟩ = some (.string { data := #[] }) ∧ W8.cell? ⟨p12, 3, none⟩ = some (.bool false) := hx
                have heq : ∀ W, (Op.equalIn 10000 23 (.agg #[.int .i64 0, .int .i64 0, .string { data := #[] }, .bool false]) (.agg #[.int .i64 0, .int .i64 0, .string { data := #[] }, .bool false])).run Tryd.prog W = .ok true W := fun W => eq23 W Vl.zero Vl.zero true (by simp)
                clear HX12
                go_wp2_with (go_at_call 7; refine (HAW.out _ HB8.out).mono ?_; rintro e W9 ⟨rfl, hB9⟩)
                go_ret
                exact ⟨rfl, thenW HB8.out hB9⟩
              · have hl0 : l ≠ [] := by rintro rfl; exact hj0 HLE.out.symm
                have hj1 : ((j : Int) == 0) = false := beq_eq_false_iff_ne.2 (by omega)
                have hfp := fits_parts l
                have hps := parts_sum l
                have hs0 := sum_fits hl0
                have hs1 := sum_over hl0
                rw [HSVE.out.1, HSVE.out.2] at hs0 hs1
                have hlv : 0 ≤ loS l % 4294967296 ∧ loS l % 4294967296 < 4294967296 := by omega
                have hhv : -858993459200 ≤ hiS l + loS l / 4294967296 ∧ hiS l + loS l / 4294967296 ≤ 858993459200 := by omega
                clear HSVE HV HP HN hh ho
                generalize hiS l + loS l / 4294967296 = hv at *
                generalize loS l % 4294967296 = lv at *
                generalize l.sum = S at *
                by_cases hf : -2147483648 ≤ hv ∧ hv < 2147483648
                · rw [decide_eq_true hf] at hfp
                  obtain ⟨r1, r2⟩ := hs0 hfp
                  subst r1 r2
                  obtain ⟨f1, f2⟩ := hf
                  have hor : bits .or .i64 (hv * 4294967296) lv = S := by rw [hps]; exact i64_or32 hv lv f1 f2 hlv.1 hlv.2
                  have HXD : Hid (Box W8.drew p12 (nV S)) := HX12.out.belowW (below_drewN _ _ 1)
                  have HBD : Hid (Below w.heap.size w W8.drew) := thenW HB8.out (below_drewN _ _ 1)
                  have hwr : IntKind.i64.wrap (hv * 4294967296) = hv * 4294967296 := by rw [IntKind.wrap_i64]; omega
                  go_upto_region 26 with fail
                  refine wp_region_held_drew (S := fun W => Box W p12 (nV S)) (by kernel_rfl) HXD.out (fun hH => ?_)
                  refine step_to 0 136 (.int .i64 0) _ rfl (by kernel_rfl) rfl (by rfl) (rfl) hH ?_
                  simp only [Act.put, List.setIfInBounds_toArray, List.set_cons_zero, List.set_cons_succ]
                  refine step_to 1 137 (.bool true) _ rfl (by kernel_rfl) rfl (by rfl) (op_eqlEq _ _ (.tmp 136) (.const (.int .i64 0)) _ rfl 0 0 rfl rfl true rfl) hH ?_
                  simp only [Act.put, List.setIfInBounds_toArray, List.set_cons_zero, List.set_cons_succ]
                  refine step_to 2 138 (.bool true) _ rfl (by kernel_rfl) rfl (by rfl) (rfl) hH ?_
                  simp only [Act.put, List.setIfInBounds_toArray, List.set_cons_zero, List.set_cons_succ]
                  refine take_to 3 139 (.agg #[.int .i64 (nV S).ty, .int .i64 (nV S).n, .string (strOf (nV S).t), .bool (nV S).b]) rfl (by kernel_rfl) (by kernel_rfl) (by kernel_rfl) (fun _ _ _ h => h) rfl (by rfl) (fun w hw => op_load _ _ 23 (.tmp 12) rfl (.pointer (some ⟨p12, 0, none⟩)) _ rfl (load23 hw)) hH ?_
                  simp only [Act.put, List.setIfInBounds_toArray, List.set_cons_zero, List.set_cons_succ]
                  refine take_to 4 140 (.int .i64 hv) rfl (by kernel_rfl) (by kernel_rfl) (by kernel_rfl) (fun _ _ _ h => h) rfl (by rfl) (fun w hw => by rfl) hH ?_
                  simp only [Act.put, List.setIfInBounds_toArray, List.set_cons_zero, List.set_cons_succ]
                  refine take_to 5 141 (.int .i64 (hv * 4294967296)) rfl (by kernel_rfl) (by kernel_rfl) (by kernel_rfl) (fun _ _ _ h => h) rfl (by rfl) (fun w hw => op_shl3 _ _ (.tmp 140) (.const (.int .u64 32)) _ rfl hv rfl rfl _ hwr) hH ?_
                  simp only [Act.put, List.setIfInBounds_toArray, List.set_cons_zero, List.set_cons_succ]
                  refine take_to 6 142 (.int .i64 lv) rfl (by kernel_rfl) (by kernel_rfl) (by kernel_rfl) (fun _ _ _ h => h) rfl (by rfl) (fun w hw => by rfl) hH ?_
                  simp only [Act.put, List.setIfInBounds_toArray, List.set_cons_zero, List.set_cons_succ]
                  refine take_to 7 143 (.int .i64 S) rfl (by kernel_rfl) (by kernel_rfl) (by kernel_rfl) (fun _ _ _ h => h) rfl (by rfl) (fun w hw => op_or3 _ _ (.tmp 141) (.tmp 142) _ rfl (hv * 4294967296) lv rfl rfl _ hor) hH ?_
                  simp only [Act.put, List.setIfInBounds_toArray, List.set_cons_zero, List.set_cons_succ]
                  refine step_call1_to 8 144 6 rfl (by kernel_rfl) rfl (by rfl) (.tmp 143) _ rfl _ rfl Tryd.enters6 (HI.out _ _) ?_
                  rintro e u1 ⟨rfl, hb1⟩
                  have hH1 : Box u1 p12 (nV S) := Box.belowW hH hb1
                  have HB9 := thenW HBD.out hb1
                  refine ⟨_, rfl, hH1, ?_⟩
                  simp only [Act.put, List.setIfInBounds_toArray, List.set_cons_zero, List.set_cons_succ]
                  refine step_to 9 145 (.bool true) _ rfl (by kernel_rfl) rfl (by rfl) (op_eqlVq _ _ (.tmp 139) (.tmp 144) _ rfl (nV S) rfl rfl) hH1 ?_
                  simp only [Act.put, List.setIfInBounds_toArray, List.set_cons_zero, List.set_cons_succ]
                  refine step_to 10 146 (.bool true) _ rfl (by kernel_rfl) rfl (by rfl) (rfl) hH1 ?_
                  simp only [Act.put, List.setIfInBounds_toArray, List.set_cons_zero, List.set_cons_succ]
                  refine step_to 11 147 (.bool true) _ rfl (by kernel_rfl) rfl (by rfl) (rfl) hH1 ?_
                  simp only [Act.put, List.setIfInBounds_toArray, List.set_cons_zero, List.set_cons_succ]
                  refine step_call0_at 12 148 7 rfl (by kernel_rfl) rfl (by rfl) _ rfl Tryd.enters7q (HAW.out _ HB9) ?_
                  rintro e u2 ⟨rfl, hb2⟩
                  have hH2 : Box u2 p12 (nV S) := Box.belowW hH1 hb2
                  refine ⟨_, rfl, hH2, ?_⟩
                  simp only [Act.put, List.setIfInBounds_toArray, List.set_cons_zero, List.set_cons_succ]
                  refine step_to 13 149 (.bool true) _ rfl (by kernel_rfl) rfl (by rfl) (rfl) hH2 ?_
                  simp only [Act.put, List.setIfInBounds_toArray, List.set_cons_zero, List.set_cons_succ]
                  refine step_to 14 4 (.bool true) _ rfl (by kernel_rfl) rfl (by rfl) (rfl) hH2 ?_
                  simp only [Act.put, List.setIfInBounds_toArray, List.set_cons_zero, List.set_cons_succ]
                  refine wpAnyH_done (by kernel_rfl) ?_ _
                  go_wp2
                  go_ret
                  exact ⟨rfl, thenW HB9 hb2⟩
                · rw [decide_eq_false hf] at hfp
                  obtain ⟨r1, r2⟩ := hs1 hfp
                  subst r1 r2
                  rcases (show hv < -2147483648 ∨ (-2147483648 ≤ hv ∧ 2147483648 ≤ hv) by omega) with q | ⟨q, q'⟩
                  all_goals
                    (go_wp2_with (go_at_call 7; refine (HAW.out _ HB8.out).mono ?_; rintro e W9 ⟨rfl, hB9⟩)
                     go_ret
                     exact ⟨rfl, thenW HB8.out hB9⟩)
          · have HSA : Hid (∀ W, Below wo.heap.size wo W → Calls Tryd.prog 8 #[u5] W fun e w' => e = .returned (telling (sumV (intsL l)) (sumE (intsL l))) ∧ Below W.heap.size W w') := fun W hW => sum_any (HV.out.at.belowW hW) (fun V hV => .inr (intsL_ty l V hV)) (intsL_small l HS.out) (by have := HN.out; omega)
            have hband : ∀ n : Int, bits .and .i64 n 4294967295 = n % 4294967296 := i64_and32
            unfold telling at HSA
            obtain ⟨SV, hSV⟩ : ∃ SV, sumV (intsL l) = SV := ⟨_, rfl⟩
            obtain ⟨SE, hSE⟩ : ∃ SE, sumE (intsL l) = SE := ⟨_, rfl⟩
            rw [hSV, hSE] at HSA
            have HSVE := hide (And.intro hSV hSE)
            clear hSV hSE
            go_upto_region 20 with (go_at_call 8; refine (HSA.out _ HV2.out.below).mono ?_; rintro e W3 ⟨rfl, hB3⟩; have HB3 := hide hB3; clear hB3)
            have hbv : ∀ W : World, (Instr.buildSlice 31 1 #[(0, .agg #[.int .i64 0, .int .i64 0, .string { data := #[] }, .bool false])]).run Tryd.prog W = .ok (.slice (some ⟨W.heap.size, 0, none⟩) 1 1) (W.alloc (.cells #[.int .i64 0, .int .i64 0, .string { data := #[] }, .bool false] 23)) := buildV Vl.zero
            have HBN : Hid (∀ W : World, VsAt (W.alloc (.cells #[.int .i64 0, .int .i64 0, .string { data := #[] }, .bool false] 23)) (.slice (some ⟨W.heap.size, 0, none⟩) 1 1) [Vl.zero]) := fun W => vsAt1 W Vl.zero
            have HSC : Hid (∀ (W : World) (u : Value), VsAt W u (b ++ [Vl.zero]) → Calls Tryd.prog 8 #[u] W fun e w' => e = .returned (.tuple #[.agg #[.int .i64 SV.ty, .int .i64 SV.n, .string (strOf SV.t), .bool SV.b], .int .i64 SE]) ∧ Below W.heap.size W w') := fun W u hu => by
              have h8 := sum_any hu (sum_tail_ty HP.out) (sum_tail_small HP.out HS.out) (by rw [List.length_append, hbl]; simp; omega)
              rw [(sum_same HP.out).1, (sum_same HP.out).2, HSVE.out.1, HSVE.out.2] at h8
              exact h8
            have HBX : Hid (Box (W3.alloc (.cells #[.int .i64 SV.ty, .int .i64 SV.n, .string (strOf SV.t), .bool SV.b] 23)) W3.heap.size SV) := heap_alloc_new _ _
            have HA3 : Hid (Below W3.heap.size W3 (W3.alloc (.cells #[.int .i64 SV.ty, .int .i64 SV.n, .string (strOf SV.t), .bool SV.b] 23))) := (Below.refl _ _).alloc (Nat.le_refl _) _
            have HVB := hide (HV2.out.belowW (HB3.out.trans (HA3.out.mono HB3.out.size)))
            have HB4 := hide (HB2.out.trans ((HB3.out.trans (HA3.out.mono HB3.out.size)).mono HB2.out.size))
            have HNE : Hid (some W3.heap.size ≠ (Value.slice a9 j c9).ownBlock) := fun e => by
              have := vals_own_lt HV2.out _ e.symm
              have := HB3.out.size
              omega
            obtain ⟨p12, hp12⟩ : ∃ p, W3.heap.size = p := ⟨_, rfl⟩
            obtain ⟨W4, hW4⟩ : ∃ W4, W3.alloc (.cells #[.int .i64 SV.ty, .int .i64 SV.n, .string (strOf SV.t), .bool SV.b] 23) = W4 := ⟨_, rfl⟩
            rw [hW4] at HBX HVB HB4 ⊢
            rw [hp12] at HBX HNE ⊢
            clear hW4 hp12 HA3 HB3 HV2 HB2
            go_upto_region 21 with (first
              | (refine wpList_append_vals rfl (.tmp 102) (.tmp 104) rfl wo _ _ _ _ rfl rfl (HVB.out.belowW ((Below.refl _ _).alloc (Nat.le_refl _) _)) (HBN.out _) (by simp; omega) ?_; intro u10 W6 hV6 hg6; have HBX6 : Hid (Box W6 p12 SV) := (hg6.block p12 (lt_of_heap (HBX.out.belowW ((Below.refl _ _).alloc (Nat.le_refl _) _))) HNE.out).trans (HBX.out.belowW ((Below.refl _ _).alloc (Nat.le_refl _) _)); have HV6 := hide hV6; clear hV6 hg6)
              | (go_at_call 8; refine (HSC.out _ _ HV6.out.at).mono ?_; rintro e W7 ⟨rfl, hB7⟩; have HB7 := hide hB7; clear hB7; have HBX7 := hide (HBX6.out.belowW HB7.out)))
            have HB6 := HV.out.below.trans (HV6.out.below.mono HV.out.below.size)
            have HB7' := HB6.trans (HB7.out.mono HB6.size)
            have HB8 := hide (HB7'.trans (((Below.refl _ W7).alloc (Nat.le_refl _) (.cells #[.int .i64 SV.ty, .int .i64 SV.n, .string (strOf SV.t), .bool SV.b] 23)).mono HB7'.size))
            have HX12 : Hid (Box (W7.alloc (.cells #[.int .i64 SV.ty, .int .i64 SV.n, .string (strOf SV.t), .bool SV.b] 23)) p12 SV) := HBX7.out.belowW ((Below.refl _ _).alloc (Nat.le_refl _) _)
            have HX14 : Hid (Box (W7.alloc (.cells #[.int .i64 SV.ty, .int .i64 SV.n, .string (strOf SV.t), .bool SV.b] 23)) W7.heap.size SV) := heap_alloc_new _ _
            obtain ⟨p14, hp14⟩ : ∃ p, W7.heap.size = p := ⟨_, rfl⟩
            obtain ⟨W8, hW8⟩ : ∃ W, W7.alloc (.cells #[.int .i64 SV.ty, .int .i64 SV.n, .string (strOf SV.t), .bool SV.b] 23) = W := ⟨_, rfl⟩
            rw [hW8] at HX12 HX14 HB8 ⊢
            rw [hp14] at HX14 ⊢
            clear hW8 hp14 HB7 HBX7 HBX6 HV6 HB4 HVB HBX HB6 HB7' hbv HBN HSC HSA
            obtain ⟨x0, x1, x2, x3⟩ := HX12.out.cells
            obtain ⟨y0, y1, y2, y3⟩ := HX14.out.cells
            have hneq := fun W => run_neqVV W SV
            go_upto_region 23 with fail
            clear x0 x1 x2 x3 y0 y1 y2 y3 hneq HX14
            by_cases hj0 : j = 0
            · subst hj0
              have hl0 : l = [] := List.eq_nil_of_length_eq_zero HLE.out
              subst hl0
              obtain ⟨r1, r2⟩ := HSVE.out
              rw [sum_none.1] at r1
              rw [sum_none.2] at r2
              subst r1 r2
              have hx := HX12.out.cells
              obtain ⟨x0, x1, x2, x3⟩ : W8.cell? ⟨p12, 0, none⟩ = some (.int .i64 0) ∧ W8.cell? ⟨p12, 1, none⟩ = some (.int .i64 0) ∧ W8.cell? ⟨p12, 2, none⟩ = some (.string { data := #[] }) ∧ W8.cell? ⟨p12, 3, none⟩ = some (.bool false) := hx
              have heq : ∀ W, (Op.equalIn 10000 23 (.agg #[.int .i64 0, .int .i64 0, .string { data := #[] }, .bool false]) (.agg #[.int .i64 0, .int .i64 0, .string { data := #[] }, .bool false])).run Tryd.prog W = .ok true W := fun W => eq23 W Vl.zero Vl.zero true (by simp)
              clear HX12
              go_wp2_with (go_at_call 7; refine (HAW.out _ HB8.out).mono ?_; rintro e W9 ⟨rfl, hB9⟩)
              go_ret
              exact ⟨rfl, thenW HB8.out hB9⟩
            · have hl0 : l ≠ [] := by rintro rfl; exact hj0 HLE.out.symm
              have hj1 : ((j : Int) == 0) = false := beq_eq_false_iff_ne.2 (by omega)
              have hfp := fits_parts l
              have hps := parts_sum l
              have hs0 := sum_fits hl0
              have hs1 := sum_over hl0
              rw [HSVE.out.1, HSVE.out.2] at hs0 hs1
              have hlv : 0 ≤ loS l % 4294967296 ∧ loS l % 4294967296 < 4294967296 := by omega
              have hhv : -858993459200 ≤ hiS l + loS l / 4294967296 ∧ hiS l + loS l / 4294967296 ≤ 858993459200 := by omega
              clear HSVE HV HP HN hh ho
              generalize hiS l + loS l / 4294967296 = hv at *
              generalize loS l % 4294967296 = lv at *
              generalize l.sum = S at *
              by_cases hf : -2147483648 ≤ hv ∧ hv < 2147483648
              · rw [decide_eq_true hf] at hfp
                obtain ⟨r1, r2⟩ := hs0 hfp
                subst r1 r2
                obtain ⟨f1, f2⟩ := hf
                have hor : bits .or .i64 (hv * 4294967296) lv = S := by rw [hps]; exact i64_or32 hv lv f1 f2 hlv.1 hlv.2
                have HXD : Hid (Box W8.drew p12 (nV S)) := HX12.out.belowW (below_drewN _ _ 1)
                have HBD : Hid (Below w.heap.size w W8.drew) := thenW HB8.out (below_drewN _ _ 1)
                have hwr : IntKind.i64.wrap (hv * 4294967296) = hv * 4294967296 := by rw [IntKind.wrap_i64]; omega
                go_upto_region 26 with fail
                refine wp_region_held_drew (S := fun W => Box W p12 (nV S)) (by kernel_rfl) HXD.out (fun hH => ?_)
                refine step_to 0 136 (.int .i64 0) _ rfl (by kernel_rfl) rfl (by rfl) (rfl) hH ?_
                simp only [Act.put, List.setIfInBounds_toArray, List.set_cons_zero, List.set_cons_succ]
                refine step_to 1 137 (.bool true) _ rfl (by kernel_rfl) rfl (by rfl) (op_eqlEq _ _ (.tmp 136) (.const (.int .i64 0)) _ rfl 0 0 rfl rfl true rfl) hH ?_
                simp only [Act.put, List.setIfInBounds_toArray, List.set_cons_zero, List.set_cons_succ]
                refine step_to 2 138 (.bool true) _ rfl (by kernel_rfl) rfl (by rfl) (rfl) hH ?_
                simp only [Act.put, List.setIfInBounds_toArray, List.set_cons_zero, List.set_cons_succ]
                refine take_to 3 139 (.agg #[.int .i64 (nV S).ty, .int .i64 (nV S).n, .string (strOf (nV S).t), .bool (nV S).b]) rfl (by kernel_rfl) (by kernel_rfl) (by kernel_rfl) (fun _ _ _ h => h) rfl (by rfl) (fun w hw => op_load _ _ 23 (.tmp 12) rfl (.pointer (some ⟨p12, 0, none⟩)) _ rfl (load23 hw)) hH ?_
                simp only [Act.put, List.setIfInBounds_toArray, List.set_cons_zero, List.set_cons_succ]
                refine take_to 4 140 (.int .i64 hv) rfl (by kernel_rfl) (by kernel_rfl) (by kernel_rfl) (fun _ _ _ h => h) rfl (by rfl) (fun w hw => by rfl) hH ?_
                simp only [Act.put, List.setIfInBounds_toArray, List.set_cons_zero, List.set_cons_succ]
                refine take_to 5 141 (.int .i64 (hv * 4294967296)) rfl (by kernel_rfl) (by kernel_rfl) (by kernel_rfl) (fun _ _ _ h => h) rfl (by rfl) (fun w hw => op_shl3 _ _ (.tmp 140) (.const (.int .u64 32)) _ rfl hv rfl rfl _ hwr) hH ?_
                simp only [Act.put, List.setIfInBounds_toArray, List.set_cons_zero, List.set_cons_succ]
                refine take_to 6 142 (.int .i64 lv) rfl (by kernel_rfl) (by kernel_rfl) (by kernel_rfl) (fun _ _ _ h => h) rfl (by rfl) (fun w hw => by rfl) hH ?_
                simp only [Act.put, List.setIfInBounds_toArray, List.set_cons_zero, List.set_cons_succ]
                refine take_to 7 143 (.int .i64 S) rfl (by kernel_rfl) (by kernel_rfl) (by kernel_rfl) (fun _ _ _ h => h) rfl (by rfl) (fun w hw => op_or3 _ _ (.tmp 141) (.tmp 142) _ rfl (hv * 4294967296) lv rfl rfl _ hor) hH ?_
                simp only [Act.put, List.setIfInBounds_toArray, List.set_cons_zero, List.set_cons_succ]
                refine step_call1_to 8 144 6 rfl (by kernel_rfl) rfl (by rfl) (.tmp 143) _ rfl _ rfl Tryd.enters6 (HI.out _ _) ?_
                rintro e u1 ⟨rfl, hb1⟩
                have hH1 : Box u1 p12 (nV S) := Box.belowW hH hb1
                have HB9 := thenW HBD.out hb1
                refine ⟨_, rfl, hH1, ?_⟩
                simp only [Act.put, List.setIfInBounds_toArray, List.set_cons_zero, List.set_cons_succ]
                refine step_to 9 145 (.bool true) _ rfl (by kernel_rfl) rfl (by rfl) (op_eqlVq _ _ (.tmp 139) (.tmp 144) _ rfl (nV S) rfl rfl) hH1 ?_
                simp only [Act.put, List.setIfInBounds_toArray, List.set_cons_zero, List.set_cons_succ]
                refine step_to 10 146 (.bool true) _ rfl (by kernel_rfl) rfl (by rfl) (rfl) hH1 ?_
                simp only [Act.put, List.setIfInBounds_toArray, List.set_cons_zero, List.set_cons_succ]
                refine step_to 11 147 (.bool true) _ rfl (by kernel_rfl) rfl (by rfl) (rfl) hH1 ?_
                simp only [Act.put, List.setIfInBounds_toArray, List.set_cons_zero, List.set_cons_succ]
                refine step_call0_at 12 148 7 rfl (by kernel_rfl) rfl (by rfl) _ rfl Tryd.enters7q (HAW.out _ HB9) ?_
                rintro e u2 ⟨rfl, hb2⟩
                have hH2 : Box u2 p12 (nV S) := Box.belowW hH1 hb2
                refine ⟨_, rfl, hH2, ?_⟩
                simp only [Act.put, List.setIfInBounds_toArray, List.set_cons_zero, List.set_cons_succ]
                refine step_to 13 149 (.bool true) _ rfl (by kernel_rfl) rfl (by rfl) (rfl) hH2 ?_
                simp only [Act.put, List.setIfInBounds_toArray, List.set_cons_zero, List.set_cons_succ]
                refine step_to 14 4 (.bool true) _ rfl (by kernel_rfl) rfl (by rfl) (rfl) hH2 ?_
                simp only [Act.put, List.setIfInBounds_toArray, List.set_cons_zero, List.set_cons_succ]
                refine wpAnyH_done (by kernel_rfl) ?_ _
                go_wp2
                go_ret
                exact ⟨rfl, thenW HB9 hb2⟩
              · rw [decide_eq_false hf] at hfp
                obtain ⟨r1, r2⟩ := hs1 hfp
                subst r1 r2
                rcases (show hv < -2147483648 ∨ (-2147483648 ≤ hv ∧ 2147483648 ≤ hv) by omega) with q | ⟨q, q'⟩
                all_goals
                  (go_wp2_with (go_at_call 7; refine (HAW.out _ HB8.out).mono ?_; rintro e W9 ⟨rfl, hB9⟩)
                   go_ret
                   exact ⟨rfl, thenW HB8.out hB9⟩)
end Go.Proofs.YtigafjdacllohabDoor
