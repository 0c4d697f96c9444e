/- The document's Encode. -/
import Derived.Test.YtjcobejaldfibaaEnc
namespace Go.Proofs.Ytjcobejaldfibaa
open Go.RowKit
set_option linter.unusedVariables false
set_option linter.unusedSimpArgs false

theorem bts_one {w0 w : World} (h : Below w0.heap.size w0 w) (c : UInt8) : Bts w0 (w.alloc (.cells #[.int .u8 (c.toNat : Int)] 5)) (.slice (some ⟨w.heap.size, 0, none⟩) 1 1) [c] :=
  ⟨h.alloc h.size _, rfl, .inr ⟨w.heap.size, 1, _, rfl, h.size, heap_alloc_new w _, by simp, by simp only [maxLen]; omega, by simp, by simp [secCells, bcell]⟩⟩
theorem Box.grownB {w w' : World} {b base n : Nat} {u : Value} {xs : List Value} {c0 c1 c2 c3 c4 : Value} (h : Box 43 w b c0 c1 c2 c3 c4) (hu : w.ownsRow base 5 1 u n xs) (hg : w.grownBy w' u.ownBlock) : Box 43 w' b c0 c1 c2 c3 c4 := ⟨grown_rec hu hg h.heap (by decide)⟩
theorem getD_cast (l : List Int) (h : ∀ k, 0 ≤ l.getD k 0 ∧ l.getD k 0 ≤ 4294967295) (k : Nat) : ∃ n : Nat, l.getD k 0 = (n : Int) ∧ n < 4294967296 := ⟨(l.getD k 0).toNat, by have := h k; omega, by have := h k; omega⟩
def lenOfV : Value → Nat
  | .slice _ n _ => n
  | _ => 0
set_option maxHeartbeats 1000000 in
set_option maxRecDepth 100000 in
theorem rencode_leaf {w : World} {N : Nd} {uk uv vi : Value} (h : RdAt w N uk uv vi) (hf : Fits N) (hl : N.leaf = true) :
    Calls Try.prog 18 #[.agg #[.bool true, uk, uv, vi, .int .i64 N.next]] w (EncEnd w N) := by
  have HS : Hid (∀ W, Below w.heap.size w W → Calls Try.prog 38 #[.agg #[.bool true, uk, uv, vi, .int .i64 N.next]] W fun e w' => e = .returned (.bool N.sound) ∧ Below W.heap.size W w') := fun W hW => by
    have := rfit_any (h.belowW hW) hf
    rw [hl] at this
    exact this
  have HZ : Hid (N.sound = true → ∀ W, Below w.heap.size w W → Calls Try.prog 24 #[.agg #[.bool true, uk, uv, vi, .int .i64 N.next]] W fun e w' => e = .returned (.int .i64 (N.size : Int)) ∧ Below W.heap.size W w') := fun hs W hW => by
    have := rsize_any (h.belowW hW) hf (sd_size (sd_of hs) hf)
    rw [hl] at this
    exact this
  obtain ⟨ak, ck, rfl, _, _⟩ := h.keys.len
  obtain ⟨av, cv, rfl, _, _⟩ := h.vals.len
  obtain ⟨ai, ci, rfl, _, _⟩ := h.kids.len
  have HB0 : Hid (Below w.heap.size w (w.alloc (.cells #[.bool true, .slice ak N.keys.length ck, .slice av N.vals.length cv, .slice ai N.kids.length ci, .int .i64 N.next] 43))) := (Below.refl _ _).alloc (Nat.le_refl _) _
  have HX0 := hide (Box.new (t := 43) w (.bool true) (.slice ak N.keys.length ck) (.slice av N.vals.length cv) (.slice ai N.kids.length ci) (.int .i64 N.next))
  cases hsd : N.sound with
  | false =>
    rw [hsd] at HS
    clear h hf
    generalize N.keys.length = nk at *
    generalize N.vals.length = nv at *
    generalize N.kids.length = ni at *
    generalize N.next = x at *
    go_enter Try.func18, Try.ntmps18
    go_upto_region 1 with fail
    generalize (w.alloc (.cells #[.bool true, .slice ak nk ck, .slice av nv cv, .slice ai ni ci, .int .i64 x] 43)) = W0 at *
    obtain ⟨k0, k1, k2, k3, k4, f0, f1, f2, f3, f4⟩ := HX0.out.cells
    go_wp2_with fail
    refine (HS.out W0 HB0.out).mono ?_
    rintro e W1 ⟨rfl, hb1⟩
    have HB1 := hide (HB0.out.trans (hb1.mono HB0.out.size))
    clear hb1
    go_wp2
    refine bodyPost_ret (results_tmp2 rfl _ _ _) rfl ?_
    exact ⟨HB1.out, .inl ⟨hsd, rfl⟩⟩
  | true =>
    rw [hsd] at HS
    have HZ := hide (HZ.out hsd)
    have S := sd_of hsd
    have hszk := size_keys N
    have HSZ2 := hide (sd_size S hf)
    obtain ⟨nx, hnx⟩ : ∃ nx : Nat, N.next = (nx : Int) := ⟨N.next.toNat, by have := S.nxt; omega⟩
    have hnxl : nx < 4294967296 := by have := S.nxt; omega
    have HVL : Hid (N.vals.length = N.keys.length) := by have := S.mat; simp [Nd.matched, hl] at this; exact this.1
    have HKK : Hid (∀ k, (N.keys.getD k []).length ≤ 100) := S.key
    have HVV : Hid (∀ k, (N.vals.getD k []).length ≤ 100) := S.val
    have HKD : Hid (∀ k, ∃ n : Nat, N.kids.getD k 0 = (n : Int) ∧ n < 4294967296) := getD_cast N.kids S.kid
    have HPG : Hid (N.page = N.body ++ List.replicate (504 - N.body.length) 0) := rfl
    have HBL : Hid (N.body.length = N.size) := length_body S.mat
    have HBD : Hid (N.body = be 1 1 ++ be 2 N.keys.length ++ be 4 nx ++ flatTo N.keys.length (encAt N)) := by
      unfold Hid Nd.body Nd.head Nd.first Nd.kind
      rw [hl, hnx]
      simp [be]
    have HF : Hid (∀ k, flatTo (k + 1) (encAt N) = flatTo k (encAt N) ++ encAt N k) := fun k => flatTo_succ k _
    have HEA : Hid (∀ k, encAt N k = txt (N.keys.getD k []) ++ txt (N.vals.getD k [])) := fun k => by unfold encAt; rw [hl]; rfl
    have HS5 : Hid (∀ k, k < N.keys.length → (be 1 1 ++ be 2 N.keys.length ++ be 4 nx ++ flatTo k (encAt N)).length + (encAt N k).length ≤ N.size) := fun k hk => by
      have e := HBL.out
      rw [HBD.out] at e
      have h1 := sumTo_mono (fun i => (encAt N i).length) (show k + 1 ≤ N.keys.length by omega)
      rw [sumTo_succ] at h1
      rw [List.length_append, length_flatTo] at e ⊢
      omega
    have HKY := hide h.keys
    have HVY := hide h.vals
    have HIY := hide h.kids
    rw [hnx] at HS HZ HX0 HB0 ⊢
    clear h hf S hnx
    generalize hnk : N.keys.length = nk at *
    generalize hnv : N.vals.length = nv at *
    generalize hni : N.kids.length = ni at *
    generalize hsz : N.size = sz at *
    have HSZ := hide hsz
    have HNK := hide hnk
    have HNV := hide hnv
    have HNI := hide hni
    clear hsz hnk hnv hni
    have hszb := HSZ2.out
    go_enter Try.func18, Try.ntmps18
    go_upto_region 1 with fail
    generalize (w.alloc (.cells #[.bool true, .slice ak nk ck, .slice av nv cv, .slice ai ni ci, .int .i64 (nx : Int)] 43)) = W0 at *
    obtain ⟨k0, k1, k2, k3, k4, f0, f1, f2, f3, f4⟩ := HX0.out.cells
    go_wp2_with fail
    refine (HS.out W0 HB0.out).mono ?_
    rintro e W1 ⟨rfl, hb1⟩
    have HB1 := hide (HB0.out.trans (hb1.mono HB0.out.size))
    have HX1 := hide (HX0.out.belowW hb1)
    clear hb1 k0 k1 k2 k3 k4 f0 f1 f2 f3 f4 HX0 HB0 HS
    obtain ⟨k0, k1, k2, k3, k4, f0, f1, f2, f3, f4⟩ := HX1.out.cells
    go_wp2_with fail
    refine (HZ.out W1 HB1.out).mono ?_
    rintro e W2 ⟨rfl, hb2⟩
    have HB2 := hide (HB1.out.trans (hb2.mono HB1.out.size))
    have HX2 := hide (HX1.out.belowW hb2)
    clear hb2 k0 k1 k2 k3 k4 f0 f1 f2 f3 f4 HX1 HB1 HZ
    obtain ⟨k0, k1, k2, k3, k4, f0, f1, f2, f3, f4⟩ := HX2.out.cells
    by_cases hz : 504 < sz
    · have hz' : (504 : Int) < (sz : Int) := by omega
      go_wp2
      refine bodyPost_ret (results_tmp2 rfl _ _ _) rfl ?_
      exact ⟨HB2.out, .inr (.inl ⟨hsd, by rw [HSZ.out]; exact hz, rfl⟩)⟩
    · have hz' : ¬ ((504 : Int) < (sz : Int)) := by omega
      have hnk2 : nk < 65536 := by omega
      have hb1 := build1
      have hl0 := HX2.out.lt
      have hbA := HB2.out.alloc HB2.out.size (.cells #[.int .u8 2] 5)
      have HB3 : Hid (Bts w ((W2.alloc (.cells #[.int .u8 2] 5)).alloc (.cells #[.int .u8 1] 5)) (.slice (some ⟨(W2.alloc (.cells #[.int .u8 2] 5)).heap.size, 0, none⟩) 1 1) (be 1 1)) := bts_one hbA 1
      have HX3 := hide ((HX2.out.alloc (.cells #[.int .u8 2] 5)).alloc (.cells #[.int .u8 1] 5))
      rw [show (W2.alloc (.cells #[.int .u8 2] 5)).heap.size = W2.heap.size + 1 by simp] at HB3
      clear hbA
      go_upto_region 8 with fail
      generalize ((W2.alloc (.cells #[.int .u8 2] 5)).alloc (.cells #[.int .u8 1] 5)) = W3 at *
      generalize (Value.slice (some ⟨W2.heap.size + 1, 0, none⟩) 1 1) = u3 at *
      clear k0 k1 k2 k3 k4 f0 f1 f2 f3 f4
      clear HX2 HB2 hb1 hl0
      obtain ⟨k0, k1, k2, k3, k4, f0, f1, f2, f3, f4⟩ := HX3.out.cells
      have HC3 := hide (two_any nk hnk2 W3)
      go_wp2_with fail
      refine HC3.out.mono ?_
      rintro e W4 ⟨v4, rfl, hb4, hs4⟩
      have HB4 := hide (HB3.out.belowW hb4)
      have HX4 := hide (HX3.out.belowW hb4)
      have HS4 := hide hs4
      clear hb4 hs4 HC3 HB3 HX3 k0 k1 k2 k3 k4 f0 f1 f2 f3 f4 
      go_wp2_with (refine wpList_append_bts rfl (.tmp 16) (.tmp 20) rfl w _ _ _ _ rfl rfl HB4.out HS4.out (by simp only [List.length_append, length_be]; omega) ?_; intro u5 W5 hB5 hg5; have HX5 := hide (HX4.out.grownB HB4.out.own hg5); have HB5 := hide hB5; clear hB5 hg5 HB4 HX4 HS4; obtain ⟨k0, k1, k2, k3, k4, f0, f1, f2, f3, f4⟩ := HX5.out.cells)
      have HC5 := hide (four_any nx hnxl W5)

      refine HC5.out.mono ?_
      rintro e W6 ⟨v6, rfl, hb6, hs6⟩
      have HB6 := hide (HB5.out.belowW hb6)
      have HX6 := hide (HX5.out.belowW hb6)
      have HS6 := hide hs6
      clear hb6 hs6 HC5 HB5 HX5 k0 k1 k2 k3 k4 f0 f1 f2 f3 f4 
      go_wp2_with (refine wpList_append_bts rfl (.tmp 22) (.tmp 25) rfl w _ _ _ _ rfl rfl HB6.out HS6.out (by simp only [List.length_append, length_be]; omega) ?_; intro u7 W7 hB7 hg7; have HX7 := hide (HX6.out.grownB HB6.out.own hg7); have HB7 := hide hB7; clear hB7 hg7 HB6 HX6 HS6; obtain ⟨k0, k1, k2, k3, k4, f0, f1, f2, f3, f4⟩ := HX7.out.cells)
      clear k0 k1 k2 k3 k4 f0 f1 f2 f3 f4
      have e0 : be 1 1 ++ be 2 nk ++ be 4 nx = be 1 1 ++ be 2 nk ++ be 4 nx ++ flatTo 0 (encAt N) := by simp [flatTo]
      rw [e0] at HB7
      clear e0
      go_loopw [5, 4] (fun i u wr => ∃ k : Nat, k ≤ nk ∧ i = .int .i64 (k : Int) ∧ Bts w wr u (be 1 1 ++ be 2 nk ++ be 4 nx ++ flatTo k (encAt N)) ∧ Box 43 wr w.heap.size (.bool true) (.slice ak nk ck) (.slice av nv cv) (.slice ai ni ci) (.int .i64 (nx : Int))) (fun i _ _ => nk - (intOf i).toNat)
      case atStart => exact ⟨0, by omega, rfl, HB7.out, HX7.out⟩
      case round =>
        obtain ⟨k, hk, rfl, hB, hX⟩ := hrel
        generalize hA : be 1 1 ++ be 2 nk ++ be 4 nx = A0 at *
        have HA0 := hide hA
        clear hA
        by_cases hlt : k < nk
        · have HB20 := hide hB
          have HX20 := hide hX
          clear hB hX
          have HSk := hide (HS5.out k hlt)
          have HFk := hide (HF.out k)
          have HEk := hide (HEA.out k)
          have hkl := HKK.out k
          have hvl := HVV.out k
          obtain ⟨g, o, hao, hc0⟩ := HKY.out.get k (by rw [HNK.out]; exact hlt)
          subst hao
          have HGK := hide (World.block_lt_of_cell? w _ hc0)
          have hsz1 := strOf_size (N.keys.getD k [])
          obtain ⟨gv, ov, hao2, hd0⟩ := HVY.out.get k (by have := HVL.out; have := HNV.out; omega)
          subst hao2
          have hlv : k < nv := by have := HVL.out; omega
          have HGV := hide (World.block_lt_of_cell? w _ hd0)
          have hsz2 := strOf_size (N.vals.getD k [])
          generalize N.keys.getD k [] = K at *
          generalize N.vals.getD k [] = V at *
          have HLA : Hid ((A0 ++ flatTo k (encAt N)).length ≤ 504) := by have := HSk.out; rw [Hid]; omega
          generalize hAA : A0 ++ flatTo k (encAt N) = A at *
          have HAA := hide hAA
          clear hAA
          generalize hKl : K.length = kl at *
          have HKL := hide hKl
          clear hKl
          generalize hVl : V.length = vl at *
          have HVLn := hide hVl
          clear hVl
          have hc := (HB20.out.below.cell HGK.out).trans hc0
          generalize hW20 : wr = W20 at *
          have HW20 := hide hW20
          clear hW20
          obtain ⟨k0, k1, k2, k3, k4, f0, f1, f2, f3, f4⟩ := HX20.out.cells
          have HC20 := hide (two_any kl (by omega) W20)
          go_wp2_with fail
          refine HC20.out.mono ?_
          rintro e W21 ⟨v21, rfl, hb21, hs21⟩
          have HB21 := hide (HB20.out.belowW hb21)
          have HX21 := hide (HX20.out.belowW hb21)
          have HS21 := hide hs21
          clear hb21 hs21 HC20 HB20 HX20 k0 k1 k2 k3 k4 f0 f1 f2 f3 f4 hc
          go_wp2_with (first | (refine wpList_append_bts rfl (.tmp 44) (.tmp 51) rfl w _ _ _ _ rfl rfl HB21.out HS21.out (by rw [length_be]; have := HLA.out; omega) ?_; intro u22 W22 hB22 hg22; have HX22 := hide (HX21.out.grownB HB21.out.own hg22); have HB22 := hide hB22; clear hB22 hg22 HB21 HX21 HS21; obtain ⟨k0, k1, k2, k3, k4, f0, f1, f2, f3, f4⟩ := HX22.out.cells; have hc := (HB22.out.below.cell HGK.out).trans hc0) | (refine wpList_append_strB rfl (.tmp 53) (.tmp 58) rfl w _ _ _ rfl rfl HB22.out (by rw [List.length_append, length_be, HKL.out]; have := HLA.out; omega) ?_; intro u23 W23 hB23 hg23; have HX23 := hide (HX22.out.grownB HB22.out.own hg23); have HB23 := hide hB23; clear hB23 hg23 HB22 HX22 k0 k1 k2 k3 k4 f0 f1 f2 f3 f4 hc; obtain ⟨k0, k1, k2, k3, k4, f0, f1, f2, f3, f4⟩ := HX23.out.cells; have hd := (HB23.out.below.cell HGV.out).trans hd0))
          have HC23 := hide (two_any vl (by omega) W23)

          refine HC23.out.mono ?_
          rintro e W24 ⟨v24, rfl, hb24, hs24⟩
          have HB24 := hide (HB23.out.belowW hb24)
          have HX24 := hide (HX23.out.belowW hb24)
          have HS24 := hide hs24
          clear hb24 hs24 HC23 HB23 HX23 k0 k1 k2 k3 k4 f0 f1 f2 f3 f4 hd
          go_wp2_with (first | (refine wpList_append_bts rfl (.tmp 62) (.tmp 69) rfl w _ _ _ _ rfl rfl HB24.out HS24.out (by simp only [List.length_append, length_be, HKL.out]; have := HLA.out; omega) ?_; intro u25 W25 hB25 hg25; have HX25 := hide (HX24.out.grownB HB24.out.own hg25); have HB25 := hide hB25; clear hB25 hg25 HB24 HX24 HS24; obtain ⟨k0, k1, k2, k3, k4, f0, f1, f2, f3, f4⟩ := HX25.out.cells; have hd := (HB25.out.below.cell HGV.out).trans hd0) | (refine wpList_append_strB rfl (.tmp 71) (.tmp 76) rfl w _ _ _ rfl rfl HB25.out (by simp only [List.length_append, length_be, HKL.out, HVLn.out]; have := HLA.out; omega) ?_; intro u26 W26 hB26 hg26; have HX26 := hide (HX25.out.grownB HB25.out.own hg26); have HB26 := hide hB26; clear hB26 hg26 HB25 HX25 k0 k1 k2 k3 k4 f0 f1 f2 f3 f4 hd; obtain ⟨k0, k1, k2, k3, k4, f0, f1, f2, f3, f4⟩ := HX26.out.cells))
          go_roundw
          case rel =>
            refine ⟨k + 1, by omega, by go_num, ?_, HX26.out⟩
            rw [HFk.out, HEk.out]
            have hh := HB26.out
            rw [← HAA.out] at hh
            have e1 : txt K = be 2 kl ++ K := by rw [← HKL.out]; rfl
            have e2 : txt V = be 2 vl ++ V := by rw [← HVLn.out]; rfl
            rw [e1, e2]
            simp only [List.append_assoc] at hh ⊢
            exact hh
          case measure => simp [intOf]; omega
        · have hkL : k = nk := by omega
          subst hkL
          have HB20 : Hid (Bts w wr u4 N.body) := by rw [HBD.out]; exact hB
          obtain ⟨k0, k1, k2, k3, k4, f0, f1, f2, f3, f4⟩ := hX.cells
          clear hB hX
          have hb1 := build1
          go_wp2
          go_loopw [4] (fun u w2 => ∃ m : Nat, m ≤ 504 - N.body.length ∧ Bts w w2 u (N.body ++ List.replicate m 0)) (fun u _ => 504 - lenOfV u)
          case atStart => exact ⟨0, by omega, by simpa using HB20.out⟩
          case round =>
            obtain ⟨m, hm, hB⟩ := hrel
            have HB := hide hB
            obtain ⟨a9, c9, e9, _, _⟩ := hB.sl.len
            have hll : (N.body ++ List.replicate m 0).length = N.body.length + m := by simp
            rw [hll] at e9
            have hbl := HBL.out
            clear hB
            subst e9
            have HLL := hide hll
            clear hll
            generalize hbd : N.body.length = bl at *
            have HBD2 := hide hbd
            clear hbd
            by_cases hlt : bl + m < 504
            · have HX9 := hide (sl1 wr 0 (0, 0))
              have hz0 : (((0 : UInt8).toNat : Nat) : Int) = 0 := rfl
              rw [hz0] at HX9
              have q1 : (bl : Int) + (m : Int) < 504 := by omega
              go_wp2_with (refine wpList_append_bts rfl (.tmp 90) (.tmp 91) rfl w _ _ _ _ rfl rfl (HB.out.alloc _) HX9.out (by rw [HLL.out]; simp; omega) ?_; intro u9 W9 hB9 hg9)
              go_roundw
              case rel =>
                refine ⟨m + 1, by omega, ?_⟩
                rw [List.append_assoc, ← List.replicate_succ'] at hB9
                exact hB9
              case measure =>
                obtain ⟨a5, c5, e5, _, _⟩ := hB9.sl.len
                subst e5
                simp [lenOfV, HBD2.out]
                omega
            · have q1 : ¬ ((bl : Int) + (m : Int) < 504) := by omega
              have HQ1 : Hid (504 - bl = m) := by rw [Hid]; omega
              have HQ2 : Hid (sz ≤ 504) := by rw [Hid]; omega
              clear hlt hm hbl hz hz' hszk hszb hnk2 hnxl hb1
              go_wp2
              refine bodyPost_ret (results_tmp2 rfl _ _ _) rfl ?_
              refine ⟨HB.out.below, .inr (.inr ⟨hsd, by rw [HSZ.out]; exact HQ2.out, _, rfl, ?_⟩)⟩
              have e : N.page = N.body ++ List.replicate m 0 := by rw [HPG.out, HQ1.out]
              rw [e]
              have hh := HB.out.own
              rw [HLL.out] at hh ⊢
              exact hh
end Go.Proofs.Ytjcobejaldfibaa
