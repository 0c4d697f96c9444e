/- The document's answer: Put, Set. -/
import Derived.Test.YtdddeneppciiiaaRefW
namespace Go.Proofs.Ytdddeneppciiiaa
open Go.RowKit
set_option linter.unusedVariables false
set_option linter.unusedSimpArgs false

theorem results_one {fn : Func} {p : Tmp} {ty : TypeId} (h : fn.results = #[.cell p ty]) (tmps : Array Value) (w : World) (g : Nat) (t : TypeId) (cs : Array Value) (fr : Nat × Nat) (d : TypeDesc)
    (hp : tmps.getD p undef = .pointer (some ⟨g, 0, none⟩)) (hg : w.heap[g]? = some (.cells cs t fr))
    (hu : Try.prog.underlying ty = some d) (hd : d.isRow = true) (hi : (Try.prog.info? ty).map (·.size) = some cs.size) :
    (results fn tmps).run Try.prog w = .ok (.agg cs) w := by
  have hp' : tmps[p]?.getD undef = .pointer (some ⟨g, 0, none⟩) := by simpa using hp
  have hl := run_loadVar_mid (P := Try.prog) w g 0 ty cs.toList d (fun j v hv => by rw [Nat.zero_add, cell_row hg]; simpa using hv) hu hd (by rw [hi, Array.length_toList])
  simp [results, h, hp', asAddr, hl]
theorem Try.results19 : Try.f19.results = #[.cell 4 43] := rfl
theorem Try.size43 {cs : Array Value} (h : cs.size = 3) : (Try.prog.info? 43).map (·.size) = some cs.size := by rw [h]; kernel_rfl
theorem one_got (x y : Int) (a : Option Addr) (n m : Nat) : (#[.int .i64 x, .slice a n m, .int .i64 y] : Array Value).all (·.oneCell') = true := by simp [Value.oneCell']
theorem built43 (y : Int) : Try.prog.built 43 [(2, .int .i64 y)] = some #[.int .i64 0, .slice none 0 0, .int .i64 y] := by kernel_rfl
theorem built43a (x y : Int) (a : Option Addr) (n m : Nat) : Try.prog.built 43 [(0, .int .i64 x), (1, .slice a n m), (2, .int .i64 y)] = some #[.int .i64 x, .slice a n m, .int .i64 y] := by kernel_rfl
theorem sl_row {w : World} {G : Nat} {C cs : Array Value} {ty : TypeId} {ao : Option Addr} {n c : Nat} {bs : List UInt8} (h : Sl w (.slice ao n c) bs) (hG : w.heap[G]? = some (.cells C ty (0, 0))) (hne : ∀ g o, ao = some ⟨g, o, none⟩ → bs ≠ [] → g ≠ G) : Sl (w.setRow G cs) (.slice ao n c) bs := by
  obtain ⟨ao', c', e, h1, h2, h3⟩ := h
  injection e with e1 e2 e3
  subst e1 e2 e3
  refine ⟨ao, c, rfl, h1, h2, fun hx => ?_⟩
  obtain ⟨g, o, rfl, hr⟩ := h3 hx
  refine ⟨g, o, rfl, fun j u hu => ?_⟩
  have hn := hne g o rfl (fun e => hx (by rw [e]; rfl))
  have := hr j u hu
  unfold World.cell? at this ⊢
  rw [setRow_other _ _ _ _ hn]
  exact this
theorem sl_got {w : World} {G : Nat} {cs : Array Value} {ao : Option Addr} {n c : Nat} {bs : List UInt8} (h : Sl w (.slice ao n c) bs) (hG : w.heap[G]? = some (.cells #[.int .i64 0, .slice none 0 0, .int .i64 0] 43 (0, 0))) : Sl (w.setRow G cs) (.slice ao n c) bs := by
  refine sl_row h hG (fun g o ha hb e => ?_)
  subst e
  obtain ⟨g', o', e1, hc⟩ := h.get 0 (by cases bs with | nil => exact absurd rfl hb | cons x r => simp)
  rw [ha] at e1
  injection e1 with e1
  injection e1 with e2 e3
  subst e2 e3
  rw [cell_row hG, Nat.add_zero] at hc
  match o, hc with
  | 0, hc => simp at hc
  | 1, hc => simp at hc
  | 2, hc => simp at hc
  | o + 3, hc => simp at hc
def RPutEnd (w : World) (r : Int × Option (Nat × List UInt8)) (e : Ending) (w' : World) : Prop :=
  Below w.heap.size w w' ∧ match r.2 with
  | none => e = .returned (.agg #[.int .i64 0, .slice none 0 0, .int .i64 r.1])
  | some (k, X) => ∃ a c, e = .returned (.agg #[.int .i64 (k : Int), .slice a 504 c, .int .i64 0]) ∧ Sl w' (.slice a 504 c) X
theorem putS_with (g : Pg) (d : List UInt8) : g.putS d = withS g.sl g.least d := rfl
def zeroGot : Array Value := #[.int .i64 0, .slice none 0 0, .int .i64 0]
set_option maxHeartbeats 2000000 in
set_option maxRecDepth 100000 in
theorem rput_any {w : World} {v dv : Value} {bs d : List UInt8} (h : Sl w v bs) (hdv : Sl w dv d) : Calls Try.prog 19 #[v, dv] w fun e w' => RPutEnd w (putOf bs d) e w' := by
  have hB0 : Below w.heap.size w (w.alloc (.cells zeroGot 43)) := (Below.refl _ w).alloc (Nat.le_refl _) _
  have hQ0 : (w.alloc (.cells zeroGot 43)).heap[w.heap.size]? = some (.cells zeroGot 43 (0, 0)) := heap_alloc_new _ _
  have hz0 : (w.alloc (.cells zeroGot 43)).heap.size = w.heap.size + 1 := by simp
  have HD := hide hdv
  obtain ⟨da, dc, rfl, hdc, hdm⟩ := hdv.len
  simp only [maxLen] at hdm
  have h0 := h.belowW hB0
  unfold zeroGot at hB0 hQ0 hz0 h0
  cases hd : dec bs with
  | none =>
    have HE : Hid (putOf bs d = (63, none)) := by unfold putOf; rw [Hid, hd]
    have HR := hide (rread_none h0 hd)
    have HQ0 := hide hQ0
    have HB0 := hide hB0
    clear h h0 hdv hQ0 hB0
    generalize d.length = D at *
    go_enter Try.func19, Try.ntmps19
    go_wp2_with fail
    refine HR.out.mono ?_
    rintro e W1 ⟨rfl, hb1⟩
    have HQ := hide ((Below.heap_alloc W1 (.cells #[.int .i64 0, .slice none 0 0] 67) _ (by have := hb1.size; omega)).trans ((hb1.block _ (by rw [hz0]; omega)).trans HQ0.out))
    have HBE := hide ((HB0.out.trans (hb1.mono HB0.out.size)).alloc (by have := hb1.size; omega) (.cells #[.int .i64 0, .slice none 0 0] 67))
    clear HR hb1
    go_wp2_with (first | (refine wpList_build_is rfl 43 _ rfl _ (built43 63) ?_) | (refine wpList_store_row rfl 43 _ _ rfl w.heap.size #[.int .i64 0, .slice none 0 0, .int .i64 63] rfl rfl 43 _ HQ.out (Try.size43 rfl) rfl (one_got _ _ _ _ _) ?_))
    refine bodyPost_ret (v := .agg #[.int .i64 0, .slice none 0 0, .int .i64 63]) (results_one Try.results19 _ _ w.heap.size 43 _ (0, 0) _ rfl (setRow_heap _ _ _ _ _ _ HQ.out) Try.underlying43 rfl (Try.size43 rfl)) rfl ?_
    refine ⟨below_setRow HBE.out (Nat.le_refl _) _, ?_⟩
    rw [HE.out]
  | some g =>
    have hgood := (enc_dec hd).1
    have HR := hide (rread_some h0 hd)
    have HQ0 := hide hQ0
    have HB0 := hide hB0
    have HGS := hide hgood.size
    have hgs : g.size = 6 + 4 * g.sl.length + blen g.sl := rfl
    have hlen2 : g.sl.length ≤ 200 := by have := hgood.size; omega
    by_cases h480 : 480 < d.length
    · have HE : Hid (putOf bs d = (1, none)) := by unfold putOf; rw [Hid, hd]; simp only [if_pos h480]
      have h480I : (480 : Int) < (d.length : Int) := by omega
      clear h h0 hdv hQ0 hB0 hd hgs
      generalize d.length = D at *
      go_enter Try.func19, Try.ntmps19
      go_wp2_with fail
      refine HR.out.mono ?_
      rintro e W1 ⟨ao, c, rfl, ho⟩
      have hb1 := ho.1
      have HQ := hide ((Below.heap_alloc W1 (.cells #[.int .i64 (g.next : Int), .slice ao g.sl.length c] 67) _ (by have := hb1.size; omega)).trans ((hb1.block _ (by rw [hz0]; omega)).trans HQ0.out))
      have HBE := hide ((HB0.out.trans (hb1.mono HB0.out.size)).alloc (by have := hb1.size; omega) (.cells #[.int .i64 (g.next : Int), .slice ao g.sl.length c] 67))
      clear HR hb1 ho
      go_wp2_with (first | (refine wpList_build_is rfl 43 _ rfl _ (built43 1) ?_) | (refine wpList_store_row rfl 43 _ _ rfl w.heap.size #[.int .i64 0, .slice none 0 0, .int .i64 1] rfl rfl 43 _ HQ.out (Try.size43 rfl) rfl (one_got _ _ _ _ _) ?_))
      refine bodyPost_ret (v := .agg #[.int .i64 0, .slice none 0 0, .int .i64 1]) (results_one Try.results19 _ _ w.heap.size 43 _ (0, 0) _ rfl (setRow_heap _ _ _ _ _ _ HQ.out) Try.underlying43 rfl (Try.size43 rfl)) rfl ?_
      refine ⟨below_setRow HBE.out (Nat.le_refl _) _, ?_⟩
      rw [HE.out]
    · have hdl : d.length ≤ 480 := by omega
      have h480I : ¬ ((480 : Int) < (d.length : Int)) := by omega
      have HE : Hid (putOf bs d = if 504 < tsize (g.putS d) then (60, none) else (0, some (g.least, (g.put d).enc))) := by unfold putOf; rw [Hid, hd]; simp only [if_neg h480]
      have htl : tsize (g.putS d) ≤ 100000 := by
        have := hgood.size
        unfold Pg.putS
        split
        · simp only [tsize, List.length_append, List.length_singleton, blen_append, blen, slen, Option.getD_some]; omega
        · have := least_le g
          have := blen_set g.sl g.least (some d) (by omega)
          simp only [tsize, List.length_set, slen, Option.getD_some] at this ⊢; omega
      have HLA := fun k hn h hk => hide (@least_at g.sl k h hk hn)
      have HLL := hide (least_le g)
      have HWT : Hid (∀ W, Below w.heap.size w W → ∀ ao c, RSAt W (.slice ao g.sl.length c) g.sl → Calls Try.prog 35 #[.agg #[.int .i64 (g.next : Int), .slice ao g.sl.length c], .int .i64 (g.least : Int), .slice da d.length dc] W fun e w' => WithEnd W (g.next : Int) g.sl (g.putS d) ao c e w') := fun W hb ao c hr => with_any hr (HD.out.belowW hb) g.next g.least (least_le g) hlen2 htl
      have hgn := hgood.next
      have HGN := hide hgn
      clear h h0 hdv hQ0 hB0 hd hgs hgood
      generalize hDD : d.length = D at *
      generalize hLL : g.sl.length = L at *
      go_enter Try.func19, Try.ntmps19
      go_wp2_with fail
      refine HR.out.mono ?_
      rintro e W1 ⟨ao, c, rfl, ho⟩
      have HX := hide (RBox.new (nx := (g.next : Int)) ho)
      have hb1 := ho.1
      have HQ1 := hide ((Below.heap_alloc W1 (.cells #[.int .i64 (g.next : Int), .slice ao L c] 67) _ (by have := hb1.size; omega)).trans ((hb1.block _ (by rw [hz0]; omega)).trans HQ0.out))
      have HB1 := hide ((HB0.out.trans (hb1.mono HB0.out.size)).alloc (by have := hb1.size; omega) (.cells #[.int .i64 (g.next : Int), .slice ao L c] 67))
      clear HR hb1 ho
      go_upto_region 6 with fail
      generalize W1.alloc (.cells #[.int .i64 (g.next : Int), .slice ao L c] 67) = W2 at *
      generalize W1.heap.size = b at *
      have x0 := HX.out.c0
      have x1 := HX.out.c1
      go_wp2
      go_loop [7] (fun i => ∃ k : Nat, k ≤ L ∧ i = .int .i64 (k : Int) ∧ ∀ j, j < k → (g.sl.getD j none).isSome = true) (fun i => L - (intOf i).toNat)
      case atStart => exact ⟨0, Nat.zero_le _, rfl, fun j hj => absurd hj (Nat.not_lt_zero _)⟩
      case round =>
        obtain ⟨k, hk, rfl, hall⟩ := hrel
        have HH := hide hall
        clear hall
        by_cases hlt : k < L
        · obtain ⟨gg, oo, hao, k1, _⟩ := HX.out.own.at.get k (by omega)
          have hg1 := World.block_lt_of_cell? W2 _ k1
          cases hb : (g.sl.getD k none).isSome with
          | true =>
            rw [hb] at k1
            have HT := hide hb
            subst hao
            clear hb hLL
            go_wp2
            go_round
            case rel =>
              refine ⟨k + 1, by omega, by go_num, fun j hj => ?_⟩
              rcases Nat.lt_or_ge j k with h | h
              · exact HH.out j h
              · have : j = k := by omega
                subst this; exact HT.out
            case measure => simp [intOf]; omega
          | false =>
            rw [hb] at k1
            have hle : g.least = k := (HLA k (.inr hb) HH.out (by omega)).out
            subst hao
            clear hb
            rw [hle] at HWT HE
            have HW := hide (HWT.out W2 HB1.out _ _ HX.out.own.at)
            clear hLL hle
            go_wp2_with fail
            refine HW.out.mono ?_
            rintro e W3 ⟨hb3, hres⟩
            have HB3 := hide (HB1.out.trans (hb3.mono HB1.out.size))
            have HQ3 := hide ((hb3.block _ (lt_of_heap HQ1.out)).trans HQ1.out)
            by_cases hT : 504 < tsize (g.putS d)
            · rw [if_pos hT] at hres
              rw [if_pos hT] at HE
              subst hres
              have HQ := hide ((Below.heap_alloc W3 (.cells #[.int .i64 (g.next : Int), .slice (some ⟨gg, oo, none⟩) g.sl.length c] 67) _ (lt_of_heap HQ3.out)).trans HQ3.out)
              have HBE := hide (HB3.out.alloc HB3.out.size (.cells #[.int .i64 (g.next : Int), .slice (some ⟨gg, oo, none⟩) g.sl.length c] 67))
              clear hb3 HW
              go_wp2_with (first | (refine wpList_build_is rfl 43 _ rfl _ (built43 60) ?_) | (refine wpList_store_row rfl 43 _ _ rfl w.heap.size #[.int .i64 0, .slice none 0 0, .int .i64 60] rfl rfl 43 _ HQ.out (Try.size43 rfl) rfl (one_got _ _ _ _ _) ?_))
              refine bodyPost_ret (v := .agg #[.int .i64 0, .slice none 0 0, .int .i64 60]) (results_one Try.results19 _ _ w.heap.size 43 _ (0, 0) _ rfl (setRow_heap _ _ _ _ _ _ HQ.out) Try.underlying43 rfl (Try.size43 rfl)) rfl ?_
              refine ⟨below_setRow HBE.out (Nat.le_refl _) _, ?_⟩
              rw [HE.out]
            · rw [if_neg hT] at hres
              rw [if_neg hT] at HE
              obtain ⟨a4, c4, rfl, ho4⟩ := hres
              have HX4 := hide (RBox.new (nx := (g.next : Int)) ho4)
              have HQ4 := hide ((Below.heap_alloc W3 (.cells #[.int .i64 (g.next : Int), .slice a4 (g.putS d).length c4] 67) _ (lt_of_heap HQ3.out)).trans HQ3.out)
              have HB4 := hide (HB3.out.alloc HB3.out.size (.cells #[.int .i64 (g.next : Int), .slice a4 (g.putS d).length c4] 67))
              have HBY := hide (rbytes_sl (g := g.put d) HX4.out HGN.out (show tsize (g.putS d) ≤ 504 by omega))
              have HBY : Hid (Calls Try.prog 33 #[.agg #[.int .i64 (g.next : Int), .slice a4 (g.putS d).length c4]] (W3.alloc (.cells #[.int .i64 (g.next : Int), .slice a4 (g.putS d).length c4] 67)) fun e w' => ∃ a' c', e = .returned (.slice a' 504 c') ∧ Sl w' (.slice a' 504 c') (g.put d).enc ∧ Below (W3.alloc (.cells #[.int .i64 (g.next : Int), .slice a4 (g.putS d).length c4] 67)).heap.size (W3.alloc (.cells #[.int .i64 (g.next : Int), .slice a4 (g.putS d).length c4] 67)) w') := HBY.out
              clear hb3 HW ho4 HX4
              generalize (g.putS d).length = LP at *
              go_wp2_with fail
              refine HBY.out.mono ?_
              rintro e W5 ⟨a5, c5, rfl, hs5, hb5⟩
              have HQ := hide ((hb5.block _ (lt_of_heap HQ4.out)).trans HQ4.out)
              have HBE := hide (HB4.out.trans (hb5.mono HB4.out.size))
              have HS5 := hide hs5
              clear hb5 HBY hs5
              go_wp2_with (first | (refine wpList_build_is rfl 43 _ rfl _ (built43a _ _ _ _ _) ?_) | (refine wpList_store_row rfl 43 _ _ rfl w.heap.size #[.int .i64 (k : Int), .slice a5 504 c5, .int .i64 0] rfl rfl 43 _ HQ.out (Try.size43 rfl) rfl (one_got _ _ _ _ _) ?_))
              refine bodyPost_ret (v := .agg #[.int .i64 (k : Int), .slice a5 504 c5, .int .i64 0]) (results_one Try.results19 _ _ w.heap.size 43 _ (0, 0) _ rfl (setRow_heap _ _ _ _ _ _ HQ.out) Try.underlying43 rfl (Try.size43 rfl)) rfl ?_
              refine ⟨below_setRow HBE.out (Nat.le_refl _) _, ?_⟩
              rw [HE.out]
              exact ⟨_, _, rfl, sl_got HS5.out HQ.out⟩
        · have hkL : k = L := by omega
          have hle : g.least = k := (HLA k (.inl hkL) HH.out (by omega)).out
          have hkI : ¬ ((k : Int) < (L : Int)) := by omega
          clear hkL
          rw [hle] at HWT HE
          have HW := hide (HWT.out W2 HB1.out _ _ HX.out.own.at)
          clear hLL hle
          go_wp2_with fail
          refine HW.out.mono ?_
          rintro e W3 ⟨hb3, hres⟩
          have HB3 := hide (HB1.out.trans (hb3.mono HB1.out.size))
          have HQ3 := hide ((hb3.block _ (lt_of_heap HQ1.out)).trans HQ1.out)
          by_cases hT : 504 < tsize (g.putS d)
          · rw [if_pos hT] at hres
            rw [if_pos hT] at HE
            subst hres
            have HQ := hide ((Below.heap_alloc W3 (.cells #[.int .i64 (g.next : Int), .slice ao g.sl.length c] 67) _ (lt_of_heap HQ3.out)).trans HQ3.out)
            have HBE := hide (HB3.out.alloc HB3.out.size (.cells #[.int .i64 (g.next : Int), .slice ao g.sl.length c] 67))
            clear hb3 HW
            go_wp2_with (first | (refine wpList_build_is rfl 43 _ rfl _ (built43 60) ?_) | (refine wpList_store_row rfl 43 _ _ rfl w.heap.size #[.int .i64 0, .slice none 0 0, .int .i64 60] rfl rfl 43 _ HQ.out (Try.size43 rfl) rfl (one_got _ _ _ _ _) ?_))
            refine bodyPost_ret (v := .agg #[.int .i64 0, .slice none 0 0, .int .i64 60]) (results_one Try.results19 _ _ w.heap.size 43 _ (0, 0) _ rfl (setRow_heap _ _ _ _ _ _ HQ.out) Try.underlying43 rfl (Try.size43 rfl)) rfl ?_
            refine ⟨below_setRow HBE.out (Nat.le_refl _) _, ?_⟩
            rw [HE.out]
          · rw [if_neg hT] at hres
            rw [if_neg hT] at HE
            obtain ⟨a4, c4, rfl, ho4⟩ := hres
            have HX4 := hide (RBox.new (nx := (g.next : Int)) ho4)
            have HQ4 := hide ((Below.heap_alloc W3 (.cells #[.int .i64 (g.next : Int), .slice a4 (g.putS d).length c4] 67) _ (lt_of_heap HQ3.out)).trans HQ3.out)
            have HB4 := hide (HB3.out.alloc HB3.out.size (.cells #[.int .i64 (g.next : Int), .slice a4 (g.putS d).length c4] 67))
            have HBY := hide (rbytes_sl (g := g.put d) HX4.out HGN.out (show tsize (g.putS d) ≤ 504 by omega))
            have HBY : Hid (Calls Try.prog 33 #[.agg #[.int .i64 (g.next : Int), .slice a4 (g.putS d).length c4]] (W3.alloc (.cells #[.int .i64 (g.next : Int), .slice a4 (g.putS d).length c4] 67)) fun e w' => ∃ a' c', e = .returned (.slice a' 504 c') ∧ Sl w' (.slice a' 504 c') (g.put d).enc ∧ Below (W3.alloc (.cells #[.int .i64 (g.next : Int), .slice a4 (g.putS d).length c4] 67)).heap.size (W3.alloc (.cells #[.int .i64 (g.next : Int), .slice a4 (g.putS d).length c4] 67)) w') := HBY.out
            clear hb3 HW ho4 HX4
            generalize (g.putS d).length = LP at *
            go_wp2_with fail
            refine HBY.out.mono ?_
            rintro e W5 ⟨a5, c5, rfl, hs5, hb5⟩
            have HQ := hide ((hb5.block _ (lt_of_heap HQ4.out)).trans HQ4.out)
            have HBE := hide (HB4.out.trans (hb5.mono HB4.out.size))
            have HS5 := hide hs5
            clear hb5 HBY hs5
            go_wp2_with (first | (refine wpList_build_is rfl 43 _ rfl _ (built43a _ _ _ _ _) ?_) | (refine wpList_store_row rfl 43 _ _ rfl w.heap.size #[.int .i64 (k : Int), .slice a5 504 c5, .int .i64 0] rfl rfl 43 _ HQ.out (Try.size43 rfl) rfl (one_got _ _ _ _ _) ?_))
            refine bodyPost_ret (v := .agg #[.int .i64 (k : Int), .slice a5 504 c5, .int .i64 0]) (results_one Try.results19 _ _ w.heap.size 43 _ (0, 0) _ rfl (setRow_heap _ _ _ _ _ _ HQ.out) Try.underlying43 rfl (Try.size43 rfl)) rfl ?_
            refine ⟨below_setRow HBE.out (Nat.le_refl _) _, ?_⟩
            rw [HE.out]
            exact ⟨_, _, rfl, sl_got HS5.out HQ.out⟩
end Go.Proofs.Ytdddeneppciiiaa
