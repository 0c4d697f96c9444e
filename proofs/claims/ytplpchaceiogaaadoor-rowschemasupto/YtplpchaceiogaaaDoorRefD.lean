/- The document's Decode. -/
import Derived.Test.YtplpchaceiogaaaDoorRefE
import Derived.Test.YtplpchaceiogaaaDoorSplit
namespace Go.Proofs.YtplpchaceiogaaaDoor
set_option maxRecDepth 100000
open Go.RowKit
set_option linter.unusedVariables false
set_option linter.unusedSimpArgs false

theorem Tryd.size66 : (Tryd.prog.info? 66).map (·.size) = some 6 := by kernel_rfl
def zeroG : Array Value := #[.int .i64 0, .int .i64 0, .string { data := #[] }, .bool false, .int .i64 0, .bool false]
def gotV (p : Vl × Nat) : Array Value := #[.int .i64 p.1.ty, .int .i64 p.1.n, .string (strOf p.1.t), .bool p.1.b, .int .i64 (p.2 : Int), .bool true]
theorem set6 {w : World} {b : Nat} {a0 a1 a2 a3 a4 a5 : Value} (h : w.heap[b]? = some (.cells #[a0, a1, a2, a3, a4, a5] 66 (0, 0))) (v0 v1 v2 v3 v4 v5 : Value) :
    ((((((w.setCell ⟨b, 0, none⟩ v0).setCell ⟨b, 1, none⟩ v1).setCell ⟨b, 2, none⟩ v2).setCell ⟨b, 3, none⟩ v3).setCell ⟨b, 4, none⟩ v4).setCell ⟨b, 5, none⟩ v5).heap[b]? = some (.cells #[v0, v1, v2, v3, v4, v5] 66 (0, 0)) := by
  rw [heap_set_same _ (heap_set_same _ (heap_set_same _ (heap_set_same _ (heap_set_same _ (heap_set_same _ h)))))]
  rfl
theorem below6 {w0 w : World} {b : Nat} (h : Below b w0 w) (v0 v1 v2 v3 v4 v5 : Value) :
    Below b w0 ((((((w.setCell ⟨b, 0, none⟩ v0).setCell ⟨b, 1, none⟩ v1).setCell ⟨b, 2, none⟩ v2).setCell ⟨b, 3, none⟩ v3).setCell ⟨b, 4, none⟩ v4).setCell ⟨b, 5, none⟩ v5) :=
  (((((h.setCell (Nat.le_refl _) _).setCell (Nat.le_refl _) _).setCell (Nat.le_refl _) _).setCell (Nat.le_refl _) _).setCell (Nat.le_refl _) _).setCell (Nat.le_refl _) _
def decG (bs : List UInt8) : Value := match dec bs with
  | none => .agg #[.int .i64 0, .int .i64 0, .string { data := #[] }, .bool false, .int .i64 0, .bool false]
  | some p => .agg (gotV p)
set_option maxHeartbeats 8000000 in
set_option maxRecDepth 100000 in
theorem rdecode_any {w : World} {v : Value} {bs : List UInt8} (h : Sl w v bs) (hl : bs.length ≤ 500000000) :
    Calls Tryd.prog 36 #[v] w fun e w' => e = .returned (decG bs) ∧ Below w.heap.size w w' := by
  obtain ⟨ao, c, rfl, hc1, hc2⟩ := h.len
  simp only [maxLen] at hc2
  cases hbs : bs with
  | nil =>
    subst hbs
    clear h
    have HV : Hid (decG [] = .agg #[.int .i64 0, .int .i64 0, .string { data := #[] }, .bool false, .int .i64 0, .bool false]) := rfl
    go_enter Tryd.func36, Tryd.ntmps36
    go_wp2
    refine bodyPost_ret (v := .agg #[.int .i64 0, .int .i64 0, .string { data := #[] }, .bool false, .int .i64 0, .bool false]) (results_cell_row Tryd.results36 _ _ w.heap.size 66 #[.int .i64 0, .int .i64 0, .string { data := #[] }, .bool false, .int .i64 0, .bool false] (0, 0) _ rfl (heap_alloc_new w _) Tryd.underlying66 rfl Tryd.size66) rfl ?_
    rw [HV.out]
    exact ⟨rfl, (Below.refl _ _).alloc (Nat.le_refl _) _⟩
  | cons x r =>
    obtain ⟨g, o, hao, k1⟩ := h.get 0 (by rw [hbs]; simp)
    have k1 : w.cell? ⟨g, o, none⟩ = some (.int .u8 (x.toNat : Int)) := by simpa [hbs] using k1
    subst hao
    have H := hide h
    have HGT : Hid (∀ W k, Below w.heap.size w W → k < r.length → W.cell? ⟨g, o + (k + 1), none⟩ = some (.int .u8 ((r.getD k 0).toNat : Int))) := fun W k hW hk => by
      obtain ⟨g', o', e, kk⟩ := (h.belowW hW).get (k + 1) (by rw [hbs]; simp; omega)
      injection e with e
      injection e with e1 e2
      subst e1 e2
      rw [kk, hbs]
      simp
    have hRL : r.length + 1 = bs.length := by rw [hbs]; simp
    have hL1 : 1 ≤ bs.length := by omega
    have hne : ¬ ((bs.length : Int) = 0) := by omega
    have HRL := hide hRL
    clear h hRL
    rw [← hbs]
    have HBS := hide hbs
    clear hbs
    generalize bs.length = L at *
    have hgl := World.block_lt_of_cell? w _ k1
    by_cases h0 : x = 0
    · subst h0
      have k1 : w.cell? ⟨g, o, none⟩ = some (.int .u8 0) := k1
      have HV : Hid (decG bs = .agg #[.int .i64 0, .int .i64 0, .string { data := #[] }, .bool false, .int .i64 1, .bool true]) := by rw [Hid, HBS.out]; rfl
      go_enter Tryd.func36, Tryd.ntmps36
      go_wp2
      refine bodyPost_ret (v := .agg #[.int .i64 0, .int .i64 0, .string { data := #[] }, .bool false, .int .i64 1, .bool true]) (results_cell_row Tryd.results36 _ _ w.heap.size 66 #[.int .i64 0, .int .i64 0, .string { data := #[] }, .bool false, .int .i64 1, .bool true] (0, 0) _ rfl (heap_alloc_new w _) Tryd.underlying66 rfl Tryd.size66) rfl ?_
      rw [HV.out]
      exact ⟨rfl, (Below.refl _ _).alloc (Nat.le_refl _) _⟩
    · by_cases h1 : x = 1
      · subst h1
        have k1 : w.cell? ⟨g, o, none⟩ = some (.int .u8 1) := k1
        by_cases hl8 : r.length < 8
        · have HV : Hid (decG bs = .agg #[.int .i64 0, .int .i64 0, .string { data := #[] }, .bool false, .int .i64 0, .bool false]) := by rw [Hid, HBS.out]; simp [decG, dec, hl8]
          have hL9 : (L : Int) < 9 := by have := HRL.out; omega
          clear hl8
          go_enter Tryd.func36, Tryd.ntmps36
          go_wp2
          refine bodyPost_ret (v := .agg #[.int .i64 0, .int .i64 0, .string { data := #[] }, .bool false, .int .i64 0, .bool false]) (results_cell_row Tryd.results36 _ _ w.heap.size 66 #[.int .i64 0, .int .i64 0, .string { data := #[] }, .bool false, .int .i64 0, .bool false] (0, 0) _ rfl (heap_alloc_new w _) Tryd.underlying66 rfl Tryd.size66) rfl ?_
          rw [HV.out]
          exact ⟨rfl, (Below.refl _ _).alloc (Nat.le_refl _) _⟩
        · have HV : Hid (decG bs = .agg #[.int .i64 1, .int .i64 (back (beval (r.take 8))), .string { data := #[] }, .bool false, .int .i64 9, .bool true]) := by rw [Hid, HBS.out]; simp [decG, dec, hl8, gotV, strOf]
          have hL9 : ¬ ((L : Int) < 9) := by have := HRL.out; omega
          have HG8 : Hid (∀ k, k < 8 → (w.alloc (.cells #[.int .i64 0, .int .i64 0, .string { data := #[] }, .bool false, .int .i64 0, .bool false] 66)).cell? ⟨g, o + (k + 1), none⟩ = some (.int .u8 ((r[k]?.getD 0).toNat : Int))) := fun k hk => by simpa using HGT.out _ k ((Below.refl _ _).alloc (Nat.le_refl _) _) (by omega)
          have HT : Hid (∀ k, k < 8 → beval (r.take (k + 1)) = beval (r.take k) * 256 + (r[k]?.getD 0).toNat) := fun k hk => by
            have hk' : k < r.length := by omega
            rw [List.take_succ_eq_append_getElem hk', beval_snoc, List.getElem?_eq_getElem hk']
            rfl
          have HX : Hid (wrap64 (bits .xor .u64 ((beval (r.take 8) : Nat) : Int) 9223372036854775808) = back (beval (r.take 8))) := by
            have := xor_back _ (beval8_lt r)
            rw [wrapEq] at this
            exact this
          have hLb : 9 ≤ L := by have := HRL.out; omega
          clear hl8
          go_enter Tryd.func36, Tryd.ntmps36
          go_wp2
          go_loop [4, 3] (fun i v => ∃ k : Nat, k ≤ 8 ∧ i = .int .i64 ((k : Int) + 1) ∧ v = .int .u64 (beval (r.take k) : Nat)) (fun i _ => 9 - (intOf i).toNat)
          case atStart => exact ⟨0, by omega, rfl, rfl⟩
          case round =>
            obtain ⟨k, hk, rfl, rfl⟩ := hrel
            by_cases hlt : k < 8
            · have hcell := HG8.out k hlt
              have hb1 := beval_take_lt r k (by omega)
              have hb2 := (r[k]?.getD 0).toNat_lt
              have HTk := hide (HT.out k hlt)
              generalize beval (r.take k) = p at *
              generalize (r[k]?.getD 0).toNat = y at *
              go_wp2
              go_round
              case rel =>
                refine ⟨k + 1, by omega, by go_num, ?_⟩
                rw [HTk.out]
                congr 1
                omega
              case measure => simp [intOf]; omega
            · have hk8 : k = 8 := by omega
              subst hk8
              have hb3 := beval8_lt r
              have hxx := HX.out
              go_wp2
              refine bodyPost_ret (v := .agg #[.int .i64 1, .int .i64 (back (beval (r.take 8))), .string { data := #[] }, .bool false, .int .i64 9, .bool true]) (results_cell_row Tryd.results36 _ _ w.heap.size 66 #[.int .i64 1, .int .i64 (back (beval (r.take 8))), .string { data := #[] }, .bool false, .int .i64 9, .bool true] (0, 0) _ rfl (heap_alloc_new w _) Tryd.underlying66 rfl Tryd.size66) rfl ?_
              rw [HV.out]
              exact ⟨rfl, (Below.refl _ _).alloc (Nat.le_refl _) _⟩
      · by_cases h2 : x = 2
        · subst h2
          have k1 : w.cell? ⟨g, o, none⟩ = some (.int .u8 2) := k1
          have HD : Hid (∀ k, k < r.length → r.drop k = r.getD k 0 :: r.drop (k + 1)) := fun k hk => drop_one r k hk
          have HN : Hid (r.drop r.length = []) := by simp [Hid]
          have HVV : Hid (decG bs = match decA [] 0 r with | none => .agg #[.int .i64 0, .int .i64 0, .string { data := #[] }, .bool false, .int .i64 0, .bool false] | some q => .agg #[.int .i64 2, .int .i64 0, .string (strOf q.1), .bool false, .int .i64 ((q.2 : Int) + 1), .bool true]) := by
            rw [Hid, HBS.out]
            unfold decG
            simp only [dec]
            rw [if_neg (by decide), if_neg (by decide), if_pos trivial]
            cases decA [] 0 r with
            | none => rfl
            | some q => simp [gotV]
          have HQ0 : Hid ((w.alloc (.cells #[.int .i64 0, .int .i64 0, .string { data := #[] }, .bool false, .int .i64 0, .bool false] 66)).heap[w.heap.size]? = some (.cells #[.int .i64 0, .int .i64 0, .string { data := #[] }, .bool false, .int .i64 0, .bool false] 66 (0, 0))) := heap_alloc_new w _
          have HB0 : Hid (Below w.heap.size w (w.alloc (.cells #[.int .i64 0, .int .i64 0, .string { data := #[] }, .bool false, .int .i64 0, .bool false] 66))) := (Below.refl _ _).alloc (Nat.le_refl _) _
          generalize hR : r.length = R at *
          have hRLa : R + 1 ≤ L := by have := HRL.out; omega
          have hRLb : L ≤ R + 1 := by have := HRL.out; omega
          have HRE := hide hR
          clear hR
          go_enter Tryd.func36, Tryd.ntmps36
          go_wp2
          obtain ⟨b, hbz⟩ : ∃ b, w.heap.size = b := ⟨_, rfl⟩
          rw [hbz] at HQ0 ⊢
          have HBZ := hide hbz
          clear hbz
          go_loopw [6, 5] (fun i u wr => ∃ (k : Nat) (acc : List UInt8), k ≤ R ∧ i = .int .i64 ((k : Int) + 1) ∧ acc.length ≤ k ∧ decA acc k (r.drop k) = decA [] 0 r ∧ Bts w wr u acc ∧ wr.heap[b]? = some (.cells #[.int .i64 0, .int .i64 0, .string { data := #[] }, .bool false, .int .i64 0, .bool false] 66 (0, 0))) (fun i _ _ => L - (intOf i).toNat)
          case atStart => exact ⟨0, [], by omega, rfl, by simp, by simp, Bts.nil HB0.out, HQ0.out⟩
          case round =>
            obtain ⟨k, acc, hk, rfl, hal, hdec, hB, hQ⟩ := hrel
            have HB := hide hB
            have HQ := hide hQ
            have HDE := hide hdec
            have hfz : ∀ j, wr.frozen? ⟨b, j, none⟩ = false := fun j => frozen_row hQ
            have z0 := cell_row (o := 0) hQ
            have z1 := cell_row (o := 1) hQ
            have z2 := cell_row (o := 2) hQ
            have z3 := cell_row (o := 3) hQ
            have z4 := cell_row (o := 4) hQ
            have z5 := cell_row (o := 5) hQ
            simp only [List.getElem?_toArray, List.getElem?_cons_zero, List.getElem?_cons_succ] at z0 z1 z2 z3 z4 z5
            clear hB hQ hdec HB0 HQ0
            by_cases hlt : k < R
            · have kc := HGT.out wr k HB.out.below hlt
              have HDk := hide (HD.out k hlt)
              have hb1 := build1
              have hgl2 := World.block_lt_of_cell? wr _ kc
              by_cases hx : r.getD k 0 = 0
              · rw [hx] at kc HDk
                have kc : wr.cell? ⟨g, o + (k + 1), none⟩ = some (.int .u8 0) := kc
                clear hx
                by_cases hlt2 : k + 1 < R
                · have ky := HGT.out wr (k + 1) HB.out.below hlt2
                  have HDk1 := hide (HD.out (k + 1) hlt2)
                  have hnL : ¬ ((k : Int) + 1 + 1 = (L : Int)) := by omega
                  by_cases hy0 : r.getD (k + 1) 0 = 0
                  · rw [hy0] at ky HDk1
                    have ky : wr.cell? ⟨g, o + (k + 1 + 1), none⟩ = some (.int .u8 0) := ky
                    have HV : Hid (decG bs = .agg #[.int .i64 2, .int .i64 0, .string (strOf acc), .bool false, .int .i64 ((k : Int) + 1 + 2), .bool true]) := by
                      rw [Hid, HVV.out, ← HDE.out, HDk.out, HDk1.out, decA_zz]
                      simp only
                      rw [show ((k + 2 : Nat) : Int) + 1 = (k : Int) + 1 + 2 by omega]
                    have HST := hide (HB.out.sl)
                    obtain ⟨au, cu, eu, _, _⟩ := HST.out.len
                    rw [eu] at HST
                    subst eu
                    have hconv := run_str HST.out
                    clear hy0 HDk1 HDk
                    go_wp2
                    refine bodyPost_ret (v := .agg #[.int .i64 2, .int .i64 0, .string (strOf acc), .bool false, .int .i64 ((k : Int) + 1 + 2), .bool true]) (results_cell_row Tryd.results36 _ _ b 66 #[.int .i64 2, .int .i64 0, .string (strOf acc), .bool false, .int .i64 ((k : Int) + 1 + 2), .bool true] (0, 0) _ rfl (set6 HQ.out _ _ _ _ _ _) Tryd.underlying66 rfl Tryd.size66) rfl ?_
                    rw [HV.out]
                    refine ⟨rfl, ?_⟩
                    have hbz := HBZ.out
                    subst hbz
                    exact below6 HB.out.below _ _ _ _ _ _
                  · by_cases hy1 : r.getD (k + 1) 0 = 255
                    · rw [hy1] at ky HDk1
                      have ky : wr.cell? ⟨g, o + (k + 1 + 1), none⟩ = some (.int .u8 255) := ky
                      have HX : Hid (∀ w : World, Sl (w.alloc (.cells #[.int .u8 0] 5)) (.slice (some ⟨w.heap.size, 0, none⟩) 1 1) [0]) := fun w => sl1 w 0
                      clear hy0 hy1 z0 z1 z2 z3 z4 z5 hfz hRLb hnL
                      go_wp2_with (refine wpList_append_bts rfl (.tmp 95) (.tmp 96) rfl w _ _ _ _ rfl rfl (HB.out.alloc _) (HX.out _) (by simp; omega) ?_; intro u3 W3 hB3 hg3)
                      go_roundw
                      case rel =>
                        refine ⟨k + 2, acc ++ [0], by omega, by go_num, by simp; omega, ?_, hB3, grown_rec (HB.out.alloc _).own hg3 ((Below.heap_alloc _ _ _ (lt_of_heap HQ.out)).trans HQ.out) (by decide)⟩
                        rw [← HDE.out, HDk.out, HDk1.out, decA_zf]
                      case measure => simp [intOf]; omega
                    · have hn0 := u8_ne _ hy0
                      have hn1 : (((r.getD (k + 1) 0).toNat : Int) == 255) = false := beq_eq_false_iff_ne.2 fun e => hy1 (UInt8.toNat_inj.1 (by show _ = 255; omega))
                      have hm0 : (((r.getD (k + 1) 0).toNat : Int) != 0) = true := by simp only [bne, hn0]; rfl
                      have hm1 : (((r.getD (k + 1) 0).toNat : Int) != 255) = true := by simp only [bne, hn1]; rfl
                      have HV : Hid (decG bs = .agg #[.int .i64 0, .int .i64 0, .string { data := #[] }, .bool false, .int .i64 0, .bool false]) := by
                        rw [Hid, HVV.out, ← HDE.out, HDk.out, HDk1.out, decA_zx _ _ _ _ hy0 hy1]
                      clear hy0 hy1 HDk1 HDk
                      generalize ((r.getD (k + 1) 0).toNat : Int) = y at *
                      go_wp2
                      refine bodyPost_ret (v := .agg #[.int .i64 0, .int .i64 0, .string { data := #[] }, .bool false, .int .i64 0, .bool false]) (results_cell_row Tryd.results36 _ _ b 66 #[.int .i64 0, .int .i64 0, .string { data := #[] }, .bool false, .int .i64 0, .bool false] (0, 0) _ rfl (set6 HQ.out _ _ _ _ _ _) Tryd.underlying66 rfl Tryd.size66) rfl ?_
                      rw [HV.out]
                      refine ⟨rfl, ?_⟩
                      have hbz := HBZ.out
                      subst hbz
                      exact below6 HB.out.below _ _ _ _ _ _
                · have hk1 : k + 1 = R := by omega
                  have HV : Hid (decG bs = .agg #[.int .i64 0, .int .i64 0, .string { data := #[] }, .bool false, .int .i64 0, .bool false]) := by
                    rw [Hid, HVV.out, ← HDE.out, HDk.out, hk1, HN.out, decA_z]
                  have hyL : (k : Int) + 1 + 1 = (L : Int) := by omega
                  have hyb : ((k : Int) + 1 + 1 == (L : Int)) = true := beq_iff_eq.2 hyL
                  clear hk1 HDk hyL
                  go_wp2
                  refine bodyPost_ret (v := .agg #[.int .i64 0, .int .i64 0, .string { data := #[] }, .bool false, .int .i64 0, .bool false]) (results_cell_row Tryd.results36 _ _ b 66 #[.int .i64 0, .int .i64 0, .string { data := #[] }, .bool false, .int .i64 0, .bool false] (0, 0) _ rfl (set6 HQ.out _ _ _ _ _ _) Tryd.underlying66 rfl Tryd.size66) rfl ?_
                  rw [HV.out]
                  refine ⟨rfl, ?_⟩
                  have hbz := HBZ.out
                  subst hbz
                  exact below6 HB.out.below _ _ _ _ _ _
              · have hne' := u8_ne _ hx
                have hne2 : (((r.getD k 0).toNat : Int) != 0) = true := by simp only [bne, hne']; rfl
                have HX := hide (fun w => sl1 w (r.getD k 0))
                have HDX : Hid (decA acc k (r.getD k 0 :: r.drop (k + 1)) = decA (acc ++ [r.getD k 0]) (k + 1) (r.drop (k + 1))) := decA_nz _ _ _ _ hx
                clear hx z0 z1 z2 z3 z4 z5 hfz hRLb
                generalize r.getD k 0 = y at *
                generalize (y.toNat : Int) = yi at *
                go_wp2_with (refine wpList_append_bts rfl (.tmp 54) (.tmp 59) rfl w _ _ _ _ rfl rfl (HB.out.alloc _) (HX.out _) (by simp; omega) ?_; intro u3 W3 hB3 hg3)
                go_roundw
                case rel =>
                  refine ⟨k + 1, acc ++ [y], by omega, by go_num, by simp; omega, ?_, hB3, grown_rec (HB.out.alloc _).own hg3 ((Below.heap_alloc _ _ _ (lt_of_heap HQ.out)).trans HQ.out) (by decide)⟩
                  rw [← HDE.out, HDk.out, HDX.out]
                case measure => simp [intOf]; omega
            · have hkR : k = R := by omega
              have HV : Hid (decG bs = .agg #[.int .i64 0, .int .i64 0, .string { data := #[] }, .bool false, .int .i64 0, .bool false]) := by
                rw [Hid, HVV.out, ← HDE.out, hkR, HN.out, decA_nil]
              have hend : ¬ ((k : Int) + 1 < (L : Int)) := by omega
              clear hkR
              go_wp2
              refine bodyPost_ret (v := .agg #[.int .i64 0, .int .i64 0, .string { data := #[] }, .bool false, .int .i64 0, .bool false]) (results_cell_row Tryd.results36 _ _ b 66 #[.int .i64 0, .int .i64 0, .string { data := #[] }, .bool false, .int .i64 0, .bool false] (0, 0) _ rfl (set6 HQ.out _ _ _ _ _ _) Tryd.underlying66 rfl Tryd.size66) rfl ?_
              rw [HV.out]
              refine ⟨rfl, ?_⟩
              have hbz := HBZ.out
              subst hbz
              exact below6 HB.out.below _ _ _ _ _ _
        · by_cases h3 : x = 3
          · subst h3
            have k1 : w.cell? ⟨g, o, none⟩ = some (.int .u8 3) := k1
            have HVV : Hid (decG bs = decG (3 :: r)) := by rw [Hid, HBS.out]
            cases r with
            | nil =>
              have HV : Hid (decG bs = .agg #[.int .i64 0, .int .i64 0, .string { data := #[] }, .bool false, .int .i64 0, .bool false]) := by rw [Hid, HVV.out]; rfl
              have hL1' : L = 1 := HRL.out.symm
              have hgt : ¬ ((1 : Int) < (L : Int)) := by omega
              clear hL1'
              go_enter Tryd.func36, Tryd.ntmps36
              go_wp2
              refine bodyPost_ret (v := .agg #[.int .i64 0, .int .i64 0, .string { data := #[] }, .bool false, .int .i64 0, .bool false]) (results_cell_row Tryd.results36 _ _ w.heap.size 66 #[.int .i64 0, .int .i64 0, .string { data := #[] }, .bool false, .int .i64 0, .bool false] (0, 0) _ rfl (heap_alloc_new w _) Tryd.underlying66 rfl Tryd.size66) rfl ?_
              rw [HV.out]
              exact ⟨rfl, (Below.refl _ _).alloc (Nat.le_refl _) _⟩
            | cons y r' =>
              have hcell := HGT.out (w.alloc (.cells #[.int .i64 0, .int .i64 0, .string { data := #[] }, .bool false, .int .i64 0, .bool false] 66)) 0 ((Below.refl _ _).alloc (Nat.le_refl _) _) (by simp)
              have hcell : (w.alloc (.cells #[.int .i64 0, .int .i64 0, .string { data := #[] }, .bool false, .int .i64 0, .bool false] 66)).cell? ⟨g, o + 1, none⟩ = some (.int .u8 (y.toNat : Int)) := by simpa using hcell
              have hcw : w.cell? ⟨g, o + 1, none⟩ = some (.int .u8 (y.toNat : Int)) := by
                have := HGT.out w 0 (Below.refl _ _) (by simp)
                simpa using this
              have hL2 : 2 ≤ L := by have := HRL.out; simp at this; omega
              have hgt : (1 : Int) < (L : Int) := by omega
              by_cases hy : 1 < y.toNat
              · have HV : Hid (decG bs = .agg #[.int .i64 0, .int .i64 0, .string { data := #[] }, .bool false, .int .i64 0, .bool false]) := by rw [Hid, HVV.out]; simp [decG, dec, hy]
                have hy2 : ¬ ((y.toNat : Int) < 2) := by omega
                generalize (y.toNat : Int) = yi at *
                go_enter Tryd.func36, Tryd.ntmps36
                go_wp2
                refine bodyPost_ret (v := .agg #[.int .i64 0, .int .i64 0, .string { data := #[] }, .bool false, .int .i64 0, .bool false]) (results_cell_row Tryd.results36 _ _ w.heap.size 66 #[.int .i64 0, .int .i64 0, .string { data := #[] }, .bool false, .int .i64 0, .bool false] (0, 0) _ rfl (heap_alloc_new w _) Tryd.underlying66 rfl Tryd.size66) rfl ?_
                rw [HV.out]
                exact ⟨rfl, (Below.refl _ _).alloc (Nat.le_refl _) _⟩
              · rcases (by omega : y.toNat = 0 ∨ y.toNat = 1) with hy0 | hy0
                · have e : y = 0 := UInt8.toNat_inj.1 hy0
                  subst e
                  have hcw : w.cell? ⟨g, o + 1, none⟩ = some (.int .u8 0) := hcw
                  have HV : Hid (decG bs = .agg #[.int .i64 3, .int .i64 0, .string { data := #[] }, .bool false, .int .i64 2, .bool true]) := by rw [Hid, HVV.out]; rfl
                  clear hcell
                  go_enter Tryd.func36, Tryd.ntmps36
                  go_wp2
                  refine bodyPost_ret (v := .agg #[.int .i64 3, .int .i64 0, .string { data := #[] }, .bool false, .int .i64 2, .bool true]) (results_cell_row Tryd.results36 _ _ w.heap.size 66 #[.int .i64 3, .int .i64 0, .string { data := #[] }, .bool false, .int .i64 2, .bool true] (0, 0) _ rfl (heap_alloc_new w _) Tryd.underlying66 rfl Tryd.size66) rfl ?_
                  rw [HV.out]
                  exact ⟨rfl, (Below.refl _ _).alloc (Nat.le_refl _) _⟩
                · have e : y = 1 := UInt8.toNat_inj.1 hy0
                  subst e
                  have hcw : w.cell? ⟨g, o + 1, none⟩ = some (.int .u8 1) := hcw
                  have HV : Hid (decG bs = .agg #[.int .i64 3, .int .i64 0, .string { data := #[] }, .bool true, .int .i64 2, .bool true]) := by rw [Hid, HVV.out]; rfl
                  clear hcell
                  go_enter Tryd.func36, Tryd.ntmps36
                  go_wp2
                  refine bodyPost_ret (v := .agg #[.int .i64 3, .int .i64 0, .string { data := #[] }, .bool true, .int .i64 2, .bool true]) (results_cell_row Tryd.results36 _ _ w.heap.size 66 #[.int .i64 3, .int .i64 0, .string { data := #[] }, .bool true, .int .i64 2, .bool true] (0, 0) _ rfl (heap_alloc_new w _) Tryd.underlying66 rfl Tryd.size66) rfl ?_
                  rw [HV.out]
                  exact ⟨rfl, (Below.refl _ _).alloc (Nat.le_refl _) _⟩
          · have HV : Hid (decG bs = .agg #[.int .i64 0, .int .i64 0, .string { data := #[] }, .bool false, .int .i64 0, .bool false]) := by rw [Hid, HBS.out]; simp [decG, dec, h0, h1, h2, h3]
            have n0 : ((x.toNat : Int) == 0) = false := u8_ne _ h0
            have n1 : ((x.toNat : Int) == 1) = false := beq_eq_false_iff_ne.2 fun e => h1 (UInt8.toNat_inj.1 (by show _ = 1; omega))
            have n2 : ((x.toNat : Int) == 2) = false := beq_eq_false_iff_ne.2 fun e => h2 (UInt8.toNat_inj.1 (by show _ = 2; omega))
            have n3 : ((x.toNat : Int) == 3) = false := beq_eq_false_iff_ne.2 fun e => h3 (UInt8.toNat_inj.1 (by show _ = 3; omega))
            generalize (x.toNat : Int) = xi at *
            go_enter Tryd.func36, Tryd.ntmps36
            go_wp2
            refine bodyPost_ret (v := .agg #[.int .i64 0, .int .i64 0, .string { data := #[] }, .bool false, .int .i64 0, .bool false]) (results_cell_row Tryd.results36 _ _ w.heap.size 66 #[.int .i64 0, .int .i64 0, .string { data := #[] }, .bool false, .int .i64 0, .bool false] (0, 0) _ rfl (heap_alloc_new w _) Tryd.underlying66 rfl Tryd.size66) rfl ?_
            rw [HV.out]
            exact ⟨rfl, (Below.refl _ _).alloc (Nat.le_refl _) _⟩
end Go.Proofs.YtplpchaceiogaaaDoor
