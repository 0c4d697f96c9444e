/- Decode: the value that bytes begin with. -/
import Derived.Test.YtplpchaceiogaaaDoorDecT
namespace Go.Proofs.YtplpchaceiogaaaDoor
set_option maxRecDepth 100000
open Go.RowKit
set_option linter.unusedVariables false
set_option linter.unusedSimpArgs false

theorem results_rec {fn : Func} {p u v : Tmp} {ty : TypeId} (h : fn.results = #[.cell p ty, .tmp u, .tmp v]) (tmps : Array Value) (w : World) (g : Nat) (t : TypeId) (cs : Array Value) (fr : Nat × Nat) (d : TypeDesc)
    (hp : tmps.getD p undef = .pointer (some ⟨g, 0, none⟩)) (hg : w.heap[g]? = some (.cells cs t fr))
    (hu : Tryd.prog.underlying ty = some d) (hd : d.isRow = true) (hi : (Tryd.prog.info? ty).map (·.size) = some cs.size) :
    (results fn tmps).run Tryd.prog w = .ok (.tuple #[.agg cs, tmps.getD u undef, tmps.getD v undef]) w := by
  have hp' : tmps[p]?.getD undef = .pointer (some ⟨g, 0, none⟩) := by simpa using hp
  have hl := run_loadVar_mid (P := Tryd.prog) w g 0 ty cs.toList d (fun j v hv => by rw [Nat.zero_add, cell_row hg]; simpa using hv) hu hd (by rw [hi, Array.length_toList])
  simp [results, h, hp', asAddr, hl]
theorem set5 {w : World} {b : Nat} {a0 a1 a2 a3 : Value} (h : w.heap[b]? = some (.cells #[a0, a1, a2, a3] 32 (0, 0))) (u2 v0 v1 v2 v3 : Value) :
    (((((w.setCell ⟨b, 2, none⟩ u2).setCell ⟨b, 0, none⟩ v0).setCell ⟨b, 1, none⟩ v1).setCell ⟨b, 2, none⟩ v2).setCell ⟨b, 3, none⟩ v3).heap[b]? = some (.cells #[v0, v1, v2, v3] 32 (0, 0)) := by
  rw [heap_set_same _ (heap_set_same _ (heap_set_same _ (heap_set_same _ (heap_set_same _ h))))]
  rfl
theorem below5 {w0 w : World} {b : Nat} (h : Below b w0 w) (u2 v0 v1 v2 v3 : Value) :
    Below b w0 (((((w.setCell ⟨b, 2, none⟩ u2).setCell ⟨b, 0, none⟩ v0).setCell ⟨b, 1, none⟩ v1).setCell ⟨b, 2, none⟩ v2).setCell ⟨b, 3, none⟩ v3) :=
  ((((h.setCell (Nat.le_refl _) _).setCell (Nat.le_refl _) _).setCell (Nat.le_refl _) _).setCell (Nat.le_refl _) _).setCell (Nat.le_refl _) _
def decV (bs : List UInt8) : Value := match dec bs with
  | none => .tuple #[.agg #[.int .i64 0, .int .i64 0, .string { data := #[] }, .bool false], .int .i64 0, .bool false]
  | some p => .tuple #[valOf p.1, .int .i64 (p.2 : Int), .bool true]
def zeroV : Array Value := #[.int .i64 0, .int .i64 0, .string { data := #[] }, .bool false]
set_option maxHeartbeats 4000000 in
theorem decode_any {w : World} {v : Value} {bs : List UInt8} (h : Sl w v bs) (hl : bs.length ≤ 500000000) :
    Calls Tryd.prog 59 #[v] w fun e w' => e = .returned (decV bs) ∧ Below w.heap.size w w' := by
  obtain ⟨ao, c, rfl, hc1, hc2⟩ := h.len
  simp only [maxLen] at hc2
  cases hbs : bs with
  | nil =>
    subst hbs
    clear h
    go_enter Tryd.func59, Tryd.ntmps59
    go_wp2
    refine bodyPost_ret (v := .tuple #[.agg zeroV, .int .i64 0, .bool false]) (results_rec Tryd.results59 _ _ w.heap.size 32 zeroV (0, 0) _ rfl (heap_alloc_new w _) Tryd.underlying32 rfl Tryd.size32) rfl ?_
    exact ⟨rfl, (Below.refl _ _).alloc (Nat.le_refl _) _⟩
  | cons x r =>
    obtain ⟨g, o, hao, k1⟩ := h.get 0 (by rw [hbs]; simp)
    have k1 : w.cell? ⟨g, o, none⟩ = some (.int .u8 (x.toNat : Int)) := by simpa [hbs] using k1
    subst hao
    have hcut : ∀ w, (Instr.sliceAt 30 (.slice (some ⟨g, o, none⟩) bs.length c) (some (.int .i64 1)) none none).run Tryd.prog w = .ok (.slice (cutAt (some ⟨g, o, none⟩) c 1) (bs.length - 1) (c - 1)) w := fun w => run_cut_from w (some ⟨g, o, none⟩) bs.length c 1 (by rw [hbs]; simp)
    have HSL : Hid (∀ W, Below w.heap.size w W → Sl W (.slice (cutAt (some ⟨g, o, none⟩) c 1) (bs.length - 1) (c - 1)) r) := fun W hW => by
      have := (h.belowW hW).from 1 (by rw [hbs]; simp)
      rw [hbs] at this ⊢
      simpa using this
    have hL1 : 1 ≤ bs.length := by rw [hbs]; simp
    have hne : ¬ ((bs.length : Int) = 0) := by omega
    have hRL : r.length + 1 = bs.length := by rw [hbs]; simp
    have HRL := hide hRL
    clear h hRL
    rw [← hbs]
    have HBS := hide hbs
    clear hbs
    generalize bs.length = L at *
    generalize cutAt (some ⟨g, o, none⟩) c 1 = ac at *
    have hgl := World.block_lt_of_cell? w _ k1
    by_cases h0 : x = 0
    · subst h0
      have k1 : w.cell? ⟨g, o, none⟩ = some (.int .u8 0) := k1
      have HV : Hid (decV bs = .tuple #[.agg zeroV, .int .i64 1, .bool true]) := by rw [Hid, HBS.out]; rfl
      go_enter Tryd.func59, Tryd.ntmps59
      go_wp2
      refine bodyPost_ret (v := .tuple #[.agg zeroV, .int .i64 1, .bool true]) (results_rec Tryd.results59 _ _ w.heap.size 32 zeroV (0, 0) _ rfl (heap_alloc_new w _) Tryd.underlying32 rfl Tryd.size32) rfl ?_
      rw [HV.out]
      exact ⟨rfl, (Below.refl _ _).alloc (Nat.le_refl _) _⟩
    · by_cases h1 : x = 1
      · subst h1
        have k1 : w.cell? ⟨g, o, none⟩ = some (.int .u8 1) := k1
        have HC := hide (number_any (HSL.out (w.alloc (.cells #[.int .i64 1, .int .i64 0, .string { data := #[] }, .bool false] 32)) ((Below.refl _ _).alloc (Nat.le_refl _) _)))
        by_cases hl8 : r.length < 8
        · have HV : Hid (decV bs = .tuple #[.agg zeroV, .int .i64 0, .bool false]) := by rw [Hid, HBS.out]; simp [decV, dec, hl8, zeroV]
          rw [if_pos hl8] at HC
          clear hl8
          go_enter Tryd.func59, Tryd.ntmps59
          go_wp2_with fail
          refine HC.out.mono ?_
          rintro e W2 ⟨rfl, hw⟩
          have hw := hw.symm
          subst hw
          go_wp2
          refine bodyPost_ret (v := .tuple #[.agg zeroV, .int .i64 0, .bool false]) (results_rec Tryd.results59 _ _ w.heap.size 32 zeroV (0, 0) _ rfl (heap_alloc_new w _) Tryd.underlying32 rfl Tryd.size32) rfl ?_
          rw [HV.out]
          exact ⟨rfl, (Below.refl _ _).alloc (Nat.le_refl _) _⟩
        · have HV : Hid (decV bs = .tuple #[valOf ⟨1, back (beval (r.take 8)), [], false⟩, .int .i64 9, .bool true]) := by rw [Hid, HBS.out]; simp [decV, dec, hl8]
          rw [if_neg hl8] at HC
          clear hl8
          generalize back (beval (r.take 8)) = n at *
          go_enter Tryd.func59, Tryd.ntmps59
          go_wp2_with fail
          refine HC.out.mono ?_
          rintro e W2 ⟨rfl, hw⟩
          have hw := hw.symm
          subst hw
          go_wp2
          refine bodyPost_ret (v := .tuple #[.agg #[.int .i64 1, .int .i64 n, .string { data := #[] }, .bool false], .int .i64 9, .bool true]) (results_rec Tryd.results59 _ _ w.heap.size 32 #[.int .i64 1, .int .i64 n, .string { data := #[] }, .bool false] (0, 0) _ rfl (heap_alloc_new w _) Tryd.underlying32 rfl Tryd.size32) rfl ?_
          rw [HV.out]
          exact ⟨rfl, (Below.refl _ _).alloc (Nat.le_refl _) _⟩
      · by_cases h2 : x = 2
        · subst h2
          have k1 : w.cell? ⟨g, o, none⟩ = some (.int .u8 2) := k1
          have HQ1 : Hid ((w.alloc (.cells #[.int .i64 2, .int .i64 0, .string { data := #[] }, .bool false] 32)).heap[w.heap.size]? = some (.cells #[.int .i64 2, .int .i64 0, .string { data := #[] }, .bool false] 32 (0, 0))) := heap_alloc_new w _
          have HC := hide (text_any (HSL.out (w.alloc (.cells #[.int .i64 2, .int .i64 0, .string { data := #[] }, .bool false] 32)) ((Below.refl _ _).alloc (Nat.le_refl _) _)) (by have := HRL.out; omega))
          cases hd : decA [] 0 r with
          | none =>
            have HV : Hid (decV bs = .tuple #[.agg zeroV, .int .i64 0, .bool false]) := by rw [Hid, HBS.out]; simp [decV, dec, hd, zeroV]
            have HT : Hid (textV r = .tuple #[.string { data := #[] }, .int .i64 0, .bool false]) := by unfold Hid textV; rw [hd]
            rw [HT.out] at HC
            clear hd
            go_enter Tryd.func59, Tryd.ntmps59
            go_wp2_with fail
            refine HC.out.mono ?_
            rintro e W2 ⟨rfl, hB2⟩
            have hQ2 := (hB2.block _ (lt_of_heap HQ1.out)).trans HQ1.out
            have HB2 : Hid (Below w.heap.size w W2) := ((Below.refl _ _).alloc (Nat.le_refl _) _).trans (hB2.mono (by simp))
            have c0 := cell_row (o := 0) hQ2
            have c1 := cell_row (o := 1) hQ2
            have c2 := cell_row (o := 2) hQ2
            have c3 := cell_row (o := 3) hQ2
            have f0 : ∀ k, W2.frozen? ⟨w.heap.size, k, none⟩ = false := fun k => frozen_row hQ2
            simp only [List.getElem?_toArray, List.getElem?_cons_zero, List.getElem?_cons_succ] at c0 c1 c2 c3
            have HQ2 := hide hQ2
            clear hB2 hQ2
            obtain ⟨b, hb⟩ : ∃ b, w.heap.size = b := ⟨_, rfl⟩
            rw [hb] at c0 c1 c2 c3 f0 HQ2 HQ1 ⊢
            have HBE := hide hb
            clear hb
            go_wp2
            refine bodyPost_ret (v := .tuple #[.agg zeroV, .int .i64 0, .bool false]) (results_rec Tryd.results59 _ _ b 32 zeroV (0, 0) _ rfl (set5 HQ2.out _ _ _ _ _) Tryd.underlying32 rfl Tryd.size32) rfl ?_
            rw [HV.out]
            refine ⟨rfl, ?_⟩
            have hb := HBE.out
            subst hb
            exact below5 HB2.out _ _ _ _ _
          | some q =>
            have HV : Hid (decV bs = .tuple #[valOf ⟨2, 0, q.1, false⟩, .int .i64 (1 + (q.2 : Int)), .bool true]) := by
              rw [Hid, HBS.out]
              simp [decV, dec, hd]
              omega
            have hq := (decA_size r [] 0 q hd).2.1
            have hq2 : q.2 ≤ 500000000 := by have := HRL.out; omega
            have HT : Hid (textV r = .tuple #[.string (strOf q.1), .int .i64 (q.2 : Int), .bool true]) := by unfold Hid textV; rw [hd]
            rw [HT.out] at HC
            clear hd hq
            go_enter Tryd.func59, Tryd.ntmps59
            go_wp2_with fail
            refine HC.out.mono ?_
            rintro e W2 ⟨rfl, hB2⟩
            have hQ2 := (hB2.block _ (lt_of_heap HQ1.out)).trans HQ1.out
            have HB2 : Hid (Below w.heap.size w W2) := ((Below.refl _ _).alloc (Nat.le_refl _) _).trans (hB2.mono (by simp))
            have c0 := cell_row (o := 0) hQ2
            have c1 := cell_row (o := 1) hQ2
            have c2 := cell_row (o := 2) hQ2
            have c3 := cell_row (o := 3) hQ2
            have f0 : ∀ k, W2.frozen? ⟨w.heap.size, k, none⟩ = false := fun k => frozen_row hQ2
            simp only [List.getElem?_toArray, List.getElem?_cons_zero, List.getElem?_cons_succ] at c0 c1 c2 c3
            have HQ2 := hide hQ2
            clear hB2 hQ2
            obtain ⟨b, hb⟩ : ∃ b, w.heap.size = b := ⟨_, rfl⟩
            rw [hb] at c0 c1 c2 c3 f0 HQ2 HQ1 ⊢
            have HBE := hide hb
            clear hb
            go_wp2
            refine bodyPost_ret (v := .tuple #[.agg #[.int .i64 2, .int .i64 0, .string (strOf q.1), .bool false], .int .i64 (1 + (q.2 : Int)), .bool true]) (results_rec Tryd.results59 _ _ b 32 #[.int .i64 2, .int .i64 0, .string (strOf q.1), .bool false] (0, 0) _ rfl (set5 HQ2.out _ _ _ _ _) Tryd.underlying32 rfl Tryd.size32) rfl ?_
            rw [HV.out]
            refine ⟨rfl, ?_⟩
            have hb := HBE.out
            subst hb
            exact below5 HB2.out _ _ _ _ _
        · by_cases h3 : x = 3
          · subst h3
            have k1 : w.cell? ⟨g, o, none⟩ = some (.int .u8 3) := k1
            have HC := hide (truth_any (HSL.out (w.alloc (.cells #[.int .i64 3, .int .i64 0, .string { data := #[] }, .bool false] 32)) ((Below.refl _ _).alloc (Nat.le_refl _) _)))
            have HVV : Hid (decV bs = decV (3 :: r)) := by rw [Hid, HBS.out]
            cases r with
            | nil =>
              have HV : Hid (decV bs = .tuple #[.agg zeroV, .int .i64 0, .bool false]) := by rw [Hid, HVV.out]; rfl
              have HC : Hid (Calls Tryd.prog 78 #[.slice ac (L - 1) (c - 1)] _ fun e w' => e = .returned (.tuple #[.bool false, .int .i64 0, .bool false]) ∧ w' = _) := HC
              go_enter Tryd.func59, Tryd.ntmps59
              go_wp2_with fail
              refine HC.out.mono ?_
              rintro e W2 ⟨rfl, hw⟩
              have hw := hw.symm
              subst hw
              go_wp2
              refine bodyPost_ret (v := .tuple #[.agg zeroV, .int .i64 0, .bool false]) (results_rec Tryd.results59 _ _ w.heap.size 32 zeroV (0, 0) _ rfl (heap_alloc_new w _) Tryd.underlying32 rfl Tryd.size32) rfl ?_
              rw [HV.out]
              exact ⟨rfl, (Below.refl _ _).alloc (Nat.le_refl _) _⟩
            | cons y r' =>
              by_cases hy : 1 < y.toNat
              · have HV : Hid (decV bs = .tuple #[.agg zeroV, .int .i64 0, .bool false]) := by rw [Hid, HVV.out]; simp [decV, dec, hy, zeroV]
                have HT : Hid (truthV (y :: r') = .tuple #[.bool false, .int .i64 0, .bool false]) := if_pos hy
                rw [HT.out] at HC
                go_enter Tryd.func59, Tryd.ntmps59
                go_wp2_with fail
                refine HC.out.mono ?_
                rintro e W2 ⟨rfl, hw⟩
                have hw := hw.symm
                subst hw
                go_wp2
                refine bodyPost_ret (v := .tuple #[.agg zeroV, .int .i64 0, .bool false]) (results_rec Tryd.results59 _ _ w.heap.size 32 zeroV (0, 0) _ rfl (heap_alloc_new w _) Tryd.underlying32 rfl Tryd.size32) rfl ?_
                rw [HV.out]
                exact ⟨rfl, (Below.refl _ _).alloc (Nat.le_refl _) _⟩
              · have HV : Hid (decV bs = .tuple #[valOf ⟨3, 0, [], y == 1⟩, .int .i64 2, .bool true]) := by rw [Hid, HVV.out]; simp [decV, dec, hy]
                have HT : Hid (truthV (y :: r') = .tuple #[.bool (y == 1), .int .i64 1, .bool true]) := if_neg hy
                rw [HT.out] at HC
                generalize (y == 1) = yb at *
                go_enter Tryd.func59, Tryd.ntmps59
                go_wp2_with fail
                refine HC.out.mono ?_
                rintro e W2 ⟨rfl, hw⟩
                have hw := hw.symm
                subst hw
                go_wp2
                refine bodyPost_ret (v := .tuple #[.agg #[.int .i64 3, .int .i64 0, .string { data := #[] }, .bool yb], .int .i64 2, .bool true]) (results_rec Tryd.results59 _ _ w.heap.size 32 #[.int .i64 3, .int .i64 0, .string { data := #[] }, .bool yb] (0, 0) _ rfl (heap_alloc_new w _) Tryd.underlying32 rfl Tryd.size32) rfl ?_
                rw [HV.out]
                exact ⟨rfl, (Below.refl _ _).alloc (Nat.le_refl _) _⟩
          · have HV : Hid (decV bs = .tuple #[.agg zeroV, .int .i64 0, .bool false]) := by rw [Hid, HBS.out]; simp [decV, dec, h0, h1, h2, h3, zeroV]
            have n0 : ((x.toNat : Int) == 0) = false := u8_ne _ h0
            have n1 : ((x.toNat : Int) == 1) = false := beq_eq_false_iff_ne.2 fun e => h1 (UInt8.toNat_inj.1 (by show _ = 1; omega))
            have n2 : ((x.toNat : Int) == 2) = false := beq_eq_false_iff_ne.2 fun e => h2 (UInt8.toNat_inj.1 (by show _ = 2; omega))
            have n3 : ((x.toNat : Int) == 3) = false := beq_eq_false_iff_ne.2 fun e => h3 (UInt8.toNat_inj.1 (by show _ = 3; omega))
            have hb1 := x.toNat_lt
            generalize x.toNat = xi at *
            go_enter Tryd.func59, Tryd.ntmps59
            go_wp2
            refine bodyPost_ret (v := .tuple #[.agg zeroV, .int .i64 0, .bool false]) (results_rec Tryd.results59 _ _ w.heap.size 32 zeroV (0, 0) _ rfl (heap_alloc_new w _) Tryd.underlying32 rfl Tryd.size32) rfl ?_
            rw [HV.out]
            exact ⟨rfl, (Below.refl _ _).alloc (Nat.le_refl _) _⟩
end Go.Proofs.YtplpchaceiogaaaDoor
