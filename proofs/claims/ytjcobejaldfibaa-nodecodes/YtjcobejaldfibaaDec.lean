/- Decode. -/
import Derived.Test.YtjcobejaldfibaaDcp
import Derived.Test.YtjcobejaldfibaaSnd
namespace Go.Proofs.Ytjcobejaldfibaa
open Go.RowKit
set_option linter.unusedVariables false
set_option linter.unusedSimpArgs false

theorem DSr.setK {w W : World} {kd ct : Int} {lf : Bool} {nx : Int} {k v i : Value} {s : PS} {ra : Option Addr} {rc : Nat} (h : DSr w W kd ct lf nx k v i s ra rc) (n : Int) : DSr w (W.setCell ⟨w.heap.size + 1 + 1, 0, none⟩ (.int .i64 n)) n ct lf nx k v i s ra rc :=
  ⟨below_set h.below h.below.size _ _ _ (by omega), h.y.apart _ _ _ (by omega), h.m.apart _ _ _ (by omega), by rw [heap_set_same (o := 0) (.int .i64 n) h.kb]; rfl, (set_stay _ _ _ (by omega)).trans h.cb, (set_stay _ _ _ (by omega)).trans h.f, h.sl, h.own.keep (fun q hq => set_stay _ _ _ (by omega)), by rw [size_set]; exact h.sz⟩
theorem DSr.setC {w W : World} {kd ct : Int} {lf : Bool} {nx : Int} {k v i : Value} {s : PS} {ra : Option Addr} {rc : Nat} (h : DSr w W kd ct lf nx k v i s ra rc) (n : Int) : DSr w (W.setCell ⟨w.heap.size + 1 + 1 + 1, 0, none⟩ (.int .i64 n)) kd n lf nx k v i s ra rc :=
  ⟨below_set h.below h.below.size _ _ _ (by omega), h.y.apart _ _ _ (by omega), h.m.apart _ _ _ (by omega), (set_stay _ _ _ (by omega)).trans h.kb, by rw [heap_set_same (o := 0) (.int .i64 n) h.cb]; rfl, (set_stay _ _ _ (by omega)).trans h.f, h.sl, h.own.keep (fun q hq => set_stay _ _ _ (by omega)), by rw [size_set]; exact h.sz⟩
theorem DSr.setN {w W : World} {kd ct : Int} {lf : Bool} {nx : Int} {k v i : Value} {s : PS} {ra : Option Addr} {rc : Nat} (h : DSr w W kd ct lf nx k v i s ra rc) (n : Int) : DSr w (W.setCell ⟨w.heap.size + 1, 4, none⟩ (.int .i64 n)) kd ct lf n k v i s ra rc :=
  ⟨below_set h.below h.below.size _ _ _ (by omega), h.y.apart _ _ _ (by omega), h.m.set4 _, (set_stay _ _ _ (by omega)).trans h.kb, (set_stay _ _ _ (by omega)).trans h.cb, (set_stay _ _ _ (by omega)).trans h.f, h.sl, h.own.keep (fun q hq => set_stay _ _ _ (by omega)), by rw [size_set]; exact h.sz⟩
theorem DSr.setL {w W : World} {kd ct : Int} {lf : Bool} {nx : Int} {k v i : Value} {s : PS} {ra : Option Addr} {rc : Nat} (h : DSr w W kd ct lf nx k v i s ra rc) (n : Bool) : DSr w (W.setCell ⟨w.heap.size + 1, 0, none⟩ (.bool n)) kd ct n nx k v i s ra rc :=
  ⟨below_set h.below h.below.size _ _ _ (by omega), h.y.apart _ _ _ (by omega), h.m.set0 _, (set_stay _ _ _ (by omega)).trans h.kb, (set_stay _ _ _ (by omega)).trans h.cb, (set_stay _ _ _ (by omega)).trans h.f, h.sl, h.own.keep (fun q hq => set_stay _ _ _ (by omega)), by rw [size_set]; exact h.sz⟩
theorem DSr.setF {w W : World} {kd ct : Int} {lf : Bool} {nx : Int} {k v i : Value} {s : PS} {ra : Option Addr} {rc : Nat} (h : DSr w W kd ct lf nx k v i s ra rc) (c : Nat) (hc : c ≤ s.rest.length) : DSr w (W.setCell ⟨w.heap.size + 1 + 1 + 1 + 1, 0, none⟩ (.slice (cutAt ra rc c) (s.rest.length - c) (rc - c))) kd ct lf nx k v i ⟨s.keys, s.vals, s.kids, s.rest.drop c⟩ (cutAt ra rc c) (rc - c) :=
  ⟨below_set h.below h.below.size _ _ _ (by omega), h.y.apart _ _ _ (by omega), h.m.apart _ _ _ (by omega), (set_stay _ _ _ (by omega)).trans h.kb, (set_stay _ _ _ (by omega)).trans h.cb, by rw [heap_set_same (o := 0) _ h.f]; simp [List.length_drop], by show Sl w (.slice (cutAt ra rc c) (s.rest.drop c).length (rc - c)) (s.rest.drop c); rw [List.length_drop]; exact h.sl.from c hc, h.own.keep (fun q hq => set_stay _ _ _ (by omega)), by rw [size_set]; exact h.sz⟩
theorem DSr.next {w W : World} {kd ct : Int} {lf : Bool} {nx : Int} {k v i : Value} {s : PS} {ra : Option Addr} {rc : Nat} (h : DSr w W kd ct lf nx k v i s ra rc) {W' : World} (hb : Below W.heap.size W W') : DSr w W' kd ct lf nx k v i s ra rc :=
  ⟨h.below.trans (hb.mono h.below.size), h.y.belowW hb, h.m.belowW hb, (hb.block _ (lt_of_heap h.kb)).trans h.kb, (hb.block _ (lt_of_heap h.cb)).trans h.cb, (hb.block _ (lt_of_heap h.f)).trans h.f, h.sl, h.own.belowW hb, Nat.le_trans h.sz hb.size⟩
theorem DSr.start {w : World} {pa : Option Addr} {pc : Nat} {bs : List UInt8} (h : Sl w (.slice pa bs.length pc) bs) :
    DSr w (((((w.alloc (.cells #[.bool false, .slice none 0 0, .slice none 0 0, .slice none 0 0, .int .i64 0] 26)).alloc (.cells #[.bool false, .slice none 0 0, .slice none 0 0, .slice none 0 0, .int .i64 0] 26)).alloc (.cells #[.int .i64 0] 3)).alloc (.cells #[.int .i64 0] 3)).alloc (.cells #[.slice pa bs.length pc] 69)) 0 0 false 0 (.slice none 0 0) (.slice none 0 0) (.slice none 0 0) ⟨[], [], [], bs⟩ pa pc := by
  have s1 : (w.alloc (.cells #[.bool false, .slice none 0 0, .slice none 0 0, .slice none 0 0, .int .i64 0] 26)).heap.size = w.heap.size + 1 := by simp
  have s2 : ((w.alloc (.cells #[.bool false, .slice none 0 0, .slice none 0 0, .slice none 0 0, .int .i64 0] 26)).alloc (.cells #[.bool false, .slice none 0 0, .slice none 0 0, .slice none 0 0, .int .i64 0] 26)).heap.size = w.heap.size + 1 + 1 := by simp
  have s3 : (((w.alloc (.cells #[.bool false, .slice none 0 0, .slice none 0 0, .slice none 0 0, .int .i64 0] 26)).alloc (.cells #[.bool false, .slice none 0 0, .slice none 0 0, .slice none 0 0, .int .i64 0] 26)).alloc (.cells #[.int .i64 0] 3)).heap.size = w.heap.size + 1 + 1 + 1 := by simp
  have s4 : ((((w.alloc (.cells #[.bool false, .slice none 0 0, .slice none 0 0, .slice none 0 0, .int .i64 0] 26)).alloc (.cells #[.bool false, .slice none 0 0, .slice none 0 0, .slice none 0 0, .int .i64 0] 26)).alloc (.cells #[.int .i64 0] 3)).alloc (.cells #[.int .i64 0] 3)).heap.size = w.heap.size + 1 + 1 + 1 + 1 := by simp
  have h1 := (Below.refl w.heap.size w).alloc (Nat.le_refl _) (.cells #[.bool false, .slice none 0 0, .slice none 0 0, .slice none 0 0, .int .i64 0] 26)
  have h2 := h1.alloc h1.size (.cells #[.bool false, .slice none 0 0, .slice none 0 0, .slice none 0 0, .int .i64 0] 26)
  have h3 := h2.alloc h2.size (.cells #[.int .i64 0] 3)
  have h4 := h3.alloc h3.size (.cells #[.int .i64 0] 3)
  have h5 := h4.alloc h4.size (.cells #[.slice pa bs.length pc] 69)
  refine ⟨h5, ((((Box.new w _ _ _ _ _).alloc _).alloc _).alloc _).alloc _, ?_, ?_, ?_, ?_, h, ⟨TsOwn.nil _ _, TsOwn.nil _ _, World.ownsRow_nil _ _ _ _, fun q hq => by simp [Value.ownBlock] at hq⟩, by simp⟩
  · have := (((Box.new (t := 26) (w.alloc (.cells #[.bool false, .slice none 0 0, .slice none 0 0, .slice none 0 0, .int .i64 0] 26)) (.bool false) (.slice none 0 0) (.slice none 0 0) (.slice none 0 0) (.int .i64 0)).alloc (.cells #[.int .i64 0] 3)).alloc (.cells #[.int .i64 0] 3)).alloc (.cells #[.slice pa bs.length pc] 69)
    rwa [s1] at this
  · have h0 := heap_alloc_new ((w.alloc (.cells #[.bool false, .slice none 0 0, .slice none 0 0, .slice none 0 0, .int .i64 0] 26)).alloc (.cells #[.bool false, .slice none 0 0, .slice none 0 0, .slice none 0 0, .int .i64 0] 26)) (.cells #[.int .i64 0] 3)
    rw [s2] at h0
    exact (Below.heap_alloc _ _ _ (by rw [s4]; omega)).trans ((Below.heap_alloc _ _ _ (by rw [s3]; omega)).trans h0)
  · have h0 := heap_alloc_new (((w.alloc (.cells #[.bool false, .slice none 0 0, .slice none 0 0, .slice none 0 0, .int .i64 0] 26)).alloc (.cells #[.bool false, .slice none 0 0, .slice none 0 0, .slice none 0 0, .int .i64 0] 26)).alloc (.cells #[.int .i64 0] 3)) (.cells #[.int .i64 0] 3)
    rw [s3] at h0
    exact (Below.heap_alloc _ _ _ (by rw [s4]; omega)).trans h0
  · have h0 := heap_alloc_new ((((w.alloc (.cells #[.bool false, .slice none 0 0, .slice none 0 0, .slice none 0 0, .int .i64 0] 26)).alloc (.cells #[.bool false, .slice none 0 0, .slice none 0 0, .slice none 0 0, .int .i64 0] 26)).alloc (.cells #[.int .i64 0] 3)).alloc (.cells #[.int .i64 0] 3)) (.cells #[.slice pa bs.length pc] 69)
    rw [s4] at h0
    exact h0
/-- What Decode ends with. -/
def DcEnd (w : World) (bs : List UInt8) (e : Ending) (w' : World) : Prop :=
  ∃ a b c, e = .returned (.tuple #[.agg #[.bool ((dcf bs).getD Nd.zero).leaf, a, b, c, .int .i64 ((dcf bs).getD Nd.zero).next], .bool (dcf bs).isSome]) ∧ Below w.heap.size w w' ∧ NdAt w' ((dcf bs).getD Nd.zero) a b c
theorem DcEnd.no {w w' : World} {bs : List UInt8} (h : dcf bs = none) (hb : Below w.heap.size w w') : DcEnd w bs (.returned (.tuple #[.agg #[.bool false, .slice none 0 0, .slice none 0 0, .slice none 0 0, .int .i64 0], .bool false])) w' :=
  ⟨_, _, _, by rw [h]; rfl, hb, by rw [h]; exact ⟨TsAt.nil _, TsAt.nil _, Row.nil _⟩⟩
theorem DcEnd.yes {w w' : World} {bs : List UInt8} {N : Nd} {a b c : Value} (h : dcf bs = some N) (hb : Below w.heap.size w w') (ha : NdAt w' N a b c) : DcEnd w bs (.returned (.tuple #[.agg #[.bool N.leaf, a, b, c, .int .i64 N.next], .bool true])) w' :=
  ⟨a, b, c, by rw [h]; rfl, hb, by rw [h]; exact ha⟩
theorem fin_no {lf : Bool} {nx : Nat} {s : PS} (h : ((ndOf lf nx s).sound && noughtsB s.rest) = false) : fin lf nx (some s) = none := by
  show (if ((ndOf lf nx s).sound && noughtsB s.rest) = true then some (ndOf lf nx s) else none) = _
  rw [h]
  rfl
theorem fin_yes {lf : Bool} {nx : Nat} {s : PS} (h : ((ndOf lf nx s).sound && noughtsB s.rest) = true) : fin lf nx (some s) = some (ndOf lf nx s) := by
  show (if ((ndOf lf nx s).sound && noughtsB s.rest) = true then some (ndOf lf nx s) else none) = _
  rw [h]
  rfl
theorem beval_lt2 (R : List UInt8) : beval (R.take 2) < 65536 := by
  have h1 := beval_lt _ (R.take 2) rfl
  have h2 : (R.take 2).length ≤ 2 := List.length_take_le _ _
  exact Nat.lt_of_lt_of_le h1 (Nat.le_trans (Nat.pow_le_pow_right (by omega) h2) (by decide))
theorem beval_first {bs : List UInt8} (h : bs.length = 504) : beval (bs.take 1) = (bs.getD 0 0).toNat := by
  match bs, h with
  | b :: r, _ => simp [beval]
set_option maxHeartbeats 8000000 in
set_option maxRecDepth 100000 in
theorem decode_any {w : World} {pv : Value} {bs : List UInt8} (h : Sl w pv bs) : Calls Try.prog 19 #[pv] w (DcEnd w bs) := by
  obtain ⟨pa, pc, rfl, hpn, hpc⟩ := h.len
  simp only [maxLen] at hpc
  have HS0 := hide (DSr.start h)
  clear h
  go_enter Try.func19, Try.ntmps19
  go_wp2
  refine wp_scope_fwd 1 ?_
  go_upto_region 4 with fail
  generalize (((((w.alloc (.cells #[.bool false, .slice none 0 0, .slice none 0 0, .slice none 0 0, .int .i64 0] 26)).alloc (.cells #[.bool false, .slice none 0 0, .slice none 0 0, .slice none 0 0, .int .i64 0] 26)).alloc (.cells #[.int .i64 0] 3)).alloc (.cells #[.int .i64 0] 3)).alloc (.cells #[.slice pa bs.length pc] 69)) = W0 at *
  by_cases h504 : bs.length = 504
  · have HL := hide h504
    have HN1 := hide (number_any (s := 1) (ib := w.heap.size + 1 + 1) (io := 0) HS0.out.rd (by rw [cell_row HS0.out.kb]; rfl) (frozen_row HS0.out.kb) (by omega) (by omega))
    have hq : ((bs.length : Nat) : Int) = 504 := by rw [h504]; rfl
    clear h504
    go_wp2_with fail
    refine HN1.out.mono ?_
    clear hq
    rintro e W1 (⟨hl, rfl, hW⟩ | ⟨hl, rfl, hW⟩)
    · exfalso
      have := HL.out
      have hl : bs.length < 1 := hl
      omega
    have HS1 : Hid (DSr w W1 ((beval (bs.take 1) : Nat) : Int) 0 false 0 (.slice none 0 0) (.slice none 0 0) (.slice none 0 0) ⟨[], [], [], bs.drop 1⟩ (cutAt pa pc 1) (pc - 1)) := by rw [hW]; exact (HS0.out.setK _).setF 1 hl
    clear hW hl HN1 HS0
    have HKF := hide (beval_first HL.out)
    generalize beval (bs.take 1) = kn at *
    by_cases h1 : kn = 1
    · subst h1
      have HKD : Hid ((bs.getD 0 0).toNat = if true then 1 else 2) := HKF.out.symm
      clear HKF
      as_aux_lemma =>
        have kcell : W1.cell? ⟨w.heap.size + 1 + 1, 0, none⟩ = some (.int .i64 1) := by rw [cell_row HS1.out.kb]; rfl
        obtain ⟨k0, k1, k2, k3, k4, f0, f1, f2, f3, f4⟩ := HS1.out.m.cells
        have HDC := hide (dcf_yes (lf := true) HL.out HKD.out)
        have HS2 := hide (HS1.out.setL true)
        go_upto_region 8 with fail
        clear kcell k0 k1 k2 k3 k4 f0 f1 f2 f3 f4
        generalize W1.setCell ⟨w.heap.size + 1, 0, none⟩ (.bool true) = W2 at *
        clear HS1
        have HN2 := hide (number_any (s := 2) (ib := w.heap.size + 1 + 1 + 1) (io := 0) HS2.out.rd (by rw [cell_row HS2.out.cb]; rfl) (frozen_row HS2.out.cb) (by omega) (by omega))
        go_wp2_with fail
        refine HN2.out.mono ?_
        rintro e W3 (⟨hl, rfl, hW⟩ | ⟨hl, rfl, hW⟩)
        · exfalso
          have := HL.out
          simp [List.length_drop] at hl
          omega
        have HS3 : Hid (DSr w W3 1 ((beval ((bs.drop 1).take 2) : Nat) : Int) true 0 (.slice none 0 0) (.slice none 0 0) (.slice none 0 0) ⟨[], [], [], (bs.drop 1).drop 2⟩ (cutAt (cutAt pa pc 1) (pc - 1) 2) (pc - 1 - 2)) := by rw [hW]; exact (HS2.out.setC _).setF 2 hl
        clear hW hl HN2 HS2
        have HCL := hide (beval_lt2 (bs.drop 1))
        generalize hcc : beval ((bs.drop 1).take 2) = cc at *
        clear hcc
        go_upto_region 9 with fail
        have HN3 := hide (number_any (s := 4) (ib := w.heap.size + 1) (io := 4) HS3.out.rd HS3.out.m.cells.k4 HS3.out.m.cells.f4 (by omega) (by omega))
        obtain ⟨k0, k1, k2, k3, k4, f0, f1, f2, f3, f4⟩ := HS3.out.m.cells
        go_wp2_with fail
        refine HN3.out.mono ?_
        rintro e W4 (⟨hl, rfl, hW⟩ | ⟨hl, rfl, hW⟩)
        · exfalso
          have := HL.out
          simp [List.length_drop] at hl
          omega
        clear k0 k1 k2 k3 k4 f0 f1 f2 f3 f4
        have HS4 : Hid (DSr w W4 1 (cc : Int) true ((beval (((bs.drop 1).drop 2).take 4) : Nat) : Int) (.slice none 0 0) (.slice none 0 0) (.slice none 0 0) ⟨[], [], [], ((bs.drop 1).drop 2).drop 4⟩ (cutAt (cutAt (cutAt pa pc 1) (pc - 1) 2) (pc - 1 - 2) 4) (pc - 1 - 2 - 4)) := by rw [hW]; exact (HS3.out.setN _).setF 4 hl
        clear hW hl HN3 HS3
        have HRL : Hid ((((bs.drop 1).drop 2).drop 4).length ≤ 504) := by rw [Hid, List.length_drop, List.length_drop, List.length_drop, HL.out]; omega
        generalize beval (((bs.drop 1).drop 2).take 4) = nx at *
        generalize ((bs.drop 1).drop 2).drop 4 = R7 at *
        have HFIT : Hid (∀ j s, pl true (start true R7) j = some s → PFit s j) := fun j s hp => pl_fit HRL.out j s hp
        have HS5 : Hid (∃ s k v i ra rc, start true R7 = some s ∧ DSr w W4 1 (cc : Int) true (nx : Int) k v i s ra rc) := ⟨_, _, _, _, _, _, rfl, HS4.out⟩
        obtain ⟨s0, bk, bv, bi, bra, brc, hst0, hds0⟩ := HS5.out
        have HST := hide hst0
        have HD0 := hide hds0
        clear hst0 hds0 HS5 HS4
        obtain ⟨k0, k1, k2, k3, k4, f0, f1, f2, f3, f4⟩ := HD0.out.m.cells
        have hcb := cell_row (o := 0) HD0.out.cb
        have hcb : W4.cell? ⟨w.heap.size + 1 + 1 + 1, 0, none⟩ = some (.int .i64 (cc : Int)) := hcb
        go_wp2
        clear k0 k1 k2 k3 k4 f0 f1 f2 f3 f4 hcb
        go_loopw [38] (fun i wr => ∃ (j : Nat) (s : PS) (pk pv pi : Value) (ra : Option Addr) (rc : Nat), j ≤ cc ∧ i = .int .i64 (j : Int) ∧ Hid (pl true (start true R7) j = some s) ∧ Hid (DSr w wr 1 (cc : Int) true (nx : Int) pk pv pi s ra rc)) (fun i _ => cc - (intOf i).toNat)
        case atStart => exact ⟨0, s0, _, _, _, _, _, by omega, rfl, HST.out, HD0.out⟩
        case round =>
          obtain ⟨j, s, pk, pv, pi, ra, rc, hj, rfl, HP, HD⟩ := hrel
          have HF := hide (HFIT.out j s HP.out)
          have hcl : cc < 65536 := HCL.out
          by_cases hjc : j < cc
          · have HT1 := hide (text_any (o := 1) HD.out.rd HD.out.m.heap rfl HD.out.own.keys HD.out.sz (by have := HF.out.nk; show s.keys.length ≤ _; omega))
            go_wp2_with fail
            refine HT1.out.mono ?_
            rintro e W6 (⟨hr, rfl, ho⟩ | ⟨t1, R1, hr, rfl, u1, ra1, rc1, hst, hsl, hts, hwh⟩)
            · have HY := hide (HD.out.y.keep ho (by simp; omega))
              have HB := hide (below_off HD.out.below ho (fun q hq => by simp at hq; omega))
              have HNO : Hid (dcf bs = none) := by
                have e : pl true (start true R7) (j + 1) = none := by
                  show (pl true (start true R7) j).bind (pst true) = none
                  rw [HP.out]
                  show (pstK s).bind _ = none
                  unfold pstK
                  rw [hr]
                  rfl
                rw [Hid, HDC.out, pl_none e cc (by omega)]
                rfl
              clear hr ho HT1
              obtain ⟨l0, l1, l2, l3, l4, i0, i1, i2, i3, i4⟩ := HY.out.cells
              go_wp2
              go_step3
              refine ⟨_, rfl, ?_⟩
              go_wp2
              rw [Exit.jumps_ret]
              refine bodyPost_ret (v := .tuple #[.agg #[.bool false, .slice none 0 0, .slice none 0 0, .slice none 0 0, .int .i64 0], .bool false]) (results_ct Try.results19 _ _ w.heap.size 26 #[.bool false, .slice none 0 0, .slice none 0 0, .slice none 0 0, .int .i64 0] (0, 0) _ rfl (HY.out.setAll _ _ _ _ _).heap Try.underlying26 rfl Try.size26) rfl ?_
              exact DcEnd.no HNO.out (below_setAll HB.out w.heap.size _ _ _ _ _ (Nat.le_refl _) HB.out.size)
            have HPK : Hid (pstK s = some ⟨s.keys ++ [t1], s.vals, s.kids, R1⟩) := by
              rw [Hid]
              unfold pstK
              rw [hr]
            have HKF := hide (HF.out.key hr)
            have HD2 := hide (HD.out.key hst (hsl _ HD.out.sl) hts hwh)
            clear hr hst hsl hts hwh HT1
            generalize hs1 : (⟨s.keys ++ [t1], s.vals, s.kids, R1⟩ : PS) = s1 at *
            have HSV : Hid (s1.vals = s.vals ∧ s1.kids = s.kids) := by rw [← hs1]; exact ⟨rfl, rfl⟩
            clear hs1
            have HT2 := hide (text_any (o := 2) HD2.out.rd HD2.out.m.heap rfl HD2.out.own.vals HD2.out.sz (by have := HF.out.nv; show s1.vals.length ≤ _; rw [HSV.out.1]; omega))
            obtain ⟨k0, k1, k2, k3, k4, f0, f1, f2, f3, f4⟩ := HD2.out.m.cells
            go_wp2_with fail
            refine HT2.out.mono ?_
            clear k0 k1 k2 k3 k4 f0 f1 f2 f3 f4
            rintro e W7 (⟨hr, rfl, ho⟩ | ⟨t2, R2, hr, rfl, u2, ra2, rc2, hst, hsl, hts, hwh⟩)
            · have HY := hide (HD2.out.y.keep ho (by simp; omega))
              have HB := hide (below_off HD2.out.below ho (fun q hq => by simp at hq; omega))
              have HNO : Hid (dcf bs = none) := by
                have e : pl true (start true R7) (j + 1) = none := by
                  show (pl true (start true R7) j).bind (pst true) = none
                  rw [HP.out]
                  show (pstK s).bind pstV = none
                  rw [HPK.out]
                  show pstV s1 = none
                  unfold pstV
                  rw [hr]
                rw [Hid, HDC.out, pl_none e cc (by omega)]
                rfl
              clear hr ho HT2
              obtain ⟨l0, l1, l2, l3, l4, i0, i1, i2, i3, i4⟩ := HY.out.cells
              go_wp2
              go_step3
              refine ⟨_, rfl, ?_⟩
              go_wp2
              rw [Exit.jumps_ret]
              refine bodyPost_ret (v := .tuple #[.agg #[.bool false, .slice none 0 0, .slice none 0 0, .slice none 0 0, .int .i64 0], .bool false]) (results_ct Try.results19 _ _ w.heap.size 26 #[.bool false, .slice none 0 0, .slice none 0 0, .slice none 0 0, .int .i64 0] (0, 0) _ rfl (HY.out.setAll _ _ _ _ _).heap Try.underlying26 rfl Try.size26) rfl ?_
              exact DcEnd.no HNO.out (below_setAll HB.out w.heap.size _ _ _ _ _ (Nat.le_refl _) HB.out.size)
            have HPN : Hid (pl true (start true R7) (j + 1) = some ⟨s1.keys, s1.vals ++ [t2], s1.kids, R2⟩) := by
              show (pl true (start true R7) j).bind (pst true) = _
              rw [HP.out]
              show (pstK s).bind pstV = _
              rw [HPK.out]
              show pstV s1 = _
              unfold pstV
              rw [hr]
            have HD3 := hide (HD2.out.val hst (hsl _ HD2.out.sl) hts hwh)
            clear hr hst hsl hts hwh HT2
            obtain ⟨k0, k1, k2, k3, k4, f0, f1, f2, f3, f4⟩ := HD3.out.m.cells
            go_wp2
            clear k0 k1 k2 k3 k4 f0 f1 f2 f3 f4
            go_roundw
            case rel => exact ⟨j + 1, _, _, _, _, _, _, by omega, by go_num, HPN.out, HD3.out⟩
            case measure => simp [intOf]; omega
          · have hje : j = cc := by omega
            subst hje
            have HFF := hide (HF.out.fits (by omega) true nx)
            obtain ⟨a1, c1, e1⟩ := HD.out.own.keys.slice
            obtain ⟨a2, c2, e2⟩ := HD.out.own.vals.slice
            obtain ⟨a3, c3, e3⟩ := owns_len HD.out.own.kids
            generalize (DNd s).keys.length = l1 at *
            generalize (DNd s).vals.length = l2 at *
            generalize (DNd s).kids.length = l3 at *
            subst e1 e2 e3
            have HSND : Hid (Calls Try.prog 33 #[.agg #[.bool true, .slice a1 l1 c1, .slice a2 l2 c2, .slice a3 l3 c3, .int .i64 (nx : Int)]] wr fun e w' => e = .returned (.bool (ndOf true nx s).sound) ∧ Below wr.heap.size wr w') := sound_any (N := ndOf true nx s) ⟨HD.out.own.at.keys, HD.out.own.at.vals, HD.out.own.at.kids⟩ HFF.out
            obtain ⟨k0, k1, k2, k3, k4, f0, f1, f2, f3, f4⟩ := HD.out.m.cells
            go_wp2_with fail
            refine HSND.out.mono ?_
            clear k0 k1 k2 k3 k4 f0 f1 f2 f3 f4
            rintro e W8 ⟨rfl, hb8⟩
            have HD8 := hide (HD.out.next hb8)
            clear hb8 HSND
            have HFN : Hid (((ndOf true nx s).sound && noughtsB s.rest) = false → dcf bs = none) := fun hh => by rw [HDC.out, HP.out]; exact fin_no hh
            have HFY : Hid (((ndOf true nx s).sound && noughtsB s.rest) = true → dcf bs = some (ndOf true nx s)) := fun hh => by rw [HDC.out, HP.out]; exact fin_yes hh
            generalize (ndOf true nx s).sound = sd at *
            cases sd with
            | false =>
              have HNO := hide (HFN.out rfl)
              obtain ⟨l0, l1, l2, l3, l4, i0, i1, i2, i3, i4⟩ := HD8.out.y.cells
              go_wp2
              go_step3
              refine ⟨_, rfl, ?_⟩
              go_wp2
              rw [Exit.jumps_ret]
              refine bodyPost_ret (v := .tuple #[.agg #[.bool false, .slice none 0 0, .slice none 0 0, .slice none 0 0, .int .i64 0], .bool false]) (results_ct Try.results19 _ _ w.heap.size 26 #[.bool false, .slice none 0 0, .slice none 0 0, .slice none 0 0, .int .i64 0] (0, 0) _ rfl (HD8.out.y.setAll _ _ _ _ _).heap Try.underlying26 rfl Try.size26) rfl ?_
              exact DcEnd.no HNO.out (below_setAll HD8.out.below w.heap.size _ _ _ _ _ (Nat.le_refl _) HD8.out.below.size)
            | true =>
              have HNG := hide (noughts_any HD8.out.rd)
              go_wp2_with fail
              refine HNG.out.mono ?_
              rintro e W9 ⟨rfl, rfl⟩
              clear HNG
              generalize noughtsB s.rest = ng at *
              cases ng with
              | false =>
                have HNO := hide (HFN.out rfl)
                obtain ⟨l0, l1, l2, l3, l4, i0, i1, i2, i3, i4⟩ := HD8.out.y.cells
                go_wp2
                go_step3
                refine ⟨_, rfl, ?_⟩
                go_wp2
                rw [Exit.jumps_ret]
                refine bodyPost_ret (v := .tuple #[.agg #[.bool false, .slice none 0 0, .slice none 0 0, .slice none 0 0, .int .i64 0], .bool false]) (results_ct Try.results19 _ _ w.heap.size 26 #[.bool false, .slice none 0 0, .slice none 0 0, .slice none 0 0, .int .i64 0] (0, 0) _ rfl (HD8.out.y.setAll _ _ _ _ _).heap Try.underlying26 rfl Try.size26) rfl ?_
                exact DcEnd.no HNO.out (below_setAll HD8.out.below w.heap.size _ _ _ _ _ (Nat.le_refl _) HD8.out.below.size)
              | true =>
                have HYE := hide (HFY.out rfl)
                obtain ⟨k0, k1, k2, k3, k4, f0, f1, f2, f3, f4⟩ := HD8.out.m.cells
                obtain ⟨l0, l1', l2', l3', l4, i0, i1, i2, i3, i4⟩ := HD8.out.y.cells
                go_wp2
                rw [Exit.jumps_ret]
                refine bodyPost_ret (v := .tuple #[.agg #[.bool true, .slice a1 l1 c1, .slice a2 l2 c2, .slice a3 l3 c3, .int .i64 (nx : Int)], .bool true]) (results_ct Try.results19 _ _ w.heap.size 26 #[.bool true, .slice a1 l1 c1, .slice a2 l2 c2, .slice a3 l3 c3, .int .i64 (nx : Int)] (0, 0) _ rfl (HD8.out.y.setAll _ _ _ _ _).heap Try.underlying26 rfl Try.size26) rfl ?_
                have ho := HD8.out.own.oth (HD8.out.y.othAll (.bool true) (.slice a1 l1 c1) (.slice a2 l2 c2) (.slice a3 l3 c3) (.int .i64 (nx : Int)))
                exact DcEnd.yes (N := ndOf true nx s) HYE.out (below_setAll HD8.out.below w.heap.size _ _ _ _ _ (Nat.le_refl _) HD8.out.below.size) ⟨ho.at.keys, ho.at.vals, ho.at.kids⟩
    · by_cases h2 : kn = 2
      · subst h2
        have HKD : Hid ((bs.getD 0 0).toNat = if false then 1 else 2) := HKF.out.symm
        clear HKF
        as_aux_lemma =>
          have kcell : W1.cell? ⟨w.heap.size + 1 + 1, 0, none⟩ = some (.int .i64 2) := by rw [cell_row HS1.out.kb]; rfl
          obtain ⟨k0, k1, k2, k3, k4, f0, f1, f2, f3, f4⟩ := HS1.out.m.cells
          have HDC := hide (dcf_yes (lf := false) HL.out HKD.out)
          have HS2 := hide (HS1.out.setL false)
          go_upto_region 8 with fail
          clear kcell k0 k1 k2 k3 k4 f0 f1 f2 f3 f4
          generalize W1.setCell ⟨w.heap.size + 1, 0, none⟩ (.bool false) = W2 at *
          clear HS1
          have HN2 := hide (number_any (s := 2) (ib := w.heap.size + 1 + 1 + 1) (io := 0) HS2.out.rd (by rw [cell_row HS2.out.cb]; rfl) (frozen_row HS2.out.cb) (by omega) (by omega))
          go_wp2_with fail
          refine HN2.out.mono ?_
          rintro e W3 (⟨hl, rfl, hW⟩ | ⟨hl, rfl, hW⟩)
          · exfalso
            have := HL.out
            simp [List.length_drop] at hl
            omega
          have HS3 : Hid (DSr w W3 2 ((beval ((bs.drop 1).take 2) : Nat) : Int) false 0 (.slice none 0 0) (.slice none 0 0) (.slice none 0 0) ⟨[], [], [], (bs.drop 1).drop 2⟩ (cutAt (cutAt pa pc 1) (pc - 1) 2) (pc - 1 - 2)) := by rw [hW]; exact (HS2.out.setC _).setF 2 hl
          clear hW hl HN2 HS2
          have HCL := hide (beval_lt2 (bs.drop 1))
          generalize hcc : beval ((bs.drop 1).take 2) = cc at *
          clear hcc
          go_upto_region 9 with fail
          have HN3 := hide (number_any (s := 4) (ib := w.heap.size + 1) (io := 4) HS3.out.rd HS3.out.m.cells.k4 HS3.out.m.cells.f4 (by omega) (by omega))
          obtain ⟨k0, k1, k2, k3, k4, f0, f1, f2, f3, f4⟩ := HS3.out.m.cells
          go_wp2_with fail
          refine HN3.out.mono ?_
          rintro e W4 (⟨hl, rfl, hW⟩ | ⟨hl, rfl, hW⟩)
          · exfalso
            have := HL.out
            simp [List.length_drop] at hl
            omega
          clear k0 k1 k2 k3 k4 f0 f1 f2 f3 f4
          have HS4 : Hid (DSr w W4 2 (cc : Int) false ((beval (((bs.drop 1).drop 2).take 4) : Nat) : Int) (.slice none 0 0) (.slice none 0 0) (.slice none 0 0) ⟨[], [], [], ((bs.drop 1).drop 2).drop 4⟩ (cutAt (cutAt (cutAt pa pc 1) (pc - 1) 2) (pc - 1 - 2) 4) (pc - 1 - 2 - 4)) := by rw [hW]; exact (HS3.out.setN _).setF 4 hl
          clear hW hl HN3 HS3
          have HRL : Hid ((((bs.drop 1).drop 2).drop 4).length ≤ 504) := by rw [Hid, List.length_drop, List.length_drop, List.length_drop, HL.out]; omega
          generalize beval (((bs.drop 1).drop 2).take 4) = nx at *
          generalize ((bs.drop 1).drop 2).drop 4 = R7 at *
          have HFIT : Hid (∀ j s, pl false (start false R7) j = some s → PFit s j) := fun j s hp => pl_fit HRL.out j s hp
          have HKC := hide (kid_any (o := 3) HS4.out.rd HS4.out.m.heap rfl HS4.out.own.kids HS4.out.sz (by show (0 : Nat) ≤ _; omega))
          go_upto_region 10 with fail
          obtain ⟨k0, k1, k2, k3, k4, f0, f1, f2, f3, f4⟩ := HS4.out.m.cells
          go_wp2_with fail
          refine HKC.out.mono ?_
          clear k0 k1 k2 k3 k4 f0 f1 f2 f3 f4
          rintro e W5 (⟨hr, rfl, hB⟩ | ⟨x0, R8, hr, rfl, u8, ra8, rc8, hst, hsl, hown⟩)
          · have HY := hide (HS4.out.y.belowW hB)
            have HB := hide (HS4.out.below.trans (hB.mono HS4.out.below.size))
            have HNO : Hid (dcf bs = none) := by
              have e : start false R7 = none := by
                show pstI ⟨[], [], [], R7⟩ = none
                unfold pstI
                have hr : rd 4 R7 = none := hr
                rw [show (PS.mk [] [] [] R7).rest = R7 from rfl, hr]
              have e0 : pl false (start false R7) 0 = none := e
              rw [Hid, HDC.out, pl_none e0 _ (Nat.zero_le _)]
              rfl
            clear hr hB HKC
            obtain ⟨l0, l1, l2, l3, l4, i0, i1, i2, i3, i4⟩ := HY.out.cells
            go_wp2
            go_step3
            refine ⟨_, rfl, ?_⟩
            go_wp2
            rw [Exit.jumps_ret]
            refine bodyPost_ret (v := .tuple #[.agg #[.bool false, .slice none 0 0, .slice none 0 0, .slice none 0 0, .int .i64 0], .bool false]) (results_ct Try.results19 _ _ w.heap.size 26 #[.bool false, .slice none 0 0, .slice none 0 0, .slice none 0 0, .int .i64 0] (0, 0) _ rfl (HY.out.setAll _ _ _ _ _).heap Try.underlying26 rfl Try.size26) rfl ?_
            exact DcEnd.no HNO.out (below_setAll HB.out w.heap.size _ _ _ _ _ (Nat.le_refl _) HB.out.size)
          have HST : Hid (start false R7 = some ⟨[], [], [(x0 : Int)], R8⟩) := by
            show pstI ⟨[], [], [], R7⟩ = _
            unfold pstI
            have hr : rd 4 R7 = some (x0, R8) := hr
            rw [show (PS.mk [] [] [] R7).rest = R7 from rfl, hr]
            rfl
          have HD0 := hide (HS4.out.kid hst (hsl _ HS4.out.sl) hown)
          clear hr hst hsl hown HS4 HKC
          generalize hs0 : (⟨[], [], [(x0 : Int)], R8⟩ : PS) = s0 at *
          have HD0 : Hid (DSr w W5 2 (cc : Int) false (nx : Int) (.slice none 0 0) (.slice none 0 0) u8 s0 ra8 rc8) := by rw [← hs0]; exact HD0.out
          clear hs0
          have hcb : W5.cell? ⟨w.heap.size + 1 + 1 + 1, 0, none⟩ = some (.int .i64 (cc : Int)) := by rw [cell_row HD0.out.cb]; rfl
          go_wp2
          clear hcb
          go_loopw [38] (fun i wr => ∃ (j : Nat) (s : PS) (pk pv pi : Value) (ra : Option Addr) (rc : Nat), j ≤ cc ∧ i = .int .i64 (j : Int) ∧ Hid (pl false (start false R7) j = some s) ∧ Hid (DSr w wr 2 (cc : Int) false (nx : Int) pk pv pi s ra rc)) (fun i _ => cc - (intOf i).toNat)
          case atStart => exact ⟨0, s0, _, _, _, _, _, by omega, rfl, HST.out, HD0.out⟩
          case round =>
            obtain ⟨j, s, pk, pv, pi, ra, rc, hj, rfl, HP, HD⟩ := hrel
            have HF := hide (HFIT.out j s HP.out)
            have hcl : cc < 65536 := HCL.out
            by_cases hjc : j < cc
            · have HT1 := hide (text_any (o := 1) HD.out.rd HD.out.m.heap rfl HD.out.own.keys HD.out.sz (by have := HF.out.nk; show s.keys.length ≤ _; omega))
              go_wp2_with fail
              refine HT1.out.mono ?_
              rintro e W6 (⟨hr, rfl, ho⟩ | ⟨t1, R1, hr, rfl, u1, ra1, rc1, hst, hsl, hts, hwh⟩)
              · have HY := hide (HD.out.y.keep ho (by simp; omega))
                have HB := hide (below_off HD.out.below ho (fun q hq => by simp at hq; omega))
                have HNO : Hid (dcf bs = none) := by
                  have e : pl false (start false R7) (j + 1) = none := by
                    show (pl false (start false R7) j).bind (pst false) = none
                    rw [HP.out]
                    show (pstK s).bind _ = none
                    unfold pstK
                    rw [hr]
                    rfl
                  rw [Hid, HDC.out, pl_none e cc (by omega)]
                  rfl
                clear hr ho HT1
                obtain ⟨l0, l1, l2, l3, l4, i0, i1, i2, i3, i4⟩ := HY.out.cells
                go_wp2
                go_step3
                refine ⟨_, rfl, ?_⟩
                go_wp2
                rw [Exit.jumps_ret]
                refine bodyPost_ret (v := .tuple #[.agg #[.bool false, .slice none 0 0, .slice none 0 0, .slice none 0 0, .int .i64 0], .bool false]) (results_ct Try.results19 _ _ w.heap.size 26 #[.bool false, .slice none 0 0, .slice none 0 0, .slice none 0 0, .int .i64 0] (0, 0) _ rfl (HY.out.setAll _ _ _ _ _).heap Try.underlying26 rfl Try.size26) rfl ?_
                exact DcEnd.no HNO.out (below_setAll HB.out w.heap.size _ _ _ _ _ (Nat.le_refl _) HB.out.size)
              have HPK : Hid (pstK s = some ⟨s.keys ++ [t1], s.vals, s.kids, R1⟩) := by
                rw [Hid]
                unfold pstK
                rw [hr]
              have HKF := hide (HF.out.key hr)
              have HD2 := hide (HD.out.key hst (hsl _ HD.out.sl) hts hwh)
              clear hr hst hsl hts hwh HT1
              generalize hs1 : (⟨s.keys ++ [t1], s.vals, s.kids, R1⟩ : PS) = s1 at *
              have HSV : Hid (s1.vals = s.vals ∧ s1.kids = s.kids) := by rw [← hs1]; exact ⟨rfl, rfl⟩
              clear hs1
              have HT2 := hide (kid_any (o := 3) HD2.out.rd HD2.out.m.heap rfl HD2.out.own.kids HD2.out.sz (by have := HF.out.ni; show s1.kids.length ≤ _; rw [HSV.out.2]; omega))
              obtain ⟨k0, k1, k2, k3, k4, f0, f1, f2, f3, f4⟩ := HD2.out.m.cells
              go_wp2_with fail
              refine HT2.out.mono ?_
              clear k0 k1 k2 k3 k4 f0 f1 f2 f3 f4
              rintro e W7 (⟨hr, rfl, hB⟩ | ⟨x2, R2, hr, rfl, u2, ra2, rc2, hst, hsl, hown⟩)
              · have HY := hide (HD2.out.y.belowW hB)
                have HB := hide (HD2.out.below.trans (hB.mono HD2.out.below.size))
                have HNO : Hid (dcf bs = none) := by
                  have e : pl false (start false R7) (j + 1) = none := by
                    show (pl false (start false R7) j).bind (pst false) = none
                    rw [HP.out]
                    show (pstK s).bind pstI = none
                    rw [HPK.out]
                    show pstI s1 = none
                    unfold pstI
                    rw [hr]
                  rw [Hid, HDC.out, pl_none e cc (by omega)]
                  rfl
                clear hr hB HT2
                obtain ⟨l0, l1, l2, l3, l4, i0, i1, i2, i3, i4⟩ := HY.out.cells
                go_wp2
                go_step3
                refine ⟨_, rfl, ?_⟩
                go_wp2
                rw [Exit.jumps_ret]
                refine bodyPost_ret (v := .tuple #[.agg #[.bool false, .slice none 0 0, .slice none 0 0, .slice none 0 0, .int .i64 0], .bool false]) (results_ct Try.results19 _ _ w.heap.size 26 #[.bool false, .slice none 0 0, .slice none 0 0, .slice none 0 0, .int .i64 0] (0, 0) _ rfl (HY.out.setAll _ _ _ _ _).heap Try.underlying26 rfl Try.size26) rfl ?_
                exact DcEnd.no HNO.out (below_setAll HB.out w.heap.size _ _ _ _ _ (Nat.le_refl _) HB.out.size)
              have HPN : Hid (pl false (start false R7) (j + 1) = some ⟨s1.keys, s1.vals, s1.kids ++ [(x2 : Int)], R2⟩) := by
                show (pl false (start false R7) j).bind (pst false) = _
                rw [HP.out]
                show (pstK s).bind pstI = _
                rw [HPK.out]
                show pstI s1 = _
                unfold pstI
                rw [hr]
              have HD3 := hide (HD2.out.kid hst (hsl _ HD2.out.sl) hown)
              clear hr hst hsl hown HT2
              obtain ⟨k0, k1, k2, k3, k4, f0, f1, f2, f3, f4⟩ := HD3.out.m.cells
              go_wp2
              clear k0 k1 k2 k3 k4 f0 f1 f2 f3 f4
              go_roundw
              case rel => exact ⟨j + 1, _, _, _, _, _, _, by omega, by go_num, HPN.out, HD3.out⟩
              case measure => simp [intOf]; omega
            · have hje : j = cc := by omega
              subst hje
              have HFF := hide (HF.out.fits (by omega) false nx)
              obtain ⟨a1, c1, e1⟩ := HD.out.own.keys.slice
              obtain ⟨a2, c2, e2⟩ := HD.out.own.vals.slice
              obtain ⟨a3, c3, e3⟩ := owns_len HD.out.own.kids
              generalize (DNd s).keys.length = l1 at *
              generalize (DNd s).vals.length = l2 at *
              generalize (DNd s).kids.length = l3 at *
              subst e1 e2 e3
              have HSND : Hid (Calls Try.prog 33 #[.agg #[.bool false, .slice a1 l1 c1, .slice a2 l2 c2, .slice a3 l3 c3, .int .i64 (nx : Int)]] wr fun e w' => e = .returned (.bool (ndOf false nx s).sound) ∧ Below wr.heap.size wr w') := sound_any (N := ndOf false nx s) ⟨HD.out.own.at.keys, HD.out.own.at.vals, HD.out.own.at.kids⟩ HFF.out
              obtain ⟨k0, k1, k2, k3, k4, f0, f1, f2, f3, f4⟩ := HD.out.m.cells
              go_wp2_with fail
              refine HSND.out.mono ?_
              clear k0 k1 k2 k3 k4 f0 f1 f2 f3 f4
              rintro e W8 ⟨rfl, hb8⟩
              have HD8 := hide (HD.out.next hb8)
              clear hb8 HSND
              have HFN : Hid (((ndOf false nx s).sound && noughtsB s.rest) = false → dcf bs = none) := fun hh => by rw [HDC.out, HP.out]; exact fin_no hh
              have HFY : Hid (((ndOf false nx s).sound && noughtsB s.rest) = true → dcf bs = some (ndOf false nx s)) := fun hh => by rw [HDC.out, HP.out]; exact fin_yes hh
              generalize (ndOf false nx s).sound = sd at *
              cases sd with
              | false =>
                have HNO := hide (HFN.out rfl)
                obtain ⟨l0, l1, l2, l3, l4, i0, i1, i2, i3, i4⟩ := HD8.out.y.cells
                go_wp2
                go_step3
                refine ⟨_, rfl, ?_⟩
                go_wp2
                rw [Exit.jumps_ret]
                refine bodyPost_ret (v := .tuple #[.agg #[.bool false, .slice none 0 0, .slice none 0 0, .slice none 0 0, .int .i64 0], .bool false]) (results_ct Try.results19 _ _ w.heap.size 26 #[.bool false, .slice none 0 0, .slice none 0 0, .slice none 0 0, .int .i64 0] (0, 0) _ rfl (HD8.out.y.setAll _ _ _ _ _).heap Try.underlying26 rfl Try.size26) rfl ?_
                exact DcEnd.no HNO.out (below_setAll HD8.out.below w.heap.size _ _ _ _ _ (Nat.le_refl _) HD8.out.below.size)
              | true =>
                have HNG := hide (noughts_any HD8.out.rd)
                go_wp2_with fail
                refine HNG.out.mono ?_
                rintro e W9 ⟨rfl, rfl⟩
                clear HNG
                generalize noughtsB s.rest = ng at *
                cases ng with
                | false =>
                  have HNO := hide (HFN.out rfl)
                  obtain ⟨l0, l1, l2, l3, l4, i0, i1, i2, i3, i4⟩ := HD8.out.y.cells
                  go_wp2
                  go_step3
                  refine ⟨_, rfl, ?_⟩
                  go_wp2
                  rw [Exit.jumps_ret]
                  refine bodyPost_ret (v := .tuple #[.agg #[.bool false, .slice none 0 0, .slice none 0 0, .slice none 0 0, .int .i64 0], .bool false]) (results_ct Try.results19 _ _ w.heap.size 26 #[.bool false, .slice none 0 0, .slice none 0 0, .slice none 0 0, .int .i64 0] (0, 0) _ rfl (HD8.out.y.setAll _ _ _ _ _).heap Try.underlying26 rfl Try.size26) rfl ?_
                  exact DcEnd.no HNO.out (below_setAll HD8.out.below w.heap.size _ _ _ _ _ (Nat.le_refl _) HD8.out.below.size)
                | true =>
                  have HYE := hide (HFY.out rfl)
                  obtain ⟨k0, k1, k2, k3, k4, f0, f1, f2, f3, f4⟩ := HD8.out.m.cells
                  obtain ⟨l0, l1', l2', l3', l4, i0, i1, i2, i3, i4⟩ := HD8.out.y.cells
                  go_wp2
                  rw [Exit.jumps_ret]
                  refine bodyPost_ret (v := .tuple #[.agg #[.bool false, .slice a1 l1 c1, .slice a2 l2 c2, .slice a3 l3 c3, .int .i64 (nx : Int)], .bool true]) (results_ct Try.results19 _ _ w.heap.size 26 #[.bool false, .slice a1 l1 c1, .slice a2 l2 c2, .slice a3 l3 c3, .int .i64 (nx : Int)] (0, 0) _ rfl (HD8.out.y.setAll _ _ _ _ _).heap Try.underlying26 rfl Try.size26) rfl ?_
                  have ho := HD8.out.own.oth (HD8.out.y.othAll (.bool false) (.slice a1 l1 c1) (.slice a2 l2 c2) (.slice a3 l3 c3) (.int .i64 (nx : Int)))
                  exact DcEnd.yes (N := ndOf false nx s) HYE.out (below_setAll HD8.out.below w.heap.size _ _ _ _ _ (Nat.le_refl _) HD8.out.below.size) ⟨ho.at.keys, ho.at.vals, ho.at.kids⟩
      · have kcell : W1.cell? ⟨w.heap.size + 1 + 1, 0, none⟩ = some (.int .i64 (kn : Int)) := by rw [cell_row HS1.out.kb]; rfl
        have hz1 : ((kn : Int) != 1) = true := by simp; omega
        have hz2 : ((kn : Int) != 2) = true := by simp; omega
        have HNO : Hid (dcf bs = none) := dcf_not (fun e => by rw [← HKF.out] at e; rcases e.2 with e | e; exact h1 e; exact h2 e)
        obtain ⟨l0, l1, l2, l3, l4, i0, i1, i2, i3, i4⟩ := HS1.out.y.cells
        go_wp2
        go_step3
        refine ⟨_, rfl, ?_⟩
        go_wp2
        rw [Exit.jumps_ret]
        refine bodyPost_ret (v := .tuple #[.agg #[.bool false, .slice none 0 0, .slice none 0 0, .slice none 0 0, .int .i64 0], .bool false]) (results_ct Try.results19 _ _ w.heap.size 26 #[.bool false, .slice none 0 0, .slice none 0 0, .slice none 0 0, .int .i64 0] (0, 0) _ rfl (HS1.out.y.setAll _ _ _ _ _).heap Try.underlying26 rfl Try.size26) rfl ?_
        exact DcEnd.no HNO.out (below_setAll HS1.out.below w.heap.size _ _ _ _ _ (Nat.le_refl _) HS1.out.below.size)
  · have HNO : Hid (dcf bs = none) := dcf_not (fun e => h504 e.1)
    have hq : ¬ (((bs.length : Nat) : Int) = 504) := by omega
    obtain ⟨l0, l1, l2, l3, l4, i0, i1, i2, i3, i4⟩ := HS0.out.y.cells
    go_wp2
    go_step3
    refine ⟨_, rfl, ?_⟩
    go_wp2
    rw [Exit.jumps_ret]
    refine bodyPost_ret (v := .tuple #[.agg #[.bool false, .slice none 0 0, .slice none 0 0, .slice none 0 0, .int .i64 0], .bool false]) (results_ct Try.results19 _ _ w.heap.size 26 #[.bool false, .slice none 0 0, .slice none 0 0, .slice none 0 0, .int .i64 0] (0, 0) _ rfl (HS0.out.y.setAll _ _ _ _ _).heap Try.underlying26 rfl Try.size26) rfl ?_
    exact DcEnd.no HNO.out (below_setAll HS0.out.below w.heap.size _ _ _ _ _ (Nat.le_refl _) HS0.out.below.size)
end Go.Proofs.Ytjcobejaldfibaa
