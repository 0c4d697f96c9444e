/- A part of it: SWrF. -/
import Derived.Test.YteeembildppgmaaGreatM39
namespace Go.Proofs.YteeembildppgmaaGreat
open Go.RowKit
set_option linter.unusedVariables false
set_option linter.unusedSimpArgs false
section
variable {w0 w w' : World} {s : Nat} {c : Cf} {xs tb : List Nat} {ov : Value} {ps : List Nat} {uvs : List Value} {S : St} {V : Nat → List UInt8}
set_option maxHeartbeats 2000000 in
set_option maxRecDepth 100000 in
theorem swrite_eqR (h : StIs w0 w s c xs tb ov ps uvs S) {i x : Nat} {T : Tn} {uv : Value} (hx : ps[i]? = some x) (hT : S.txs[i]? = some T) (hu : uvs[i]? = some uv) (hno : ∀ (j : Nat) U, j < i → S.txs[j]? = some U → U.id ≠ T.id) (hi : PInv c.n S.pool V) (hwr : S.pool.wr + 3 ≤ 1000000) (t : Int) (ht : t = (T.id : Int)) (pg off n ga oa ca : Nat) (af : List UInt8) (hal : af.length = n)
 (hby : ByteSrc w0 w xs ga oa ca af) (hp : pg < c.n) (hn : 1 ≤ n) (ho : off + n ≤ 504) (hb : S.res ≤ 1000000000) (hid : T.id ≤ 1000000000000) (hla : T.last ≤ 4398046511104)
 (hbz : Calls Tryz.prog 33 #[.pointer (some ⟨s, 0, none⟩), .pointer (some ⟨x, 0, none⟩), .int .i64 (pg : Int), .int .i64 (off : Int), .int .i64 (n : Int)] w fun e w' => e = .returned (.bool false) ∧ Below w.heap.size w w')
 (hq : ((V pg).drop (8 + off)).take n = af) :
 Calls Tryz.prog 13 #[.pointer (some ⟨s, 0, none⟩), .int .i64 t, .int .i64 (pg : Int), .int .i64 (off : Int), .slice (some ⟨ga, oa, none⟩) n ca] w fun e w' => e = .returned (.int .i64 0) ∧ ∃ pl, StAt w0 w' s c xs { S with pool := pl } ∧ PInv c.n pl V ∧ RS S.R pl.fo.1 ∧ pl.wr ≤ S.pool.wr + 1 ∧ pl.fs.length = S.pool.fs.length ∧ Kept xs w w' := by
 have HF := hide (sfind_ok h hx hT hno t ht)
 have HHAS := hide (shas_any h (pg : Int) (off : Int) (n : Int) (by omega))
 have hhas : hasB c.n (pg : Int) (off : Int) (n : Int) = true := decide_eq_true (by omega)
 rw [hhas] at HHAS
 have HBZ := hide hbz
 have HG : Hid (∀ W, Below w.heap.size w W → Calls Tryz.prog 34 #[.pointer (some ⟨s, 0, none⟩), .int .i64 (pg : Int), .int .i64 (off : Int), .int .i64 (n : Int)] W fun e w' => ∃ g, e = .returned (.tuple #[.slice (some ⟨g, 0, none⟩) n n, .int .i64 0]) ∧ W.heap.size ≤ g ∧
  w'.heap[g]? = some (.cells (secCells (((V pg).drop (8 + off)).take n)).toArray 5 (0, 0)) ∧ StIs w0 w' s c (g :: xs) tb ov ps uvs { S with pool := (cGet c S.pool pg).2.2 } ∧ Kept (s :: (tb ++ xs)) W w') := fun W hW => sget_ok (h.belowW hW) hi (by omega) pg off n hp hn ho
 have hv5 := hi.v5 pg hp
 have hbl : (((V pg).drop (8 + off)).take n).length = n := by simp; omega
 obtain ⟨-, -, hs⟩ := hi.get pg hp
 have HS := hide hs
 have HBL := hide hbl
 have HQ := hide hq
 have HAL := hide hal
 have HBY := hide hby
 have HH := hide h
 have HKX := hide hx
 have HKT := hide hT
 have HKU := hide hu
 have HWR := hide hwr
 have HB := hide hb
 have hn0 : ((n : Int) == 0) = false := by simp; omega
 clear h hx hT hu hno hi hwr ht hal hby hb hbz hq hhas hv5 hbl hs
 go_enter Tryz.func13, Tryz.ntmps13
 go_wp2_with (first
  | (go_at_call 31; refine HF.out.mono ?_; rintro e w' ⟨rfl, hw⟩; have hw := hw.symm; subst hw)
  | (go_at_call 32; refine HHAS.out.mono ?_; rintro e w' ⟨rfl, hw⟩; have hw := hw.symm; subst hw)
  | (go_at_call 33; refine HBZ.out.mono ?_; rintro e w1 ⟨rfl, hw1⟩; have HW1 := hide hw1; clear hw1)
  | (go_at_call 34; refine (HG.out w1 HW1.out).mono ?_; rintro e w2 ⟨g, rfl, hg, hb, h2, hK2⟩
     have HE0 := equal_any w2 g 0 n n ga oa n ca _ af HBL.out HAL.out (rng_block hb) ((HBY.out.belowW HH.out.below HW1.out (fun k hk => HH.out.lt hk)).keep (HH.out.belowW HW1.out).below h2.below (fun k hk => hK2.2 k (by simp [hk])) hK2.1).rd
     rw [decide_eq_true HQ.out] at HE0
     have HE := hide HE0
     have HG2 := hide hg
     have HB2 := hide hb
     have HH2 := hide h2
     have HK2 := hide hK2
     clear hg hb h2 hK2 HE0)
  | (go_at_call 35; refine HE.out.mono ?_; rintro e w' ⟨rfl, hw⟩; have hw := hw.symm; subst hw)
  | fail)
 go_ret
 refine ⟨rfl, _, (HH2.out.mind (fun k hk => by simp [hk])).at, HS.out.inv, HS.out.rs, HS.out.wr, HS.out.len, ?_⟩
 exact Kept.trans ⟨HW1.out.size, fun k hk => HW1.out.block k (HH.out.lt hk)⟩ (HK2.out.mono (fun k hk => by simp [hk]))
set_option maxHeartbeats 2000000 in
set_option maxRecDepth 100000 in
theorem swrite_full (h : StIs w0 w s c xs tb ov ps uvs S) {i x : Nat} {T : Tn} {uv : Value} (hx : ps[i]? = some x) (hT : S.txs[i]? = some T) (hu : uvs[i]? = some uv) (hno : ∀ (j : Nat) U, j < i → S.txs[j]? = some U → U.id ≠ T.id) (hi : PInv c.n S.pool V) (hwr : S.pool.wr + 3 ≤ 1000000) (t : Int) (ht : t = (T.id : Int)) (pg off n ga oa ca : Nat) (af : List UInt8) (hal : af.length = n)
 (hby : ByteSrc w0 w xs ga oa ca af) (hp : pg < c.n) (hn : 1 ≤ n) (ho : off + n ≤ 504) (hb : S.res ≤ 1000000000) (hroom : ¬ (192 + 3 * n + S.res + 2048 ≤ S.R.room)) (T0 : Tn) (hT0 : S.txs[0]? = some T0) (hbg : T0.begin = S.R.start + 1) (hB : T0.begin ≤ 4398046511104) (hid : T.id ≤ 1000000000000) (hla : T.last ≤ 4398046511104)
 (hbz : Calls Tryz.prog 33 #[.pointer (some ⟨s, 0, none⟩), .pointer (some ⟨x, 0, none⟩), .int .i64 (pg : Int), .int .i64 (off : Int), .int .i64 (n : Int)] w fun e w' => e = .returned (.bool false) ∧ Below w.heap.size w w')
 (hq : ((V pg).drop (8 + off)).take n ≠ af) :
 Calls Tryz.prog 13 #[.pointer (some ⟨s, 0, none⟩), .int .i64 t, .int .i64 (pg : Int), .int .i64 (off : Int), .slice (some ⟨ga, oa, none⟩) n ca] w fun e w' => e = .returned (.int .i64 60) ∧ ∃ pl, StAt w0 w' s c xs { S with pool := pl } ∧ PInv c.n pl V ∧ RS S.R pl.fo.1 ∧ pl.wr ≤ S.pool.wr + 1 ∧ pl.fs.length = S.pool.fs.length ∧ Kept xs w w' := by
 have HF := hide (sfind_ok h hx hT hno t ht)
 have HHAS := hide (shas_any h (pg : Int) (off : Int) (n : Int) (by omega))
 have hhas : hasB c.n (pg : Int) (off : Int) (n : Int) = true := decide_eq_true (by omega)
 rw [hhas] at HHAS
 have HBZ := hide hbz
 have HG : Hid (∀ W, Below w.heap.size w W → Calls Tryz.prog 34 #[.pointer (some ⟨s, 0, none⟩), .int .i64 (pg : Int), .int .i64 (off : Int), .int .i64 (n : Int)] W fun e w' => ∃ g, e = .returned (.tuple #[.slice (some ⟨g, 0, none⟩) n n, .int .i64 0]) ∧ W.heap.size ≤ g ∧
  w'.heap[g]? = some (.cells (secCells (((V pg).drop (8 + off)).take n)).toArray 5 (0, 0)) ∧ StIs w0 w' s c (g :: xs) tb ov ps uvs { S with pool := (cGet c S.pool pg).2.2 } ∧ Kept (s :: (tb ++ xs)) W w') := fun W hW => sget_ok (h.belowW hW) hi (by omega) pg off n hp hn ho
 have hv5 := hi.v5 pg hp
 have hbl : (((V pg).drop (8 + off)).take n).length = n := by simp; omega
 obtain ⟨-, -, hs⟩ := hi.get pg hp
 have HS := hide hs
 have HBL := hide hbl
 have HQ := hide hq
 have HAL := hide hal
 have HBY := hide hby
 have HH := hide h
 have HKX := hide hx
 have HKT := hide hT
 have HKU := hide hu
 have HWR := hide hwr
 have HB := hide hb
 have HRM := hide hroom
 have HT0 := hide hT0
 have HBG := hide hbg
 have hn0 : ((n : Int) == 0) = false := by simp; omega
 clear h hx hT hu hno hi hwr ht hal hby hb hroom hT0 hbg hbz hq hhas hv5 hbl hs
 go_enter Tryz.func13, Tryz.ntmps13
 go_wp2_with (first
  | (go_at_call 31; refine HF.out.mono ?_; rintro e w' ⟨rfl, hw⟩; have hw := hw.symm; subst hw)
  | (go_at_call 32; refine HHAS.out.mono ?_; rintro e w' ⟨rfl, hw⟩; have hw := hw.symm; subst hw)
  | (go_at_call 33; refine HBZ.out.mono ?_; rintro e w1 ⟨rfl, hw1⟩; have HW1 := hide hw1; clear hw1)
  | (go_at_call 34; refine (HG.out w1 HW1.out).mono ?_; rintro e w2 ⟨g, rfl, hg, hb, h2, hK2⟩
     have HE0 := equal_any w2 g 0 n n ga oa n ca _ af HBL.out HAL.out (rng_block hb) ((HBY.out.belowW HH.out.below HW1.out (fun k hk => HH.out.lt hk)).keep (HH.out.belowW HW1.out).below h2.below (fun k hk => hK2.2 k (by simp [hk])) hK2.1).rd
     rw [decide_eq_false HQ.out] at HE0
     have HE := hide HE0
     have HG2 := hide hg
     have HB2 := hide hb
     have HH2 := hide h2
     have HK2 := hide hK2
     clear hg hb h2 hK2 HE0)
  | (go_at_call 35; refine HE.out.mono ?_; rintro e w' ⟨rfl, hw⟩; have hw := hw.symm; subst hw)
  | (go_at_call 36
     have hgw := HW1.out.size
     refine (update_full g HH2.out HKX.out HKT.out HKU.out pg off n ga oa ca _ af HBL.out HAL.out HB2.out (fun hm => by have := HH.out.lt hm; have := HG2.out; omega) (by have := HH.out.below.size; have := HG2.out; omega)
      ((HBY.out.belowW HH.out.below HW1.out (fun k hk => HH.out.lt hk)).keep (HH.out.belowW HW1.out).below HH2.out.below (fun k hk => HK2.out.2 k (by simp [hk])) HK2.out.1) hp hn ho HB.out (by show ¬ (_ ≤ Rg.room (cGet c S.pool pg).2.2.fo.1); rw [HS.out.rs.room]; exact HRM.out) T0 HT0.out (by show _ = Rg.start (cGet c S.pool pg).2.2.fo.1 + 1; rw [HS.out.rs.start]; exact HBG.out) hB hid hla).mono ?_
     rintro e w3 ⟨rfl, h3⟩
     have H3 := hide h3
     clear h3))
 go_ret
 refine ⟨rfl, _, ((HH2.out.belowW H3.out).mind (fun k hk => by simp [hk])).at, HS.out.inv, HS.out.rs, HS.out.wr, HS.out.len, ?_⟩
 exact (Kept.trans ⟨HW1.out.size, fun k hk => HW1.out.block k (HH.out.lt hk)⟩ (HK2.out.mono (fun k hk => by simp [hk]))).trans ⟨H3.out.size, fun k hk => H3.out.block k (HH2.out.lt (by simp [hk]))⟩
end
end Go.Proofs.YteeembildppgmaaGreat
