/- A part of it: SRest SLean SOpen SLaw SMkS SAwP SAwake. -/
import Derived.Test.YteeembildppgmaaGreatM37
import Derived.Test.YteeembildppgmaaGreatM30
import Derived.Test.YteeembildppgmaaGreatM26
import Derived.Test.YteeembildppgmaaGreatM28
import Derived.Deep.CutBlock
import Derived.Lib.SlBytesConst
namespace Go.Proofs.YteeembildppgmaaGreat
open Go.RowKit
set_option linter.unusedVariables false
set_option linter.unusedSimpArgs false
section
variable {w0 w w' : World} {s : Nat} {c : Cf} {xs tb : List Nat} {ov : Value} {ps : List Nat} {uvs : List Value} {S : St}
set_option maxHeartbeats 2000000 in
set_option maxRecDepth 100000 in
theorem restart_none (h : StIs w0 w s c xs tb ov ps uvs S) (hh : S.R.held = []) (hd : dirtL S.pool.fs = []) (h3 : S.R.start ≤ 2199023255552) (hm : S.master < 2199023255552) (hc : S.commits < 4611686018427387904) (hn : S.next < 4611686018427387904) :
 Calls Tryz.prog 50 #[.pointer (some ⟨s, 0, none⟩)] w fun e w' => e = .returned (.int .i64 0) ∧ StIs w0 w' s c xs tb ov ps uvs { S.setR { S.R with fin := S.R.start, held := [] } with master := S.master + 1, redone := 0 } := by
 have HL := hide (lines_none h hh)
 have H := hide h
 have HH := hide hh
 have HD := hide hd
 have HN := hide (And.intro h3 (And.intro hm (And.intro hc hn)))
 clear h hh hd h3 hm hc hn
 go_enter Tryz.func50, Tryz.ntmps50
 go_wp2
 refine wp_scope_fwd 5 ?_
 go_wp2_with (first
  | (go_at_call 65; refine HL.out.mono ?_; rintro e W1 ⟨la, lc, rfl, hB1⟩
     have HG : Hid (∀ o : Obj, (W1.alloc o).heap[W1.heap.size]? = some o) := fun o => World.alloc_heap_new W1 o
     have HB1 := hide hB1
     clear hB1)
  | (refine wpList_store_row (by rfl) 124 _ _ (by rfl) W1.heap.size #[.slice la 0 lc, .slice none 0 0, .slice none 0 0] (by rfl) (by rfl) 124 _ (HG.out _) (by kernel_rfl) (by rfl) (by simp [Value.oneCell']) ?_))
 have hff : ∀ o : Obj, (W1.alloc o).heap[W1.heap.size]? = some o := HG.out
 have hb0 : Below W1.heap.size W1 ((W1.alloc (.cells #[.slice none 0 0, .slice none 0 0, .slice none 0 0] 124)).setRow W1.heap.size #[.slice la 0 lc, .slice none 0 0, .slice none 0 0]) := (((Off.refl [] W1).alloc _).setRow _ _ (.inr (Nat.le_refl _))).below (Nat.le_refl _) (by simp)
 have hf1 : FoundAt ((W1.alloc (.cells #[.slice none 0 0, .slice none 0 0, .slice none 0 0] 124)).setRow W1.heap.size #[.slice la 0 lc, .slice none 0 0, .slice none 0 0]) W1.heap.size la lc none 0 none 0 := setRow_heap _ _ _ _ _ _ (hff _)
 generalize (W1.alloc (.cells #[.slice none 0 0, .slice none 0 0, .slice none 0 0] 124)).setRow W1.heap.size #[.slice la 0 lc, .slice none 0 0, .slice none 0 0] = X1 at hb0 hf1 ⊢
 have hfl : W1.heap.size < X1.heap.size := (Array.getElem?_eq_some_iff.1 hf1).1
 have h1 : StIs w0 X1 s c (W1.heap.size :: xs) tb ov ps uvs S := (H.out.belowW HB1.out).mindNew hb0 (by intro k hk; simp only [List.mem_cons] at hk; rcases hk with rfl | hk; exact .inr ⟨Nat.le_refl _, hfl⟩; exact .inl hk)
 have hf0 : w0.heap.size ≤ W1.heap.size := (H.out.belowW HB1.out).below.size
 have HFS : Hid (W1.heap.size ≠ s) := fun e => h1.sx (by simp [← e])
 have HF0 := hide hf0
 have HA := hide (analyze_none h1 hf1 (by simp) hf0 HN.out.2.2.1)
 clear hff hb0 hf1 hfl h1 hf0 HG HL
 generalize W1.heap.size = ff at *
 go_wp2
 go_step3
 refine ⟨_, rfl, ?_⟩
 go_wp2_with (go_at_call 77; refine HA.out.mono ?_; rintro e W2 ⟨rfl, ta, tc, da, dc, h2, hf2⟩
              have f0 : W2.cell? ⟨ff, 0, none⟩ = some (.slice la 0 lc) := by rw [cell_of_row W2 ff 0 _ _ _ hf2]; rfl
              have f1 : W2.cell? ⟨ff, 1, none⟩ = some (.slice ta 0 tc) := by rw [cell_of_row W2 ff 1 _ _ _ hf2]; rfl
              have f2 : W2.cell? ⟨ff, 2, none⟩ = some (.slice da 0 dc) := by rw [cell_of_row W2 ff 2 _ _ _ hf2]; rfl
              have H2 := hide h2
              have HF2 := hide hf2
              have HDA := hide (doAgain_none (la := la) (ta := ta) (da := da) (lc := lc) (tc := tc) (dc := dc) h2)
              clear h2 hf2 HA)
 go_step3
 refine ⟨_, rfl, ?_⟩
 go_wp2_with (go_at_call 78; refine HDA.out.mono ?_; rintro e W3 ⟨rfl, h3, hO3⟩
              have hf3 : FoundAt W3 ff la lc ta tc da dc := (hO3.block ff (Array.getElem?_eq_some_iff.1 HF2.out).1 (by simpa using HFS.out)).trans HF2.out
              have f0 : W3.cell? ⟨ff, 0, none⟩ = some (.slice la 0 lc) := by rw [cell_of_row W3 ff 0 _ _ _ hf3]; rfl
              have f1 : W3.cell? ⟨ff, 1, none⟩ = some (.slice ta 0 tc) := by rw [cell_of_row W3 ff 1 _ _ _ hf3]; rfl
              have f2 : W3.cell? ⟨ff, 2, none⟩ = some (.slice da 0 dc) := by rw [cell_of_row W3 ff 2 _ _ _ hf3]; rfl
              have H3 := hide h3
              have HF3 := hide hf3
              have HUL := hide (undoLosers_none (la := la) (ta := ta) (da := da) (lc := lc) (tc := tc) (dc := dc) W3 s)
              clear h3 hf3 hO3 HDA)
 go_step3
 refine ⟨_, rfl, ?_⟩
 go_wp2_with (go_at_call 79; refine HUL.out.mono ?_; rintro e W4 ⟨rfl, hB4⟩
              have h4 := H3.out.belowW hB4
              have hf4 : FoundAt W4 ff la lc ta tc da dc := (hB4.block ff (Array.getElem?_eq_some_iff.1 HF3.out).1).trans HF3.out
              have f0 : W4.cell? ⟨ff, 0, none⟩ = some (.slice la 0 lc) := by rw [cell_of_row W4 ff 0 _ _ _ hf4]; rfl
              have f1 : W4.cell? ⟨ff, 1, none⟩ = some (.slice ta 0 tc) := by rw [cell_of_row W4 ff 1 _ _ _ hf4]; rfl
              have f2 : W4.cell? ⟨ff, 2, none⟩ = some (.slice da 0 dc) := by rw [cell_of_row W4 ff 2 _ _ _ hf4]; rfl
              have HED := hide (endDone_none h4 la ta da lc tc dc)
              clear h4 hf4 hB4 HUL)
 go_step3
 refine ⟨_, rfl, ?_⟩
 go_wp2_with (go_at_call 80; refine HED.out.mono ?_; rintro e W5 ⟨rfl, h5, hk5⟩
              have c1 := h5.c1
              obtain ⟨bl5, vs5, gp5, D5, hP5, hB5⟩ := h5.asRing
              have HE := hide (end_any hB5.rg)
              have HST := hide (startAt_none h5 HH.out HD.out S.R.tail (by show S.R.start ≤ S.R.tail; unfold Rg.tail; omega) (Nat.le_refl _) (by show S.R.tail ≤ _; unfold Rg.tail; rw [HH.out]; exact HN.out.1) HN.out.2.1 HN.out.2.2.1 HN.out.2.2.2)
              clear h5 hk5 hP5 hB5 HED)
 go_step3
 refine ⟨_, rfl, ?_⟩
 go_wp2_with (first
  | (go_at_call 76; refine HE.out.mono ?_; rintro e w9 ⟨rfl, hw9⟩; have hw9 := hw9.symm; subst hw9)
  | (go_at_call 81; refine HST.out.mono ?_; rintro e W6 ⟨rfl, h6, hk6⟩; have H6 := hide h6; clear h6 hk6 HST))
 rw [Exit.jumps_ret]
 go_ret
 have key : ∀ t : Nat, t = S.R.start → StIs w0 W6 s c xs tb ov ps uvs { S.setR { S.R with fin := t, start := t, held := [] } with master := S.master + 1, redone := 0 } → StIs w0 W6 s c xs tb ov ps uvs { S.setR { S.R with fin := S.R.start, held := [] } with master := S.master + 1, redone := 0 } := fun t e h => by rw [e] at h; exact h
 exact ⟨rfl, key S.R.tail (by unfold Rg.tail; rw [HH.out]; rfl) (H6.out.mind (by intro k hk; simp [hk]))⟩
end
end Go.Proofs.YteeembildppgmaaGreat
namespace Go.Proofs.YteeembildppgmaaGreat
open Go.RowKit
set_option linter.unusedVariables false
set_option linter.unusedSimpArgs false
def preCells (p : Nat) (nx cm ms : Int) : Array Value := #[.pointer (some ⟨p, 0, none⟩), .pointer none, .pointer none, .int .i64 0, .slice none 0 0, .int .i64 nx, .int .i64 cm, .int .i64 ms, .int .i64 0, .int .i64 0, .bool false]
def diskOf (L : List (List UInt8)) (lg n : Nat) : List (List UInt8) := (List.range n).map fun i => pageL L (2 + lg + 5 + 4 * i)
theorem diskOf_get (L : List (List UInt8)) (lg n i : Nat) (hi : i < n) : (diskOf L lg n).getD i [] = pageL L (2 + lg + 5 + 4 * i) := by simp [diskOf, hi]
theorem set3 {w : World} {s : Nat} {p : Nat} {nx cm ms : Int} (h : w.heap[s]? = some (.cells (preCells p nx cm ms) 65 (0, 0))) (v1 v2 v3 : Value) :
 (((w.setCell ⟨s, 1, none⟩ v1).setCell ⟨s, 2, none⟩ v2).setCell ⟨s, 3, none⟩ v3).heap[s]? = some (.cells #[.pointer (some ⟨p, 0, none⟩), v1, v2, v3, .slice none 0 0, .int .i64 nx, .int .i64 cm, .int .i64 ms, .int .i64 0, .int .i64 0, .bool false] 65 (0, 0)) := by
 rw [heap_setCell_same _ s 3 _ _ _ (heap_setCell_same _ s 2 _ _ _ (heap_setCell_same _ s 1 _ _ _ h))]
 rfl
set_option maxHeartbeats 2000000 in
theorem lean_new {w0 w : World} {p s N lg n m : Nat} {nx cm ms : Nat} {D : Dv} (hD : DevX w0 w p [s] D) (hs : w.heap[s]? = some (.cells (preCells p nx cm ms) 65 (0, 0))) (hs0 : w0.heap.size ≤ s) (hwell : D.well) (hW : D.W = []) (hN : D.L.length = N) (hN1 : 128 ≤ N) (hN2 : N ≤ 8192)
 (hlg : lg = N / 4) (hn : n = (N - 7 - N / 4) / 4) (hm1 : 1 ≤ m) (hm2 : m ≤ 64) (hz : D.L.getD (2 + lg) [] = headOf 0) (h512 : ∀ i, i < n → (pageL D.L (2 + lg + 5 + 4 * i)).length = 512) :
 Calls Tryz.prog 49 #[.pointer (some ⟨s, 0, none⟩), .int .i64 (m : Int), .int .i64 0] w fun e w' => e = .returned (.int .i64 0) ∧
  ∃ c : Cf, c.p = p ∧ c.lg = lg ∧ c.n = n ∧ StIs w0 w' s c [] [] (.slice none 0 0) [] [] ⟨Pl.made m (Rg.opened D 2 lg 0, diskOf D.L lg n), [], nx, cm, ms, 0, 0⟩ := by
 obtain ⟨fp, x⟩ := hD
 have hmax := x.dev.wf.max
 have HSZ := hide (size_dev p w fp D x.dev)
 have hly := layout_any w (N : Int) (by omega) (by omega)
 have e1 : layL (N : Int) = (lg : Int) := by unfold layL; rw [if_neg (by omega), Int.tdiv_eq_ediv_of_nonneg (by omega)]; omega
 have e2 : layP (N : Int) = (n : Int) := by
  have hq : (N : Int).tdiv 4 = ((N / 4 : Nat) : Int) := by rw [Int.tdiv_eq_ediv_of_nonneg (by omega)]; omega
  unfold layP
  rw [if_neg (by omega), hq, Int.tdiv_eq_ediv_of_nonneg (by omega)]
  omega
 rw [e1, e2] at hly
 have HLY := hide hly
 rw [hN] at HSZ
 have hlg2 : 2 ≤ lg := by omega
 have hlg8 : lg ≤ 8192 := by omega
 have hfit : 2 + lg + 5 + 4 * n ≤ N := by omega
 have hn1 : 1 ≤ n := by omega
 have HOP := hide (open_ok 2 lg 0 x.dev.wc_self hwell.live (by omega) (by rw [hW]; simp) hlg2 hlg8 (by omega))
 have X := hide x
 have c0 : w.cell? ⟨s, 0, none⟩ = some (.pointer (some ⟨p, 0, none⟩)) := by rw [cell_of_row w s 0 _ _ _ hs]; rfl
 have HS := hide hs
 have HN := hide hN
 have HNN := hide (And.intro hlg hn)
 clear x hs hN hlg hn hly e1 e2
 go_enter Tryz.func49, Tryz.ntmps49
 go_upto_region 3 with (first
  | (go_at_call 47; refine HSZ.out.mono ?_; rintro e w' ⟨rfl, hw⟩; have hw := hw.symm; subst hw)
  | (go_at_call 17; refine HLY.out.mono ?_; rintro e w' ⟨rfl, hw⟩; have hw := hw.symm; subst hw)
  | (go_at_call 72; refine HOP.out.mono ?_; rintro e w1 ⟨gp, rfl, hR, hC, hO, hG1, hG2⟩))
 obtain ⟨cc, hC⟩ := hC
 have HB1 : Hid (Below w0.heap.size w0 w1) := X.out.below.trans (hO.below X.out.below.size (fun k hk => X.out.f0 k hk))
 have hb : Below w1.heap.size w1 (w1.alloc (.cells #[.pointer (some ⟨w.heap.size, 0, none⟩)] 61)) := (Below.refl _ _).alloc (Nat.le_refl _) _
 have hbox : (w1.alloc (.cells #[.pointer (some ⟨w.heap.size, 0, none⟩)] 61)).heap[w1.heap.size]? = some (.cells #[.pointer (some ⟨w.heap.size, 0, none⟩)] 61 (0, 0)) := heap_alloc_new w1 _
 have hsf : s ∉ fp := (X.out.xs s (by simp)).2
 have hs1 : w1.heap[s]? = some (.cells (preCells p nx cm ms) 65 (0, 0)) := (hO.block s (X.out.xs s (by simp)).1 hsf).trans HS.out
 have hgl : ∀ k ∈ gp, k < w1.heap.size := rg_lim hR
 generalize hw2 : w1.alloc (.cells #[.pointer (some ⟨w.heap.size, 0, none⟩)] 61) = w2 at hb hbox ⊢
 have hR2 : RgAt w2 w.heap.size p gp (Rg.opened D 2 lg 0) := hR.keep hb.size (fun k hk => hb.block k (hgl k hk))
 have hs2 : w2.heap[s]? = some (.cells (preCells p nx cm ms) 65 (0, 0)) := (hb.block s ((Array.getElem?_eq_some_iff.1 hs1).1)).trans hs1
 have hz2 : w2.heap.size = w1.heap.size + 1 := by rw [← hw2]; simp
 have hX2 : DevX w0 w2 p (w1.heap.size :: (gp ++ [s])) (D.wc cc) := ⟨fp, hC.below hb, X.out.f0, fun k hk => by
  rcases (by simpa using hk : k = w1.heap.size ∨ k ∈ gp ∨ k = s) with h1 | h1 | h1
  · rw [h1]
    exact ⟨by omega, fun hm => by have := hC.lim _ hm; omega⟩
  · exact ⟨by have := hgl k h1; omega, hG2 k h1⟩
  · rw [h1]
    exact ⟨by have := (Array.getElem?_eq_some_iff.1 hs1).1; omega, hsf⟩, HB1.out.trans (hb.mono HB1.out.size)⟩
 have hFO := b_openOk (2 + lg) n hX2 hn1 (by show D.W.length ≤ _; rw [hW]; simp) (by show _ ≤ D.L.length; rw [HN.out]; omega) (mend_idle (D := D.wc cc) hwell.live hW (2 + lg) n hz)
 have HFO := hide hFO
 have HR2 := hide hR2
 have HS2 := hide hs2
 have HBX := hide hbox
 have c0' : w2.cell? ⟨s, 0, none⟩ = some (.pointer (some ⟨p, 0, none⟩)) := by rw [cell_of_row w2 s 0 _ _ _ hs2]; rfl
 have HG := hide (And.intro hG1 hG2)
 have hr0 : w0.heap.size ≤ w.heap.size := X.out.below.size
 have hb0 : w0.heap.size ≤ w1.heap.size := HB1.out.size
 have hgs : ∀ k ∈ gp, k ≠ s := fun k hk e => by have := hG1 k hk; have := (X.out.xs s (by simp)).1; omega
 have hbs : w1.heap.size ≠ s := fun e => by have := (Array.getElem?_eq_some_iff.1 hs1).1; omega
 have hbg : w1.heap.size ∉ gp := fun hm => by have := hgl _ hm; omega
 have HRS := hide (And.intro hgs (And.intro hbs hbg))
 have HWF := hide hC.wf
 clear hFO hR hR2 hs1 hs2 hbox hb hw2 hX2 hC HSZ HLY HOP c0 hgl hz2 hgs hbs hbg
 generalize hbb : w1.heap.size = b at *
 generalize hrr : w.heap.size = r at *
 clear hbb
 go_upto_region 6 with (go_at_call 73; refine HFO.out.mono ?_; rintro e w3 ⟨q, rfl, hF3, hK3⟩)
 have hwc : (D.wc cc).well := ⟨HWF.out, hwell.live, hwell.fuse⟩
 have hBk : BkIs w0 w3 r q p b lg n [s] gp (Rg.opened D 2 lg 0) (diskOf D.L lg n) ((D.wc cc).more 1) := {
  fs := hF3
  rg := HR2.out.keep hK3.1 (fun k hk => hK3.2 k (by simp [hk]))
  box := (hK3.2 b (by simp)).trans HBX.out
  g0 := fun k hk => Nat.le_trans hr0 (HG.out.1 k hk)
  b0 := hb0
  gx := fun k hk hm => HRS.out.1 k hk (by simpa using hm)
  bx := fun hm => by
   rcases List.mem_append.1 hm with h1 | h1
   · exact HRS.out.2.2 h1
   · exact HRS.out.2.1 (by simpa using h1)
  well := well_more hwc 1
  wnil := by rw [more_W]; exact hW
  len := by rw [more_L]; show _ ≤ D.L.length; rw [HN.out]; exact hfit
  disk := fun i hi => by rw [more_L]; exact (diskOf_get D.L lg n i hi).symm
  dlen := by simp [diskOf]
  d512 := fun i hi => by rw [diskOf_get D.L lg n i hi]; exact h512 i hi
  fr := rfl
  rn := rfl
  nof := rfl }
 have hs3 : w3.heap[s]? = some (.cells (preCells p nx cm ms) 65 (0, 0)) := (hK3.2 s (by simp)).trans HS2.out
 have HNP := hide (newp_ok (Φ := stBack r q p b lg n) (w0 := w0) (w := w3) (xs := [s]) m hm1 hm2 (Rg.opened D 2 lg 0, diskOf D.L lg n) hBk.at)
 have HS3 := hide hs3
 have kb : w3.cell? ⟨b, 0, none⟩ = some (.pointer (some ⟨r, 0, none⟩)) := by rw [cell_of_row w3 b 0 _ _ _ hBk.box]; rfl
 have hbl : b < w3.heap.size := (Array.getElem?_eq_some_iff.1 hBk.box).1
 have HBOX := hide hBk.box
 clear hF3 hK3 hwc hBk hs3 HFO HR2 HS2 HBX HG HRS c0'
 go_upto_region 9 with (go_at_call 74; refine HNP.out.mono ?_; rintro e w4 ⟨P, G, rfl, hP, hP0, hB4⟩)
 have hs4 : w4.heap[s]? = some (.cells (preCells p nx cm ms) 65 (0, 0)) := (hB4.block s (Array.getElem?_eq_some_iff.1 HS3.out).1).trans HS3.out
 have kb4 : w4.cell? ⟨b, 0, none⟩ = some (.pointer (some ⟨r, 0, none⟩)) := (hB4.cell (p := ⟨b, 0, none⟩) hbl).trans kb
 have d1 : w4.cell? ⟨s, 1, none⟩ = some (.pointer none) := by rw [cell_of_row w4 s 1 _ _ _ hs4]; rfl
 have d2 : w4.cell? ⟨s, 2, none⟩ = some (.pointer none) := by rw [cell_of_row w4 s 2 _ _ _ hs4]; rfl
 have d3 : w4.cell? ⟨s, 3, none⟩ = some (.int .i64 0) := by rw [cell_of_row w4 s 3 _ _ _ hs4]; rfl
 have dz : ∀ o, w4.frozen? ⟨s, o, none⟩ = false := fun o => frozen_of_row w4 s o _ _ hs4
 have HS4 := hide hs4
 have HP4 := hide hP
 clear hP hB4 hs4 kb HNP HS3
 go_wp2
 go_ret
 refine ⟨rfl, ⟨r, q, p, b, lg, n, P, G⟩, rfl, rfl, rfl, ?_⟩
 have hO : Off [s] w4 (((w4.setCell ⟨s, 1, none⟩ (.pointer (some ⟨r, 0, none⟩))).setCell ⟨s, 2, none⟩ (.pointer (some ⟨P, 0, none⟩))).setCell ⟨s, 3, none⟩ (.int .i64 (n : Int))) :=
  ((((Off.refl [s] w4).setCell _ _ (.inl (by simp))).setCell _ _ (.inl (by simp))).setCell _ _ (.inl (by simp)))
 exact {
  pool := HP4.out.writeL (fun k hk => by simp only [List.mem_singleton] at hk; subst hk; exact ⟨by simp, hs0⟩) hO
  head := set3 HS4.out _ _ _
  own := World.ownsRow_nil _ _ _ _
  plen := rfl
  ulen := rfl
  tx := fun i x T uv a => by simp at a
  nodup := fun i j x a => by simp at a
  udis := fun i j u v k a => by simp at a
  s0 := hs0
  t0 := fun k hk => by cases hk
  sx := by simp
  tbx := fun k hk => by cases hk
  inO := fun k hk => by simp [Value.ownBlock] at hk
  few := by simp
  lg2 := hlg2
  n8 := by show n ≤ 8192; omega }
end Go.Proofs.YteeembildppgmaaGreat
namespace Go.Proofs.YteeembildppgmaaGreat
open Go.RowKit
set_option linter.unusedVariables false
set_option linter.unusedSimpArgs false
def St.new (N m : Nat) : St := ⟨Pl.made m (⟨2, N / 4, 0, 0, [], false⟩, diskOf (List.replicate N zeros) (N / 4) ((N - 7 - N / 4) / 4)), [], 1, 0, 1, 0, 0⟩
theorem dirt_made {σ : Type} (m : Nat) (x : σ) : dirtL (Pl.made m x).fs = [] := by
 unfold dirtL Pl.made
 rw [List.filter_eq_nil_iff.2 (fun f hf => by obtain ⟨_, rfl⟩ := List.mem_replicate.1 hf; simp [Fm.nil])]
 rfl
section
variable {w0 w w' : World}
set_option maxHeartbeats 2000000 in
set_option maxRecDepth 100000 in
theorem open_new {p N m : Nat} (hD : DevX w0 w p [] (Dv.fresh N)) (hN1 : 128 ≤ N) (hN2 : N ≤ 8192) (hm1 : 1 ≤ m) (hm2 : m ≤ 64) :
 Calls Tryz.prog 20 #[.pointer (some ⟨p, 0, none⟩), .int .i64 (m : Int)] w fun e w' => ∃ s c, e = .returned (.tuple #[.pointer (some ⟨s, 0, none⟩), .int .i64 0]) ∧ Cf.p c = p ∧ Cf.lg c = N / 4 ∧ Cf.n c = (N - 7 - N / 4) / 4 ∧ StIs w0 w' s c [] [] (.slice none 0 0) [] [] (St.new N m) := by
 have hL : (Dv.fresh N).L.length = N := by simp [Dv.fresh]
 have hsz := b_size hD
 rw [hL] at hsz
 have HSZ := hide hsz
 clear hsz
 obtain ⟨fp, x⟩ := hD
 have HFM := hide (findMaster_new x.dev.wc_self rfl (by rw [hL]; omega) (by simp [Dv.fresh]) (fun i hi => fresh_newest N i (by omega)))
 have HX := hide x
 have d1 : decide ((N : Int) < 128) = false := by simp; omega
 have d2 : decide ((m : Int) < 1) = false := by simp; omega
 have d3 : decide ((64 : Int) < (m : Int)) = false := by simp; omega
 have HNN := hide (And.intro hN1 (And.intro hN2 (And.intro hm1 hm2)))
 clear x hN1 hN2 hm1 hm2 hL
 go_enter Tryz.func20, Tryz.ntmps20
 go_wp2_with (first
  | (go_at_call 47; refine HSZ.out.mono ?_; rintro e w9 ⟨rfl, hw9⟩; have hw9 := hw9.symm; subst hw9)
  | (go_at_call 48; refine HFM.out.mono ?_; rintro e W1 ⟨rfl, hC1, hO1⟩; have HC1 := hide (And.intro hC1 hO1); clear hC1 hO1))
 obtain ⟨cc, hC⟩ := HC1.out.1
 have hX1 : DevX w0 W1 p [] ((Dv.fresh N).wc cc) := ⟨fp, (HX.out.step HC1.out.2 hC (fun k hk => .inl hk)).1⟩
 generalize hW : World.alloc (World.alloc W1 _) _ = W2
 have hB : Below W1.heap.size W1 W2 := by rw [← hW]; exact (((Off.refl [] W1).alloc _).alloc _).below (Nat.le_refl _) (by simp)
 have hs : W2.heap[W1.heap.size + 1]? = some (.cells (preCells p ((1 : Nat) : Int) ((0 : Nat) : Int) ((0 : Nat) : Int)) 65 (0, 0)) := by
  rw [← hW]
  have := World.alloc_heap_new (W1.alloc (.cells #[.int .i64 0, .int .i64 0, .int .i64 0, .int .i64 0] 99)) (.cells (preCells p ((1 : Nat) : Int) ((0 : Nat) : Int) ((0 : Nat) : Int)) 65)
  rwa [World.size_alloc] at this
 clear hW
 have hs0 : w0.heap.size ≤ W1.heap.size + 1 := by have := hX1.below.size; omega
 have hsl : W1.heap.size + 1 < W2.heap.size := (Array.getElem?_eq_some_iff.1 hs).1
 have hX2 : DevX w0 W2 p [W1.heap.size + 1] ((Dv.fresh N).wc cc) := hX1.mindNew hB (fun k hk => by simp only [List.mem_singleton] at hk; subst hk; exact .inr ⟨by omega, hsl⟩)
 generalize W1.heap.size + 1 = s at *
 have hN := HNN.out
 have hwell : ((Dv.fresh N).wc cc).well := ⟨hX2.wf, rfl, (fresh_well N (by omega) (by omega)).fuse⟩
 have hget : ∀ i, i < N → (Dv.fresh N).L.getD i [] = zeros := fun i hi => by simp [Dv.fresh, hi]
 have h512 : ∀ i, i < (N - 7 - N / 4) / 4 → (pageL ((Dv.fresh N).wc cc).L (2 + N / 4 + 5 + 4 * i)).length = 512 := fun i hi => by
  show (pageL (Dv.fresh N).L (2 + N / 4 + 5 + 4 * i)).length = 512
  unfold pageL
  rw [hget _ (by omega), hget _ (by omega), hget _ (by omega), hget _ (by omega)]
  simp [length_zeros]
 refine (lean_new (N := N) (lg := N / 4) (n := (N - 7 - N / 4) / 4) (m := m) (nx := 1) (cm := 0) (ms := 0) hX2 hs hs0 hwell rfl (by simp [Dv.fresh, Dv.wc]) hN.1 hN.2.1 rfl rfl hN.2.2.1 hN.2.2.2 (by show (Dv.fresh N).L.getD (2 + N / 4) [] = _; rw [hget _ (by omega)]; exact zeros_head) h512).mono ?_
 rintro e W3 ⟨rfl, c, hc1, hc2, hc3, h3⟩
 have hfd : found ((Dv.fresh N).wc cc) 2 (N / 4) 0 = [] := fresh_found N 2 (N / 4) 0 (by omega) (by omega)
 have HRS := hide (restart_none h3 hfd (dirt_made m _) (by show 0 ≤ _; omega) (by show 0 < _; omega) (by show 0 < _; omega) (by show 1 < _; omega))
 have HC := hide (And.intro hc1 (And.intro hc2 hc3))
 clear hs hs0 hB hsl hX1 hX2 hN hwell hget h512 h3 hfd hc1 hc2 hc3 hC HX HFM HSZ HC1
 go_wp2_with (go_at_call 50; refine HRS.out.mono ?_; rintro e W4 ⟨rfl, h4⟩; have H4 := hide h4; clear h4 HRS)
 go_ret2
 exact ⟨s, c, rfl, HC.out.1, HC.out.2.1, HC.out.2.2, H4.out⟩
end
end Go.Proofs.YteeembildppgmaaGreat
namespace Go.Proofs.YteeembildppgmaaGreat
open Go.RowKit
set_option linter.unusedVariables false
set_option linter.unusedSimpArgs false
set_option maxHeartbeats 1000000 in
theorem lopen_new {N m : Nat} (w : World) (hN1 : 128 ≤ N) (hN2 : N ≤ 8192) (hm1 : 1 ≤ m) (hm2 : m ≤ 64) :
 Calls Tryz.prog 9 #[.int .i64 (N : Int), .int .i64 (m : Int)] w fun e w' => ∃ s c, e = .returned (.tuple #[.pointer (some ⟨Cf.p c, 0, none⟩), .pointer (some ⟨s, 0, none⟩)]) ∧ Cf.lg c = N / 4 ∧ Cf.n c = (N - 7 - N / 4) / 4 ∧ StIs w w' s c [] [] (.slice none 0 0) [] [] (St.new N m) := by
 have HB := hide (b_new N w (by omega) hN2)
 have HNN := hide (And.intro hN1 (And.intro hN2 (And.intro hm1 hm2)))
 clear hN1 hN2 hm1 hm2
 go_enter Tryz.func9, Tryz.ntmps9
 go_wp2_with (first
  | (go_at_call 27; refine HB.out.mono ?_; rintro e W1 ⟨p, rfl, hX⟩; have HO := hide (open_new hX HNN.out.1 HNN.out.2.1 HNN.out.2.2.1 HNN.out.2.2.2); clear hX)
  | (go_at_call 20; refine HO.out.mono ?_; rintro e W2 ⟨s, c, rfl, hp, hlg, hn, h⟩; subst hp; have H := hide (And.intro hlg (And.intro hn h)); clear hlg hn h HO))
 go_ret2
 exact ⟨s, c, rfl, H.out.1, H.out.2.1, H.out.2.2⟩
def V0 : Nat → List UInt8 := fun _ => zerosN 512
theorem zeros4 : zeros ++ (zeros ++ (zeros ++ zeros)) = zerosN 512 := by
 unfold zeros zerosN
 rw [List.replicate_append_replicate, List.replicate_append_replicate, List.replicate_append_replicate]
theorem made_inv (N m : Nat) (hm : 1 ≤ m) (h1 : 128 ≤ N) : PInv ((N - 7 - N / 4) / 4) (St.new N m).pool V0 where
 dl := by show (diskOf _ _ _).length = _; simp [diskOf]
 v5 := fun q hq => length_zerosN 512
 un := fun f hf _ => by obtain ⟨_, rfl⟩ := List.mem_replicate.1 hf; rfl
 he := fun f hf hh => by obtain ⟨_, rfl⟩ := List.mem_replicate.1 hf; cases hh
 inj := fun i j f g hi hj hf hg _ => by
  have := List.mem_of_getElem? hi
  obtain ⟨_, rfl⟩ := List.mem_replicate.1 this
  cases hf
 out := fun q hq _ => by
  show (diskOf _ _ _).getD q [] = _
  rw [diskOf_get _ _ _ _ hq]
  unfold pageL
  have hget : ∀ i, i < N → (List.replicate N zeros).getD i [] = zeros := fun i hi => by simp [hi]
  rw [hget _ (by omega), hget _ (by omega), hget _ (by omega), hget _ (by omega)]
  exact zeros4
 hand := by show 0 < (List.replicate m Fm.nil).length; simp; omega
 rl := fun f hf => by obtain ⟨_, rfl⟩ := List.mem_replicate.1 hf; exact ⟨Int.le_refl 0, by decide⟩
end Go.Proofs.YteeembildppgmaaGreat
namespace Go.Proofs.YteeembildppgmaaGreat
open Go.RowKit
set_option linter.unusedVariables false
set_option linter.unusedSimpArgs false
def IsRec (rs : List Enc.Rc) (m : Nat) : Prop := ∃ (j : Nat) (R : Enc.Rc), rs[j]? = some R ∧ R.txn = 1 ∧ m = (encs (rs.take j)).length + 1
theorem IsRec.more {rs : List Enc.Rc} {m : Nat} (h : IsRec rs m) (qs : List Enc.Rc) : IsRec (rs ++ qs) m := by
 obtain ⟨j, R, h1, h2, h3⟩ := h
 have hj := (List.getElem?_eq_some_iff.1 h1).1
 exact ⟨j, R, by rw [List.getElem?_append_left hj]; exact h1, h2, by rw [List.take_append_of_le_length (by omega)]; exact h3⟩
theorem IsRec.last (rs : List Enc.Rc) (R : Enc.Rc) (h : R.txn = 1) : IsRec (rs ++ [R]) ((encs rs).length + 1) := ⟨rs.length, R, by simp, h, by rw [List.take_left]⟩
def rbR : List Up → Nat → Nat → List Enc.Rc
 | [], _, _ => []
 | u :: r, t, last => { u.rc with txn := 1, prev := (last : Int) } :: rbR r (t + u.sz) (t + 1)
theorem encs_rbR : ∀ (us : List Up) (t la : Nat), encs (rbR us t la) = rbH us 1 t la
 | [], _, _ => rfl
 | u :: r, t, la => by
   show encs (_ :: rbR r (t + u.sz) (t + 1)) = _ ++ rbH r 1 (t + u.sz) (t + 1)
   rw [encs_cons, encs_rbR r]
   rfl
theorem resU_cons (u : Up) (r : List Up) : resU (u :: r) = u.sz + resU r := by simp [resU]
theorem len_rbH : ∀ (us : List Up) (id t la : Nat), (rbH us id t la).length = resU us
 | [], _, _, _ => rfl
 | u :: r, id, t, la => by
   show (_ ++ rbH r id (t + u.sz) (t + 1)).length = _
   rw [List.length_append, len_up, len_rbH r, resU_cons]
theorem rbL_le : ∀ (us : List Up) (t la : Nat), la ≤ t → rbL us t la ≤ t + resU us
 | [], _, _, h => h
 | u :: r, t, la, h => by
   have h1 : u.sz = 96 + u.after.length := rfl
   have := rbL_le r (t + u.sz) (t + 1) (by omega)
   rw [resU_cons]
   show rbL r (t + u.sz) (t + 1) ≤ _
   omega
theorem good_head {R : Enc.Rc} (h : ∀ x ∈ R.head, Enc.fits x) (h1 : R.txns = []) (h2 : R.dirty = []) (h3 : R.count = 0) : R.good := ⟨h, fun t ht => (by rw [h1] at ht; cases ht), fun t ht => (by rw [h2] at ht; cases ht), by rw [h3]; unfold Enc.fits; omega⟩
theorem good_up (u : Up) (la : Nat) (hp : u.page ≤ 1000000000) (ho : u.off ≤ 1000000000) (hn : u.next ≤ 4398046511104) (hl : la ≤ 4398046511104) : ({ u.rc with txn := 1, prev := (la : Int) } : Enc.Rc).good := good_head (fun x hx => by
 simp only [Enc.Rc.head, Up.rc, List.mem_cons, List.not_mem_nil, or_false] at hx
 unfold Enc.fits
 omega) rfl rfl rfl
theorem good_rbR {n : Nat} (hn : n ≤ 8192) : ∀ (us : List Up) (t la : Nat), UpsOk n us → la ≤ 4398046511104 → t + resU us ≤ 1000000000 → ∀ R ∈ rbR us t la, R.good
 | [], _, _, _, _, _ => fun R hR => (by cases hR)
 | u :: r, t, la, ok, hl, ht => by
   intro R hR
   obtain ⟨o1, o2, o3, o4⟩ := ok u (by simp)
   rw [resU_cons] at ht
   rcases List.mem_cons.1 hR with rfl | hR
   · exact good_up u la (by omega) (by omega) o4 hl
   · exact good_rbR hn r _ _ (fun v hv => ok v (by simp [hv])) (by have : u.sz = 96 + u.after.length := rfl; omega) (by omega) R hR
theorem good_upd (pg off la : Nat) (bf af : List UInt8) (hp : pg ≤ 1000000000) (ho : off ≤ 1000000000) (hl : la ≤ 4398046511104) : ({ updRc pg off bf af with txn := 1, prev := (la : Int) } : Enc.Rc).good := good_head (fun x hx => by
 simp only [Enc.Rc.head, updRc, List.mem_cons, List.not_mem_nil, or_false] at hx
 unfold Enc.fits
 omega) rfl rfl rfl
theorem len_updR (pg off : Nat) (bf af : List UInt8) (a b : Int) : ({ updRc pg off bf af with txn := a, prev := b } : Enc.Rc).enc.length = 96 + bf.length + af.length := by
 rw [Enc.length_enc]
 show 96 + bf.length + af.length + 24 * 0 + 16 * 0 = _
 omega
structure MkL (T : Tn) (rs : List Enc.Rc) (Ms : List (Nat × Dt)) : Prop where
 isr : IsRec rs T.last
 le : ∀ u ∈ T.ups, u.lsn ≤ T.last
 ms : ∀ x ∈ Ms, x.1 ≤ T.last
section
variable {w0 w w' : World} {s : Nat} {c : Cf} {xs tb : List Nat} {ov : Value} {ps : List Nat} {uvs : List Value} {S : St} {T : Tn} {V : Nat → List UInt8} {rs : List Enc.Rc} {Ms : List (Nat × Dt)} {TB WB : Nat}
end
end Go.Proofs.YteeembildppgmaaGreat
namespace Go.Proofs.YteeembildppgmaaGreat
open Go.RowKit
set_option linter.unusedVariables false
set_option linter.unusedSimpArgs false
def awR : List Enc.Rc := [beginRc 1, { updRc 0 0 [0, 0] [97, 98] with txn := 1, prev := 1 }, { bareRc 5 with txn := 1, prev := 97 }, { (⟨97, 1, 0, 0, [0, 0]⟩ : Up).rc with txn := 1, prev := 197 }, { bareRc 6 with txn := 1, prev := 293 }]
def awT : Tn := ⟨1, 1, 97, [⟨97, 1, 0, 0, [0, 0]⟩]⟩
def awV1 : Nat → List UInt8 := fun q => if q = 0 then patch (patch (V0 0) 0 (be8 97)) 8 [97, 98] else V0 q
section
variable {w0 w w' : World} {s g : Nat} {c : Cf}
theorem aw_inv (hn : c.n = 94) (R : Rg) : PInv c.n { (St.new 512 64).pool with fo := (R, (St.new 512 64).pool.fo.2) } V0 := by
 have h := made_inv 512 64 (by omega) (by omega)
 rw [hn]
 exact ⟨h.dl, h.v5, h.un, h.he, h.inj, h.out, h.hand, h.rl⟩
theorem aw_begin (h : StIs w0 w s c [] [] (.slice none 0 0) [] [] (St.new 512 64)) :
 Calls Tryz.prog 10 #[.pointer (some ⟨s, 0, none⟩)] w fun e w' => e = .returned (.tuple #[.int .i64 1, .int .i64 0]) ∧ StAt w0 w' s c [] (St.new 512 64).begun := by
 refine (begin_ok h (by show resT [] ≤ _; decide) (by show 288 + resT [] + 2048 ≤ (0 / 118 + 128 - 1) * 118 - 0; decide) (by show 1 ≤ _; omega) (by show 0 < _; omega)).mono ?_
 rintro e w' ⟨rfl, h1, _⟩
 exact ⟨rfl, h1⟩
theorem len_begin : (beginRc 1).enc.length = 96 := by rw [Enc.length_enc]; rfl
theorem len_upd : ({ updRc 0 0 [0, 0] [97, 98] with txn := 1, prev := 1 } : Enc.Rc).enc.length = 100 := by rw [Enc.length_enc]; rfl
theorem aw_tail : (St.new 512 64).begun.R.tail = 96 := by
 show 0 + ([] ++ (beginRc 1).enc).length = 96
 rw [List.nil_append, len_begin]
theorem take_V0 : ((V0 0).drop (8 + 0)).take 2 = [0, 0] := by
 unfold V0 zerosN
 rw [List.drop_replicate, List.take_replicate]
 rfl
set_option maxRecDepth 100000 in
theorem aw_write {fr : Nat × Nat} (h : StAt w0 w s c [g] (St.new 512 64).begun) (hn : c.n = 94) (hg : w.heap[g]? = some (.cells #[.int .u8 97, .int .u8 98] 5 fr)) :
 Calls Tryz.prog 13 #[.pointer (some ⟨s, 0, none⟩), .int .i64 1, .int .i64 0, .int .i64 0, .slice (some ⟨g, 0, none⟩) 2 2] w fun e w' => e = .returned (.int .i64 0) ∧
  ∃ S, StAt w0 w' s c [g] S ∧ S.txs = [awT] ∧ PInv c.n S.pool awV1 ∧ S.pool.wr ≤ 3 ∧ S.R.held = encs (awR.take 2) ∧ S.R.start = 0 ∧ S.R.n = 128 := by
 obtain ⟨tb, ov, ps, uvs, h⟩ := h
 have hT : (St.new 512 64).begun.txs[0]? = some ⟨1, 1, 1, []⟩ := rfl
 obtain ⟨gg, x, uv, vs, cc, hov, hx, hu, t, hcell⟩ := h.txAt 0 _ hT
 have hrg : w.rangeAt g 0 (secCells [97, 98]) := rng_block (t := 5) (fr := fr) hg
 refine (swrite_ne h hx hT hu (fun j U hj => by omega) (aw_inv hn _) (by show 0 + 3 ≤ _; omega) 1 rfl 0 0 2 g 0 2 [97, 98] rfl ⟨Nat.le_refl _, by decide, .inl (by simp), hrg⟩ (by rw [hn]; omega) (by omega) (by omega) (by show resT [⟨1, 1, 1, []⟩] ≤ _; decide) ?_ (by show 1 ≤ _; omega) (by show 1 ≤ _; omega) (busy_one h rfl x hx _ _ _) (by rw [take_V0]; decide)).mono ?_
 · show 192 + 3 * 2 + resT [⟨1, 1, 1, []⟩] + 2048 ≤ (0 / 118 + 128 - 1) * 118 - (St.new 512 64).begun.R.tail
   rw [aw_tail]
   decide
 · rw [take_V0, aw_tail]
   rintro e w' ⟨rfl, pl, h1, h2, ⟨f, hf⟩, h4, _, _⟩
   refine ⟨rfl, _, h1, rfl, h2, h4, ?_, ?_, ?_⟩
   · show pl.fo.1.held = _
     rw [hf]
     rfl
   · show pl.fo.1.start = _
     rw [hf]
     rfl
   · show pl.fo.1.n = _
     rw [hf]
     rfl
def awV2 : Nat → List UInt8 := rbV [⟨97, 1, 0, 0, [0, 0]⟩] 292 awV1
theorem len_two : (encs (awR.take 2)).length = 196 := by
 show ((beginRc 1).enc ++ (({ updRc 0 0 [0, 0] [97, 98] with txn := 1, prev := 1 } : Enc.Rc).enc ++ [])).length = 196
 rw [List.append_nil, List.length_append, len_begin, len_upd]
theorem aw_roll {S : St} (h : StAt w0 w s c [g] S) (hn : c.n = 94) (h1 : S.txs = [awT]) (h2 : PInv c.n S.pool awV1) (h3 : S.pool.wr ≤ 3) (h4 : S.R.held = encs (awR.take 2)) (h5 : S.R.start = 0) (h6 : S.R.n = 128) :
 Calls Tryz.prog 26 #[.pointer (some ⟨s, 0, none⟩), .int .i64 1] w fun e w' => e = .returned (.int .i64 0) ∧
  ∃ S, StAt w0 w' s c [g] S ∧ S.txs = [] ∧ PInv c.n S.pool awV2 ∧ S.pool.wr ≤ 5 ∧ S.R.held = encs awR ∧ S.R.start = 0 := by
 obtain ⟨tb, ov, ps, uvs, h⟩ := h
 have ht : S.R.tail = 196 := by unfold Rg.tail; rw [h4, h5, len_two]
 refine (rollback_one h h1 h2 (fun u hu => by simp only [awT, List.mem_singleton] at hu; subst hu; exact ⟨by rw [hn]; show 0 < 94; omega, by show 1 ≤ 2; omega, by show 0 + 2 ≤ 504; omega, by show 1 ≤ _; omega⟩) (by show 192 + resU awT.ups ≤ (S.R.start / 118 + S.R.n - 1) * 118 - S.R.tail; rw [ht, h5, h6]; decide) (by show 1 ≤ _; omega) (by show 97 ≤ _; omega) (by show S.pool.wr + 2 * 1 ≤ _; omega) 1 rfl).mono ?_
 rw [ht]
 rintro e w' ⟨rfl, pl, k1, k2, k3, _, ⟨f, hf⟩, _⟩
 refine ⟨rfl, _, k1, rfl, k2, by show pl.wr ≤ 5; have : pl.wr ≤ S.pool.wr + 2 * 1 := k3; omega, ?_, ?_⟩
 · show pl.fo.1.held = _
   rw [hf]
   show S.R.held ++ _ ++ _ ++ _ = _
   rw [h4]
   simp only [awR, encs, List.take, List.flatMap_cons, List.flatMap_nil, List.append_nil, List.append_assoc]
   rfl
 · show pl.fo.1.start = _
   rw [hf]
   exact h5
theorem take_V2 : ((awV2 0).drop (8 + 0)).take 2 = [0, 0] := by
 have hl : (awV1 0).length = 512 := by
  show (patch (patch (V0 0) 0 (be8 97)) 8 [97, 98]).length = 512
  have h0 : (V0 0).length = 512 := length_zerosN 512
  have h1 : (patch (V0 0) 0 (be8 97)).length = 512 := by rw [length_patch _ _ _ (by rw [h0, length_be8]; omega)]; exact h0
  rw [length_patch _ _ _ (by rw [h1]; decide)]
  exact h1
 show ((patch (patch (awV1 0) 0 (be8 293)) 8 [0, 0]).drop 8).take 2 = [0, 0]
 have h2 : (patch (awV1 0) 0 (be8 293)).length = 512 := by rw [length_patch _ _ _ (by rw [hl, length_be8]; omega)]; exact hl
 unfold patch at h2 ⊢
 rw [List.drop_append_of_le_length (by rw [List.length_take, h2]; decide), List.drop_eq_nil_of_le (by rw [List.length_take, h2]; decide)]
 rfl
theorem aw_read {S : St} (h : StAt w0 w s c [g] S) (hn : c.n = 94) (h1 : S.txs = []) (h2 : PInv c.n S.pool awV2) (h3 : S.pool.wr ≤ 5) (h4 : S.R.held = encs awR) (h5 : S.R.start = 0) :
 Calls Tryz.prog 24 #[.pointer (some ⟨s, 0, none⟩), .int .i64 0, .int .i64 0, .int .i64 2] w fun e w' => ∃ g2, e = .returned (.tuple #[.slice (some ⟨g2, 0, none⟩) 2 2, .int .i64 0]) ∧ w'.heap[g2]? = some (.cells #[.int .u8 0, .int .u8 0] 5 (0, 0)) ∧
  ∃ S, StAt w0 w' s c [g2, g] S ∧ S.txs = [] ∧ S.R.held = encs awR ∧ S.R.start = 0 := by
 obtain ⟨tb, ov, ps, uvs, h⟩ := h
 refine (sread_ok h h2 (by omega) 0 0 2 (by rw [hn]; omega) (by omega) (by omega)).mono ?_
 rw [take_V2]
 rintro e w' ⟨g2, rfl, _, k1, k2, _⟩
 obtain ⟨f, hf⟩ := (h2.get 0 (by rw [hn]; omega)).2.2.rs
 refine ⟨g2, rfl, k1, _, k2.at, h1, ?_, ?_⟩
 · show (cGet c S.pool 0).2.2.fo.1.held = _
   rw [hf]
   exact h4
 · show (cGet c S.pool 0).2.2.fo.1.start = _
   rw [hf]
   exact h5
theorem aw_good : ∀ R ∈ awR, R.good := by
 intro R hR
 simp only [awR, List.mem_cons, List.not_mem_nil, or_false] at hR
 rcases hR with rfl | rfl | rfl | rfl | rfl
 all_goals exact ⟨fun x hx => (by
  simp only [Enc.Rc.head, beginRc, updRc, bareRc, Up.rc, List.mem_cons, List.not_mem_nil, or_false] at hx
  unfold Enc.fits
  omega), fun t ht => (by cases ht), fun t ht => (by cases ht), (by show Enc.fits 0; unfold Enc.fits; omega)⟩
theorem aw_log {S : St} {xs : List Nat} (h : StAt w0 w s c xs S) (h4 : S.R.held = encs awR) (h5 : S.R.start = 0) :
 Calls Tryz.prog 43 #[.pointer (some ⟨s, 0, none⟩)] w fun e w' => ∃ b cap, e = .returned (.slice (some ⟨b, 0, none⟩) 5 cap) ∧ w'.cell? ⟨b, 0, none⟩ = some (.int .i64 1) ∧ w'.cell? ⟨b, 49, none⟩ = some (.int .i64 6) ∧ Below w.heap.size w w' := by
 obtain ⟨tb, ov, ps, uvs, h⟩ := h
 refine (log_ok h awR h4 aw_good).mono ?_
 rintro e w' ⟨l, rfl, k1, k2⟩
 obtain ⟨qs, hq, ho, _⟩ := k1.is
 rw [h5] at ho
 obtain ⟨q0, q1, q2, q3, q4, rfl⟩ : ∃ q0 q1 q2 q3 q4, qs = [q0, q1, q2, q3, q4] := by
  match qs, hq with
  | [q0, q1, q2, q3, q4], _ => exact ⟨q0, q1, q2, q3, q4, rfl⟩
 rcases ho.2 with ⟨_, h0⟩ | ⟨b, cap, cur, rfl, _, hb, _, _, _, htk⟩
 · cases h0
 · have key : ∀ (k : Nat) (v : Value), k < 60 → (linesRow 0 awR [q0, q1, q2, q3, q4])[k]? = some v → w'.cell? ⟨b, k, none⟩ = some v := fun k v hk hv => by
    rw [cell_of_row w' b k _ _ _ hb]
    rw [← htk, List.getElem?_take_of_lt (by show k < 5 * 12; omega)] at hv
    simpa using hv
   exact ⟨b, cap, rfl, key 0 _ (by omega) rfl, key 49 _ (by omega) rfl, k2⟩
set_option maxHeartbeats 400000 in
theorem swrite_none {S : St} {xs : List Nat} (h : StAt w0 w s c xs S) (h1 : S.txs = []) (pg off : Int) (v : Value) :
 Calls Tryz.prog 13 #[.pointer (some ⟨s, 0, none⟩), .int .i64 9, .int .i64 pg, .int .i64 off, v] w fun e w' => e = .returned (.int .i64 61) ∧ w' = w := by
 obtain ⟨tb, ov, ps, uvs, h⟩ := h
 have HF := hide (sfind_no h 9 (fun j U hU => by rw [h1] at hU; simp at hU))
 clear h
 go_enter Tryz.func13, Tryz.ntmps13
 go_wp2_with (go_at_call 31; refine HF.out.mono ?_; rintro e w' ⟨rfl, hw⟩; have hw := hw.symm; subst hw)
 go_ret
 exact ⟨rfl, rfl⟩
end
end Go.Proofs.YteeembildppgmaaGreat
namespace Go.Proofs.YteeembildppgmaaGreat
open Go.RowKit
set_option linter.unusedVariables false
set_option linter.unusedSimpArgs false
set_option maxHeartbeats 4000000 in
set_option maxRecDepth 100000 in
theorem awake_true (w : World) : Calls Tryz.prog 16 #[] w fun e w' => e = .returned (.bool true) ∧ Below w.heap.size w w' := by
 have HO := hide (lopen_new (N := 512) (m := 64) w (by omega) (by omega) (by omega) (by omega))
 have hcv := fun (w : World) (C : Array Value) (n c : Nat) => Go.Lib.run_convert_bytes_const (P := Tryz.prog) w 36 5 C n c Tryz.underlying36 Tryz.underlying5
 go_enter Tryz.func16, Tryz.ntmps16
 go_wp2_with (first
  | (go_at_call 9; refine HO.out.mono ?_; rintro e W1 ⟨s, c, rfl, _, hn, h⟩; have HN := hide (show c.n = 94 from hn); have HB := hide (aw_begin h); clear h hn HO)
  | (go_at_call 10; refine HB.out.mono ?_; rintro e W2 ⟨rfl, h⟩
     have HW := hide (aw_write (g := W2.heap.size) (h.mindNew (w' := W2.alloc (.cells #[.int .u8 97, .int .u8 98] 5 (2, 3))) (((Off.refl [] W2).alloc _).below (Nat.le_refl _) (by simp)) (fun k hk => by simp only [List.mem_singleton] at hk; subst hk; exact .inr ⟨Nat.le_refl _, by simp⟩)) HN.out (World.alloc_heap_new _ _))
     clear h HB)
  | (go_at_call 13; refine HW.out.mono ?_; rintro e W3 ⟨rfl, S2, h, a1, a2, a3, a4, a5, a6⟩; have HR := hide (aw_roll h HN.out a1 a2 a3 a4 a5 a6); clear h a1 a2 a3 a4 a5 a6 HW)
  | (go_at_call 26; refine HR.out.mono ?_; rintro e W4 ⟨rfl, S3, h, a1, a2, a3, a4, a5⟩; have HD := hide (aw_read h HN.out a1 a2 a3 a4 a5); clear h a1 a2 a3 a4 a5 HR)
  | (go_at_call 24; refine HD.out.mono ?_; rintro e W5 ⟨g2, rfl, hg2, S4, h, a1, a4, a5⟩; have HL := hide (aw_log h a4 a5); have H5 := hide (And.intro hg2 (And.intro a1 h)); clear h hg2 a1 a4 a5 HD)
  | (go_at_call 43; refine HL.out.mono ?_; rintro e W6 ⟨b, cap, rfl, l0, l49, hb6⟩
     have hst : (convert 36 9 (.slice (some ⟨g2, 0, none⟩) 2 2)).run Tryz.prog W6 = .ok (.string ⟨#[0, 0]⟩) W6 := run_strAt W6 g2 0 2 2 [0, 0] rfl (rng_block (t := 5) (fr := (0, 0)) ((hb6.block g2 (Array.getElem?_eq_some_iff.1 H5.out.1).1).trans H5.out.1))
     have H6 := hide (H5.out.2.2.belowW hb6)
     have HY : Hid (Calls Tryz.prog 17 #[.int .i64 128] W6 fun e w' => e = .returned (.tuple #[.int .i64 32, .int .i64 22]) ∧ w' = W6) := layout_any W6 128 (by omega) (by omega)
     have h7 : StAt w (W6.alloc (.cells #[.int .u8 97] 5 (1, 2))) s c [g2, W2.heap.size] S4 := H6.out.belowW (((Off.refl [] W6).alloc _).below (Nat.le_refl _) (by simp))
     have HWN := hide (swrite_none h7 H5.out.2.1 0 0 (.slice (some ⟨W6.heap.size, 0, none⟩) 1 1))
     have HBW : Hid (Below w.heap.size w (W6.alloc (.cells #[.int .u8 97] 5 (1, 2)))) := let ⟨_, _, _, _, y⟩ := h7; y.below
     have HPG : Hid (Calls Tryz.prog 44 #[.pointer (some ⟨s, 0, none⟩)] (W6.alloc (.cells #[.int .u8 97] 5 (1, 2))) fun e w' => e = .returned (.int .i64 94) ∧ w' = W6.alloc (.cells #[.int .u8 97] 5 (1, 2))) := by
      obtain ⟨tb, ov, ps, uvs, h8⟩ := h7
      have := spages_ok h8
      rw [HN.out] at this
      exact this
     clear h7
     clear hb6 HL)
  | (go_at_call 13; refine HWN.out.mono ?_; rintro e w9 ⟨rfl, hw9⟩; subst hw9)
  | (go_at_call 44; refine HPG.out.mono ?_; rintro e w9 ⟨rfl, hw9⟩; subst hw9)
  | (go_at_call 17; refine HY.out.mono ?_; rintro e w9 ⟨rfl, hw9⟩; have hw9 := hw9.symm; subst hw9))
 go_ret
 exact ⟨rfl, HBW.out⟩
end Go.Proofs.YteeembildppgmaaGreat
