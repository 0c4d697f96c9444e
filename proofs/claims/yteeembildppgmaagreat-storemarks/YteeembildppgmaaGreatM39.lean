/- A part of it: SLean SOpen SLaw SMkS SMkR. -/
import Derived.Test.YteeembildppgmaaGreatM30
import Derived.Test.YteeembildppgmaaGreatM38
import Derived.Test.YteeembildppgmaaGreatM27
import Derived.Test.YteeembildppgmaaGreatM29
import Derived.Deep.CutBlock
namespace Go.Proofs.YteeembildppgmaaGreat
open Go.RowKit
set_option linter.unusedVariables false
set_option linter.unusedSimpArgs false
def preCells (p : Nat) (nx cm ms : Int) : Array Value := #[.pointer (some ⟨p, 0, none⟩), .pointer none, .pointer none, .int .i64 0, .slice none 0 0, .int .i64 nx, .int .i64 cm, .int .i64 ms, .int .i64 0, .int .i64 0, .bool false]
def diskOf (L : List (List UInt8)) (lg n : Nat) : List (List UInt8) := (List.range n).map fun i => pageL L (2 + lg + 5 + 4 * i)
theorem diskOf_get (L : List (List UInt8)) (lg n i : Nat) (hi : i < n) : (diskOf L lg n).getD i [] = pageL L (2 + lg + 5 + 4 * i) := by simp [diskOf, hi]
theorem set3 {w : World} {s : Nat} {p : Nat} {nx cm ms : Int} (h : w.heap[s]? = some (.cells (preCells p nx cm ms) 65 (0, 0))) (v1 v2 v3 : Value) :
    (((w.setCell ⟨s, 1, none⟩ v1).setCell ⟨s, 2, none⟩ v2).setCell ⟨s, 3, none⟩ v3).heap[s]? = some (.cells #[.pointer (some ⟨p, 0, none⟩), v1, v2, v3, .slice none 0 0, .int .i64 nx, .int .i64 cm, .int .i64 ms, .int .i64 0, .int .i64 0, .bool false] 65 (0, 0)) := by
  rw [heap_setCell_same _ s 3 _ _ _ (heap_setCell_same _ s 2 _ _ _ (heap_setCell_same _ s 1 _ _ _ h))]
  rfl
set_option maxHeartbeats 2000000 in
theorem lean_new {w0 w : World} {p s N lg n m : Nat} {nx cm ms : Nat} {D : Dv} (hD : DevX w0 w p [s] D) (hs : w.heap[s]? = some (.cells (preCells p nx cm ms) 65 (0, 0))) (hs0 : w0.heap.size ≤ s) (hwell : D.well) (hW : D.W = []) (hN : D.L.length = N) (hN1 : 128 ≤ N) (hN2 : N ≤ 8192)
    (hlg : lg = N / 4) (hn : n = (N - 7 - N / 4) / 4) (hm1 : 1 ≤ m) (hm2 : m ≤ 64) (hz : D.L.getD (2 + lg) [] = headOf 0) (h512 : ∀ i, i < n → (pageL D.L (2 + lg + 5 + 4 * i)).length = 512) :
    Calls Tryz.prog 49 #[.pointer (some ⟨s, 0, none⟩), .int .i64 (m : Int), .int .i64 0] w fun e w' => e = .returned (.int .i64 0) ∧
      ∃ c : Cf, c.p = p ∧ c.lg = lg ∧ c.n = n ∧ StIs w0 w' s c [] [] (.slice none 0 0) [] [] ⟨Pl.made m (Rg.opened D 2 lg 0, diskOf D.L lg n), [], nx, cm, ms, 0, 0⟩ := by
  obtain ⟨fp, x⟩ := hD
  have hmax := x.dev.wf.max
  have HSZ := hide (size_dev p w fp D x.dev)
  have hly := layout_any w (N : Int) (by omega) (by omega)
  have e1 : layL (N : Int) = (lg : Int) := by unfold layL; rw [if_neg (by omega), Int.tdiv_eq_ediv_of_nonneg (by omega)]; omega
  have e2 : layP (N : Int) = (n : Int) := by
    have hq : (N : Int).tdiv 4 = ((N / 4 : Nat) : Int) := by rw [Int.tdiv_eq_ediv_of_nonneg (by omega)]; omega
    unfold layP
    rw [if_neg (by omega), hq, Int.tdiv_eq_ediv_of_nonneg (by omega)]
    omega
  rw [e1, e2] at hly
  have HLY := hide hly
  rw [hN] at HSZ
  have hlg2 : 2 ≤ lg := by omega
  have hlg8 : lg ≤ 8192 := by omega
  have hfit : 2 + lg + 5 + 4 * n ≤ N := by omega
  have hn1 : 1 ≤ n := by omega
  have HOP := hide (open_ok 2 lg 0 x.dev.wc_self hwell.live (by omega) (by rw [hW]; simp) hlg2 hlg8 (by omega))
  have X := hide x
  have c0 : w.cell? ⟨s, 0, none⟩ = some (.pointer (some ⟨p, 0, none⟩)) := by rw [cell_of_row w s 0 _ _ _ hs]; rfl
  have HS := hide hs
  have HN := hide hN
  have HNN := hide (And.intro hlg hn)
  clear x hs hN hlg hn hly e1 e2
  go_enter Tryz.func49, Tryz.ntmps49
  go_upto_region 3 with (first
    | (go_at_call 47; refine HSZ.out.mono ?_; rintro e w' ⟨rfl, hw⟩; have hw := hw.symm; subst hw)
    | (go_at_call 17; refine HLY.out.mono ?_; rintro e w' ⟨rfl, hw⟩; have hw := hw.symm; subst hw)
    | (go_at_call 72; refine HOP.out.mono ?_; rintro e w1 ⟨gp, rfl, hR, hC, hO, hG1, hG2⟩))
  obtain ⟨cc, hC⟩ := hC
  have HB1 : Hid (Below w0.heap.size w0 w1) := X.out.below.trans (hO.below X.out.below.size (fun k hk => X.out.f0 k hk))
  have hb : Below w1.heap.size w1 (w1.alloc (.cells #[.pointer (some ⟨w.heap.size, 0, none⟩)] 61)) := (Below.refl _ _).alloc (Nat.le_refl _) _
  have hbox : (w1.alloc (.cells #[.pointer (some ⟨w.heap.size, 0, none⟩)] 61)).heap[w1.heap.size]? = some (.cells #[.pointer (some ⟨w.heap.size, 0, none⟩)] 61 (0, 0)) := heap_alloc_new w1 _
  have hsf : s ∉ fp := (X.out.xs s (by simp)).2
  have hs1 : w1.heap[s]? = some (.cells (preCells p nx cm ms) 65 (0, 0)) := (hO.block s (X.out.xs s (by simp)).1 hsf).trans HS.out
  have hgl : ∀ k ∈ gp, k < w1.heap.size := rg_lim hR
  generalize hw2 : w1.alloc (.cells #[.pointer (some ⟨w.heap.size, 0, none⟩)] 61) = w2 at hb hbox ⊢
  have hR2 : RgAt w2 w.heap.size p gp (Rg.opened D 2 lg 0) := hR.keep hb.size (fun k hk => hb.block k (hgl k hk))
  have hs2 : w2.heap[s]? = some (.cells (preCells p nx cm ms) 65 (0, 0)) := (hb.block s ((Array.getElem?_eq_some_iff.1 hs1).1)).trans hs1
  have hz2 : w2.heap.size = w1.heap.size + 1 := by rw [← hw2]; simp
  have hX2 : DevX w0 w2 p (w1.heap.size :: (gp ++ [s])) (D.wc cc) := ⟨fp, hC.below hb, X.out.f0, fun k hk => by
    rcases (by simpa using hk : k = w1.heap.size ∨ k ∈ gp ∨ k = s) with h1 | h1 | h1
    · rw [h1]
      exact ⟨by omega, fun hm => by have := hC.lim _ hm; omega⟩
    · exact ⟨by have := hgl k h1; omega, hG2 k h1⟩
    · rw [h1]
      exact ⟨by have := (Array.getElem?_eq_some_iff.1 hs1).1; omega, hsf⟩, HB1.out.trans (hb.mono HB1.out.size)⟩
  have hFO := b_openOk (2 + lg) n hX2 hn1 (by show D.W.length ≤ _; rw [hW]; simp) (by show _ ≤ D.L.length; rw [HN.out]; omega) (mend_idle (D := D.wc cc) hwell.live hW (2 + lg) n hz)
  have HFO := hide hFO
  have HR2 := hide hR2
  have HS2 := hide hs2
  have HBX := hide hbox
  have c0' : w2.cell? ⟨s, 0, none⟩ = some (.pointer (some ⟨p, 0, none⟩)) := by rw [cell_of_row w2 s 0 _ _ _ hs2]; rfl
  have HG := hide (And.intro hG1 hG2)
  have hr0 : w0.heap.size ≤ w.heap.size := X.out.below.size
  have hb0 : w0.heap.size ≤ w1.heap.size := HB1.out.size
  have hgs : ∀ k ∈ gp, k ≠ s := fun k hk e => by have := hG1 k hk; have := (X.out.xs s (by simp)).1; omega
  have hbs : w1.heap.size ≠ s := fun e => by have := (Array.getElem?_eq_some_iff.1 hs1).1; omega
  have hbg : w1.heap.size ∉ gp := fun hm => by have := hgl _ hm; omega
  have HRS := hide (And.intro hgs (And.intro hbs hbg))
  have HWF := hide hC.wf
  clear hFO hR hR2 hs1 hs2 hbox hb hw2 hX2 hC HSZ HLY HOP c0 hgl hz2 hgs hbs hbg
  generalize hbb : w1.heap.size = b at *
  generalize hrr : w.heap.size = r at *
  clear hbb
  go_upto_region 6 with (go_at_call 73; refine HFO.out.mono ?_; rintro e w3 ⟨q, rfl, hF3, hK3⟩)
  have hwc : (D.wc cc).well := ⟨HWF.out, hwell.live, hwell.fuse⟩
  have hBk : BkIs w0 w3 r q p b lg n [s] gp (Rg.opened D 2 lg 0) (diskOf D.L lg n) ((D.wc cc).more 1) := {
    fs := hF3
    rg := HR2.out.keep hK3.1 (fun k hk => hK3.2 k (by simp [hk]))
    box := (hK3.2 b (by simp)).trans HBX.out
    g0 := fun k hk => Nat.le_trans hr0 (HG.out.1 k hk)
    b0 := hb0
    gx := fun k hk hm => HRS.out.1 k hk (by simpa using hm)
    bx := fun hm => by
      rcases List.mem_append.1 hm with h1 | h1
      · exact HRS.out.2.2 h1
      · exact HRS.out.2.1 (by simpa using h1)
    well := well_more hwc 1
    wnil := by rw [more_W]; exact hW
    len := by rw [more_L]; show _ ≤ D.L.length; rw [HN.out]; exact hfit
    disk := fun i hi => by rw [more_L]; exact (diskOf_get D.L lg n i hi).symm
    dlen := by simp [diskOf]
    d512 := fun i hi => by rw [diskOf_get D.L lg n i hi]; exact h512 i hi
    fr := rfl
    rn := rfl
    nof := rfl }
  have hs3 : w3.heap[s]? = some (.cells (preCells p nx cm ms) 65 (0, 0)) := (hK3.2 s (by simp)).trans HS2.out
  have HNP := hide (newp_ok (Φ := stBack r q p b lg n) (w0 := w0) (w := w3) (xs := [s]) m hm1 hm2 (Rg.opened D 2 lg 0, diskOf D.L lg n) hBk.at)
  have HS3 := hide hs3
  have kb : w3.cell? ⟨b, 0, none⟩ = some (.pointer (some ⟨r, 0, none⟩)) := by rw [cell_of_row w3 b 0 _ _ _ hBk.box]; rfl
  have hbl : b < w3.heap.size := (Array.getElem?_eq_some_iff.1 hBk.box).1
  have HBOX := hide hBk.box
  clear hF3 hK3 hwc hBk hs3 HFO HR2 HS2 HBX HG HRS c0'
  go_upto_region 9 with (go_at_call 74; refine HNP.out.mono ?_; rintro e w4 ⟨P, G, rfl, hP, hP0, hB4⟩)
  have hs4 : w4.heap[s]? = some (.cells (preCells p nx cm ms) 65 (0, 0)) := (hB4.block s (Array.getElem?_eq_some_iff.1 HS3.out).1).trans HS3.out
  have kb4 : w4.cell? ⟨b, 0, none⟩ = some (.pointer (some ⟨r, 0, none⟩)) := (hB4.cell (p := ⟨b, 0, none⟩) hbl).trans kb
  have d1 : w4.cell? ⟨s, 1, none⟩ = some (.pointer none) := by rw [cell_of_row w4 s 1 _ _ _ hs4]; rfl
  have d2 : w4.cell? ⟨s, 2, none⟩ = some (.pointer none) := by rw [cell_of_row w4 s 2 _ _ _ hs4]; rfl
  have d3 : w4.cell? ⟨s, 3, none⟩ = some (.int .i64 0) := by rw [cell_of_row w4 s 3 _ _ _ hs4]; rfl
  have dz : ∀ o, w4.frozen? ⟨s, o, none⟩ = false := fun o => frozen_of_row w4 s o _ _ hs4
  have HS4 := hide hs4
  have HP4 := hide hP
  clear hP hB4 hs4 kb HNP HS3
  go_wp2
  go_ret
  refine ⟨rfl, ⟨r, q, p, b, lg, n, P, G⟩, rfl, rfl, rfl, ?_⟩
  have hO : Off [s] w4 (((w4.setCell ⟨s, 1, none⟩ (.pointer (some ⟨r, 0, none⟩))).setCell ⟨s, 2, none⟩ (.pointer (some ⟨P, 0, none⟩))).setCell ⟨s, 3, none⟩ (.int .i64 (n : Int))) :=
    ((((Off.refl [s] w4).setCell _ _ (.inl (by simp))).setCell _ _ (.inl (by simp))).setCell _ _ (.inl (by simp)))
  exact {
    pool := HP4.out.writeL (fun k hk => by simp only [List.mem_singleton] at hk; subst hk; exact ⟨by simp, hs0⟩) hO
    head := set3 HS4.out _ _ _
    own := World.ownsRow_nil _ _ _ _
    plen := rfl
    ulen := rfl
    tx := fun i x T uv a => by simp at a
    nodup := fun i j x a => by simp at a
    udis := fun i j u v k a => by simp at a
    s0 := hs0
    t0 := fun k hk => by cases hk
    sx := by simp
    tbx := fun k hk => by cases hk
    inO := fun k hk => by simp [Value.ownBlock] at hk
    few := by simp
    lg2 := hlg2
    n8 := by show n ≤ 8192; omega }
end Go.Proofs.YteeembildppgmaaGreat
namespace Go.Proofs.YteeembildppgmaaGreat
open Go.RowKit
set_option linter.unusedVariables false
set_option linter.unusedSimpArgs false
def St.new (N m : Nat) : St := ⟨Pl.made m (⟨2, N / 4, 0, 0, [], false⟩, diskOf (List.replicate N zeros) (N / 4) ((N - 7 - N / 4) / 4)), [], 1, 0, 1, 0, 0⟩
theorem dirt_made {σ : Type} (m : Nat) (x : σ) : dirtL (Pl.made m x).fs = [] := by
  unfold dirtL Pl.made
  rw [List.filter_eq_nil_iff.2 (fun f hf => by obtain ⟨_, rfl⟩ := List.mem_replicate.1 hf; simp [Fm.nil])]
  rfl
section
variable {w0 w w' : World}
set_option maxHeartbeats 2000000 in
set_option maxRecDepth 100000 in
theorem open_new {p N m : Nat} (hD : DevX w0 w p [] (Dv.fresh N)) (hN1 : 128 ≤ N) (hN2 : N ≤ 8192) (hm1 : 1 ≤ m) (hm2 : m ≤ 64) :
    Calls Tryz.prog 20 #[.pointer (some ⟨p, 0, none⟩), .int .i64 (m : Int)] w fun e w' => ∃ s c, e = .returned (.tuple #[.pointer (some ⟨s, 0, none⟩), .int .i64 0]) ∧ Cf.p c = p ∧ Cf.lg c = N / 4 ∧ Cf.n c = (N - 7 - N / 4) / 4 ∧ StIs w0 w' s c [] [] (.slice none 0 0) [] [] (St.new N m) := by
  have hL : (Dv.fresh N).L.length = N := by simp [Dv.fresh]
  have hsz := b_size hD
  rw [hL] at hsz
  have HSZ := hide hsz
  clear hsz
  obtain ⟨fp, x⟩ := hD
  have HFM := hide (findMaster_new x.dev.wc_self rfl (by rw [hL]; omega) (by simp [Dv.fresh]) (fun i hi => fresh_newest N i (by omega)))
  have HX := hide x
  have d1 : decide ((N : Int) < 128) = false := by simp; omega
  have d2 : decide ((m : Int) < 1) = false := by simp; omega
  have d3 : decide ((64 : Int) < (m : Int)) = false := by simp; omega
  have HNN := hide (And.intro hN1 (And.intro hN2 (And.intro hm1 hm2)))
  clear x hN1 hN2 hm1 hm2 hL
  go_enter Tryz.func20, Tryz.ntmps20
  go_wp2_with (first
    | (go_at_call 47; refine HSZ.out.mono ?_; rintro e w9 ⟨rfl, hw9⟩; have hw9 := hw9.symm; subst hw9)
    | (go_at_call 48; refine HFM.out.mono ?_; rintro e W1 ⟨rfl, hC1, hO1⟩; have HC1 := hide (And.intro hC1 hO1); clear hC1 hO1))
  obtain ⟨cc, hC⟩ := HC1.out.1
  have hX1 : DevX w0 W1 p [] ((Dv.fresh N).wc cc) := ⟨fp, (HX.out.step HC1.out.2 hC (fun k hk => .inl hk)).1⟩
  generalize hW : World.alloc (World.alloc W1 _) _ = W2
  have hB : Below W1.heap.size W1 W2 := by rw [← hW]; exact (((Off.refl [] W1).alloc _).alloc _).below (Nat.le_refl _) (by simp)
  have hs : W2.heap[W1.heap.size + 1]? = some (.cells (preCells p ((1 : Nat) : Int) ((0 : Nat) : Int) ((0 : Nat) : Int)) 65 (0, 0)) := by
    rw [← hW]
    have := World.alloc_heap_new (W1.alloc (.cells #[.int .i64 0, .int .i64 0, .int .i64 0, .int .i64 0] 99)) (.cells (preCells p ((1 : Nat) : Int) ((0 : Nat) : Int) ((0 : Nat) : Int)) 65)
    rwa [World.size_alloc] at this
  clear hW
  have hs0 : w0.heap.size ≤ W1.heap.size + 1 := by have := hX1.below.size; omega
  have hsl : W1.heap.size + 1 < W2.heap.size := (Array.getElem?_eq_some_iff.1 hs).1
  have hX2 : DevX w0 W2 p [W1.heap.size + 1] ((Dv.fresh N).wc cc) := hX1.mindNew hB (fun k hk => by simp only [List.mem_singleton] at hk; subst hk; exact .inr ⟨by omega, hsl⟩)
  generalize W1.heap.size + 1 = s at *
  have hN := HNN.out
  have hwell : ((Dv.fresh N).wc cc).well := ⟨hX2.wf, rfl, (fresh_well N (by omega) (by omega)).fuse⟩
  have hget : ∀ i, i < N → (Dv.fresh N).L.getD i [] = zeros := fun i hi => by simp [Dv.fresh, hi]
  have h512 : ∀ i, i < (N - 7 - N / 4) / 4 → (pageL ((Dv.fresh N).wc cc).L (2 + N / 4 + 5 + 4 * i)).length = 512 := fun i hi => by
    show (pageL (Dv.fresh N).L (2 + N / 4 + 5 + 4 * i)).length = 512
    unfold pageL
    rw [hget _ (by omega), hget _ (by omega), hget _ (by omega), hget _ (by omega)]
    simp [length_zeros]
  refine (lean_new (N := N) (lg := N / 4) (n := (N - 7 - N / 4) / 4) (m := m) (nx := 1) (cm := 0) (ms := 0) hX2 hs hs0 hwell rfl (by simp [Dv.fresh, Dv.wc]) hN.1 hN.2.1 rfl rfl hN.2.2.1 hN.2.2.2 (by show (Dv.fresh N).L.getD (2 + N / 4) [] = _; rw [hget _ (by omega)]; exact zeros_head) h512).mono ?_
  rintro e W3 ⟨rfl, c, hc1, hc2, hc3, h3⟩
  have hfd : found ((Dv.fresh N).wc cc) 2 (N / 4) 0 = [] := fresh_found N 2 (N / 4) 0 (by omega) (by omega)
  have HRS := hide (restart_none h3 hfd (dirt_made m _) (by show 0 ≤ _; omega) (by show 0 < _; omega) (by show 0 < _; omega) (by show 1 < _; omega))
  have HC := hide (And.intro hc1 (And.intro hc2 hc3))
  clear hs hs0 hB hsl hX1 hX2 hN hwell hget h512 h3 hfd hc1 hc2 hc3 hC HX HFM HSZ HC1
  go_wp2_with (go_at_call 50; refine HRS.out.mono ?_; rintro e W4 ⟨rfl, h4⟩; have H4 := hide h4; clear h4 HRS)
  go_ret2
  exact ⟨s, c, rfl, HC.out.1, HC.out.2.1, HC.out.2.2, H4.out⟩
end
end Go.Proofs.YteeembildppgmaaGreat
namespace Go.Proofs.YteeembildppgmaaGreat
open Go.RowKit
set_option linter.unusedVariables false
set_option linter.unusedSimpArgs false
set_option maxHeartbeats 1000000 in
theorem lopen_new {N m : Nat} (w : World) (hN1 : 128 ≤ N) (hN2 : N ≤ 8192) (hm1 : 1 ≤ m) (hm2 : m ≤ 64) :
    Calls Tryz.prog 9 #[.int .i64 (N : Int), .int .i64 (m : Int)] w fun e w' => ∃ s c, e = .returned (.tuple #[.pointer (some ⟨Cf.p c, 0, none⟩), .pointer (some ⟨s, 0, none⟩)]) ∧ Cf.lg c = N / 4 ∧ Cf.n c = (N - 7 - N / 4) / 4 ∧ StIs w w' s c [] [] (.slice none 0 0) [] [] (St.new N m) := by
  have HB := hide (b_new N w (by omega) hN2)
  have HNN := hide (And.intro hN1 (And.intro hN2 (And.intro hm1 hm2)))
  clear hN1 hN2 hm1 hm2
  go_enter Tryz.func9, Tryz.ntmps9
  go_wp2_with (first
    | (go_at_call 27; refine HB.out.mono ?_; rintro e W1 ⟨p, rfl, hX⟩; have HO := hide (open_new hX HNN.out.1 HNN.out.2.1 HNN.out.2.2.1 HNN.out.2.2.2); clear hX)
    | (go_at_call 20; refine HO.out.mono ?_; rintro e W2 ⟨s, c, rfl, hp, hlg, hn, h⟩; subst hp; have H := hide (And.intro hlg (And.intro hn h)); clear hlg hn h HO))
  go_ret2
  exact ⟨s, c, rfl, H.out.1, H.out.2.1, H.out.2.2⟩
def V0 : Nat → List UInt8 := fun _ => zerosN 512
theorem zeros4 : zeros ++ (zeros ++ (zeros ++ zeros)) = zerosN 512 := by
  unfold zeros zerosN
  rw [List.replicate_append_replicate, List.replicate_append_replicate, List.replicate_append_replicate]
theorem made_inv (N m : Nat) (hm : 1 ≤ m) (h1 : 128 ≤ N) : PInv ((N - 7 - N / 4) / 4) (St.new N m).pool V0 where
  dl := by show (diskOf _ _ _).length = _; simp [diskOf]
  v5 := fun q hq => length_zerosN 512
  un := fun f hf _ => by obtain ⟨_, rfl⟩ := List.mem_replicate.1 hf; rfl
  he := fun f hf hh => by obtain ⟨_, rfl⟩ := List.mem_replicate.1 hf; cases hh
  inj := fun i j f g hi hj hf hg _ => by
    have := List.mem_of_getElem? hi
    obtain ⟨_, rfl⟩ := List.mem_replicate.1 this
    cases hf
  out := fun q hq _ => by
    show (diskOf _ _ _).getD q [] = _
    rw [diskOf_get _ _ _ _ hq]
    unfold pageL
    have hget : ∀ i, i < N → (List.replicate N zeros).getD i [] = zeros := fun i hi => by simp [hi]
    rw [hget _ (by omega), hget _ (by omega), hget _ (by omega), hget _ (by omega)]
    exact zeros4
  hand := by show 0 < (List.replicate m Fm.nil).length; simp; omega
end Go.Proofs.YteeembildppgmaaGreat
namespace Go.Proofs.YteeembildppgmaaGreat
open Go.RowKit
set_option linter.unusedVariables false
set_option linter.unusedSimpArgs false
def IsRec (rs : List Enc.Rc) (m : Nat) : Prop := ∃ (j : Nat) (R : Enc.Rc), rs[j]? = some R ∧ R.txn = 1 ∧ m = (encs (rs.take j)).length + 1
theorem IsRec.more {rs : List Enc.Rc} {m : Nat} (h : IsRec rs m) (qs : List Enc.Rc) : IsRec (rs ++ qs) m := by
  obtain ⟨j, R, h1, h2, h3⟩ := h
  have hj := (List.getElem?_eq_some_iff.1 h1).1
  exact ⟨j, R, by rw [List.getElem?_append_left hj]; exact h1, h2, by rw [List.take_append_of_le_length (by omega)]; exact h3⟩
theorem IsRec.last (rs : List Enc.Rc) (R : Enc.Rc) (h : R.txn = 1) : IsRec (rs ++ [R]) ((encs rs).length + 1) := ⟨rs.length, R, by simp, h, by rw [List.take_left]⟩
def rbR : List Up → Nat → Nat → List Enc.Rc
  | [], _, _ => []
  | u :: r, t, last => { u.rc with txn := 1, prev := (last : Int) } :: rbR r (t + u.sz) (t + 1)
theorem encs_rbR : ∀ (us : List Up) (t la : Nat), encs (rbR us t la) = rbH us 1 t la
  | [], _, _ => rfl
  | u :: r, t, la => by
    show encs (_ :: rbR r (t + u.sz) (t + 1)) = _ ++ rbH r 1 (t + u.sz) (t + 1)
    rw [encs_cons, encs_rbR r]
    rfl
theorem resU_cons (u : Up) (r : List Up) : resU (u :: r) = u.sz + resU r := by simp [resU]
theorem len_rbH : ∀ (us : List Up) (id t la : Nat), (rbH us id t la).length = resU us
  | [], _, _, _ => rfl
  | u :: r, id, t, la => by
    show (_ ++ rbH r id (t + u.sz) (t + 1)).length = _
    rw [List.length_append, len_up, len_rbH r, resU_cons]
theorem rbL_le : ∀ (us : List Up) (t la : Nat), la ≤ t → rbL us t la ≤ t + resU us
  | [], _, _, h => h
  | u :: r, t, la, h => by
    have h1 : u.sz = 96 + u.after.length := rfl
    have := rbL_le r (t + u.sz) (t + 1) (by omega)
    rw [resU_cons]
    show rbL r (t + u.sz) (t + 1) ≤ _
    omega
theorem good_head {R : Enc.Rc} (h : ∀ x ∈ R.head, Enc.fits x) (h1 : R.txns = []) (h2 : R.dirty = []) (h3 : R.count = 0) : R.good := ⟨h, fun t ht => (by rw [h1] at ht; cases ht), fun t ht => (by rw [h2] at ht; cases ht), by rw [h3]; unfold Enc.fits; omega⟩
theorem good_up (u : Up) (la : Nat) (hp : u.page ≤ 1000000000) (ho : u.off ≤ 1000000000) (hn : u.next ≤ 4398046511104) (hl : la ≤ 4398046511104) : ({ u.rc with txn := 1, prev := (la : Int) } : Enc.Rc).good := good_head (fun x hx => by
  simp only [Enc.Rc.head, Up.rc, List.mem_cons, List.not_mem_nil, or_false] at hx
  unfold Enc.fits
  omega) rfl rfl rfl
theorem good_rbR {n : Nat} (hn : n ≤ 8192) : ∀ (us : List Up) (t la : Nat), UpsOk n us → la ≤ 4398046511104 → t + resU us ≤ 1000000000 → ∀ R ∈ rbR us t la, R.good
  | [], _, _, _, _, _ => fun R hR => (by cases hR)
  | u :: r, t, la, ok, hl, ht => by
    intro R hR
    obtain ⟨o1, o2, o3, o4⟩ := ok u (by simp)
    rw [resU_cons] at ht
    rcases List.mem_cons.1 hR with rfl | hR
    · exact good_up u la (by omega) (by omega) o4 hl
    · exact good_rbR hn r _ _ (fun v hv => ok v (by simp [hv])) (by have : u.sz = 96 + u.after.length := rfl; omega) (by omega) R hR
theorem good_upd (pg off la : Nat) (bf af : List UInt8) (hp : pg ≤ 1000000000) (ho : off ≤ 1000000000) (hl : la ≤ 4398046511104) : ({ updRc pg off bf af with txn := 1, prev := (la : Int) } : Enc.Rc).good := good_head (fun x hx => by
  simp only [Enc.Rc.head, updRc, List.mem_cons, List.not_mem_nil, or_false] at hx
  unfold Enc.fits
  omega) rfl rfl rfl
theorem len_updR (pg off : Nat) (bf af : List UInt8) (a b : Int) : ({ updRc pg off bf af with txn := a, prev := b } : Enc.Rc).enc.length = 96 + bf.length + af.length := by
  rw [Enc.length_enc]
  show 96 + bf.length + af.length + 24 * 0 + 16 * 0 = _
  omega
structure MkI (c : Cf) (S : St) (T : Tn) (V : Nat → List UInt8) (rs : List Enc.Rc) (Ms : List (Nat × Dt)) (TB WB : Nat) : Prop where
  txs : S.txs = [T]
  id : T.id = 1
  inv : PInv c.n S.pool V
  held : S.R.held = encs rs
  good : ∀ R ∈ rs, R.good
  start : S.R.start = 0
  num : S.R.n = 256
  com : S.commits = 0
  goes : Goes Ms T.ups (dat V)
  rise : T.ups.Pairwise (fun a b => a.lsn < b.lsn)
  ok : UpsOk c.n T.ups
  recs : ∀ x ∈ Ms, IsRec rs x.1
  sort : Ms.Pairwise (fun a b => a.1 ≤ b.1)
  last : T.last ≤ S.R.tail
  tb : S.R.tail + resU T.ups ≤ TB
  wb : S.pool.wr + 2 * T.ups.length ≤ WB
structure MkL (T : Tn) (rs : List Enc.Rc) (Ms : List (Nat × Dt)) : Prop where
  isr : IsRec rs T.last
  le : ∀ u ∈ T.ups, u.lsn ≤ T.last
  ms : ∀ x ∈ Ms, x.1 ≤ T.last
section
variable {w0 w w' : World} {s : Nat} {c : Cf} {xs tb : List Nat} {ov : Value} {ps : List Nat} {uvs : List Value} {S : St} {T : Tn} {V : Nat → List UInt8} {rs : List Enc.Rc} {Ms : List (Nat × Dt)} {TB WB : Nat}
theorem MkI.tailE (h : MkI c S T V rs Ms TB WB) : S.R.tail = (encs rs).length := by unfold Rg.tail; rw [h.start, h.held]; omega
theorem MkI.roomE (h : MkI c S T V rs Ms TB WB) : S.R.room = 30090 - S.R.tail := by unfold Rg.room; rw [h.start, h.num]
theorem MkI.mono (h : MkI c S T V rs Ms TB WB) {TB' WB' : Nat} (h1 : TB ≤ TB') (h2 : WB ≤ WB') : MkI c S T V rs Ms TB' WB' := { h with tb := Nat.le_trans h.tb h1, wb := Nat.le_trans h.wb h2 }
theorem MkI.fewer (h : MkI c S T V rs Ms TB WB) (i : Nat) : MkI c S T V rs (Ms.take i) TB WB :=
  { h with goes := fun x hx => h.goes x (List.mem_of_mem_take hx), recs := fun x hx => h.recs x (List.mem_of_mem_take hx), sort := h.sort.sublist (List.take_sublist _ _) }
theorem MkI.read (h : MkI c S T V rs Ms TB WB) {pl : Pl (Rg × List (List UInt8))} (hi : PInv c.n pl V) (hr : RS S.R pl.fo.1) {k : Nat} (hw : pl.wr ≤ S.pool.wr + k) : MkI c { S with pool := pl } T V rs Ms TB (WB + k) := by
  have eR : St.R { S with pool := pl } = pl.fo.1 := rfl
  refine { h with inv := hi, held := by rw [eR, hr.held]; exact h.held, start := by rw [eR, hr.start]; exact h.start, num := ?_, last := by rw [eR, hr.tail]; exact h.last, tb := by rw [eR, hr.tail]; exact h.tb, wb := by have := h.wb; show pl.wr + _ ≤ _; omega }
  obtain ⟨f, hf⟩ := hr
  rw [eR, hf]
  exact h.num
theorem MkI.mark (h : MkI c S T V rs Ms TB WB) (l : MkL T rs Ms) : MkI c S T V rs (Ms ++ [(T.last, dat V)]) TB WB ∧ MkL T rs (Ms ++ [(T.last, dat V)]) := by
  refine ⟨{ h with goes := h.goes.here T.last l.le, recs := fun x hx => ?_, sort := ?_ }, ⟨l.isr, l.le, fun x hx => ?_⟩⟩
  · rcases List.mem_append.1 hx with hx | hx
    · exact h.recs x hx
    · simp at hx
      subst hx
      exact l.isr
  · rw [List.pairwise_append]
    refine ⟨h.sort, by simp, fun a ha b hb => ?_⟩
    simp at hb
    subst hb
    exact l.ms a ha
  · rcases List.mem_append.1 hx with hx | hx
    · exact l.ms x hx
    · simp at hx
      subst hx
      exact Nat.le_refl _
theorem MkI.wrote (h : MkI c S T V rs Ms TB WB) (l : MkL T rs Ms) (hn : c.n ≤ 8192) (hT : TB ≤ 1000000) {pl : Pl (Rg × List (List UInt8))} (pg off : Nat) (af : List UInt8) (hp : pg < c.n) (h1 : 1 ≤ af.length) (ho : off + af.length ≤ 504)
    (hi : PInv c.n pl (fun q => if q = pg then patch (patch (V pg) 0 (be8 (S.R.tail + 1))) (8 + off) af else V q)) (hr : RS { S.R with held := S.R.held ++ ({ updRc pg off (((V pg).drop (8 + off)).take af.length) af with txn := (T.id : Int), prev := (T.last : Int) } : Enc.Rc).enc } pl.fo.1) (hw : pl.wr ≤ S.pool.wr + 3) :
    ∃ T' V' rs', MkI c { S with pool := pl, txs := S.txs.set 0 { T with last := S.R.tail + 1, ups := T.ups ++ [⟨S.R.tail + 1, T.last, pg, off, ((V pg).drop (8 + off)).take af.length⟩] } } T' V' rs' Ms (TB + 192 + 3 * af.length) (WB + 5) ∧ MkL T' rs' Ms := by
  have hv := h.inv.v5 pg hp
  have hbl : (((V pg).drop (8 + off)).take af.length).length = af.length := by rw [List.length_take, List.length_drop, hv]; omega
  have hid : (T.id : Int) = 1 := by rw [h.id]; rfl
  have htl : S.R.tail ≤ 1000000 := by have := h.tb; omega
  have hla := h.last
  rw [hid] at hr
  have eR : ∀ x, St.R { S with pool := pl, txs := x } = pl.fo.1 := fun _ => rfl
  have eH : pl.fo.1.held = encs (rs ++ [({ updRc pg off (((V pg).drop (8 + off)).take af.length) af with txn := 1, prev := (T.last : Int) } : Enc.Rc)]) := by
    rw [hr.held, encs_append, encs_cons]
    show S.R.held ++ _ = _
    rw [h.held]
    simp [encs]
  have eT : pl.fo.1.tail = S.R.tail + (96 + 2 * af.length) := by
    rw [hr.tail, Rg.tail_more, len_updR, hbl]
    omega
  have eD : dat (fun q => if q = pg then patch (patch (V pg) 0 (be8 (S.R.tail + 1))) (8 + off) af else V q) = wrD pg off af (dat V) := write_dat h.inv.v5 pg off _ af hp ho
  refine ⟨{ T with last := S.R.tail + 1, ups := T.ups ++ [⟨S.R.tail + 1, T.last, pg, off, ((V pg).drop (8 + off)).take af.length⟩] }, (fun q => if q = pg then patch (patch (V pg) 0 (be8 (S.R.tail + 1))) (8 + off) af else V q), rs ++ [({ updRc pg off (((V pg).drop (8 + off)).take af.length) af with txn := 1, prev := (T.last : Int) } : Enc.Rc)], { txs := by show S.txs.set 0 _ = _; rw [h.txs]; rfl, id := h.id, inv := hi, held := by rw [eR]; exact eH, good := ?_, start := by rw [eR, hr.start]; exact h.start, num := ?_, com := h.com, goes := ?_, rise := ?_, ok := ?_, recs := fun x hx => (h.recs x hx).more _, sort := h.sort, last := by rw [eR, eT]; show S.R.tail + 1 ≤ _; omega, tb := ?_, wb := ?_ }, ?_⟩
  · intro R hR
    rcases List.mem_append.1 hR with hR | hR
    · exact h.good R hR
    · simp at hR
      subst hR
      exact good_upd pg off T.last _ af (by omega) (by omega) (by omega)
  · obtain ⟨f, hf⟩ := hr
    rw [eR, hf]
    exact h.num
  · rw [eD]
    refine h.goes.more ⟨S.R.tail + 1, T.last, pg, off, ((V pg).drop (8 + off)).take af.length⟩ (fun x hx => by have := l.ms x hx; show x.1 < S.R.tail + 1; omega) ?_
    have e1 : ((V pg).drop (8 + off)).take af.length = ((dat V pg).drop off).take af.length := by unfold dat; rw [List.drop_drop]
    show wrD pg off (((V pg).drop (8 + off)).take af.length) (wrD pg off af (dat V)) = dat V
    rw [e1]
    exact wrD_back pg off af (dat V) (by unfold dat; rw [List.length_drop, hv]; omega)
  · show (T.ups ++ [_]).Pairwise _
    rw [List.pairwise_append]
    refine ⟨h.rise, by simp, fun a ha b hb => ?_⟩
    simp at hb
    subst hb
    have := l.le a ha
    show a.lsn < S.R.tail + 1
    omega
  · intro u hu
    rcases List.mem_append.1 hu with hu | hu
    · exact h.ok u hu
    · simp at hu
      subst hu
      exact ⟨hp, by show 1 ≤ (((V pg).drop (8 + off)).take af.length).length; rw [hbl]; exact h1, by show off + (((V pg).drop (8 + off)).take af.length).length ≤ 504; rw [hbl]; exact ho, by show T.last ≤ _; omega⟩
  · rw [eR, eT]
    show _ + resU (T.ups ++ [_]) ≤ _
    rw [resU_snoc]
    have := h.tb
    have e2 : Up.sz ⟨S.R.tail + 1, T.last, pg, off, ((V pg).drop (8 + off)).take af.length⟩ = 96 + af.length := by show 96 + (((V pg).drop (8 + off)).take af.length).length = _; rw [hbl]
    rw [e2]
    omega
  · show pl.wr + 2 * (T.ups ++ [_]).length ≤ _
    have := h.wb
    simp
    omega
  · refine ⟨?_, fun u hu => ?_, fun x hx => ?_⟩
    · show IsRec _ (S.R.tail + 1)
      rw [h.tailE]
      exact IsRec.last rs _ rfl
    · show u.lsn ≤ S.R.tail + 1
      rcases List.mem_append.1 hu with hu | hu
      · have := l.le u hu
        omega
      · simp at hu
        subst hu
        exact Nat.le_refl _
    · have := l.ms x hx
      show x.1 ≤ S.R.tail + 1
      omega
theorem MkI.back (h : MkI c S T V rs Ms TB WB) (hn : c.n ≤ 8192) (hT : TB ≤ 1000000) (m : Nat) (Dm : Dt) (hm : (m, Dm) ∈ Ms) (hl : ∀ x ∈ Ms, x.1 ≤ m) {pl : Pl (Rg × List (List UInt8))}
    (hi : PInv c.n pl (rbV (behind m T.ups).reverse S.R.tail V)) (hr : RS { S.R with held := S.R.held ++ rbH (behind m T.ups).reverse T.id S.R.tail T.last } pl.fo.1) (hw : pl.wr ≤ S.pool.wr + 2 * (behind m T.ups).length) :
    ∃ T' V' rs', MkI c { S with pool := pl, txs := [⟨T.id, T.begin, rbL (behind m T.ups).reverse S.R.tail T.last, upTo m T.ups⟩] } T' V' rs' Ms TB WB ∧ dat V' = Dm := by
  have hs := rise_split T.ups m h.rise
  have okb : UpsOk c.n (behind m T.ups).reverse := fun u hu => h.ok u (List.mem_filter.1 (List.mem_reverse.1 hu)).1
  have eD : dat (rbV (behind m T.ups).reverse S.R.tail V) = undL (behind m T.ups).reverse (dat V) := rb_dat _ _ V h.inv.v5 okb
  have erv : resU (behind m T.ups).reverse = resU (behind m T.ups) := by unfold resU; rw [List.map_reverse, List.sum_reverse]
  have esum : resU T.ups = resU (upTo m T.ups) + resU (behind m T.ups) := by conv => lhs; rw [hs, resU_append]
  have elen : T.ups.length = (upTo m T.ups).length + (behind m T.ups).length := by conv => lhs; rw [hs, List.length_append]
  have htb := h.tb
  have hla := h.last
  have eR : ∀ x, St.R { S with pool := pl, txs := x } = pl.fo.1 := fun _ => rfl
  have eT : pl.fo.1.tail = S.R.tail + resU (behind m T.ups) := by rw [hr.tail, Rg.tail_more, len_rbH, erv]
  have hid : T.id = 1 := h.id
  refine ⟨⟨T.id, T.begin, rbL (behind m T.ups).reverse S.R.tail T.last, upTo m T.ups⟩, rbV (behind m T.ups).reverse S.R.tail V, rs ++ rbR (behind m T.ups).reverse S.R.tail T.last, { txs := rfl, id := h.id, inv := hi, held := ?_, good := ?_, start := by rw [eR, hr.start]; exact h.start, num := ?_, com := h.com, goes := ?_, rise := h.rise.filter _, ok := fun u hu => h.ok u (List.mem_filter.1 hu).1, recs := fun x hx => (h.recs x hx).more _, sort := h.sort, last := ?_, tb := ?_, wb := ?_ }, ?_⟩
  · rw [eR, hr.held, encs_append, encs_rbR]
    show S.R.held ++ _ = _
    rw [h.held, hid]
  · intro R hR
    rcases List.mem_append.1 hR with hR | hR
    · exact h.good R hR
    · exact good_rbR hn _ _ _ okb (by omega) (by rw [erv]; omega) R hR
  · obtain ⟨f, hf⟩ := hr
    rw [eR, hf]
    exact h.num
  · rw [eD]
    exact h.goes.back m h.rise hl
  · rw [eR, eT, ← erv]
    exact rbL_le _ _ _ hla
  · rw [eR, eT]
    show _ + resU (upTo m T.ups) ≤ TB
    omega
  · show pl.wr + 2 * (upTo m T.ups).length ≤ WB
    have := h.wb
    omega
  · rw [eD]
    exact h.goes (m, Dm) hm
end
end Go.Proofs.YteeembildppgmaaGreat
namespace Go.Proofs.YteeembildppgmaaGreat
open Go.RowKit
set_option linter.unusedVariables false
set_option linter.unusedSimpArgs false
section
variable {w0 w w' : World} {s : Nat} {c : Cf} {xs tb : List Nat} {ov : Value} {ps : List Nat} {uvs : List Value} {S : St} {T : Tn} {V : Nat → List UInt8} {rs : List Enc.Rc} {Ms : List (Nat × Dt)} {TB WB : Nat}
theorem StIs.writeN (h : StIs w0 w s c xs tb ov ps uvs S) {Z ys : List Nat} (hZ : ∀ k ∈ Z, k ∈ xs ∧ w0.heap.size ≤ k) (hO : Off Z w w') (hy : ∀ k ∈ ys, k ∈ xs ∨ (w.heap.size ≤ k ∧ k < w'.heap.size)) : StIs w0 w' s c ys tb ov ps uvs S :=
  have hK : ∀ k, k ∉ xs → k ∈ s :: (tb ++ xs) → w'.heap[k]? = w.heap[k]? := fun k hn hm => hO.block k (h.lts hm) (fun hz => hn (hZ k hz).1)
  { h with
    pool := h.pool.writeNew (fun k hk => ⟨by simp [(hZ k hk).1], (hZ k hk).2⟩) hO (fun k hm => by
      simp only [List.mem_cons, List.mem_append] at hm ⊢
      rcases hm with h3 | h3 | h3
      · exact .inl (.inl h3)
      · exact .inl (.inr (.inl h3))
      · rcases hy k h3 with h4 | h4
        · exact .inl (.inr (.inr h4))
        · exact .inr h4)
    head := (hK s (fun e => h.sx (by simp [e])) (by simp)).trans h.head
    own := owns_of_block h.own (fun k e => hK k (h.tbx k (h.inO k e)) (by simp [h.inO k e]))
    tx := fun i x T uv a b d => let ⟨vs, t⟩ := h.tx i x T uv a b d; ⟨vs, t.keep hO.size (fun k hk => ⟨hk, hK k (h.tbx k hk) (by simp [hk])⟩)⟩
    sx := fun hm => by
      rcases List.mem_append.1 hm with h1 | h1
      · exact h.sx (by simp [h1])
      · rcases hy s h1 with h2 | h2
        · exact h.sx (by simp [h2])
        · have := h.lts (k := s) (by simp); omega
    tbx := fun k hk hm => by
      rcases hy k hm with h2 | h2
      · exact h.tbx k hk h2
      · have := h.lts (k := k) (by simp [hk]); omega }
theorem off_grown {w w' : World} {b : Option Nat} (hg : w.grownBy w' b) : Off b.toList w w' := ⟨hg.os, hg.tape, hg.output, hg.size, fun k hk hn => hg.block k hk (fun e => hn (by rw [← e]; simp))⟩
def mkCells (Ms : List (Nat × Dt)) : List Value := Ms.map fun x => .int .i64 (x.1 : Int)
def wsCells (Ms : List (Nat × Dt)) : List Value := Ms.map fun x => .string (strOf (areaN x.2 3))
structure MRows (w0 w : World) (xs : List Nat) (v9 v10 : Value) (Ms Ns : List (Nat × Dt)) : Prop where
  mks : w.ownsRow w0.heap.size 3 1 v9 Ms.length (mkCells Ms)
  ws : w.ownsRow w0.heap.size 9 1 v10 Ns.length (wsCells Ns)
  in9 : ∀ k, v9.ownBlock = some k → k ∈ xs
  in10 : ∀ k, v10.ownBlock = some k → k ∈ xs
theorem MRows.nil (w0 w : World) (xs : List Nat) : MRows w0 w xs (.slice none 0 0) (.slice none 0 0) [] [] := ⟨World.ownsRow_nil _ _ _ _, World.ownsRow_nil _ _ _ _, fun k hk => by simp [Value.ownBlock] at hk, fun k hk => by simp [Value.ownBlock] at hk⟩
theorem MRows.kept {v9 v10 : Value} {Ns : List (Nat × Dt)} (h : MRows w0 w xs v9 v10 Ms Ns) (hk : Kept xs w w') : MRows w0 w' xs v9 v10 Ms Ns := ⟨Enc.owns_stay h.mks (fun k e => hk.2 k (h.in9 k e)), Enc.owns_stay h.ws (fun k e => hk.2 k (h.in10 k e)), h.in9, h.in10⟩
theorem MRows.below {v9 v10 : Value} {Ns : List (Nat × Dt)} (h : MRows w0 w xs v9 v10 Ms Ns) (hb : Below w.heap.size w w') : MRows w0 w' xs v9 v10 Ms Ns := ⟨Enc.owns_stay h.mks (fun k e => hb.block k (h.mks.lt k e).2), Enc.owns_stay h.ws (fun k e => hb.block k (h.ws.lt k e).2), h.in9, h.in10⟩
theorem own_ne {w : World} {b e1 e2 : Nat} {u v : Value} {n m : Nat} {xs ys : List Value} (h : w.ownsRow b e1 1 u n xs) (k : w.ownsRow b e2 1 v m ys) (hne : e1 ≠ e2) (q : Nat) (h1 : u.ownBlock = some q) : v.ownBlock ≠ some q := fun h2 => by
  rcases h.2 with ⟨rfl, _⟩ | ⟨g, cap, cur, rfl, _, hg, _⟩
  · simp [Value.ownBlock] at h1
  · rcases k.2 with ⟨rfl, _⟩ | ⟨g', cap', cur', rfl, _, hg', _⟩
    · simp [Value.ownBlock] at h2
    · simp [Value.ownBlock] at h1 h2
      subst h1 h2
      rw [hg] at hg'
      simp at hg'
      exact hne hg'.2
theorem StIs.addMark (h : StIs w0 w s c xs tb ov ps uvs S) {v9 v10 u : Value} {Ns : List (Nat × Dt)} (r : MRows w0 w xs v9 v10 Ms Ns) (x : Nat × Dt) (ho : w'.ownsRow w0.heap.size 3 1 u (Ms.length + 1) (mkCells Ms ++ [.int .i64 (x.1 : Int)])) (hg : w.grownBy w' v9.ownBlock) (hn : ∀ k, u.ownBlock = some k → v9.ownBlock = some k ∨ w.heap.size ≤ k) :
    ∃ ys, StIs w0 w' s c ys tb ov ps uvs S ∧ MRows w0 w' ys u v10 (Ms ++ [x]) Ns := by
  refine ⟨u.ownBlock.toList ++ v10.ownBlock.toList, h.writeN (Z := v9.ownBlock.toList) (fun k hk => ?_) (off_grown hg) (fun k hk => ?_), ?_, ?_, fun k hk => by simp [hk], fun k hk => by simp [hk]⟩
  · have hk : v9.ownBlock = some k := by simpa using hk
    exact ⟨r.in9 k hk, (r.mks.lt k hk).1⟩
  · rcases List.mem_append.1 hk with hk | hk
    · have hk : u.ownBlock = some k := by simpa using hk
      rcases hn k hk with h1 | h1
      · exact .inl (r.in9 k h1)
      · exact .inr ⟨h1, (ho.lt k hk).2⟩
    · exact .inl (r.in10 k (by simpa using hk))
  · rw [List.length_append]
    unfold mkCells at ho ⊢
    rw [List.map_append]
    exact ho
  · exact Enc.owns_stay r.ws (fun k e => hg.block k (r.ws.lt k e).2 (fun e2 => own_ne r.mks r.ws (by decide) k e2.symm e))
theorem StIs.addWas (h : StIs w0 w s c xs tb ov ps uvs S) {v9 v10 u : Value} {Ns : List (Nat × Dt)} (r : MRows w0 w xs v9 v10 Ms Ns) (x : Nat × Dt) (ho : w'.ownsRow w0.heap.size 9 1 u (Ns.length + 1) (wsCells Ns ++ [.string (strOf (areaN x.2 3))])) (hg : w.grownBy w' v10.ownBlock) (hn : ∀ k, u.ownBlock = some k → v10.ownBlock = some k ∨ w.heap.size ≤ k) :
    ∃ ys, StIs w0 w' s c ys tb ov ps uvs S ∧ MRows w0 w' ys v9 u Ms (Ns ++ [x]) := by
  refine ⟨v9.ownBlock.toList ++ u.ownBlock.toList, h.writeN (Z := v10.ownBlock.toList) (fun k hk => ?_) (off_grown hg) (fun k hk => ?_), ?_, ?_, fun k hk => by simp [hk], fun k hk => by simp [hk]⟩
  · have hk : v10.ownBlock = some k := by simpa using hk
    exact ⟨r.in10 k hk, (r.ws.lt k hk).1⟩
  · rcases List.mem_append.1 hk with hk | hk
    · exact .inl (r.in9 k (by simpa using hk))
    · have hk : u.ownBlock = some k := by simpa using hk
      rcases hn k hk with h1 | h1
      · exact .inl (r.in10 k h1)
      · exact .inr ⟨h1, (ho.lt k hk).2⟩
  · exact Enc.owns_stay r.mks (fun k e => hg.block k (r.mks.lt k e).2 (fun e2 => own_ne r.ws r.mks (by decide) k e2.symm e))
  · rw [List.length_append]
    unfold wsCells at ho ⊢
    rw [List.map_append]
    exact ho
theorem mk_begin (h : StIs w0 w s c [] [] (.slice none 0 0) [] [] (St.new 1024 8)) (hn : c.n = 190) :
    Calls Tryz.prog 10 #[.pointer (some ⟨s, 0, none⟩)] w fun e w' => e = .returned (.tuple #[.int .i64 1, .int .i64 0]) ∧ ∃ S T V rs, StAt w0 w' s c [] S ∧ MkI c S T V rs [] 96 0 ∧ MkL T rs [] := by
  refine (begin_ok h (by show resT [] ≤ _; decide) (by show 288 + resT [] + 2048 ≤ (0 / 118 + 256 - 1) * 118 - 0; decide) (by show 1 ≤ _; omega) (by show 0 < _; omega)).mono ?_
  rintro e w' ⟨rfl, h1, _⟩
  have hl : (beginRc 1).enc.length = 96 := by rw [Enc.length_enc]; rfl
  have ht : (St.new 1024 8).begun.R.tail = 96 := by
    show 0 + ([] ++ (beginRc 1).enc).length = 96
    rw [List.nil_append, hl]
  have hi : PInv c.n (St.new 1024 8).begun.pool V0 := by
    have h := made_inv 1024 8 (by omega) (by omega)
    rw [hn]
    exact ⟨h.dl, h.v5, h.un, h.he, h.inj, h.out, h.hand⟩
  refine ⟨rfl, _, ⟨1, 1, 1, []⟩, V0, [beginRc 1], h1, { txs := rfl, id := rfl, inv := hi, held := by show [] ++ (beginRc 1).enc = encs [beginRc 1]; simp [encs], good := ?_, start := rfl, num := rfl, com := rfl, goes := fun x hx => (by cases hx), rise := List.Pairwise.nil, ok := fun u hu => (by cases hu), recs := fun x hx => (by cases hx), sort := List.Pairwise.nil, last := by rw [ht]; show 1 ≤ 96; omega, tb := by rw [ht]; show 96 + resU [] ≤ 96; decide, wb := by show 0 + 2 * 0 ≤ 0; omega }, ⟨⟨0, beginRc 1, rfl, rfl, rfl⟩, fun u hu => (by cases hu), fun x hx => (by cases hx)⟩⟩
  intro R hR
  simp at hR
  subst hR
  exact good_head (fun x hx => by
    simp only [Enc.Rc.head, beginRc, List.mem_cons, List.not_mem_nil, or_false] at hx
    unfold Enc.fits
    omega) rfl rfl rfl
end
end Go.Proofs.YteeembildppgmaaGreat
