/- The walk of the law DevPlays: it returns true and writes nothing that was there. -/
import Derived.Test.YtohhcgcifceklaaPlaysIn
import Derived.Test.YtohhcgcifceklaaApart
import Derived.Deep.CutBlock
import Derived.Deep.DeepCutAuto
namespace Go.Proofs.Ytohhcgcifceklaa
open Go.RowKit
set_option linter.unusedVariables false
set_option linter.unusedSimpArgs false

set_option maxHeartbeats 400000 in
set_option maxRecDepth 100000 in
theorem plays_not (n : Int) (a : Option Addr) (len cap : Nat) (w : World) (h : n < 1 ∨ 8192 < n) (hl : len ≤ 9223372036854775807) :
    Calls Try.prog 3 #[.int .i64 n, .slice a len cap] w fun e w' => e = .returned (.bool true) ∧ Below w.heap.size w w' := by
  have HN := hide (new_not n w h)
  have HR := hide (rnew_not n w h)
  clear h
  go_enter Try.func3, Try.ntmps3
  go_wp2_with (first | (go_at_call 7; refine HN.out.mono ?_; rintro e w1 ⟨rfl, hw⟩; have hw := hw.symm; subst hw) | (go_at_call 8; refine HR.out.mono ?_; rintro e w1 ⟨rfl, hw⟩; have hw := hw.symm; subst hw) | fail)
  refine (awake_true w).mono ?_
  rintro e w2 ⟨rfl, hB2⟩
  go_wp2_with fail
  go_loop [5, 9] (fun d i => d = .pointer none ∧ i = .int .i64 0) (fun _ _ => 0)
  case atStart => exact ⟨rfl, rfl⟩
  case round =>
    obtain ⟨rfl, rfl⟩ := hrel
    by_cases hl0 : 0 < len
    · have hld : decide ((0 : Int) < (len : Int)) = true := by simpa using hl0
      go_wp2_with fail
      go_ret
      exact ⟨rfl, hB2⟩
    · have hld : decide ((0 : Int) < (len : Int)) = false := by simpa using (by omega : len = 0)
      go_wp2_with fail
      go_ret
      exact ⟨rfl, hB2⟩

set_option maxHeartbeats 4000000 in
set_option maxRecDepth 100000 in
theorem plays_yes (n : Nat) (a : Option Addr) (len cap : Nat) (w : World) (h1 : 1 ≤ n) (h2 : n ≤ 8192) (hops : IsOps w a len) :
    Calls Try.prog 3 #[.int .i64 (n : Int), .slice a len cap] w fun e w' => e = .returned (.bool true) ∧ Below w.heap.size w w' := by
  have hl := hops.1
  have HO := hide hops.2
  clear hops
  go_enter Try.func3, Try.ntmps3
  go_wp2_with fail
  refine (new_dev n w h1 h2).mono ?_
  rintro e w1 ⟨rfl, hD1, hB1⟩
  obtain ⟨p, hp⟩ : ∃ p, w.heap.size + 1 = p := ⟨_, rfl⟩
  have HL : Hid (∀ k ∈ [w.heap.size, p], w.heap.size ≤ k) := by show ∀ k ∈ _, _; simp; omega
  rw [hp] at hD1 ⊢
  generalize [w.heap.size, p] = fp at *
  clear hp
  go_wp2_with fail
  refine (rnew_dev n w1 h1 h2).mono ?_
  rintro e w2 ⟨r, fr, rfl, hR2, hFr, hB2⟩
  have hD2 := hD1.below hB2
  have hB3 : Below w.heap.size w w2 := hB1.trans (hB2.mono hB1.size)
  have hdis : ∀ j ∈ fp, j ∉ fr := fun j hj hm => by have := fp_lt hD1 j hj; have := hFr j hm; omega
  have hFr' : ∀ j ∈ fr, w.heap.size ≤ j := fun j hj => Nat.le_trans hB1.size (hFr j hj)
  rw [← norm_fresh] at hR2
  have hn8 : (Dv.fresh n).L.length = n := by simp [Dv.fresh]
  have hw0 : (Dv.fresh n).W.length ≤ 0 := by simp [Dv.fresh]
  generalize Dv.fresh n = D1 at *
  have HDIS := hide hdis
  have HFR := hide hFr'
  have HN8 := hide hn8
  clear hdis hFr hFr' hD1 hB1 hB2 hn8
  go_wp2_with fail
  refine (awake_true w2).mono ?_
  rintro e w3 ⟨rfl, hB4⟩
  have hD3 := hD2.below hB4
  have hR3 := hR2.below hB4
  have hB5 : Below w.heap.size w w3 := hB3.trans (hB4.mono hB3.size)
  clear hD2 hR2 hB3 hB4
  go_wp2_with fail
  go_loopw [5, 7, 9] (fun vd vr i wx => ∃ (k p r : Nat) (fp fr : List Nat) (D : Dv), k ≤ 80 ∧ vd = .pointer (some ⟨p, 0, none⟩) ∧ vr = .pointer (some ⟨r, 0, none⟩) ∧ i = .int .i64 k ∧ DevAt wx p fp D ∧ RefAt wx r fr D.norm ∧ (∀ j ∈ fp, j ∉ fr) ∧ Below w.heap.size w wx ∧ (∀ j ∈ fp, w.heap.size ≤ j) ∧ (∀ j ∈ fr, w.heap.size ≤ j) ∧ D.L.length = n ∧ D.W.length ≤ k) (fun _ _ i _ => 80 - (intOf i).toNat)
  case atStart => exact ⟨0, p, r, fp, fr, D1, Nat.zero_le _, rfl, rfl, rfl, hD3, hR3, HDIS.out, hB5, HL.out, HFR.out, HN8.out, hw0⟩
  case round =>
    clear hD3 hR3 HDIS hB5 HL HFR HN8 hw0
    obtain ⟨k, p, r, fp, fr, D, hk, rfl, rfl, rfl, hD, hR, hdis, hB, hF, hFr, hn, hW⟩ := hrel
    have HDIS := hide hdis
    have HF := hide hF
    have HFR := hide hFr
    have HN := hide hn
    clear hdis hF hFr hn
    by_cases hgo : k < len ∧ k < 80
    · obtain ⟨hlt, hk80⟩ := hgo
      obtain ⟨b, o, hab, hbs, kind, I, A, B, S, ka, kn, kc, ks, hop⟩ := HO.out k hlt
      subst hab
      have HR6 : Hid (wr.rangeAt b (o + k * 6) [.int .i64 kind, .int .i64 I, .int .i64 A, .int .i64 B, .int .i64 S, .slice ka kn kc]) := fun j v hv => (hB.cell (p := ⟨b, o + k * 6 + j, none⟩) hbs).trans (hop.cells j v hv)
      have HOP := hide hop
      clear hop
      go_upto_block 2 with (refine wpList_load_mid rfl 33 _ rfl b (o + k * 6) rfl [.int .i64 kind, .int .i64 I, .int .i64 A, .int .i64 B, .int .i64 S, .slice ka kn kc] _ HR6.out Try.underlying33 rfl Try.size33 ?_)
      generalize hx1 : wr.alloc _ = x1
      have hG : x1.heap[wr.heap.size]? = some (.cells #[.int .i64 kind, .int .i64 I, .int .i64 A, .int .i64 B, .int .i64 S, .slice ka kn kc] 33 (0, 0)) := by rw [← hx1]; exact heap_alloc_new _ _
      have hBx : Below wr.heap.size wr x1 := by rw [← hx1]; exact (Below.refl _ _).alloc (Nat.le_refl _) _
      have hDx := hD.below hBx
      have hRx := hR.below hBx
      have hB2 : Below w.heap.size w x1 := hB.trans (hBx.mono hB.size)
      have hgp : wr.heap.size ∉ fp := notin_fp hD
      have hgr : wr.heap.size ∉ fr := fun hm => by have := hR.lim _ hm; omega
      have hgw : w.heap.size ≤ wr.heap.size := hB.size
      clear hx1 hBx HR6
      generalize wr.heap.size = g at *
      go_cut [5, 7, 11] (fun vd vr ok wx => ∃ (p r : Nat) (fp fr : List Nat) (D : Dv), vd = .pointer (some ⟨p, 0, none⟩) ∧ vr = .pointer (some ⟨r, 0, none⟩) ∧ ok = .bool true ∧ DevAt wx p fp D ∧ RefAt wx r fr D.norm ∧ (∀ j ∈ fp, j ∉ fr) ∧ Below w.heap.size w wx ∧ (∀ j ∈ fp, w.heap.size ≤ j) ∧ (∀ j ∈ fr, w.heap.size ≤ j) ∧ D.L.length = n ∧ D.W.length ≤ k + 1)
      case first =>
        clear hD hR hB
        have c0 : x1.cell? ⟨g, 0, none⟩ = some (.int .i64 kind) := by rw [cell_of_row _ _ _ _ _ _ hG]; rfl
        have c1 : x1.cell? ⟨g, 1, none⟩ = some (.int .i64 I) := by rw [cell_of_row _ _ _ _ _ _ hG]; rfl
        have c2 : x1.cell? ⟨g, 2, none⟩ = some (.int .i64 A) := by rw [cell_of_row _ _ _ _ _ _ hG]; rfl
        have c3 : x1.cell? ⟨g, 3, none⟩ = some (.int .i64 B) := by rw [cell_of_row _ _ _ _ _ _ hG]; rfl
        have c4 : x1.cell? ⟨g, 4, none⟩ = some (.int .i64 S) := by rw [cell_of_row _ _ _ _ _ _ hG]; rfl
        have c5 : x1.cell? ⟨g, 5, none⟩ = some (.slice ka kn kc) := by rw [cell_of_row _ _ _ _ _ _ hG]; rfl
        by_cases e0 : kind = 0
        · as_aux_lemma =>
            subst e0
            have hwf := dev_wf hDx
            have hfm := norm_max D hwf
            have hpos : 1 ≤ D.norm.L.length := hwf.pos
            have hmax : D.norm.L.length ≤ 8192 := hwf.max
            have hent : ∀ x ∈ D.norm.W, x.1 < D.norm.L.length := fun x hx => (hwf.ent x hx).1
            have hfew : D.W.length < 1000000 := by omega
            have hfew' : D.norm.W.length < 1000000 := hfew
            have HE := hide hent
            have HDR : Hid (∀ j ∈ fr, j ∉ fp) := fun j hj hm => HDIS.out j hm hj
            clear hent
            go_wp2_with fail
            refine (sector_dev A B x1).mono ?_
            rintro e x2 ⟨rfl, hq2, hBs⟩
            have hD2 := hDx.below hBs
            have hR2 := hRx.below hBs
            have hBx2 : Below w.heap.size w x2 := hB2.trans (hBs.mono hB2.size)
            have hg1 : g < x1.heap.size := (Array.getElem?_eq_some_iff.1 hG).1
            have hgx : g < x2.heap.size := Nat.lt_of_lt_of_le hg1 hBs.size
            have c1' : x2.cell? ⟨g, 1, none⟩ = some (.int .i64 I) := (hBs.cell (p := ⟨g, 1, none⟩) hg1).trans c1
            have hqx : x1.heap.size < x2.heap.size := (Array.getElem?_eq_some_iff.1 hq2).1
            have hqp : x1.heap.size ∉ fp := notin_fp hDx
            have hqr : x1.heap.size ∉ fr := fun hm => by have := hRx.lim _ hm; omega
            have hqw : w.heap.size ≤ x1.heap.size := hB2.size
            clear hBs hDx hRx hB2 c0 c1 c2 c3 c4 c5
            generalize x1.heap.size = q at *
            go_wp2_with fail
            refine wp_region_held_drew (S := fun w' => w'.heap[g]? = x2.heap[g]? ∧ w'.heap[q]? = x2.heap[q]?) (by kernel_rfl) ⟨rfl, rfl⟩ (fun hH => ?_)
            refine take_to 0 71 (.pointer (some ⟨p, 0, none⟩)) rfl (by kernel_rfl) (by kernel_rfl) (by kernel_rfl) (fun _ _ _ h => h) rfl (by rfl) (fun w _ => by rfl) hH ?_
            simp only [Act.put, List.setIfInBounds_toArray, List.set_cons_zero, List.set_cons_succ]
            refine take_to 1 72 (.pointer (some ⟨g, 1, none⟩)) rfl (by kernel_rfl) (by kernel_rfl) (by kernel_rfl) (fun _ _ _ h => h) rfl (by rfl) (fun w _ => by kernel_rfl) hH ?_
            simp only [Act.put, List.setIfInBounds_toArray, List.set_cons_zero, List.set_cons_succ]
            refine take_to 2 73 (.int .i64 I) rfl (by kernel_rfl) (by kernel_rfl) (by kernel_rfl) (fun _ _ _ h => h) rfl (by rfl) (fun w hw => op_load _ _ 3 (.tmp 72) rfl (.pointer (some ⟨g, 1, none⟩)) _ rfl (run_load3 w g 1 _ ((World.cell?_of_block hw.1).trans c1'))) hH ?_
            simp only [Act.put, List.setIfInBounds_toArray, List.set_cons_zero, List.set_cons_succ]
            refine take_to 3 74 (.slice (some ⟨q, 0, none⟩) 128 128) rfl (by kernel_rfl) (by kernel_rfl) (by kernel_rfl) (fun _ _ _ h => h) rfl (by rfl) (fun w _ => by rfl) hH ?_
            simp only [Act.put, List.setIfInBounds_toArray, List.set_cons_zero, List.set_cons_succ]
            refine take_to 5 76 (.pointer (some ⟨r, 0, none⟩)) rfl (by kernel_rfl) (by kernel_rfl) (by kernel_rfl) (fun _ _ _ h => h) rfl (by rfl) (fun w _ => by rfl) hH ?_
            simp only [Act.put, List.setIfInBounds_toArray, List.set_cons_zero, List.set_cons_succ]
            refine take_to 6 77 (.pointer (some ⟨g, 1, none⟩)) rfl (by kernel_rfl) (by kernel_rfl) (by kernel_rfl) (fun _ _ _ h => h) rfl (by rfl) (fun w _ => by kernel_rfl) hH ?_
            simp only [Act.put, List.setIfInBounds_toArray, List.set_cons_zero, List.set_cons_succ]
            refine take_to 7 78 (.int .i64 I) rfl (by kernel_rfl) (by kernel_rfl) (by kernel_rfl) (fun _ _ _ h => h) rfl (by rfl) (fun w hw => op_load _ _ 3 (.tmp 77) rfl (.pointer (some ⟨g, 1, none⟩)) _ rfl (run_load3 w g 1 _ ((World.cell?_of_block hw.1).trans c1'))) hH ?_
            simp only [Act.put, List.setIfInBounds_toArray, List.set_cons_zero, List.set_cons_succ]
            refine take_to 8 79 (.slice (some ⟨q, 0, none⟩) 128 128) rfl (by kernel_rfl) (by kernel_rfl) (by kernel_rfl) (fun _ _ _ h => h) rfl (by rfl) (fun w _ => by rfl) hH ?_
            simp only [Act.put, List.setIfInBounds_toArray, List.set_cons_zero, List.set_cons_succ]
            refine take_to 9 80 (.string (strOf (sec A B))) rfl (by kernel_rfl) (by kernel_rfl) (by kernel_rfl) (fun _ _ _ h => h) rfl (by rfl) (fun w hw => op_conv _ _ 34 9 (.tmp 79) rfl _ _ rfl ((fun w hx => run_str w q 128 (sec A B) (length_sec _ _) hx) w (hw.2.trans hq2))) hH ?_
            simp only [Act.put, List.setIfInBounds_toArray, List.set_cons_zero, List.set_cons_succ]
            have hDd := hD2.below ((Below.refl _ x2).drew)
            have hRd := hR2.below ((Below.refl _ x2).drew)
            refine step_call3_to 4 75 11 rfl (by kernel_rfl) rfl (by rfl) (.tmp 71) (.tmp 73) (.tmp 74) _ rfl _ _ _ rfl rfl rfl Try.enters11 (write_sec p I q 128 A B 5 (0, 0) x2.drew fp D hDd hfew hq2 hqp) ?_
            rintro e x3 ⟨rfl, f1, hD3, hO3, hF3⟩
            have hS3 : x3.heap[g]? = x2.heap[g]? ∧ x3.heap[q]? = x2.heap[q]? := ⟨hO3.block g hgx hgp, hO3.block q hqx hqp⟩
            refine ⟨_, rfl, hS3, ?_⟩
            simp only [Act.put, List.setIfInBounds_toArray, List.set_cons_zero, List.set_cons_succ]
            have hR3 := hRd.apart hO3 HDR.out
            refine step_call3_to 10 81 12 rfl (by kernel_rfl) rfl (by rfl) (.tmp 76) (.tmp 78) (.tmp 80) _ rfl _ _ _ rfl rfl rfl Try.enters12 (rwrite_dev r I (sec A B) x3 fr D.norm hR3 hfm hfew') ?_
            rw [norm_write]
            rintro e x4 ⟨rfl, f2, hR4, hO4, hF4⟩
            have hS4 : x4.heap[g]? = x2.heap[g]? ∧ x4.heap[q]? = x2.heap[q]? := ⟨(hO4.block g (Nat.lt_of_lt_of_le hgx hO3.size) hgr).trans hS3.1, (hO4.block q (Nat.lt_of_lt_of_le hqx hO3.size) hqr).trans hS3.2⟩
            refine ⟨_, rfl, hS4, ?_⟩
            simp only [Act.put, List.setIfInBounds_toArray, List.set_cons_zero, List.set_cons_succ]
            refine step_to 11 82 (.bool true) x4 rfl (by kernel_rfl) rfl (by rfl) (op_eql3 _ _ (.tmp 75) (.tmp 81) 3 rfl _ _ rfl rfl _ (by simp)) hS4 ?_
            simp only [Act.put, List.setIfInBounds_toArray, List.set_cons_zero, List.set_cons_succ]
            refine step_to 12 11 (.bool true) x4 rfl (by kernel_rfl) rfl (by rfl) rfl hS4 ?_
            simp only [Act.put, List.setIfInBounds_toArray, List.set_cons_zero, List.set_cons_succ]
            refine wpAnyH_done (by kernel_rfl) ?_ _
            have hf1n : ∀ j ∈ f1, j ∉ fr := fun j hj hm => by
              rcases hF3 j hj with h | h
              · exact HDIS.out j h hm
              · have := hRd.lim j hm; omega
            have hD4 := hD3.apart hO4 hf1n
            have HDI : Hid (∀ j ∈ f1, j ∉ f2) := fun j hj hm => by
              rcases hF4 j hm with h | h
              · exact hf1n j hj h
              · have := fp_lt hD3 j hj; omega
            have hB4a : Below w.heap.size w x3 := hBx2.trans ((((Off.refl fp x2).drew).trans hO3 (fun j hj => .inl hj)).below hBx2.size HF.out)
            have hB4 : Below w.heap.size w x4 := hB4a.trans (hO4.below hB4a.size HFR.out)
            have HF1 : Hid (∀ j ∈ f1, w.heap.size ≤ j) := fun j hj => by
              rcases hF3 j hj with h | h
              · exact HF.out j h
              · exact Nat.le_trans hBx2.size h
            have HF2 : Hid (∀ j ∈ f2, w.heap.size ≤ j) := fun j hj => by
              rcases hF4 j hj with h | h
              · exact HFR.out j h
              · exact Nat.le_trans hB4a.size h
            have hs := same_write D I (sec A B)
            have HSL : Hid ((D.write I (sec A B)).2.L.length = n) := by show _ = _; rw [hs.len]; exact HN.out
            have hsf2 : (D.write I (sec A B)).2.W.length ≤ k + 1 := by have := hs.few; omega
            have HQ4 : Hid (∃ cs : Array Value, x4.heap[q]? = some (.cells cs 5 (0, 0)) ∧ cs.size = 128) := ⟨_, hS4.2.trans hq2, by rw [List.size_toArray, length_secCells, length_sec]⟩
            have HQ1 : Hid (∀ j ∈ f1, j ∉ [q]) := fun j hj hm => by
              obtain rfl : j = q := by simpa using hm
              rcases hF3 j hj with h | h
              · exact hqp h
              · have : x2.drew.heap.size = x2.heap.size := rfl
                omega
            have HQ2 : Hid (∀ j ∈ f2, j ∉ [q]) := fun j hj hm => by
              obtain rfl : j = q := by simpa using hm
              rcases hF4 j hj with h | h
              · exact hqr h
              · have := hO3.size
                have : x2.drew.heap.size = x2.heap.size := rfl
                omega
            clear hs hf1n hF3 hF4 hO3 hO4 hS3 hS4 hD3 hR3 hD2 hR2 hDd hRd hH hBx2 hB4a c1' hq2
            generalize (D.write I (sec A B)).2 = D2 at *
            go_wp2_with fail
            go_loopw [13] (fun t wx => ∃ j : Nat, j ≤ 128 ∧ t = .int .i64 j ∧ (∃ cs : Array Value, wx.heap[q]? = some (.cells cs 5 (0, 0)) ∧ cs.size = 128) ∧ DevAt wx p f1 D2 ∧ RefAt wx r f2 (D2).norm ∧ Below w.heap.size w wx) (fun t _ => 128 - (intOf t).toNat)
            case atStart => exact ⟨0, Nat.zero_le _, rfl, HQ4.out, hD4, hR4, hB4⟩
            case round =>
              clear hD4 hR4 hB4 HQ4
              obtain ⟨j, hj, rfl, ⟨cs, hq, hcs⟩, hD5, hR5, hB5⟩ := hrel
              by_cases hjl : j < 128
              · have hcj : cs[j]? = some (cs[j]'(by omega)) := Array.getElem?_eq_getElem (by omega)
                have kj : wr.cell? ⟨q, j, none⟩ = some (cs[j]'(by omega)) := (cell_of_row _ _ _ _ _ _ hq).trans hcj
                generalize cs[j]'(by omega) = vj at kj
                have fj : wr.frozen? ⟨q, j, none⟩ = false := frozen_of_row _ _ _ _ _ hq
                have hset : ∀ v : Value, ∃ cs : Array Value, (wr.setCell ⟨q, j, none⟩ v).heap[q]? = some (.cells cs 5 (0, 0)) ∧ cs.size = 128 := fun v => ⟨_, heap_setCell_same _ _ _ _ _ _ hq, by simpa using hcs⟩
                have hDs : ∀ v : Value, DevAt (wr.setCell ⟨q, j, none⟩ v) p f1 D2 := fun v => hD5.apart ((Off.refl [q] wr).setCell _ _ (.inl (by simp))) HQ1.out
                have hRs : ∀ v : Value, RefAt (wr.setCell ⟨q, j, none⟩ v) r f2 (D2).norm := fun v => hR5.apart ((Off.refl [q] wr).setCell _ _ (.inl (by simp))) HQ2.out
                have hBs : ∀ v : Value, Below w.heap.size w (wr.setCell ⟨q, j, none⟩ v) := fun v => hB5.setCell hqw v
                have Y1 := hide hset
                have Y2 := hide hDs
                have Y3 := hide hRs
                have Y4 := hide hBs
                clear hset hDs hRs hBs hcj hq hcs hD5 hR5 hB5
                go_wp2_with fail
                go_roundw
                case rel => exact ⟨j + 1, by omega, by go_num, Y1.out _, Y2.out _, Y3.out _, Y4.out _⟩
                case measure => simp [intOf]; omega
              · go_wp2_with fail
                go_meet
                case rel => exact ⟨p, r, f1, f2, _, rfl, rfl, by simp, hD5, hR5, HDI.out, hB5, HF1.out, HF2.out, HSL.out, hsf2⟩
        have n0 : (kind == 0) = false := beq_eq_false_iff_ne.2 e0
        by_cases e1 : kind = 1
        · as_aux_lemma =>
            subst e1
            have hwf := dev_wf hDx
            have hfm := norm_max D hwf
            have hpos : 1 ≤ D.norm.L.length := hwf.pos
            have hmax : D.norm.L.length ≤ 8192 := hwf.max
            have hent : ∀ x ∈ D.norm.W, x.1 < D.norm.L.length := fun x hx => (hwf.ent x hx).1
            have hfew : D.W.length < 1000000 := by omega
            have hfew' : D.norm.W.length < 1000000 := hfew
            have HE := hide hent
            have HDR : Hid (∀ j ∈ fr, j ∉ fp) := fun j hj hm => HDIS.out j hm hj
            clear hent
            go_wp2_with fail
            refine (read_dev p I x1 fp D hDx hfew).mono ?_
            rintro e x2 ⟨v, rfl, hT, hD2, hO2⟩
            have hR2 := hRx.apart hO2 HDR.out
            have hB3 : Below w.heap.size w x2 := hB2.trans (hO2.below hB2.size HF.out)
            have c1' : x2.cell? ⟨g, 1, none⟩ = some (.int .i64 I) := (World.cell?_of_block (hO2.block g (Array.getElem?_eq_some_iff.1 hG).1 hgp)).trans c1
            have hs := same_read D I
            have HSL : Hid ((D.read I).2.2.L.length = n) := by show _ = _; rw [hs.len]; exact HN.out
            have hsf2 : (D.read I).2.2.W.length ≤ k + 1 := by have := hs.few; omega
            have hrr := rread_dev r I x2 fr D.norm hR2 hfew'
            rw [norm_read] at hrr
            dsimp only at hrr
            have HRR := hide hrr
            have hfl : ∀ j ∈ fp, j < x1.heap.size := fun j hj => fp_lt hDx j hj
            have hrl : ∀ j ∈ fr, j < x1.heap.size := fun j hj => hRx.lim j hj
            have HFL := hide hfl
            have HRL := hide hrl
            have hqw1 : w.heap.size ≤ x1.heap.size := hB2.size
            clear hrr hs hDx hRx hB2 hR2 hfl hrl c0 c1 c2 c3 c4 c5
            generalize (D.read I).2.2 = D2 at *
            generalize (D.read I).2.1 = cd at *
            generalize (D.read I).1 = said at *
            cases said with
            | none =>
              have hT : v = .slice none 0 0 := hT
              subst hT
              go_wp2_with fail
              refine HRR.out.mono ?_
              rintro e x3 ⟨rfl, hR3, hO3⟩
              have hD3 := hD2.apart hO3 HDIS.out
              have hB4 : Below w.heap.size w x3 := hB3.trans (hO3.below hB3.size HFR.out)
              have hst := run_strnil x3
              clear HRR hD2 hO2 hO3 hB3
              have hsn : saidOf none = [] := rfl
              rw [hsn]
              go_wp2_with fail
              go_loop [18] (fun t => t = .int .i64 0) (fun _ => 0)
              case atStart => rfl
              case round =>
                subst hrel
                go_wp2_with fail
                go_meet
                case rel => exact ⟨p, r, fp, fr, _, rfl, rfl, rfl, hD3, hR3, HDIS.out, hB4, HF.out, HFR.out, HSL.out, hsf2⟩
            | some bs =>
              obtain ⟨q, rfl, hge, hlb, hq⟩ := hT
              go_wp2_with fail
              refine HRR.out.mono ?_
              rintro e x3 ⟨rfl, hR4, hO3⟩
              have hD4 := hD2.apart hO3 HDIS.out
              have hB4 : Below w.heap.size w x3 := hB3.trans (hO3.below hB3.size HFR.out)
              have hqx : q < x2.heap.size := (Array.getElem?_eq_some_iff.1 hq).1
              have hq3 : x3.heap[q]? = some (.cells (secCells bs).toArray 5 (0, 0)) := (hO3.block q hqx (fun hm => by have := HRL.out q hm; omega)).trans hq
              have hst := run_str x3 q 128 bs hlb hq3
              have HQ4 : Hid (∃ cs : Array Value, x3.heap[q]? = some (.cells cs 5 (0, 0)) ∧ cs.size = 128) := ⟨_, hq3, by rw [List.size_toArray, length_secCells, hlb]⟩
              have HQ1 : Hid (∀ j ∈ fp, j ∉ [q]) := fun j hj hm => by
                obtain rfl : j = q := by simpa using hm
                have := HFL.out j hj
                omega
              have HQ2 : Hid (∀ j ∈ fr, j ∉ [q]) := fun j hj hm => by
                obtain rfl : j = q := by simpa using hm
                have := HRL.out j hj
                omega
              have hqw : w.heap.size ≤ q := Nat.le_trans hqw1 hge
              have hsn : saidOf (some bs) = bs := rfl
              rw [hsn]
              clear HRR hD2 hO2 hO3 hB3 hq hq3 hqx hge hqw1
              have HDI := HDIS
              have HF1 := HF
              have HF2 := HFR
              go_wp2_with fail
              go_loopw [18] (fun t wx => ∃ j : Nat, j ≤ 128 ∧ t = .int .i64 j ∧ (∃ cs : Array Value, wx.heap[q]? = some (.cells cs 5 (0, 0)) ∧ cs.size = 128) ∧ DevAt wx p fp D2 ∧ RefAt wx r fr (D2).norm ∧ Below w.heap.size w wx) (fun t _ => 128 - (intOf t).toNat)
              case atStart => exact ⟨0, Nat.zero_le _, rfl, HQ4.out, hD4, hR4, hB4⟩
              case round =>
                clear hD4 hR4 hB4 HQ4 hst
                obtain ⟨j, hj, rfl, ⟨cs, hq, hcs⟩, hD5, hR5, hB5⟩ := hrel
                by_cases hjl : j < 128
                · have hcj : cs[j]? = some (cs[j]'(by omega)) := Array.getElem?_eq_getElem (by omega)
                  have kj : wr.cell? ⟨q, j, none⟩ = some (cs[j]'(by omega)) := (cell_of_row _ _ _ _ _ _ hq).trans hcj
                  generalize cs[j]'(by omega) = vj at kj
                  have fj : wr.frozen? ⟨q, j, none⟩ = false := frozen_of_row _ _ _ _ _ hq
                  have hset : ∀ v : Value, ∃ cs : Array Value, (wr.setCell ⟨q, j, none⟩ v).heap[q]? = some (.cells cs 5 (0, 0)) ∧ cs.size = 128 := fun v => ⟨_, heap_setCell_same _ _ _ _ _ _ hq, by simpa using hcs⟩
                  have hDs : ∀ v : Value, DevAt (wr.setCell ⟨q, j, none⟩ v) p fp D2 := fun v => hD5.apart ((Off.refl [q] wr).setCell _ _ (.inl (by simp))) HQ1.out
                  have hRs : ∀ v : Value, RefAt (wr.setCell ⟨q, j, none⟩ v) r fr (D2).norm := fun v => hR5.apart ((Off.refl [q] wr).setCell _ _ (.inl (by simp))) HQ2.out
                  have hBs : ∀ v : Value, Below w.heap.size w (wr.setCell ⟨q, j, none⟩ v) := fun v => hB5.setCell hqw v
                  have Y1 := hide hset
                  have Y2 := hide hDs
                  have Y3 := hide hRs
                  have Y4 := hide hBs
                  clear hset hDs hRs hBs hcj hq hcs hD5 hR5 hB5
                  go_wp2_with fail
                  go_roundw
                  case rel => exact ⟨j + 1, by omega, by go_num, Y1.out _, Y2.out _, Y3.out _, Y4.out _⟩
                  case measure => simp [intOf]; omega
                · go_wp2_with fail
                  go_meet
                  case rel => exact ⟨p, r, fp, fr, _, rfl, rfl, by simp, hD5, hR5, HDI.out, hB5, HF1.out, HF2.out, HSL.out, hsf2⟩
        have n1 : (kind == 1) = false := beq_eq_false_iff_ne.2 e1
        by_cases e2 : kind = 2
        · as_aux_lemma =>
            subst e2
            have hwf := dev_wf hDx
            have hfm := norm_max D hwf
            have hpos : 1 ≤ D.norm.L.length := hwf.pos
            have hmax : D.norm.L.length ≤ 8192 := hwf.max
            have hent : ∀ x ∈ D.norm.W, x.1 < D.norm.L.length := fun x hx => (hwf.ent x hx).1
            have hfew : D.W.length < 1000000 := by omega
            have hfew' : D.norm.W.length < 1000000 := hfew
            have HE := hide hent
            have HDR : Hid (∀ j ∈ fr, j ∉ fp) := fun j hj hm => HDIS.out j hm hj
            clear hent
            go_wp2_with fail
            refine (sync_dev p x1 fp D hDx hfew).mono ?_
            rintro e x2 ⟨rfl, hD2, hO2⟩
            have hR2 := hRx.apart hO2 HDR.out
            have hB3 : Below w.heap.size w x2 := hB2.trans (hO2.below hB2.size HF.out)
            go_wp2_with fail
            refine (rsync_dev r x2 fr D.norm hR2 hfm hpos HE.out hfew').mono ?_
            rw [norm_sync]
            rintro e x3 ⟨rfl, hR3, hO3⟩
            have hD3 := hD2.apart hO3 HDIS.out
            have hB4 : Below w.heap.size w x3 := hB3.trans (hO3.below hB3.size HFR.out)
            have hs := same_sync D
            have hsl := hs.len
            have hsf := hs.few
            have HSL : Hid (D.sync.2.L.length = n) := by show _ = _; rw [hsl]; exact HN.out
            have hsf2 : D.sync.2.W.length ≤ k + 1 := by omega
            clear hs hsl hsf hD2 hR2 hO2 hO3 hDx hRx hB2 hB3
            generalize D.sync.2 = D2 at *
            generalize D.sync.1 = cd
            go_wp2_with fail
            go_meet
            case rel => exact ⟨p, r, fp, fr, D2, rfl, rfl, by simp, hD3, hR3, HDIS.out, hB4, HF.out, HFR.out, HSL.out, hsf2⟩
        have n2 : (kind == 2) = false := beq_eq_false_iff_ne.2 e2
        by_cases e3 : kind = 3
        · as_aux_lemma =>
            subst e3
            have hwf := dev_wf hDx
            have hfm := norm_max D hwf
            have hpos : 1 ≤ D.norm.L.length := hwf.pos
            have hmax : D.norm.L.length ≤ 8192 := hwf.max
            have hent : ∀ x ∈ D.norm.W, x.1 < D.norm.L.length := fun x hx => (hwf.ent x hx).1
            have hfew : D.W.length < 1000000 := by omega
            have hfew' : D.norm.W.length < 1000000 := hfew
            have HE := hide hent
            have HDR : Hid (∀ j ∈ fr, j ∉ fp) := fun j hj hm => HDIS.out j hm hj
            clear hent
            obtain ⟨zs, hzl, hzz⟩ : ∃ zs : List Bool, zs.length = kn ∧ ∀ j, j < kn → zs.getD j false = ks.getD j false := by
              refine ⟨ks.take kn, ?_, fun j hj => ?_⟩
              · rcases HOP.out.keep with ⟨_, h, _, h2⟩ | ⟨x, _, h1, _, h3, _⟩
                · rw [h2, h]; rfl
                · rw [List.length_take, h3]; omega
              · simp [List.getD_eq_getElem?_getD, List.getElem?_take, hj]
            have hkk : ∀ (W : World) (fz : List Nat), Below w.heap.size w W → (∀ j ∈ fz, w.heap.size ≤ j) → KeepAt W fz ka zs := fun W fz hBW hfz j hj => by
              obtain ⟨kb, ko, hab, hbs2, hcell⟩ := bools_at HOP.out.keep j (by omega)
              refine ⟨kb, ko, hab, fun hm => by have := hfz kb hm; omega, Nat.lt_of_lt_of_le hbs2 hBW.size, ?_⟩
              rw [hzz j (by omega)]
              exact (hBW.cell (p := ⟨kb, ko + j, none⟩) hbs2).trans hcell
            have hkm : kn ≤ 9223372036854775807 := by
              rcases HOP.out.keep with ⟨_, h, _, _⟩ | ⟨x, _, h1, h2, _⟩
              · omega
              · simp only [maxLen] at h2; omega
            have hcr := crash_ok p ka kc zs x1 fp D hDx hfew (by omega) (hkk x1 fp hB2 HF.out)
            rw [hzl] at hcr
            have HC := hide hcr
            have HKK := hide hkk
            have HZL := hide hzl
            clear hcr hkk hzz hzl
            go_wp2_with fail
            refine HC.out.mono ?_
            rintro e x2 ⟨rfl, hD2, hO2⟩
            have hR2 := hRx.apart hO2 HDR.out
            have hB3 : Below w.heap.size w x2 := hB2.trans (hO2.below hB2.size HF.out)
            have c5' : x2.cell? ⟨g, 5, none⟩ = some (.slice ka kn kc) := (World.cell?_of_block (hO2.block g (Array.getElem?_eq_some_iff.1 hG).1 hgp)).trans c5
            have hcr2 := rcrash_dev r ka kc zs x2 fr D.norm hR2 hpos HE.out hfew' (by rw [HZL.out]; exact hkm) (HKK.out x2 fr hB3 HFR.out)
            rw [HZL.out, norm_crash] at hcr2
            have HC2 := hide hcr2
            clear hcr2
            go_wp2_with fail
            refine HC2.out.mono ?_
            rintro e x3 ⟨rfl, hR3, hO3⟩
            have hD3 := hD2.apart hO3 HDIS.out
            have hB4 : Below w.heap.size w x3 := hB3.trans (hO3.below hB3.size HFR.out)
            have hs := same_crash D zs
            have HSL : Hid ((D.crashed zs).L.length = n) := by show _ = _; rw [hs.len]; exact HN.out
            have hsf2 : (D.crashed zs).W.length ≤ k + 1 := by have := hs.few; omega
            clear hs HC HC2 hD2 hR2 hO2 hO3 hDx hRx hB2 hB3
            generalize D.crashed zs = D2 at *
            go_wp2_with fail
            go_meet
            case rel => exact ⟨p, r, fp, fr, D2, rfl, rfl, rfl, hD3, hR3, HDIS.out, hB4, HF.out, HFR.out, HSL.out, hsf2⟩
        have n3 : (kind == 3) = false := beq_eq_false_iff_ne.2 e3
        by_cases e4 : kind = 4
        · as_aux_lemma =>
            subst e4
            have hwf := dev_wf hDx
            have hfm := norm_max D hwf
            have hpos : 1 ≤ D.norm.L.length := hwf.pos
            have hmax : D.norm.L.length ≤ 8192 := hwf.max
            have hent : ∀ x ∈ D.norm.W, x.1 < D.norm.L.length := fun x hx => (hwf.ent x hx).1
            have hfew : D.W.length < 1000000 := by omega
            have hfew' : D.norm.W.length < 1000000 := hfew
            have HE := hide hent
            have HDR : Hid (∀ j ∈ fr, j ∉ fp) := fun j hj hm => HDIS.out j hm hj
            clear hent
            go_wp2_with fail
            refine (fuse_dev p A x1 fp D hDx HOP.out.lo HOP.out.hi).mono ?_
            rintro e x2 ⟨rfl, hD2, hO2⟩
            have hR2 := hRx.apart hO2 HDR.out
            have hB3 : Below w.heap.size w x2 := hB2.trans (hO2.below hB2.size HF.out)
            have c2' : x2.cell? ⟨g, 2, none⟩ = some (.int .i64 A) := (World.cell?_of_block (hO2.block g (Array.getElem?_eq_some_iff.1 hG).1 hgp)).trans c2
            obtain ⟨lv, cv, hRi⟩ := id hR2
            have k2 := hRi.c2
            have f2 := hRi.fz 2
            have hR3 : RefAt (x2.setCell ⟨r, 2, none⟩ (.int .i64 (max A (-1)))) r fr ({ D with fuse := A } : Dv).norm := ⟨_, _, hRi.heads 2 (.int .i64 (max A (-1))) ({ D with fuse := A } : Dv).norm rfl rfl rfl⟩
            have hO3 : Off fr x2 (x2.setCell ⟨r, 2, none⟩ (.int .i64 (max A (-1)))) := (Off.refl fr x2).setCell _ _ (.inl hRi.inP)
            have hD3 := hD2.apart hO3 HDIS.out
            have hB4 : Below w.heap.size w (x2.setCell ⟨r, 2, none⟩ (.int .i64 (max A (-1)))) := hB3.trans (hO3.below hB3.size HFR.out)
            have hsf2 : D.W.length ≤ k + 1 := by omega
            by_cases hA : -1 ≤ A
            · rw [show max A (-1) = A by omega] at hR3 hD3 hB4
              have Z1 := hide hR3
              have Z2 := hide hD3
              have Z3 := hide hB4
              clear hR3 hD3 hB4 hO3 hD2 hR2 hRi hDx hRx hB2 hB3 hO2
              go_wp2_with fail
              go_meet
              case rel => exact ⟨p, r, fp, fr, _, rfl, rfl, rfl, Z2.out, Z1.out, HDIS.out, Z3.out, HF.out, HFR.out, HN.out, hsf2⟩
            · rw [show max A (-1) = -1 by omega] at hR3 hD3 hB4
              have Z1 := hide hR3
              have Z2 := hide hD3
              have Z3 := hide hB4
              have hA' : A < -1 := by omega
              clear hR3 hD3 hB4 hO3 hD2 hR2 hRi hDx hRx hB2 hB3 hO2 hA
              go_wp2_with fail
              go_meet
              case rel => exact ⟨p, r, fp, fr, _, rfl, rfl, rfl, Z2.out, Z1.out, HDIS.out, Z3.out, HF.out, HFR.out, HN.out, hsf2⟩
        have n4 : (kind == 4) = false := beq_eq_false_iff_ne.2 e4
        by_cases e5 : kind = 5
        · as_aux_lemma =>
            subst e5
            have hwf := dev_wf hDx
            have hfm := norm_max D hwf
            have hpos : 1 ≤ D.norm.L.length := hwf.pos
            have hmax : D.norm.L.length ≤ 8192 := hwf.max
            have hent : ∀ x ∈ D.norm.W, x.1 < D.norm.L.length := fun x hx => (hwf.ent x hx).1
            have hfew : D.W.length < 1000000 := by omega
            have hfew' : D.norm.W.length < 1000000 := hfew
            have HE := hide hent
            have HDR : Hid (∀ j ∈ fr, j ∉ fp) := fun j hj hm => HDIS.out j hm hj
            clear hent
            go_wp2_with fail
            refine (copy_dev p x1 fp D hDx hfew).mono ?_
            rintro e x2 ⟨p2, f1, rfl, hD2, hf1, hBb⟩
            have hR2 := hRx.below hBb
            have hB3 : Below w.heap.size w x2 := hB2.trans (hBb.mono hB2.size)
            go_wp2_with fail
            refine (rcopy_dev r x2 fr D.norm hR2 hpos hmax hfew').mono ?_
            rintro e x3 ⟨r2, f2, rfl, hR3, hf2, hBc⟩
            have hD3 := hD2.below hBc
            have hB4 : Below w.heap.size w x3 := hB3.trans (hBc.mono hB3.size)
            have q1 : ∀ j ∈ f1, j ∉ f2 := fun j hj hm => by have := fp_lt hD2 j hj; have := hf2 j hm; omega
            have q2 : ∀ j ∈ f1, w.heap.size ≤ j := fun j hj => Nat.le_trans hB2.size (hf1 j hj)
            have q3 : ∀ j ∈ f2, w.heap.size ≤ j := fun j hj => Nat.le_trans hB3.size (hf2 j hj)
            have Q1 := hide q1
            have Q2 := hide q2
            have Q3 := hide q3
            have hsf2 : D.W.length ≤ k + 1 := by omega
            clear q1 q2 q3 hf1 hf2 hD2 hR2 hBb hBc hDx hRx hB2 hB3
            go_wp2_with fail
            go_meet
            case rel => exact ⟨p2, r2, f1, f2, D, rfl, rfl, rfl, hD3, hR3, Q1.out, hB4, Q2.out, Q3.out, HN.out, hsf2⟩
        have n5 : (kind == 5) = false := beq_eq_false_iff_ne.2 e5
        by_cases e6 : kind = 6
        · as_aux_lemma =>
            subst e6
            have hwf := dev_wf hDx
            have hfm := norm_max D hwf
            have hpos : 1 ≤ D.norm.L.length := hwf.pos
            have hmax : D.norm.L.length ≤ 8192 := hwf.max
            have hent : ∀ x ∈ D.norm.W, x.1 < D.norm.L.length := fun x hx => (hwf.ent x hx).1
            have hfew : D.W.length < 1000000 := by omega
            have hfew' : D.norm.W.length < 1000000 := hfew
            have HE := hide hent
            have HDR : Hid (∀ j ∈ fr, j ∉ fp) := fun j hj hm => HDIS.out j hm hj
            clear hent
            by_cases hS : 0 < S
            · obtain ⟨m, hm⟩ : ∃ m : Nat, S % 300 = (m : Int) := ⟨(S % 300).toNat, by omega⟩
              have hmk := makeBytes m x1 (by omega)
              obtain ⟨x2, hx2⟩ : ∃ x2, x1.alloc (.cells (secCells (List.replicate m 0)).toArray 5) = x2 := ⟨_, rfl⟩
              have hq2 : x2.heap[x1.heap.size]? = some (.cells (secCells (List.replicate m 0)).toArray 5 (0, 0)) := by rw [← hx2]; exact heap_alloc_new _ _
              have hBs : Below x1.heap.size x1 x2 := by rw [← hx2]; exact (Below.refl _ _).alloc (Nat.le_refl _) _
              have hD2 := hDx.below hBs
              have hR2 := hRx.below hBs
              have hBx2 : Below w.heap.size w x2 := hB2.trans (hBs.mono hB2.size)
              have hg1 : g < x1.heap.size := (Array.getElem?_eq_some_iff.1 hG).1
              have hgx : g < x2.heap.size := Nat.lt_of_lt_of_le hg1 hBs.size
              have c1' : x2.cell? ⟨g, 1, none⟩ = some (.int .i64 I) := (hBs.cell (p := ⟨g, 1, none⟩) hg1).trans c1
              have hqx : x1.heap.size < x2.heap.size := (Array.getElem?_eq_some_iff.1 hq2).1
              have hqp : x1.heap.size ∉ fp := notin_fp hDx
              have hqr : x1.heap.size ∉ fr := fun hm => by have := hRx.lim _ hm; omega
              have hwr : ∀ W : World, W.heap[x1.heap.size]? = some (.cells (secCells (List.replicate m 0)).toArray 5 (0, 0)) → DevAt W p fp D → Calls Try.prog 11 #[.pointer (some ⟨p, 0, none⟩), .int .i64 I, .slice (some ⟨x1.heap.size, 0, none⟩) m m] W fun e w' => e = .returned (.int .i64 (D.write I (List.replicate m 0)).1) ∧ ∃ fp', DevAt w' p fp' (D.write I (List.replicate m 0)).2 ∧ Off fp W w' ∧ ∀ k ∈ fp', k ∈ fp ∨ W.heap.size ≤ k := fun W hq hd => by
                have := write_dev p I x1.heap.size m (List.replicate m 0) 5 (0, 0) W fp D hd hfew hq hqp
                rw [List.length_replicate] at this
                exact this
              have hst : ∀ W : World, W.heap[x1.heap.size]? = some (.cells (secCells (List.replicate m 0)).toArray 5 (0, 0)) → (convert 34 9 (.slice (some ⟨x1.heap.size, 0, none⟩) m m)).run Try.prog W = .ok (.string (strOf (List.replicate m 0))) W := fun W hq => by
                have := run_strs W x1.heap.size m (List.replicate m 0) hq
                rw [List.length_replicate] at this
                exact this
              have HWR := hide hwr
              have HST := hide hst
              clear hBs hDx hRx hB2 c1 c2 c3 c5 hwr hst
              go_wp2_with fail
              clear hmk hx2 c0 c4
              generalize x1.heap.size = q at *
              refine wp_region_held_drew (S := fun w' => w'.heap[g]? = x2.heap[g]? ∧ w'.heap[q]? = x2.heap[q]?) (by kernel_rfl) ⟨rfl, rfl⟩ (fun hH => ?_)
              refine take_to 0 166 (.pointer (some ⟨p, 0, none⟩)) rfl (by kernel_rfl) (by kernel_rfl) (by kernel_rfl) (fun _ _ _ h => h) rfl (by rfl) (fun w _ => by rfl) hH ?_
              simp only [Act.put, List.setIfInBounds_toArray, List.set_cons_zero, List.set_cons_succ]
              refine take_to 1 167 (.pointer (some ⟨g, 1, none⟩)) rfl (by kernel_rfl) (by kernel_rfl) (by kernel_rfl) (fun _ _ _ h => h) rfl (by rfl) (fun w _ => by kernel_rfl) hH ?_
              simp only [Act.put, List.setIfInBounds_toArray, List.set_cons_zero, List.set_cons_succ]
              refine take_to 2 168 (.int .i64 I) rfl (by kernel_rfl) (by kernel_rfl) (by kernel_rfl) (fun _ _ _ h => h) rfl (by rfl) (fun w hw => op_load _ _ 3 (.tmp 167) rfl (.pointer (some ⟨g, 1, none⟩)) _ rfl (run_load3 w g 1 _ ((World.cell?_of_block hw.1).trans c1'))) hH ?_
              simp only [Act.put, List.setIfInBounds_toArray, List.set_cons_zero, List.set_cons_succ]
              refine take_to 3 169 (.slice (some ⟨q, 0, none⟩) m m) rfl (by kernel_rfl) (by kernel_rfl) (by kernel_rfl) (fun _ _ _ h => h) rfl (by rfl) (fun w _ => by rfl) hH ?_
              simp only [Act.put, List.setIfInBounds_toArray, List.set_cons_zero, List.set_cons_succ]
              refine take_to 5 171 (.pointer (some ⟨r, 0, none⟩)) rfl (by kernel_rfl) (by kernel_rfl) (by kernel_rfl) (fun _ _ _ h => h) rfl (by rfl) (fun w _ => by rfl) hH ?_
              simp only [Act.put, List.setIfInBounds_toArray, List.set_cons_zero, List.set_cons_succ]
              refine take_to 6 172 (.pointer (some ⟨g, 1, none⟩)) rfl (by kernel_rfl) (by kernel_rfl) (by kernel_rfl) (fun _ _ _ h => h) rfl (by rfl) (fun w _ => by kernel_rfl) hH ?_
              simp only [Act.put, List.setIfInBounds_toArray, List.set_cons_zero, List.set_cons_succ]
              refine take_to 7 173 (.int .i64 I) rfl (by kernel_rfl) (by kernel_rfl) (by kernel_rfl) (fun _ _ _ h => h) rfl (by rfl) (fun w hw => op_load _ _ 3 (.tmp 172) rfl (.pointer (some ⟨g, 1, none⟩)) _ rfl (run_load3 w g 1 _ ((World.cell?_of_block hw.1).trans c1'))) hH ?_
              simp only [Act.put, List.setIfInBounds_toArray, List.set_cons_zero, List.set_cons_succ]
              refine take_to 8 174 (.slice (some ⟨q, 0, none⟩) m m) rfl (by kernel_rfl) (by kernel_rfl) (by kernel_rfl) (fun _ _ _ h => h) rfl (by rfl) (fun w _ => by rfl) hH ?_
              simp only [Act.put, List.setIfInBounds_toArray, List.set_cons_zero, List.set_cons_succ]
              refine take_to 9 175 (.string (strOf (List.replicate m 0))) rfl (by kernel_rfl) (by kernel_rfl) (by kernel_rfl) (fun _ _ _ h => h) rfl (by rfl) (fun w hw => op_conv _ _ 34 9 (.tmp 174) rfl _ _ rfl (HST.out w (hw.2.trans hq2))) hH ?_
              simp only [Act.put, List.setIfInBounds_toArray, List.set_cons_zero, List.set_cons_succ]
              have hDd := hD2.below ((Below.refl _ x2).drew)
              have hRd := hR2.below ((Below.refl _ x2).drew)
              refine step_call3_to 4 170 11 rfl (by kernel_rfl) rfl (by rfl) (.tmp 166) (.tmp 168) (.tmp 169) _ rfl _ _ _ rfl rfl rfl Try.enters11 (HWR.out x2.drew hq2 hDd) ?_
              rintro e x3 ⟨rfl, f1, hD3, hO3, hF3⟩
              have hS3 : x3.heap[g]? = x2.heap[g]? ∧ x3.heap[q]? = x2.heap[q]? := ⟨hO3.block g hgx hgp, hO3.block q hqx hqp⟩
              refine ⟨_, rfl, hS3, ?_⟩
              simp only [Act.put, List.setIfInBounds_toArray, List.set_cons_zero, List.set_cons_succ]
              have hR3 := hRd.apart hO3 HDR.out
              refine step_call3_to 10 176 12 rfl (by kernel_rfl) rfl (by rfl) (.tmp 171) (.tmp 173) (.tmp 175) _ rfl _ _ _ rfl rfl rfl Try.enters12 (rwrite_dev r I (List.replicate m 0) x3 fr D.norm hR3 hfm hfew') ?_
              rw [norm_write]
              rintro e x4 ⟨rfl, f2, hR4, hO4, hF4⟩
              have hS4 : x4.heap[g]? = x2.heap[g]? ∧ x4.heap[q]? = x2.heap[q]? := ⟨(hO4.block g (Nat.lt_of_lt_of_le hgx hO3.size) hgr).trans hS3.1, (hO4.block q (Nat.lt_of_lt_of_le hqx hO3.size) hqr).trans hS3.2⟩
              refine ⟨_, rfl, hS4, ?_⟩
              simp only [Act.put, List.setIfInBounds_toArray, List.set_cons_zero, List.set_cons_succ]
              refine step_to 11 177 (.bool true) x4 rfl (by kernel_rfl) rfl (by rfl) (op_eql3 _ _ (.tmp 170) (.tmp 176) 3 rfl _ _ rfl rfl _ (by simp)) hS4 ?_
              simp only [Act.put, List.setIfInBounds_toArray, List.set_cons_zero, List.set_cons_succ]
              refine step_to 12 11 (.bool true) x4 rfl (by kernel_rfl) rfl (by rfl) rfl hS4 ?_
              simp only [Act.put, List.setIfInBounds_toArray, List.set_cons_zero, List.set_cons_succ]
              refine wpAnyH_done (by kernel_rfl) ?_ _
              have hf1n : ∀ j ∈ f1, j ∉ fr := fun j hj hm => by
                rcases hF3 j hj with h | h
                · exact HDIS.out j h hm
                · have := hRd.lim j hm; omega
              have hD4 := hD3.apart hO4 hf1n
              have HDI : Hid (∀ j ∈ f1, j ∉ f2) := fun j hj hm => by
                rcases hF4 j hm with h | h
                · exact hf1n j hj h
                · have := fp_lt hD3 j hj; omega
              have hB4a : Below w.heap.size w x3 := hBx2.trans ((((Off.refl fp x2).drew).trans hO3 (fun j hj => .inl hj)).below hBx2.size HF.out)
              have hB4 : Below w.heap.size w x4 := hB4a.trans (hO4.below hB4a.size HFR.out)
              have HF1 : Hid (∀ j ∈ f1, w.heap.size ≤ j) := fun j hj => by
                rcases hF3 j hj with h | h
                · exact HF.out j h
                · exact Nat.le_trans hBx2.size h
              have HF2 : Hid (∀ j ∈ f2, w.heap.size ≤ j) := fun j hj => by
                rcases hF4 j hj with h | h
                · exact HFR.out j h
                · exact Nat.le_trans hB4a.size h
              have hs := same_write D I (List.replicate m 0)
              have HSL : Hid ((D.write I (List.replicate m 0)).2.L.length = n) := by show _ = _; rw [hs.len]; exact HN.out
              have hsf2 : (D.write I (List.replicate m 0)).2.W.length ≤ k + 1 := by have := hs.few; omega
              clear hs hf1n hF3 hF4 hO3 hO4 hS3 hS4 hD3 hR3 hD2 hR2 hDd hRd hH hBx2 hB4a c1' hq2
              generalize (D.write I (List.replicate m 0)).2 = D2 at *
              go_wp2_with fail
              go_meet
              case rel => exact ⟨p, r, f1, f2, D2, rfl, rfl, rfl, hD4, hR4, HDI.out, hB4, HF1.out, HF2.out, HSL.out, hsf2⟩
            · have hmk : (Instr.makeSlice 34 (.int .i64 0) (.int .i64 0)).run Try.prog x1 = .ok (.slice (some ⟨x1.heap.size, 0, none⟩) 0 0) (x1.alloc (.cells (secCells []).toArray 5)) := makeBytes 0 x1 (by omega)
              have hS' : S ≤ 0 := by omega
              clear hS
              obtain ⟨x2, hx2⟩ : ∃ x2, x1.alloc (.cells (secCells []).toArray 5) = x2 := ⟨_, rfl⟩
              have hq2 : x2.heap[x1.heap.size]? = some (.cells (secCells []).toArray 5 (0, 0)) := by rw [← hx2]; exact heap_alloc_new _ _
              have hBs : Below x1.heap.size x1 x2 := by rw [← hx2]; exact (Below.refl _ _).alloc (Nat.le_refl _) _
              have hD2 := hDx.below hBs
              have hR2 := hRx.below hBs
              have hBx2 : Below w.heap.size w x2 := hB2.trans (hBs.mono hB2.size)
              have hg1 : g < x1.heap.size := (Array.getElem?_eq_some_iff.1 hG).1
              have hgx : g < x2.heap.size := Nat.lt_of_lt_of_le hg1 hBs.size
              have c1' : x2.cell? ⟨g, 1, none⟩ = some (.int .i64 I) := (hBs.cell (p := ⟨g, 1, none⟩) hg1).trans c1
              have hqx : x1.heap.size < x2.heap.size := (Array.getElem?_eq_some_iff.1 hq2).1
              have hqp : x1.heap.size ∉ fp := notin_fp hDx
              have hqr : x1.heap.size ∉ fr := fun hm => by have := hRx.lim _ hm; omega
              have hwr : ∀ W : World, W.heap[x1.heap.size]? = some (.cells (secCells []).toArray 5 (0, 0)) → DevAt W p fp D → Calls Try.prog 11 #[.pointer (some ⟨p, 0, none⟩), .int .i64 I, .slice (some ⟨x1.heap.size, 0, none⟩) 0 0] W fun e w' => e = .returned (.int .i64 (D.write I []).1) ∧ ∃ fp', DevAt w' p fp' (D.write I []).2 ∧ Off fp W w' ∧ ∀ k ∈ fp', k ∈ fp ∨ W.heap.size ≤ k := fun W hq hd => by
                have := write_dev p I x1.heap.size 0 [] 5 (0, 0) W fp D hd hfew hq hqp
                exact this
              have hst : ∀ W : World, W.heap[x1.heap.size]? = some (.cells (secCells []).toArray 5 (0, 0)) → (convert 34 9 (.slice (some ⟨x1.heap.size, 0, none⟩) 0 0)).run Try.prog W = .ok (.string (strOf [])) W := fun W hq => by
                have := run_strs W x1.heap.size 0 [] hq
                exact this
              have HWR := hide hwr
              have HST := hide hst
              clear hBs hDx hRx hB2 c1 c2 c3 c5 hwr hst
              go_wp2_with fail
              clear hmk hx2 c0 c4
              generalize x1.heap.size = q at *
              refine wp_region_held_drew (S := fun w' => w'.heap[g]? = x2.heap[g]? ∧ w'.heap[q]? = x2.heap[q]?) (by kernel_rfl) ⟨rfl, rfl⟩ (fun hH => ?_)
              refine take_to 0 166 (.pointer (some ⟨p, 0, none⟩)) rfl (by kernel_rfl) (by kernel_rfl) (by kernel_rfl) (fun _ _ _ h => h) rfl (by rfl) (fun w _ => by rfl) hH ?_
              simp only [Act.put, List.setIfInBounds_toArray, List.set_cons_zero, List.set_cons_succ]
              refine take_to 1 167 (.pointer (some ⟨g, 1, none⟩)) rfl (by kernel_rfl) (by kernel_rfl) (by kernel_rfl) (fun _ _ _ h => h) rfl (by rfl) (fun w _ => by kernel_rfl) hH ?_
              simp only [Act.put, List.setIfInBounds_toArray, List.set_cons_zero, List.set_cons_succ]
              refine take_to 2 168 (.int .i64 I) rfl (by kernel_rfl) (by kernel_rfl) (by kernel_rfl) (fun _ _ _ h => h) rfl (by rfl) (fun w hw => op_load _ _ 3 (.tmp 167) rfl (.pointer (some ⟨g, 1, none⟩)) _ rfl (run_load3 w g 1 _ ((World.cell?_of_block hw.1).trans c1'))) hH ?_
              simp only [Act.put, List.setIfInBounds_toArray, List.set_cons_zero, List.set_cons_succ]
              refine take_to 3 169 (.slice (some ⟨q, 0, none⟩) 0 0) rfl (by kernel_rfl) (by kernel_rfl) (by kernel_rfl) (fun _ _ _ h => h) rfl (by rfl) (fun w _ => by rfl) hH ?_
              simp only [Act.put, List.setIfInBounds_toArray, List.set_cons_zero, List.set_cons_succ]
              refine take_to 5 171 (.pointer (some ⟨r, 0, none⟩)) rfl (by kernel_rfl) (by kernel_rfl) (by kernel_rfl) (fun _ _ _ h => h) rfl (by rfl) (fun w _ => by rfl) hH ?_
              simp only [Act.put, List.setIfInBounds_toArray, List.set_cons_zero, List.set_cons_succ]
              refine take_to 6 172 (.pointer (some ⟨g, 1, none⟩)) rfl (by kernel_rfl) (by kernel_rfl) (by kernel_rfl) (fun _ _ _ h => h) rfl (by rfl) (fun w _ => by kernel_rfl) hH ?_
              simp only [Act.put, List.setIfInBounds_toArray, List.set_cons_zero, List.set_cons_succ]
              refine take_to 7 173 (.int .i64 I) rfl (by kernel_rfl) (by kernel_rfl) (by kernel_rfl) (fun _ _ _ h => h) rfl (by rfl) (fun w hw => op_load _ _ 3 (.tmp 172) rfl (.pointer (some ⟨g, 1, none⟩)) _ rfl (run_load3 w g 1 _ ((World.cell?_of_block hw.1).trans c1'))) hH ?_
              simp only [Act.put, List.setIfInBounds_toArray, List.set_cons_zero, List.set_cons_succ]
              refine take_to 8 174 (.slice (some ⟨q, 0, none⟩) 0 0) rfl (by kernel_rfl) (by kernel_rfl) (by kernel_rfl) (fun _ _ _ h => h) rfl (by rfl) (fun w _ => by rfl) hH ?_
              simp only [Act.put, List.setIfInBounds_toArray, List.set_cons_zero, List.set_cons_succ]
              refine take_to 9 175 (.string (strOf [])) rfl (by kernel_rfl) (by kernel_rfl) (by kernel_rfl) (fun _ _ _ h => h) rfl (by rfl) (fun w hw => op_conv _ _ 34 9 (.tmp 174) rfl _ _ rfl (HST.out w (hw.2.trans hq2))) hH ?_
              simp only [Act.put, List.setIfInBounds_toArray, List.set_cons_zero, List.set_cons_succ]
              have hDd := hD2.below ((Below.refl _ x2).drew)
              have hRd := hR2.below ((Below.refl _ x2).drew)
              refine step_call3_to 4 170 11 rfl (by kernel_rfl) rfl (by rfl) (.tmp 166) (.tmp 168) (.tmp 169) _ rfl _ _ _ rfl rfl rfl Try.enters11 (HWR.out x2.drew hq2 hDd) ?_
              rintro e x3 ⟨rfl, f1, hD3, hO3, hF3⟩
              have hS3 : x3.heap[g]? = x2.heap[g]? ∧ x3.heap[q]? = x2.heap[q]? := ⟨hO3.block g hgx hgp, hO3.block q hqx hqp⟩
              refine ⟨_, rfl, hS3, ?_⟩
              simp only [Act.put, List.setIfInBounds_toArray, List.set_cons_zero, List.set_cons_succ]
              have hR3 := hRd.apart hO3 HDR.out
              refine step_call3_to 10 176 12 rfl (by kernel_rfl) rfl (by rfl) (.tmp 171) (.tmp 173) (.tmp 175) _ rfl _ _ _ rfl rfl rfl Try.enters12 (rwrite_dev r I [] x3 fr D.norm hR3 hfm hfew') ?_
              rw [norm_write]
              rintro e x4 ⟨rfl, f2, hR4, hO4, hF4⟩
              have hS4 : x4.heap[g]? = x2.heap[g]? ∧ x4.heap[q]? = x2.heap[q]? := ⟨(hO4.block g (Nat.lt_of_lt_of_le hgx hO3.size) hgr).trans hS3.1, (hO4.block q (Nat.lt_of_lt_of_le hqx hO3.size) hqr).trans hS3.2⟩
              refine ⟨_, rfl, hS4, ?_⟩
              simp only [Act.put, List.setIfInBounds_toArray, List.set_cons_zero, List.set_cons_succ]
              refine step_to 11 177 (.bool true) x4 rfl (by kernel_rfl) rfl (by rfl) (op_eql3 _ _ (.tmp 170) (.tmp 176) 3 rfl _ _ rfl rfl _ (by simp)) hS4 ?_
              simp only [Act.put, List.setIfInBounds_toArray, List.set_cons_zero, List.set_cons_succ]
              refine step_to 12 11 (.bool true) x4 rfl (by kernel_rfl) rfl (by rfl) rfl hS4 ?_
              simp only [Act.put, List.setIfInBounds_toArray, List.set_cons_zero, List.set_cons_succ]
              refine wpAnyH_done (by kernel_rfl) ?_ _
              have hf1n : ∀ j ∈ f1, j ∉ fr := fun j hj hm => by
                rcases hF3 j hj with h | h
                · exact HDIS.out j h hm
                · have := hRd.lim j hm; omega
              have hD4 := hD3.apart hO4 hf1n
              have HDI : Hid (∀ j ∈ f1, j ∉ f2) := fun j hj hm => by
                rcases hF4 j hm with h | h
                · exact hf1n j hj h
                · have := fp_lt hD3 j hj; omega
              have hB4a : Below w.heap.size w x3 := hBx2.trans ((((Off.refl fp x2).drew).trans hO3 (fun j hj => .inl hj)).below hBx2.size HF.out)
              have hB4 : Below w.heap.size w x4 := hB4a.trans (hO4.below hB4a.size HFR.out)
              have HF1 : Hid (∀ j ∈ f1, w.heap.size ≤ j) := fun j hj => by
                rcases hF3 j hj with h | h
                · exact HF.out j h
                · exact Nat.le_trans hBx2.size h
              have HF2 : Hid (∀ j ∈ f2, w.heap.size ≤ j) := fun j hj => by
                rcases hF4 j hj with h | h
                · exact HFR.out j h
                · exact Nat.le_trans hB4a.size h
              have hs := same_write D I []
              have HSL : Hid ((D.write I []).2.L.length = n) := by show _ = _; rw [hs.len]; exact HN.out
              have hsf2 : (D.write I []).2.W.length ≤ k + 1 := by have := hs.few; omega
              clear hs hf1n hF3 hF4 hO3 hO4 hS3 hS4 hD3 hR3 hD2 hR2 hDd hRd hH hBx2 hB4a c1' hq2
              generalize (D.write I []).2 = D2 at *
              go_wp2_with fail
              go_meet
              case rel => exact ⟨p, r, f1, f2, D2, rfl, rfl, rfl, hD4, hR4, HDI.out, hB4, HF1.out, HF2.out, HSL.out, hsf2⟩
        have n6 : (kind == 6) = false := beq_eq_false_iff_ne.2 e6
        clear e0 e1 e2 e3 e4 e5 e6
        go_wp2_with fail
        go_meet
        case rel => exact ⟨p, r, fp, fr, D, rfl, rfl, rfl, hDx, hRx, HDIS.out, hB2, HF.out, HFR.out, HN.out, by omega⟩
      case rest =>
        as_aux_lemma =>
          clear hD hR HDIS HF HFR HN hB hW
          obtain ⟨p, r, fp, fr, D, rfl, rfl, rfl, hD, hR, hdis, hB, hF, hFr, hn, hW⟩ := hcut
          have HN := hide hn
          have HDIS := hide hdis
          have HF := hide hF
          have HFR := hide hFr
          clear hn hdis hF hFr
          obtain ⟨lv, cv, hRi⟩ := id hR
          obtain ⟨co, cc, hcv⟩ := own_len hRi.cache
          subst hcv
          have hDd := hD.below ((Below.refl _ wc).drew)
          have hRd := hR.below ((Below.refl _ wc).drew)
          have hBd := hB.drew
          go_wp2_with fail
          refine wp_region_held_drew (S := fun w' => w'.heap[r]? = wc.heap[r]?) (by kernel_rfl) rfl (fun hH => ?_)
          refine take_to 0 178 (.bool true) rfl (by kernel_rfl) (by kernel_rfl) (by kernel_rfl) (fun _ _ _ h => h) rfl (by rfl) (fun w _ => by rfl) hH ?_
          simp only [Act.put, List.setIfInBounds_toArray, List.set_cons_zero, List.set_cons_succ]
          refine take_to 1 179 (.bool false) rfl (by kernel_rfl) (by kernel_rfl) (by kernel_rfl) (fun _ _ _ h => h) rfl (by rfl) (fun w _ => by rfl) hH ?_
          simp only [Act.put, List.setIfInBounds_toArray, List.set_cons_zero, List.set_cons_succ]
          refine take_to 2 180 (.bool false) rfl (by kernel_rfl) (by kernel_rfl) (by kernel_rfl) (fun _ _ _ h => h) rfl (by rfl) (fun w _ => by rfl) hH ?_
          simp only [Act.put, List.setIfInBounds_toArray, List.set_cons_zero, List.set_cons_succ]
          refine take_to 3 181 (.pointer (some ⟨p, 0, none⟩)) rfl (by kernel_rfl) (by kernel_rfl) (by kernel_rfl) (fun _ _ _ h => h) rfl (by rfl) (fun w _ => by rfl) hH ?_
          simp only [Act.put, List.setIfInBounds_toArray, List.set_cons_zero, List.set_cons_succ]
          refine take_to 4 182 (.bool false) rfl (by kernel_rfl) (by kernel_rfl) (by kernel_rfl) (fun _ _ _ h => h) rfl (by rfl) (fun w _ => op_eqlnil _ _ (.tmp 181) (.const (.pointer none)) 23 rfl p rfl rfl) hH ?_
          simp only [Act.put, List.setIfInBounds_toArray, List.set_cons_zero, List.set_cons_succ]
          refine take_to 5 183 (.bool false) rfl (by kernel_rfl) (by kernel_rfl) (by kernel_rfl) (fun _ _ _ h => h) rfl (by rfl) (fun w _ => by rfl) hH ?_
          simp only [Act.put, List.setIfInBounds_toArray, List.set_cons_zero, List.set_cons_succ]
          refine take_to 6 184 (.bool false) rfl (by kernel_rfl) (by kernel_rfl) (by kernel_rfl) (fun _ _ _ h => h) rfl (by rfl) (fun w _ => by rfl) hH ?_
          simp only [Act.put, List.setIfInBounds_toArray, List.set_cons_zero, List.set_cons_succ]
          refine take_to 7 185 (.pointer (some ⟨p, 0, none⟩)) rfl (by kernel_rfl) (by kernel_rfl) (by kernel_rfl) (fun _ _ _ h => h) rfl (by rfl) (fun w _ => by rfl) hH ?_
          simp only [Act.put, List.setIfInBounds_toArray, List.set_cons_zero, List.set_cons_succ]
          refine take_to 9 187 (.pointer (some ⟨r, 0, none⟩)) rfl (by kernel_rfl) (by kernel_rfl) (by kernel_rfl) (fun _ _ _ h => h) rfl (by rfl) (fun w _ => by rfl) hH ?_
          simp only [Act.put, List.setIfInBounds_toArray, List.set_cons_zero, List.set_cons_succ]
          refine take_to 10 188 (.pointer (some ⟨r, 0, none⟩)) rfl (by kernel_rfl) (by kernel_rfl) (by kernel_rfl) (fun _ _ _ h => h) rfl (by rfl) (fun w _ => by rfl) hH ?_
          simp only [Act.put, List.setIfInBounds_toArray, List.set_cons_zero, List.set_cons_succ]
          refine take_to 11 189 (.pointer (some ⟨r, 1, none⟩)) rfl (by kernel_rfl) (by kernel_rfl) (by kernel_rfl) (fun _ _ _ h => h) rfl (by rfl) (fun w _ => by kernel_rfl) hH ?_
          simp only [Act.put, List.setIfInBounds_toArray, List.set_cons_zero, List.set_cons_succ]
          refine take_to 12 190 (.slice co D.W.length cc) rfl (by kernel_rfl) (by kernel_rfl) (by kernel_rfl) (fun _ _ _ h => h) rfl (by rfl) (fun w hw => op_load _ _ 47 (.tmp 189) rfl (.pointer (some ⟨r, 1, none⟩)) _ rfl (run_load47 w r _ ((World.cell?_of_block hw).trans hRi.c1))) hH ?_
          simp only [Act.put, List.setIfInBounds_toArray, List.set_cons_zero, List.set_cons_succ]
          refine take_to 13 191 (.int .i64 (D.W.length : Int)) rfl (by kernel_rfl) (by kernel_rfl) (by kernel_rfl) (fun _ _ _ h => h) rfl (by rfl) (fun w _ => op_len _ _ (.tmp 190) 47 69 Try.underlying47 rfl co D.W.length cc rfl) hH ?_
          simp only [Act.put, List.setIfInBounds_toArray, List.set_cons_zero, List.set_cons_succ]
          refine step_call1_to 8 186 22 rfl (by kernel_rfl) rfl (by rfl) (.tmp 185) _ rfl _ rfl Try.enters22 (pending_dev p wc.drew fp D hDd) ?_
          rintro e wq ⟨rfl, hwq⟩
          have hwq := hwq.symm
          subst hwq
          refine ⟨_, rfl, hH, ?_⟩
          simp only [Act.put, List.setIfInBounds_toArray, List.set_cons_zero, List.set_cons_succ]
          refine take_to 14 192 (.bool false) rfl (by kernel_rfl) (by kernel_rfl) (by kernel_rfl) (fun _ _ _ h => h) rfl (by rfl) (fun w _ => op_neq3 _ _ (.tmp 186) (.tmp 191) 3 rfl _ _ rfl rfl _ (by simp)) hH ?_
          simp only [Act.put, List.setIfInBounds_toArray, List.set_cons_zero, List.set_cons_succ]
          refine take_to 15 193 (.bool false) rfl (by kernel_rfl) (by kernel_rfl) (by kernel_rfl) (fun _ _ _ h => h) rfl (by rfl) (fun w _ => by rfl) hH ?_
          simp only [Act.put, List.setIfInBounds_toArray, List.set_cons_zero, List.set_cons_succ]
          refine take_to 16 194 (.bool false) rfl (by kernel_rfl) (by kernel_rfl) (by kernel_rfl) (fun _ _ _ h => h) rfl (by rfl) (fun w _ => by rfl) hH ?_
          simp only [Act.put, List.setIfInBounds_toArray, List.set_cons_zero, List.set_cons_succ]
          refine take_to 17 195 (.pointer (some ⟨p, 0, none⟩)) rfl (by kernel_rfl) (by kernel_rfl) (by kernel_rfl) (fun _ _ _ h => h) rfl (by rfl) (fun w _ => by rfl) hH ?_
          simp only [Act.put, List.setIfInBounds_toArray, List.set_cons_zero, List.set_cons_succ]
          refine take_to 19 197 (.pointer (some ⟨r, 0, none⟩)) rfl (by kernel_rfl) (by kernel_rfl) (by kernel_rfl) (fun _ _ _ h => h) rfl (by rfl) (fun w _ => by rfl) hH ?_
          simp only [Act.put, List.setIfInBounds_toArray, List.set_cons_zero, List.set_cons_succ]
          refine take_to 20 198 (.pointer (some ⟨r, 0, none⟩)) rfl (by kernel_rfl) (by kernel_rfl) (by kernel_rfl) (fun _ _ _ h => h) rfl (by rfl) (fun w _ => by rfl) hH ?_
          simp only [Act.put, List.setIfInBounds_toArray, List.set_cons_zero, List.set_cons_succ]
          refine take_to 21 199 (.pointer (some ⟨r, 3, none⟩)) rfl (by kernel_rfl) (by kernel_rfl) (by kernel_rfl) (fun _ _ _ h => h) rfl (by rfl) (fun w _ => by kernel_rfl) hH ?_
          simp only [Act.put, List.setIfInBounds_toArray, List.set_cons_zero, List.set_cons_succ]
          refine take_to 22 200 (.bool D.dead) rfl (by kernel_rfl) (by kernel_rfl) (by kernel_rfl) (fun _ _ _ h => h) rfl (by rfl) (fun w hw => op_load _ _ 4 (.tmp 199) rfl (.pointer (some ⟨r, 3, none⟩)) _ rfl (run_load4 w r 3 _ ((World.cell?_of_block hw).trans hRi.c3))) hH ?_
          simp only [Act.put, List.setIfInBounds_toArray, List.set_cons_zero, List.set_cons_succ]
          refine step_call1_to 18 196 23 rfl (by kernel_rfl) rfl (by rfl) (.tmp 195) _ rfl _ rfl Try.enters23 (dead_dev p wc.drew fp D hDd) ?_
          rintro e wq ⟨rfl, hwq⟩
          have hwq := hwq.symm
          subst hwq
          refine ⟨_, rfl, hH, ?_⟩
          simp only [Act.put, List.setIfInBounds_toArray, List.set_cons_zero, List.set_cons_succ]
          refine take_to 23 201 (.bool false) rfl (by kernel_rfl) (by kernel_rfl) (by kernel_rfl) (fun _ _ _ h => h) rfl (by rfl) (fun w _ => op_neq4 _ _ (.tmp 196) (.tmp 200) 4 rfl _ rfl rfl) hH ?_
          simp only [Act.put, List.setIfInBounds_toArray, List.set_cons_zero, List.set_cons_succ]
          refine take_to 24 202 (.bool false) rfl (by kernel_rfl) (by kernel_rfl) (by kernel_rfl) (fun _ _ _ h => h) rfl (by rfl) (fun w _ => by rfl) hH ?_
          simp only [Act.put, List.setIfInBounds_toArray, List.set_cons_zero, List.set_cons_succ]
          refine take_to 25 203 (.bool false) rfl (by kernel_rfl) (by kernel_rfl) (by kernel_rfl) (fun _ _ _ h => h) rfl (by rfl) (fun w _ => by rfl) hH ?_
          simp only [Act.put, List.setIfInBounds_toArray, List.set_cons_zero, List.set_cons_succ]
          refine take_to 26 204 (.pointer (some ⟨p, 0, none⟩)) rfl (by kernel_rfl) (by kernel_rfl) (by kernel_rfl) (fun _ _ _ h => h) rfl (by rfl) (fun w _ => by rfl) hH ?_
          simp only [Act.put, List.setIfInBounds_toArray, List.set_cons_zero, List.set_cons_succ]
          refine take_to 28 206 (.int .i64 (n : Int)) rfl (by kernel_rfl) (by kernel_rfl) (by kernel_rfl) (fun _ _ _ h => h) rfl (by rfl) (fun w _ => by rfl) hH ?_
          simp only [Act.put, List.setIfInBounds_toArray, List.set_cons_zero, List.set_cons_succ]
          refine step_call1_to 27 205 24 rfl (by kernel_rfl) rfl (by rfl) (.tmp 204) _ rfl _ rfl Try.enters24 (size_dev p wc.drew fp D hDd) ?_
          rintro e wq ⟨rfl, hwq⟩
          have hwq := hwq.symm
          subst hwq
          refine ⟨_, rfl, hH, ?_⟩
          simp only [Act.put, List.setIfInBounds_toArray, List.set_cons_zero, List.set_cons_succ]
          refine take_to 29 207 (.bool false) rfl (by kernel_rfl) (by kernel_rfl) (by kernel_rfl) (fun _ _ _ h => h) rfl (by rfl) (fun w _ => op_neq3 _ _ (.tmp 205) (.tmp 206) 3 rfl _ _ rfl rfl _ (by rw [HN.out]; simp)) hH ?_
          simp only [Act.put, List.setIfInBounds_toArray, List.set_cons_zero, List.set_cons_succ]
          refine take_to 30 208 (.bool false) rfl (by kernel_rfl) (by kernel_rfl) (by kernel_rfl) (fun _ _ _ h => h) rfl (by rfl) (fun w _ => by rfl) hH ?_
          simp only [Act.put, List.setIfInBounds_toArray, List.set_cons_zero, List.set_cons_succ]
          refine take_to 31 209 (.bool false) rfl (by kernel_rfl) (by kernel_rfl) (by kernel_rfl) (fun _ _ _ h => h) rfl (by rfl) (fun w _ => by rfl) hH ?_
          simp only [Act.put, List.setIfInBounds_toArray, List.set_cons_zero, List.set_cons_succ]
          refine take_to 32 210 (.pointer (some ⟨p, 0, none⟩)) rfl (by kernel_rfl) (by kernel_rfl) (by kernel_rfl) (fun _ _ _ h => h) rfl (by rfl) (fun w _ => by rfl) hH ?_
          simp only [Act.put, List.setIfInBounds_toArray, List.set_cons_zero, List.set_cons_succ]
          refine take_to 34 212 (.pointer (some ⟨r, 0, none⟩)) rfl (by kernel_rfl) (by kernel_rfl) (by kernel_rfl) (fun _ _ _ h => h) rfl (by rfl) (fun w _ => by rfl) hH ?_
          simp only [Act.put, List.setIfInBounds_toArray, List.set_cons_zero, List.set_cons_succ]
          refine take_to 35 213 (.pointer (some ⟨r, 0, none⟩)) rfl (by kernel_rfl) (by kernel_rfl) (by kernel_rfl) (fun _ _ _ h => h) rfl (by rfl) (fun w _ => by rfl) hH ?_
          simp only [Act.put, List.setIfInBounds_toArray, List.set_cons_zero, List.set_cons_succ]
          refine take_to 36 214 (.pointer (some ⟨r, 4, none⟩)) rfl (by kernel_rfl) (by kernel_rfl) (by kernel_rfl) (fun _ _ _ h => h) rfl (by rfl) (fun w _ => by kernel_rfl) hH ?_
          simp only [Act.put, List.setIfInBounds_toArray, List.set_cons_zero, List.set_cons_succ]
          refine take_to 37 215 (.int .i64 D.calls) rfl (by kernel_rfl) (by kernel_rfl) (by kernel_rfl) (fun _ _ _ h => h) rfl (by rfl) (fun w hw => op_load _ _ 3 (.tmp 214) rfl (.pointer (some ⟨r, 4, none⟩)) _ rfl (run_load3 w r 4 _ ((World.cell?_of_block hw).trans hRi.c4))) hH ?_
          simp only [Act.put, List.setIfInBounds_toArray, List.set_cons_zero, List.set_cons_succ]
          refine step_call1_to 33 211 25 rfl (by kernel_rfl) rfl (by rfl) (.tmp 210) _ rfl _ rfl Try.enters25 (calls_dev p wc.drew fp D hDd) ?_
          rintro e wq ⟨rfl, hwq⟩
          have hwq := hwq.symm
          subst hwq
          refine ⟨_, rfl, hH, ?_⟩
          simp only [Act.put, List.setIfInBounds_toArray, List.set_cons_zero, List.set_cons_succ]
          refine take_to 38 216 (.bool false) rfl (by kernel_rfl) (by kernel_rfl) (by kernel_rfl) (fun _ _ _ h => h) rfl (by rfl) (fun w _ => op_neq3 _ _ (.tmp 211) (.tmp 215) 3 rfl _ _ rfl rfl _ (by simp)) hH ?_
          simp only [Act.put, List.setIfInBounds_toArray, List.set_cons_zero, List.set_cons_succ]
          refine take_to 39 217 (.bool false) rfl (by kernel_rfl) (by kernel_rfl) (by kernel_rfl) (fun _ _ _ h => h) rfl (by rfl) (fun w _ => by rfl) hH ?_
          simp only [Act.put, List.setIfInBounds_toArray, List.set_cons_zero, List.set_cons_succ]
          refine wpAnyH_done (by kernel_rfl) ?_ _
          clear hH hD hR hB hRi
          go_wp2_with fail
          go_roundw
          case rel => exact ⟨k + 1, p, r, fp, fr, D, by omega, rfl, rfl, by go_num, hDd, hRd, HDIS.out, hBd, HF.out, HFR.out, HN.out, hW⟩
          case measure => simp [intOf]; omega
    · by_cases hl0 : k < len
      · have hl1 : decide ((k : Int) < 80) = false := by simp; omega
        clear hgo
        go_wp2_with fail
        go_ret
        exact ⟨rfl, hB⟩
      · have hl1 : decide ((k : Int) < (len : Int)) = false := by simp; omega
        clear hgo
        go_wp2_with fail
        go_ret
        exact ⟨rfl, hB⟩
end Go.Proofs.Ytohhcgcifceklaa
