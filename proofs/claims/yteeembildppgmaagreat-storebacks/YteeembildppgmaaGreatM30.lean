/- A part of it: SFind SNone. -/
import Derived.Test.YteeembildppgmaaGreatM29
namespace Go.Proofs.YteeembildppgmaaGreat
open Go.RowKit
set_option linter.unusedVariables false
set_option linter.unusedSimpArgs false
theorem beval_zeros : ∀ n, Enc.beval (zerosN n) = 0
 | 0 => rfl
 | n + 1 => by
   have := beval_zeros n
   have e : zerosN (n + 1) = zerosN n ++ [0] := by simp [zerosN, List.replicate_succ']
   rw [e, Enc.beval_snoc, this]
   rfl
theorem masterOf_zero (w : World) (g : Nat) (hb : w.heap[g]? = some (.cells (secCells (zerosN 128)).toArray 5 (0, 0))) :
 Calls Tryz.prog 71 #[.slice (some ⟨g, 0, none⟩) 128 128] w fun e w' => e = .returned (.agg #[.int .i64 0, .int .i64 0, .int .i64 0, .int .i64 0]) ∧ Below w.heap.size w w' := by
 have z : ∀ k, Enc.beval (((zerosN 128).drop k).take 8) = 0 := fun k => by
  have : ((zerosN 128).drop k).take 8 = zerosN (min 8 (128 - k)) := by unfold zerosN; rw [List.drop_replicate, List.take_replicate]
  rw [this, beval_zeros]
 refine (masterOf_ok w g (zerosN 128) (by simp [zerosN]) hb 0 0 0 0 (z 0) (z 8) (z 16) (z 24) (by omega) (by omega) (by omega) (by omega)).mono ?_
 rintro e w' ⟨h1, h2, h3⟩
 refine ⟨?_, h3⟩
 by_cases hc : 0 ≤ 1099511627776 ∧ mkSec 0 0 0 0 4 = zerosN 128
 · exact h1 hc
 · exact h2 hc
set_option maxHeartbeats 2000000 in
set_option maxRecDepth 100000 in
theorem findMaster_new {w : World} {p : Nat} {fp : List Nat} {D : Dv} (h : DevC w p fp D) (hd : D.dead = false) (h2 : 2 ≤ D.L.length) (hm : D.W.length < 1000000) (hz : ∀ i, i < 2 → D.newest i = zerosN 128) :
 Calls Tryz.prog 48 #[.pointer (some ⟨p, 0, none⟩)] w fun e w' => e = .returned (.tuple #[.agg #[.int .i64 0, .int .i64 0, .int .i64 0, .int .i64 0], .int .i64 0]) ∧ DevC w' p fp D ∧ Off fp w w' := by
 have HL := hide h.lim
 obtain ⟨R, hR⟩ : ∃ R, w.heap.size = R := ⟨_, rfl⟩
 obtain ⟨N, hN⟩ : ∃ N, R + 1 = N := ⟨_, rfl⟩
 obtain ⟨W2, hW2⟩ : ∃ W2, (w.alloc (.cells #[.int .i64 0, .int .i64 0, .int .i64 0, .int .i64 0] 99)).alloc (.cells #[.int .i64 0, .int .i64 0, .int .i64 0, .int .i64 0] 99) = W2 := ⟨_, rfl⟩
 have r2 : W2.heap[R]? = some (.cells #[.int .i64 0, .int .i64 0, .int .i64 0, .int .i64 0] 99 (0, 0)) := by
  rw [← hW2, ← hR, Below.heap_alloc _ _ _ (by simp)]
  exact heap_alloc_new w _
 have n2 : W2.heap[N]? = some (.cells #[.int .i64 0, .int .i64 0, .int .i64 0, .int .i64 0] 99 (0, 0)) := by
  have := heap_alloc_new (w.alloc (.cells #[.int .i64 0, .int .i64 0, .int .i64 0, .int .i64 0] 99)) (.cells #[.int .i64 0, .int .i64 0, .int .i64 0, .int .i64 0] 99)
  rw [show (w.alloc (.cells #[.int .i64 0, .int .i64 0, .int .i64 0, .int .i64 0] 99)).heap.size = w.heap.size + 1 by simp, hR, hN] at this
  rw [← hW2]
  exact this
 have B2 : Below w.heap.size w W2 := by
  rw [← hW2]
  exact ((Below.refl _ w).alloc (Nat.le_refl _) _).alloc (by simp) _
 have HS2 := hide (And.intro r2 (And.intro n2 (And.intro (h.below B2) (Off.of_below B2 fp))))
 have HRF : Hid (R ∉ fp) := fun hm => by have := HL.out R hm; omega
 have HNF : Hid (N ∉ fp) := fun hm => by have := HL.out N hm; omega
 have HRE := hide hR
 have HNE := hide hN
 have HZ := hide hz
 clear r2 n2 B2 h hz hN
 go_enter Tryz.func48, Tryz.ntmps48
 go_wp2
 rw [HNE.out]
 clear hW2 hR
 go_loopw [9] (fun i wr => ∃ k : Nat, k ≤ 2 ∧ i = .int .i64 k ∧ wr.heap[R]? = some (.cells #[.int .i64 0, .int .i64 0, .int .i64 0, .int .i64 0] 99 (0, 0)) ∧ wr.heap[N]? = some (.cells #[.int .i64 0, .int .i64 0, .int .i64 0, .int .i64 0] 99 (0, 0)) ∧ DevC wr p fp D ∧ Off fp w wr) (fun i _ => 2 - (intOf i).toNat)
 case atStart => exact ⟨0, by omega, rfl, HS2.out⟩
 case round =>
  obtain ⟨k, hk, rfl, r4, n4, d4, o4⟩ := hrel
  have HR4 := hide r4
  have HN4 := hide n4
  have HO4 := hide o4
  have HD4 := hide d4
  by_cases hlt : k < 2
  · have HRD := hide (read_c k d4 hd (by omega) hm)
    rw [HZ.out k hlt] at HRD
    clear r4 n4 d4 o4
    rcases (by omega : k = 0 ∨ k = 1) with rfl | rfl
    all_goals
     go_wp2_with (first
      | (go_at_call 18; refine HRD.out.mono ?_; rintro e w5 ⟨g5, rfl, hg5, hb5, hd5, ho5⟩
         have HM5 := hide (masterOf_zero w5 g5 hb5)
         have HX5 := hide (And.intro hd5 ho5)
         clear hb5 hd5 ho5)
      | (go_at_call 71; refine HM5.out.mono ?_; rintro e w6 ⟨rfl, hB6⟩
         have hn6 : w6.cell? ⟨N, 0, none⟩ = some (.int .i64 0) := by
          have h1 := (HX5.out.2.block N (Array.getElem?_eq_some_iff.1 HN4.out).1 HNF.out).trans HN4.out
          have h2 := (hB6.block N (Array.getElem?_eq_some_iff.1 h1).1).trans h1
          rw [cell_of_row w6 N 0 _ _ _ h2]; rfl
         have hnl : N < w6.heap.size := World.block_lt_of_cell? w6 _ hn6
         have ha6 : (w6.alloc (.cells #[.int .i64 0, .int .i64 0, .int .i64 0, .int .i64 0] 99)).cell? ⟨N, 0, none⟩ = some (.int .i64 0) := (((Below.refl w6.heap.size w6).alloc (Nat.le_refl _) (.cells #[.int .i64 0, .int .i64 0, .int .i64 0, .int .i64 0] 99)).cell (p := ⟨N, 0, none⟩) hnl).trans hn6
         have HB6 := hide hB6
         clear hB6))
     have hB7 : Below w6.heap.size w6 (w6.alloc (.cells #[.int .i64 0, .int .i64 0, .int .i64 0, .int .i64 0] 99)) := (Below.refl _ w6).alloc (Nat.le_refl _) _
     have r5 := (HX5.out.2.block R (Array.getElem?_eq_some_iff.1 HR4.out).1 HRF.out).trans HR4.out
     have r6 := (HB6.out.block R (Array.getElem?_eq_some_iff.1 r5).1).trans r5
     have n5 := (HX5.out.2.block N (Array.getElem?_eq_some_iff.1 HN4.out).1 HNF.out).trans HN4.out
     have n6 := (HB6.out.block N (Array.getElem?_eq_some_iff.1 n5).1).trans n5
     have o7 : Off fp w (w6.alloc (.cells #[.int .i64 0, .int .i64 0, .int .i64 0, .int .i64 0] 99)) := ((HO4.out.trans HX5.out.2 (fun q hq => .inl hq)).trans (Off.of_below HB6.out fp) (fun q hq => .inl hq)).trans (Off.of_below hB7 fp) (fun q hq => .inl hq)
     have d7 := (HX5.out.1.below HB6.out).below hB7
     have r7 := (hB7.block R (Array.getElem?_eq_some_iff.1 r6).1).trans r6
     have n7 := (hB7.block N (Array.getElem?_eq_some_iff.1 n6).1).trans n6
    · exact ⟨⟨1, by omega, rfl, r7, n7, d7, o7⟩, by simp [intOf]⟩
    · exact ⟨⟨2, by omega, rfl, r7, n7, d7, o7⟩, by simp [intOf]⟩
  · have hk2 : k = 2 := by omega
    subst hk2
    have c0 : wr.cell? ⟨N, 0, none⟩ = some (.int .i64 0) := by rw [cell_of_row wr N 0 _ _ _ n4]; rfl
    have c1 : wr.cell? ⟨N, 1, none⟩ = some (.int .i64 0) := by rw [cell_of_row wr N 1 _ _ _ n4]; rfl
    have c2 : wr.cell? ⟨N, 2, none⟩ = some (.int .i64 0) := by rw [cell_of_row wr N 2 _ _ _ n4]; rfl
    have c3 : wr.cell? ⟨N, 3, none⟩ = some (.int .i64 0) := by rw [cell_of_row wr N 3 _ _ _ n4]; rfl
    have hsr : wr.setRow R #[.int .i64 0, .int .i64 0, .int .i64 0, .int .i64 0] = wr := setRow_self wr R _ _ _ HR4.out
    clear r4 n4 d4 o4
    go_wp2_with (refine wpList_store_row rfl 99 _ _ rfl R #[.int .i64 0, .int .i64 0, .int .i64 0, .int .i64 0] rfl rfl 99 #[.int .i64 0, .int .i64 0, .int .i64 0, .int .i64 0] HR4.out (Tryz.size99) rfl (one4 0 0 0 0) ?_; rw [hsr])
    refine bodyPost_ret (v := .tuple #[.agg #[.int .i64 0, .int .i64 0, .int .i64 0, .int .i64 0], .int .i64 0]) ?_ rfl ⟨rfl, HD4.out, HO4.out⟩
    rw [results_cell_tmp Tryz.results48]
    have hl := run_loadVar_row (P := Tryz.prog) wr R 99 99 #[.int .i64 0, .int .i64 0, .int .i64 0, .int .i64 0] (0, 0) _ HR4.out Tryz.underlying99 rfl Tryz.size99
    simp [asAddr, hl]
end Go.Proofs.YteeembildppgmaaGreat
namespace Go.Proofs.YteeembildppgmaaGreat
open Go.RowKit
set_option linter.unusedVariables false
set_option linter.unusedSimpArgs false
theorem LinesAt.none {w : World} {base st : Nat} {l : Value} (h : LinesAt w base l st []) : ∃ ao c, l = .slice ao 0 c := by
 obtain ⟨_, qs, _, ho, _⟩ := h
 obtain ⟨ao, c, e⟩ := Enc.owns_len ho
 exact ⟨ao, c, e⟩
section
variable {w0 w w' : World} {s : Nat} {c : Cf} {xs tb : List Nat} {ov : Value} {ps : List Nat} {uvs : List Value} {S : St} {V : Nat → List UInt8}
theorem lines_none (h : StIs w0 w s c xs tb ov ps uvs S) (hh : S.R.held = []) :
 Calls Tryz.prog 65 #[.pointer (some ⟨s, 0, none⟩)] w fun e w' => ∃ ao cc, e = .returned (.slice ao 0 cc) ∧ Below w.heap.size w w' := by
 refine (lines_ok h [] hh (fun R hR => by simp at hR)).mono ?_
 rintro e w' ⟨l, rfl, hl, hB⟩
 obtain ⟨ao, cc, rfl⟩ := hl.none
 exact ⟨ao, cc, rfl, hB⟩
set_option maxHeartbeats 400000 in
theorem commitsAhead_none (h : StIs w0 w s c xs tb ov ps uvs S) (hh : S.R.held = []) (st : Int) :
 Calls Tryz.prog 112 #[.pointer (some ⟨s, 0, none⟩), .int .i64 st] w fun e w' => e = .returned (.int .i64 (S.commits : Int)) ∧ Below w.heap.size w w' := by
 have c6 : w.cell? ⟨s, 6, none⟩ = some (.int .i64 (S.commits : Int)) := by rw [cell_of_row w s 6 _ _ _ h.head]; rfl
 have HL := hide (lines_none h hh)
 clear h hh
 go_enter Tryz.func112, Tryz.ntmps112
 go_wp2_with (go_at_call 65; refine HL.out.mono ?_; rintro e w2 ⟨ao, cc, rfl, hB⟩; have HB := hide hB; clear hB)
 refine wp_loop_rounds 1 ?_
 rw [rounds_succ]
 go_wp2
 go_ret
 exact ⟨rfl, HB.out⟩
set_option maxHeartbeats 400000 in
theorem endDone_none (h : StIs w0 w s c xs tb ov ps uvs S) (la ta da : Option Addr) (lc tc dc : Nat) :
 Calls Tryz.prog 80 #[.pointer (some ⟨s, 0, none⟩), .agg #[.slice la 0 lc, .slice ta 0 tc, .slice da 0 dc]] w fun e w' => e = .returned (.int .i64 0) ∧ StIs w0 w' s c xs tb ov ps uvs (S.setR { S.R with fin := S.R.tail }) ∧ Kept (s :: (tb ++ xs)) w w' := by
 have hb1 : Below w.heap.size w (w.alloc (.cells #[.slice la 0 lc, .slice ta 0 tc, .slice da 0 dc] 124)) := (Below.refl _ w).alloc (Nat.le_refl _) _
 have HF := hide (sflush_ok (h.belowW hb1))
 have HB := hide hb1
 have H := hide h
 clear h hb1
 go_enter Tryz.func80, Tryz.ntmps80
 go_wp2
 refine wp_loop_rounds 1 ?_
 rw [rounds_succ]
 go_wp2_with (go_at_call 41; refine HF.out.mono ?_; rintro e w2 ⟨rfl, h2, hK2⟩; have H2 := hide (And.intro h2 hK2); clear h2 hK2)
 go_ret
 exact ⟨rfl, H2.out.1, Kept.trans ⟨HB.out.size, fun k hk => HB.out.block k (H.out.lts hk)⟩ H2.out.2⟩
end
end Go.Proofs.YteeembildppgmaaGreat
