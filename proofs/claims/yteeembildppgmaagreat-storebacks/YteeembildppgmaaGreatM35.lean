/- A part of it: DAnalyzeG SEmpty SAna SRedo SDisk SStart. -/
import Derived.Test.YteeembildppgmaaGreatM0
import Derived.Test.YteeembildppgmaaGreatM34
import Derived.Test.YteeembildppgmaaGreatM30
import Derived.Test.YteeembildppgmaaGreatM19
import Derived.Test.YteeembildppgmaaGreatM29
import Derived.Test.YteeembildppgmaaGreatM23
import Derived.Maps.RangeWalk
import Derived.Deep.CutBlock
import Derived.BigQuiet
namespace Go.Proofs.YteeembildppgmaaGreat.Rd
open Go.RowKit Go.Maps
set_option linter.unusedVariables false
set_option linter.unusedSimpArgs false
set_option maxRecDepth 100000
theorem AnaIs.stayOs {w0 w w' : World} {R bt bd n m : Nat} {lg : Sv} {T : Int → Option Tx} {F : Int → Option Int} {C : Int} {fp : List Nat} (x : AnaIs w0 w R bt bd n m lg T F C) (hO : Off fp w w') (h1 : ∀ k ∈ fp, k ≠ R) (h2 : ∀ k ∈ fp, k ≠ bt) (h3 : ∀ k ∈ fp, k ≠ bd) (h4 : ∀ k ∈ fp, w0.heap.size ≤ k) : AnaIs w0 w' R bt bd n m lg T F C :=
 { x with
   head := (hO.block R x.lt (fun h => h1 R h rfl)).trans x.head
   mt := x.mt.stay (hO.block bt x.mt.lt (fun h => h2 bt h rfl))
   md := x.md.stay (hO.block bd x.md.lt (fun h => h3 bd h rfl))
   below := x.below.trans (hO.below x.below.size h4) }
set_option maxHeartbeats 2000000 in
set_option maxRecDepth 100000 in
theorem analyze_gen (w : World) (lg : Sv) (S : An) (HPass : ∀ x1 R bt bd, AnaIs w x1 R bt bd 0 0 lg noTx noMap 0 → Calls Tryz.prog 136 #[.pointer (some ⟨R, 0, none⟩), .int .i64 0] x1 fun e w' => e = .returned (.tuple #[]) ∧ ∃ n' m', n' ≤ 200000 ∧ m' ≤ 200000 ∧ AnaIs w w' R bt bd n' m' lg S.T S.F S.C)
 (h12T : ∀ ss, ValsT S.T ss → ss.length ≤ 12) (h12F : ∀ ds, EntsD S.F ds → ds.length ≤ 12) :
 Calls Tryz.prog 109 #[.slice lg.a lg.n lg.c] w fun e w' => ∃ (at' : Option Addr) (ct : Nat) (ts : List Tx) (ad : Option Addr) (cd : Nat) (ds : List (Int × Int)), e = .returned (.tuple #[.slice at' ts.length ct, .slice ad ds.length cd, .int .i64 S.C]) ∧
  TxnsOf S.T ts ∧ TxsAt w' at' ts ∧ DirtOf S.F ds ∧ DirtsAt w' ad ds ∧ Below w.heap.size w w' := by
 have hmm := @run_makeMap Tryz.prog
 have HPASS := hide HPass
 have H12T := hide h12T
 have H12F := hide h12F
 have HG : Hid (∀ o : Obj, (((w.alloc (.map #[] 0)).alloc (.map #[] 0)).alloc o).heap[w.heap.size + 1 + 1]? = some o) := fun o => by
  have := World.alloc_heap_new ((w.alloc (.map #[] 0)).alloc (.map #[] 0)) o
  rwa [World.size_alloc, World.size_alloc] at this
 clear HPass h12T h12F
 go_enter Tryz.func109, Tryz.ntmps109
 go_upto_region 2 with (refine wpList_store_row (by rfl) 197 _ _ (by rfl) (w.heap.size + 1 + 1) #[.slice lg.a lg.n lg.c, .map (some w.heap.size), .map (some (w.heap.size + 1)), .int .i64 0, .nilFunc, .map none, .slice none 0 0, .slice none 0 0, .slice none 0 0] (by rfl) (by rfl) 197 _ (HG.out _) (by kernel_rfl) (by rfl) (by simp [Value.oneCell']) ?_)
 generalize hx1 : World.setRow _ _ _ = x1
 have X1 : AnaIs w x1 (w.heap.size + 1 + 1) w.heap.size (w.heap.size + 1) 0 0 lg noTx noMap 0 := {
  head := by rw [← hx1]; exact setRow_heap _ _ _ _ _ _ (HG.out _)
  mt := (MapT.made w).stay (by
   rw [← hx1]
   refine (setRow_other _ _ _ _ (by omega)).trans ?_
   refine (Below.heap_alloc _ _ _ (by simp; omega)).trans (Below.heap_alloc _ _ _ (by simp)))
  md := by
   have := (MapI.made (w.alloc (.map #[] 0)))
   rw [World.size_alloc] at this
   refine this.stay ?_
   rw [← hx1]
   refine (setRow_other _ _ _ _ (by omega)).trans ?_
   refine (Below.heap_alloc _ _ _ (by simp))
  below := by
   rw [← hx1]
   exact (((((Off.refl [] w).alloc _).alloc _).alloc _).setRow _ _ (.inr (by omega))).below (Nat.le_refl _) (by simp)
  r0 := by omega
  t0 := Nat.le_refl _
  d0 := by omega
  n1 := by omega
  n2 := by omega
  n3 := by omega }
 have HPA := hide (HPASS.out _ _ _ _ X1)
 clear hx1 X1 HG
 generalize hR0 : w.heap.size + 1 + 1 = R at *
 generalize hB0 : w.heap.size + 1 = bd at *
 generalize hD0 : w.heap.size = bt at *
 go_upto_region 3 with (go_at_call 136; refine HPA.out.mono ?_; rintro e x2 ⟨rfl, n2, m2, hn2, hm2, hX2⟩; have HX2 := hide hX2; clear hX2)
 have k2 := HX2.out.c2
 obtain ⟨D, hown, hf⟩ := HX2.out.md
 have HF := hide hf
 have hsz := World.ownsMap.size_le hown
 clear HPA hf
 obtain ⟨i0, hi, hz0, hz1, hz2⟩ := info_parts Tryz.info142
 go_wp2_with (first
  | (at_range; refine wpList_range_own _ rfl _ 169 rfl 3 3 keyedI Tryz.underlying169 _ bd m2 _ rfl hown ?_; intro x3 hrg0 hg0 hs0))
 clear hown
 go_frame
 go_loopw [3] (fun v wr => ∃ (left : Lit → Bool) (cnt : Nat) (ds : List (Int × Int)), wr.ranges Tryz.prog 3 (plainElem Tryz.prog 3) bd x2.heap.size m2 D left cnt ∧ ds.length + cnt ≤ Maps.size D ∧ CameD S.F left ds ∧ wr.ownsRow x2.heap.size 142 2 v ds.length (dirtRow ds) ∧ Below x2.heap.size x2 wr)
  (fun _ wr => wr.rangeLeft bd x2.heap.size)
 case atStart =>
  refine ⟨_, _, [], hrg0, by simp, ⟨by simp, by simp, fun k v hk hfk hl' => ?_⟩, ⟨rfl, .inl ⟨rfl, rfl⟩⟩, (Below.refl _ _).grown hg0 (Nat.le_refl _) (fun k e => by cases e)⟩
  have := (HF.out k hk).1
  rw [hfk] at this
  rw [this] at hl'
  exact absurd hl' (by simp)
 case round =>
  obtain ⟨left, cnt, ds, hrg, hcs, hC, hrow, hB⟩ := hrel
  obtain ⟨ao0, mm0, cc0, hv0⟩ := own_form (owns_zero hrow)
  have HC := hide hC
  have HB := hide hB
  go_wp2_with (first
   | (at_next; refine wpList_next_ranges_ii _ rfl _ rfl 3 3 .i64 .i64 keyedI Tryz.underlying3 Tryz.underlying3 bd x2.heap.size m2 _ _ _ rfl hrg ?_ ?_))
  · intro hc0 hl0
    have hE : EntsD S.F ds := ⟨hC.1, fun x hx => ⟨(hC.2.1 x hx).1, (hC.2.1 x hx).2.1⟩, fun k v hk hv => hC.2.2 k v hk hv (hl0 _)⟩
    have hsz0 := own_len' hrow
    obtain ⟨ao1, cc1, hv1⟩ := hsz0
    have hvq := hv0.symm.trans hv1
    injection hvq with q1 q2 q3
    subst q1; subst q2; subst q3
    subst hv0
    clear hv1
    have HS := hide (sort_all _ ds wr hrow (H12F.out ds hE) (fun x hx => ⟨(hE.2.1 x hx).1, (HX2.out.stayD hB).md.val (hE.2.1 x hx).1 (hE.2.1 x hx).2⟩))
    have HROW := hide hrow
    have HXr := hide (HX2.out.stayD hB)
    have HE := hide hE
    have HGB : Hid (∀ k, k ∈ (Value.slice ao0 ds.length cc0).ownBlock.toList → k ≠ R ∧ k ≠ bt ∧ k ≠ bd ∧ bt ≤ k) := fun k hk => by
     have h1 := (hrow.lt k (by simpa using hk)).1
     have h2 := HX2.out.lt
     have h3 := HX2.out.mt.lt
     have h4 := HX2.out.md.lt
     exact ⟨by omega, by omega, by omega, by omega⟩
    have HB2 := hide hB
    clear hrow hE hC hB HC HB hl0 hrg hcs hrg0 hg0 hs0 hc0 k2 HX2
    have hwle := HB2.out.size
    go_upto_region 9 with (first
     | (go_at_call 117; refine HS.out.mono ?_; rintro e x4 ⟨rfl, ao9, c9, d, hv9, hd, hp, hpw, hH, hO⟩
        injection hv9 with q1 q2 q3
        subst q1; subst q3
        clear q2
        have HX4 := hide (HXr.out.stayOs hO (fun k hk => (HGB.out k hk).1) (fun k hk => (HGB.out k hk).2.1) (fun k hk => (HGB.out k hk).2.2.1) (fun k hk => by rw [hD0]; exact (HGB.out k hk).2.2.2))
        have k1 := HX4.out.c1
        have hs4 := hO.size
        have HD4 := hide (And.intro hp (And.intro hd (And.intro hpw (And.intro hH hO))))
        clear hp hd hpw hH hO)
     | (go_at_call 139; refine (valuesT_any bt _).mono ?_; rintro e x5 ⟨rfl, hx5⟩
        have hB5 : Below x4.heap.size x4 x5 := by rw [hx5]; exact (Below.refl _ _).alloc (Nat.le_refl _) _
        have HX5 := hide (HX4.out.stayD hB5)
        have HST := hide (sortedT_all x4.heap.size bt n2 S.T x5 (by rw [hx5]; exact heap_alloc_new _ _) HX5.out.mt (by omega) H12T.out)
        have HB5 := hide hB5
        clear hx5 hB5)
     | (go_at_call 138; refine HST.out.mono ?_; rintro e x6 ⟨gt, ct, ts, rfl, hT1, hT2, hB6⟩
        have HX6 := hide (HX5.out.stayD hB6)
        have HT := hide (And.intro hT1 hT2)
        have HB6 := hide hB6
        clear hT1 hT2 hB6))
    have k3 := HX6.out.c3
    refine wp_region_held_drew (S := fun w' => w'.cell? ⟨R, 3, none⟩ = some (.int .i64 S.C)) (by kernel_rfl) k3 (fun hH => ?_)
    refine take_to 0 33 (.slice gt ts.length ct) rfl (by kernel_rfl) (by kernel_rfl) (by kernel_rfl) (fun _ _ _ h => h) rfl (by rfl) (fun w hw => by rfl) hH ?_
    simp only [Act.put, zA, zB, zC]
    refine take_to 1 34 (.slice ao0 ds.length cc0) rfl (by kernel_rfl) (by kernel_rfl) (by kernel_rfl) (fun _ _ _ h => h) rfl (by rfl) (fun w hw => by rfl) hH ?_
    simp only [Act.put, zA, zB, zC]
    refine take_to 2 35 (.pointer (some ⟨R, 3, none⟩)) rfl (by kernel_rfl) (by kernel_rfl) (by kernel_rfl) (fun _ _ _ h => h) rfl (by rfl) (fun w hw => by rfl) hH ?_
    simp only [Act.put, zA, zB, zC]
    refine take_to 3 36 (.int .i64 S.C) rfl (by kernel_rfl) (by kernel_rfl) (by kernel_rfl) (fun _ _ _ h => h) rfl (by rfl) (fun w hw => op_load _ _ 3 (.tmp 35) rfl (.pointer (some ⟨R, 3, none⟩)) _ rfl (run_loadAny w R (3) 3 _ Tryz.isAgg3 hw)) hH ?_
    simp only [Act.put, zA, zB, zC]
    refine take_to 4 2 (.slice gt ts.length ct) rfl (by kernel_rfl) (by kernel_rfl) (by kernel_rfl) (fun _ _ _ h => h) rfl (by rfl) (fun w hw => by rfl) hH ?_
    simp only [Act.put, zA, zB, zC]
    refine take_to 5 3 (.slice ao0 ds.length cc0) rfl (by kernel_rfl) (by kernel_rfl) (by kernel_rfl) (fun _ _ _ h => h) rfl (by rfl) (fun w hw => by rfl) hH ?_
    simp only [Act.put, zA, zB, zC]
    refine take_to 6 4 (.int .i64 S.C) rfl (by kernel_rfl) (by kernel_rfl) (by kernel_rfl) (fun _ _ _ h => h) rfl (by rfl) (fun w hw => by rfl) hH ?_
    simp only [Act.put, zA, zB, zC]
    refine wpAnyH_done (by kernel_rfl) ?_ _
    clear hH
    go_wp2
    refine bodyPost_ret (results_tmp3 rfl _ _ _) rfl ?_
    obtain ⟨hp, hd, hpw, hH4, hO4⟩ := HD4.out
    have hEd : EntsD S.F d := HE.out.perm hp
    have hB46 : Below x4.heap.size x4 x6.drew := (HB5.out.trans (HB6.out.mono HB5.out.size)).trans (below_drewN _ _ 1)
    refine ⟨gt, ct, ts, ao0, cc0, d, by rw [hd]; rfl, HT.out.1, HT.out.2.below (below_drewN _ _ 1), ⟨hEd, hpw⟩, ?_, ?_⟩
    · refine ⟨hH4.1, fun i x hx => ?_⟩
      obtain ⟨h1, h2, b, o, h3, h4, h5⟩ := hH4.2 i x hx
      exact ⟨h1, h2, b, o, h3, Nat.lt_of_lt_of_le h4 hB46.size, fun j v hv => (hB46.cell (p := ⟨b, o + i * 2 + j, none⟩) h4).trans (h5 j v hv)⟩
    · exact hD0 ▸ (HX6.out.below.trans (below_drewN _ _ 1))
  · intro p l x4 cnt2 hwp hwl hlk hat hrg2 hlt hg2 hs2 hen
    have hp64 : In64 p := in64 hwp
    have hl64 : In64 l := in64 hwl
    have hfp : S.F p = some l := by
     obtain ⟨a1, a2, a3⟩ := HF.out p hp64
     rw [hat] at a2
     have a4 : l = (S.F p).getD 0 := (Lit.int.inj (DataW.lit.inj a2)).2
     rw [has_true_of_atKey hat] at a1
     cases hfx : S.F p with
     | none => rw [hfx] at a1; exact absurd a1 (by simp)
     | some y => rw [hfx] at a4; exact congrArg some a4.symm
    obtain ⟨o0, ho0, hw0⟩ := hrg.iter_walk
    have hrow4 := hrow.kept hg2 (ownsRow_ne_a hrow ho0 (fun cur e => by rw [e] at hw0; cases hw0))
    have hB4 : Below x2.heap.size x2 x4 := hB.grown hg2 hB.size (fun k e => by cases e; exact Nat.le_refl _)
    have HFP := hide (And.intro hp64 (And.intro hl64 hfp))
    clear hs2 hwp hwl hat hp64 hl64 hfp ho0 hw0 hB hrow
    subst hv0
    go_wp2_with (refine wpList_append_own _ (by rfl) _ _ 67 (by rfl) x2.heap.size 142 i0 (.agg (encD (0, 0)).toArray) 2 16 Tryz.underlying67 hi hz0 hz1 hz2 rfl (by decide) _ _ _ (by rfl) (hrow4.alloc _) ⟨x4.heap.size, 0, none⟩ 1 1 (encD (p, l)) (by rfl) (by rfl) (src_of_block (heap_alloc_new _ _)) (by simp [encD, Value.oneCell']) (by simp only [maxLen]; omega) (by omega) (by have := hB4.size; simp; omega) ?_; intro v' x6 hown' hg6 hnil6; go_frame)
    have hkw : KeepsWalks x4 x6 := (KeepsWalks.alloc _ _).trans (KeepsWalks.of_grownBy hg6 (ownsRow_not_walk_a (hrow4.alloc _)))
    have hrg6 := hrg2.of_walks hkw
    obtain ⟨hp64, hl64, hfp⟩ := HFP.out
    refine ⟨⟨_, cnt2, ds ++ [(p, l)], hrg6, by simp; omega, ⟨?_, ?_, ?_⟩, ?_, ?_⟩, ?_⟩
    · rw [List.map_append]
      refine List.nodup_append.2 ⟨HC.out.1, by simp, fun a ha b hb => ?_⟩
      simp at hb; subst hb
      intro e; subst e
      obtain ⟨y, hy, hye⟩ := List.mem_map.1 ha
      have := (HC.out.2.1 y hy).2.2
      rw [hye, hlk] at this; cases this
    · intro x hx
      rcases List.mem_append.1 hx with h | h
      · obtain ⟨b1, b2, b3⟩ := HC.out.2.1 x h
        exact ⟨b1, b2, by simp [b3]⟩
      · simp at h; subst h; exact ⟨hp64, hfp, by simp [Lit.sameKey]⟩
    · intro k v hk hv hl'
      by_cases e : k = p
      · subst e
        rw [hfp] at hv
        injection hv with hv
        subst hv; simp
      · exact List.mem_append.2 (.inl (HC.out.2.2 k v hk hv (by simpa [e, Lit.sameKey] using hl')))
    · have e1 : (ds ++ [(p, l)]).length = ds.length + 1 := by simp
      have e2 : dirtRow (ds ++ [(p, l)]) = dirtRow ds ++ encD (p, l) := by simp [dirtRow]
      rw [e1, e2]
      exact hown'
    · exact (hB4.alloc hB4.size _).grown hg6 (by have := hB4.size; simp; omega) (fun k e => (hrow4.lt k e).1)
    · rw [hrg6.left_eq, hrg.left_eq]; exact hlt
end Go.Proofs.YteeembildppgmaaGreat.Rd
namespace Go.Proofs.YteeembildppgmaaGreat
open Go.RowKit
set_option linter.unusedVariables false
set_option linter.unusedSimpArgs false
theorem jumps_normal {J : Nat → Act → World → Prop} {Q : Exit → Act → World → Prop} {a : Act} {w : World} : Exit.jumps J Q .normal a w = Q .normal a w := rfl
set_option maxHeartbeats 400000 in
theorem soil_none (w : World) (R : Nat) (da : Option Addr) (dc : Nat) : Calls Tryz.prog 165 #[.pointer (some ⟨R, 0, none⟩), .slice da 0 dc] w fun e w' => e = .returned (.tuple #[]) ∧ w' = w := by
 go_enter Tryz.func165, Tryz.ntmps165
 go_wp2
 refine wp_loop_rounds 1 ?_
 rw [rounds_succ]
 go_wp2
 go_end0
 exact ⟨rfl, rfl⟩
set_option maxHeartbeats 400000 in
theorem oldest_none (w : World) (R bd : Nat) (c2 : w.cell? ⟨R, 2, none⟩ = some (.map (some bd))) (hm : Rd.MapI w bd 0 (fun _ => none)) : Calls Tryz.prog 158 #[.pointer (some ⟨R, 0, none⟩)] w fun e w' => e = .returned (.slice none 0 0) ∧ w' = w := by
 obtain ⟨s, hs, hl, _, _⟩ := hm.len
 obtain rfl : s = 0 := by omega
 have hl : ∀ ty, (Builtin.len_ #[169] ty #[.map (some bd)]).run Tryz.prog w = .ok (.int .i64 0) w := hl
 clear hm hs
 go_enter Tryz.func158, Tryz.ntmps158
 go_wp2
 go_ret
 exact ⟨rfl, rfl⟩
set_option maxHeartbeats 400000 in
theorem pass1_none (w : World) (R bd : Nat) (c2 : w.cell? ⟨R, 2, none⟩ = some (.map (some bd))) (hm : Rd.MapI w bd 0 (fun _ => none)) : Calls Tryz.prog 136 #[.pointer (some ⟨R, 0, none⟩), .int .i64 1] w fun e w' => e = .returned (.tuple #[]) ∧ w' = w := by
 have HO := hide (oldest_none w R bd c2 hm)
 clear hm
 go_enter Tryz.func136, Tryz.ntmps136
 go_wp2
 refine wp_scope_fwd 1 ?_
 go_wp2
 go_step3
 refine ⟨_, rfl, ?_⟩
 go_wp2_with (go_at_call 158; refine HO.out.mono ?_; rintro e w' ⟨rfl, hw⟩; have hw := hw.symm; subst hw)
 refine wp_loop_rounds 1 ?_
 rw [rounds_succ]
 go_wp2
 rw [Exit.jumps_ret]
 refine bodyPost_ret (results_none rfl _ _ _) rfl ?_
 exact ⟨rfl, rfl⟩
set_option maxHeartbeats 400000 in
theorem pass2_none (w : World) (R : Nat) (la : Option Addr) (lc : Nat) (c7 : w.cell? ⟨R, 7, none⟩ = some (.slice la 0 lc)) : Calls Tryz.prog 136 #[.pointer (some ⟨R, 0, none⟩), .int .i64 2] w fun e w' => e = .returned (.tuple #[]) ∧ w' = w := by
 go_enter Tryz.func136, Tryz.ntmps136
 go_wp2
 refine wp_scope_fwd 1 ?_
 go_wp2
 go_step3
 refine ⟨_, rfl, ?_⟩
 go_wp2
 refine wp_loop_rounds 1 ?_
 rw [rounds_succ]
 go_wp2
 rw [jumps_normal]
 go_end0
 exact ⟨rfl, rfl⟩
set_option maxHeartbeats 400000 in
theorem lose_none (w : World) (R : Nat) (ta : Option Addr) (tc : Nat) : Calls Tryz.prog 144 #[.pointer (some ⟨R, 0, none⟩), .slice ta 0 tc] w fun e w' => e = .returned (.tuple #[]) ∧ w' = w := by
 go_enter Tryz.func144, Tryz.ntmps144
 go_wp2
 refine wp_loop_rounds 1 ?_
 rw [rounds_succ]
 go_wp2
 go_end0
 exact ⟨rfl, rfl⟩
end Go.Proofs.YteeembildppgmaaGreat
namespace Go.Proofs.YteeembildppgmaaGreat
open Go.RowKit
set_option linter.unusedVariables false
set_option linter.unusedSimpArgs false
set_option maxHeartbeats 400000 in
theorem indexL_none (w : World) (la : Option Addr) (lc : Nat) (f : Value) : Calls Tryz.prog 98 #[.slice la 0 lc, f] w fun e w' => e = .returned (.int .i64 (-1)) ∧ w' = w := by
 go_enter Tryz.func98, Tryz.ntmps98
 go_wp2
 refine wp_loop_rounds 1 ?_
 rw [rounds_succ]
 go_wp2
 go_ret
 exact ⟨rfl, rfl⟩
set_option maxHeartbeats 400000 in
theorem containsL_none (w : World) (la : Option Addr) (lc : Nat) (f : Value) : Calls Tryz.prog 64 #[.slice la 0 lc, f] w fun e w' => e = .returned (.bool false) ∧ w' = w := by
 have HI := hide (indexL_none w la lc f)
 go_enter Tryz.func64, Tryz.ntmps64
 go_wp2_with (go_at_call 98; refine HI.out.mono ?_; rintro e w' ⟨rfl, hw⟩; have hw := hw.symm; subst hw)
 go_ret
 exact ⟨rfl, rfl⟩
theorem vals_nil (ss : List Rd.Tx) (h : Rd.ValsT Rd.noTx ss) : ss = [] := by
 obtain ⟨ks, _, h2, _, _⟩ := h
 cases ss with
 | nil => rfl
 | cons x r =>
   cases ks with
   | nil => simp at h2
   | cons k ks => simp [Rd.noTx] at h2
theorem ents_nil (ds : List (Int × Int)) (h : Rd.EntsD Rd.noMap ds) : ds = [] := by
 cases ds with
 | nil => rfl
 | cons x r =>
   have := (h.2.1 x (by simp)).2
   simp [Rd.noMap] at this
set_option maxHeartbeats 2000000 in
set_option maxRecDepth 100000 in
theorem passA_none {w0 w : World} {R bt bd n m : Nat} {lg : Rd.Sv} {T : Int → Option Rd.Tx} {F : Int → Option Int} {C : Int} (X : Rd.AnaIs w0 w R bt bd n m lg T F C) (hln : lg.n = 0) :
 Calls Tryz.prog 136 #[.pointer (some ⟨R, 0, none⟩), .int .i64 0] w fun e w' => e = .returned (.tuple #[]) ∧ Rd.AnaIs w0 w' R bt bd n m lg T F C := by
 have HB := hide (Rd.behind_any R lg.a 0 lg.c [] rfl w ⟨by simp, fun i x hx => by simp at hx⟩ (fun x hx => by cases hx) X.lt (by have := X.c0; rw [hln] at this; exact this))
 have HX := hide X
 clear X hln
 go_enter Tryz.func136, Tryz.ntmps136
 go_wp2
 refine wp_scope_fwd 1 ?_
 go_wp2
 go_step3
 refine ⟨_, rfl, ?_⟩
 go_wp2_with (go_at_call 156; refine HB.out.mono ?_; rintro e w1 ⟨rfl, h3⟩; have HX1 := hide (HX.out.stayD h3); clear h3)
 refine wp_loop_rounds 1 ?_
 rw [rounds_succ]
 go_wp2
 rw [Exit.jumps_ret]
 refine bodyPost_ret (results_none rfl _ _ _) rfl ?_
 exact ⟨rfl, HX1.out⟩
theorem redoAnalyze_none (w : World) (la : Option Addr) (lc : Nat) :
 Calls Tryz.prog 109 #[.slice la 0 lc] w fun e w' => ∃ ta tc da dc, e = .returned (.tuple #[.slice ta 0 tc, .slice da 0 dc, .int .i64 0]) ∧ Below w.heap.size w w' := by
 refine (Rd.analyze_gen w ⟨la, 0, lc⟩ ⟨Rd.noTx, Rd.noMap, 0⟩ (fun x1 R bt bd X => ?_) (fun ss h => by rw [vals_nil ss h]; simp) (fun ds h => by rw [ents_nil ds h]; simp)).mono ?_
 · refine (passA_none X rfl).mono ?_
   rintro e w' ⟨rfl, h3⟩
   exact ⟨rfl, 0, 0, by omega, by omega, h3⟩
 · rintro e w' ⟨ta, tc, ts, da, dc, ds, rfl, ⟨ss, h1, h1p, _⟩, _, h3, _, hB⟩
   obtain rfl := vals_nil ss h1
   obtain rfl : ts = [] := List.perm_nil.1 h1p
   obtain rfl := ents_nil ds h3.1
   exact ⟨ta, tc, da, dc, rfl, hB⟩
section
variable {w0 w w' : World} {s : Nat} {c : Cf} {xs tb : List Nat} {ov : Value} {ps : List Nat} {uvs : List Value} {S : St}
def FoundAt (w : World) (ff : Nat) (la : Option Addr) (lc : Nat) (ta : Option Addr) (tc : Nat) (da : Option Addr) (dc : Nat) : Prop := w.heap[ff]? = some (.cells #[.slice la 0 lc, .slice ta 0 tc, .slice da 0 dc] 124 (0, 0))
set_option maxHeartbeats 2000000 in
theorem analyze_none {ff lc : Nat} {la : Option Addr} (h : StIs w0 w s c xs tb ov ps uvs S) (hf : FoundAt w ff la lc none 0 none 0) (hx : ff ∈ xs) (hf0 : w0.heap.size ≤ ff) (hsm : S.commits < 4611686018427387904) :
 Calls Tryz.prog 77 #[.pointer (some ⟨s, 0, none⟩), .pointer (some ⟨ff, 0, none⟩)] w fun e w' => e = .returned (.tuple #[]) ∧ ∃ ta tc da dc, StIs w0 w' s c xs tb ov ps uvs S ∧ FoundAt w' ff la lc ta tc da dc := by
 have HC : Hid (∀ W f, Calls Tryz.prog 64 #[.slice la 0 lc, f] W fun e w' => e = .returned (.bool false) ∧ w' = W) := fun W f => containsL_none W la lc f
 have HA := hide (redoAnalyze_none w la lc)
 have f0 : w.cell? ⟨ff, 0, none⟩ = some (.slice la 0 lc) := by rw [cell_of_row w ff 0 _ _ _ hf]; rfl
 have H := hide h
 have HF := hide hf
 have HX := hide (And.intro hx hf0)
 clear h hf hx hf0
 go_enter Tryz.func77, Tryz.ntmps77
 go_upto_region 4 with (go_at_call 64; refine (HC.out _ _).mono ?_; rintro e w' ⟨rfl, hw⟩; have hw := hw.symm; subst hw)
 go_wp2_with fail
 refine HA.out.mono ?_
 rintro e w2 ⟨ta, tc, da, dc, rfl, hB⟩
 have H2 := hide (H.out.belowW hB)
 have hf2 : FoundAt w2 ff la lc none 0 none 0 := (hB.block ff (H.out.lt HX.out.1)).trans HF.out
 have g0 : w2.cell? ⟨ff, 0, none⟩ = some (.slice la 0 lc) := by rw [cell_of_row w2 ff 0 _ _ _ hf2]; rfl
 have g1 : w2.cell? ⟨ff, 1, none⟩ = some (.slice none 0 0) := by rw [cell_of_row w2 ff 1 _ _ _ hf2]; rfl
 have g2 : w2.cell? ⟨ff, 2, none⟩ = some (.slice none 0 0) := by rw [cell_of_row w2 ff 2 _ _ _ hf2]; rfl
 have gz : ∀ o, w2.frozen? ⟨ff, o, none⟩ = false := fun o => frozen_of_row w2 ff o _ _ hf2
 have c6 := H2.out.c6
 have cz := H2.out.fz
 have hne : ¬ ff = s := fun e => H2.out.sx (by simp [← e, HX.out.1])
 have HF2 := hide hf2
 clear hB hf2 HA
 go_wp2
 refine wp_loop_rounds 1 ?_
 rw [rounds_succ]
 go_wp2
 go_end0
 refine ⟨rfl, ta, tc, da, dc, ?_, ?_⟩
 · have h3 := H2.out.writeL (Z := [ff]) (w' := (w2.setCell ⟨ff, 1, none⟩ (.slice ta 0 tc)).setCell ⟨ff, 2, none⟩ (.slice da 0 dc)) (by intro k hk; simp only [List.mem_singleton] at hk; subst hk; exact HX.out) (((Off.refl _ w2).setCell _ _ (by simp)).setCell _ _ (by simp))
   exact h3.setS (S' := S) rfl rfl ((Off.refl _ _).setCell _ _ (by simp)) (by rw [heap_setCell_same _ s 6 _ _ _ h3.head]; rfl)
 · have e1 := heap_setCell_same w2 ff 1 _ 124 (.slice ta 0 tc) HF2.out
   have e2 := heap_setCell_same (w2.setCell ⟨ff, 1, none⟩ (.slice ta 0 tc)) ff 2 _ 124 (.slice da 0 dc) e1
   exact (Below.heap_setCell _ _ _ _ hne).trans e2
end
end Go.Proofs.YteeembildppgmaaGreat
namespace Go.Proofs.YteeembildppgmaaGreat
open Go.RowKit
set_option linter.unusedVariables false
set_option linter.unusedSimpArgs false
set_option maxHeartbeats 2000000 in
set_option maxRecDepth 100000 in
theorem redo_none (w : World) (la da : Option Addr) (lc dc : Nat) (cb : Array Value) :
 Calls Tryz.prog 141 #[.slice la 0 lc, .slice da 0 dc, .func (.func 142) #[] cb] w fun e w' => e = .returned (.slice none 0 0) ∧ Below w.heap.size w w' := by
 have q54 : ∀ W : World, (binOp .eql 172 (.func (.func 142) #[] cb) .nilFunc).run Tryz.prog W = .ok (.bool false) W := fun W => by kernel_rfl
 have hmm := @run_makeMap Tryz.prog
 have HG : Hid (∀ o : Obj, (((w.alloc (.map #[] 0)).alloc (.map #[] 0)).alloc o).heap[w.heap.size + 1 + 1]? = some o) := fun o => by
  have := World.alloc_heap_new ((w.alloc (.map #[] 0)).alloc (.map #[] 0)) o
  rwa [World.size_alloc, World.size_alloc] at this
 go_enter Tryz.func141, Tryz.ntmps141
 go_upto_region 2 with (refine wpList_store_row (by rfl) 197 _ _ (by rfl) (w.heap.size + 1 + 1) #[.slice la 0 lc, .map none, .map (some w.heap.size), .int .i64 0, .func (.func 142) #[] cb, .map (some (w.heap.size + 1)), .slice none 0 0, .slice none 0 0, .slice none 0 0] (by rfl) (by rfl) 197 _ (HG.out _) (by kernel_rfl) (by rfl) (by simp [Value.oneCell']) ?_)
 generalize hx1 : World.setRow _ _ _ = x1
 have hR : x1.heap[w.heap.size + 1 + 1]? = some (.cells #[.slice la 0 lc, .map none, .map (some w.heap.size), .int .i64 0, .func (.func 142) #[] cb, .map (some (w.heap.size + 1)), .slice none 0 0, .slice none 0 0, .slice none 0 0] 197 (0, 0)) := by rw [← hx1]; exact setRow_heap _ _ _ _ _ _ (HG.out _)
 have hM : Rd.MapI x1 w.heap.size 0 (fun _ => none) := (Rd.MapI.made w).stay (by
  rw [← hx1]
  refine (setRow_other _ _ _ _ (by omega)).trans ?_
  refine (Below.heap_alloc _ _ _ (by simp; omega)).trans (Below.heap_alloc _ _ _ (by simp)))
 have HB : Hid (Below w.heap.size w x1) := by
  show Below _ _ _
  rw [← hx1]
  exact (((((Off.refl [] w).alloc _).alloc _).alloc _).setRow _ _ (.inr (by omega))).below (Nat.le_refl _) (by simp)
 clear hx1
 have c2 : x1.cell? ⟨w.heap.size + 1 + 1, 2, none⟩ = some (.map (some w.heap.size)) := by rw [cell_of_row x1 _ 2 _ _ _ hR]; rfl
 have c6 : x1.cell? ⟨w.heap.size + 1 + 1, 6, none⟩ = some (.slice none 0 0) := by rw [cell_of_row x1 _ 6 _ _ _ hR]; rfl
 have HS := hide (soil_none x1 (w.heap.size + 1 + 1) da dc)
 have HP := hide (pass1_none x1 (w.heap.size + 1 + 1) w.heap.size c2 hM)
 clear HG hR hM c2
 generalize hR0 : w.heap.size + 1 + 1 = R at *
 go_wp2_with (first
  | (go_at_call 165; refine HS.out.mono ?_; rintro e w' ⟨rfl, hw⟩; have hw := hw.symm; subst hw)
  | (go_at_call 136; refine HP.out.mono ?_; rintro e w' ⟨rfl, hw⟩; have hw := hw.symm; subst hw))
 go_ret
 exact ⟨rfl, HB.out⟩
set_option maxHeartbeats 2000000 in
set_option maxRecDepth 100000 in
theorem undo_none (w : World) (la ta : Option Addr) (lc tc : Nat) :
 Calls Tryz.prog 111 #[.slice la 0 lc, .slice ta 0 tc] w fun e w' => e = .returned (.slice none 0 0) ∧ Below w.heap.size w w' := by
 have HG : Hid (∀ o : Obj, (w.alloc o).heap[w.heap.size]? = some o) := fun o => World.alloc_heap_new w o
 go_enter Tryz.func111, Tryz.ntmps111
 go_upto_region 2 with (refine wpList_store_row (by rfl) 197 _ _ (by rfl) w.heap.size #[.slice la 0 lc, .map none, .map none, .int .i64 0, .nilFunc, .map none, .slice none 0 0, .slice none 0 0, .slice none 0 0] (by rfl) (by rfl) 197 _ (HG.out _) (by kernel_rfl) (by rfl) (by simp [Value.oneCell']) ?_)
 generalize hx1 : World.setRow _ _ _ = x1
 have hR : x1.heap[w.heap.size]? = some (.cells #[.slice la 0 lc, .map none, .map none, .int .i64 0, .nilFunc, .map none, .slice none 0 0, .slice none 0 0, .slice none 0 0] 197 (0, 0)) := by rw [← hx1]; exact setRow_heap _ _ _ _ _ _ (HG.out _)
 have HB : Hid (Below w.heap.size w x1) := by
  show Below _ _ _
  rw [← hx1]
  exact (((Off.refl [] w).alloc _).setRow _ _ (.inr (by omega))).below (Nat.le_refl _) (by simp)
 clear hx1
 have c7 : x1.cell? ⟨w.heap.size, 7, none⟩ = some (.slice none 0 0) := by rw [cell_of_row x1 _ 7 _ _ _ hR]; rfl
 have c8 : x1.cell? ⟨w.heap.size, 8, none⟩ = some (.slice none 0 0) := by rw [cell_of_row x1 _ 8 _ _ _ hR]; rfl
 have HS := hide (lose_none x1 w.heap.size ta tc)
 have HP := hide (pass2_none x1 w.heap.size none 0 c7)
 clear HG hR c7
 generalize hR0 : w.heap.size = R at *
 go_wp2_with (first
  | (go_at_call 144; refine HS.out.mono ?_; rintro e w' ⟨rfl, hw⟩; have hw := hw.symm; subst hw)
  | (go_at_call 136; refine HP.out.mono ?_; rintro e w' ⟨rfl, hw⟩; have hw := hw.symm; subst hw))
 go_ret
 exact ⟨rfl, hR0 ▸ HB.out⟩
set_option maxHeartbeats 2000000 in
set_option maxRecDepth 100000 in
theorem lacking_none (w : World) (s : Nat) (la ta da : Option Addr) (lc tc dc : Nat) :
 Calls Tryz.prog 110 #[.pointer (some ⟨s, 0, none⟩), .agg #[.slice la 0 lc, .slice ta 0 tc, .slice da 0 dc]] w fun e w' => e = .returned (.tuple #[.slice none 0 0, .int .i64 0]) ∧ Below w.heap.size w w' := by
 have HR : Hid (∀ W cb, Calls Tryz.prog 141 #[.slice la 0 lc, .slice da 0 dc, .func (.func 142) #[] cb] W fun e w' => e = .returned (.slice none 0 0) ∧ Below W.heap.size W w') := fun W cb => redo_none W la da lc dc cb
 go_enter Tryz.func110, Tryz.ntmps110
 go_upto_region 2 with fail
 generalize hW : (((w.alloc (.cells #[.pointer (some ⟨s, 0, none⟩)] 25)).alloc (.cells #[.slice la 0 lc, .slice ta 0 tc, .slice da 0 dc] 124)).alloc (.cells #[.int .i64 0] 28)) = W
 have hB : Below w.heap.size w W := by rw [← hW]; exact ((((Off.refl [] w).alloc _).alloc _).alloc _).below (Nat.le_refl _) (by simp)
 have h1 : W.heap[w.heap.size + 1]? = some (.cells #[.slice la 0 lc, .slice ta 0 tc, .slice da 0 dc] 124 (0, 0)) := by
  rw [← hW]
  refine (Below.heap_alloc _ _ _ (by simp)).trans ?_
  have := World.alloc_heap_new (w.alloc (.cells #[.pointer (some ⟨s, 0, none⟩)] 25)) (.cells #[.slice la 0 lc, .slice ta 0 tc, .slice da 0 dc] 124)
  rwa [World.size_alloc] at this
 have h2 : W.heap[w.heap.size + 1 + 1]? = some (.cells #[.int .i64 0] 28 (0, 0)) := by
  rw [← hW]
  have := World.alloc_heap_new ((w.alloc (.cells #[.pointer (some ⟨s, 0, none⟩)] 25)).alloc (.cells #[.slice la 0 lc, .slice ta 0 tc, .slice da 0 dc] 124)) (.cells #[.int .i64 0] 28)
  rwa [World.size_alloc, World.size_alloc] at this
 have hlt : w.heap.size + 1 + 1 < W.heap.size := by rw [← hW]; simp
 clear hW
 have c0 : W.cell? ⟨w.heap.size + 1, 0, none⟩ = some (.slice la 0 lc) := by rw [cell_of_row W _ 0 _ _ _ h1]; rfl
 have c2 : W.cell? ⟨w.heap.size + 1, 2, none⟩ = some (.slice da 0 dc) := by rw [cell_of_row W _ 2 _ _ _ h1]; rfl
 have HB := hide hB
 have H2 := hide (And.intro h2 hlt)
 clear h1 h2 hB hlt
 generalize hr1 : w.heap.size + 1 + 1 = r2 at *
 generalize hr0 : w.heap.size + 1 = r1 at *
 go_upto_region 3 with (go_at_call 141; refine (HR.out W _).mono ?_; rintro e W2 ⟨rfl, hB2⟩; have HB2 := hide (And.intro hB2 (HB.out.trans (hB2.mono HB.out.size))); clear hB2)
 have d0 : W2.cell? ⟨r2, 0, none⟩ = some (.int .i64 0) := by rw [cell_of_row W2 _ 0 _ _ _ ((HB2.out.1.block r2 H2.out.2).trans H2.out.1)]; rfl
 go_quiet (fail)
 go_wp2
 go_ret2
 exact ⟨rfl, HB2.out.2.trans (below_drewN _ _ _)⟩
section
variable {w0 w w' : World} {s : Nat} {c : Cf} {xs tb : List Nat} {ov : Value} {ps : List Nat} {uvs : List Value} {S : St}
set_option maxHeartbeats 2000000 in
set_option maxRecDepth 100000 in
theorem doAgain_none {la ta da : Option Addr} {lc tc dc : Nat} (h : StIs w0 w s c xs tb ov ps uvs S) :
 Calls Tryz.prog 78 #[.pointer (some ⟨s, 0, none⟩), .agg #[.slice la 0 lc, .slice ta 0 tc, .slice da 0 dc]] w fun e w' => e = .returned (.int .i64 0) ∧ StIs w0 w' s c xs tb ov ps uvs { S with redone := 0 } ∧ Off [s] w w' := by
 have hnew : (w.alloc (.cells #[.slice la 0 lc, .slice ta 0 tc, .slice da 0 dc] 124)).heap[w.heap.size]? = some (.cells #[.slice la 0 lc, .slice ta 0 tc, .slice da 0 dc] 124 (0, 0)) := World.alloc_heap_new _ _
 have hB : Below w.heap.size w (w.alloc (.cells #[.slice la 0 lc, .slice ta 0 tc, .slice da 0 dc] 124)) := ((Off.refl [] w).alloc _).below (Nat.le_refl _) (by simp)
 have H := hide h
 clear h
 go_enter Tryz.func78, Tryz.ntmps78
 go_upto_region 1 with fail
 generalize hW : w.alloc (.cells #[.slice la 0 lc, .slice ta 0 tc, .slice da 0 dc] 124) = W at *
 have HL := hide (lacking_none W s la ta da lc tc dc)
 have f0 : W.cell? ⟨w.heap.size, 0, none⟩ = some (.slice la 0 lc) := by rw [cell_of_row W _ 0 _ _ _ hnew]; rfl
 have HW := hide (H.out.belowW hB)
 have f1 : W.cell? ⟨w.heap.size, 1, none⟩ = some (.slice ta 0 tc) := by rw [cell_of_row W _ 1 _ _ _ hnew]; rfl
 have f2 : W.cell? ⟨w.heap.size, 2, none⟩ = some (.slice da 0 dc) := by rw [cell_of_row W _ 2 _ _ _ hnew]; rfl
 have HB := hide (And.intro hB hnew)
 clear hB hnew hW
 generalize hz : w.heap.size = ff at *
 go_upto_region 5 with (go_at_call 110; refine HL.out.mono ?_; rintro e W2 ⟨rfl, hB2⟩; have HW2 := hide (HW.out.belowW hB2); have cz := HW2.out.fz; have c8 := HW2.out.c8; have HB2 := hide hB2; clear hB2)
 have hsl : s < ff := by rw [← hz]; exact H.out.lts (by simp)
 have HS := hide (HW2.out.setS (w' := W2.setCell ⟨s, 8, none⟩ (.int .i64 0)) (S' := { S with redone := 0 }) rfl rfl ((Off.refl _ W2).setCell _ _ (by simp)) (by rw [heap_setCell_same W2 s 8 _ _ _ HW2.out.head]; rfl))
 have HO : Hid (Off [s] w (W2.setCell ⟨s, 8, none⟩ (.int .i64 0))) := by
  have hb : Below w.heap.size w W2 := by rw [hz]; exact HB.out.1.trans (HB2.out.mono (by rw [← hz]; exact HB.out.1.size))
  exact (Off.of_below hb [s]).setCell _ _ (by simp)
 have g0 : (W2.setCell ⟨s, 8, none⟩ (.int .i64 0)).cell? ⟨ff, 0, none⟩ = some (.slice la 0 lc) := by
  have e : (W2.setCell ⟨s, 8, none⟩ (.int .i64 0)).heap[ff]? = some (.cells #[.slice la 0 lc, .slice ta 0 tc, .slice da 0 dc] 124 (0, 0)) := (Below.heap_setCell _ _ _ _ (show ff ≠ s by omega)).trans ((HB2.out.block ff (by have := (Array.getElem?_eq_some_iff.1 HB.out.2).1; omega)).trans HB.out.2)
  rw [cell_of_row _ _ 0 _ _ _ e]; rfl
 generalize W2.setCell ⟨s, 8, none⟩ (.int .i64 0) = W3 at *
 go_wp2
 refine wp_loop_rounds 1 ?_
 rw [rounds_succ]
 go_wp2
 go_ret
 exact ⟨rfl, HS.out, HO.out⟩
set_option maxHeartbeats 2000000 in
set_option maxRecDepth 100000 in
theorem undoLosers_none {la ta da : Option Addr} {lc tc dc : Nat} (w : World) (s : Nat) :
 Calls Tryz.prog 79 #[.pointer (some ⟨s, 0, none⟩), .agg #[.slice la 0 lc, .slice ta 0 tc, .slice da 0 dc]] w fun e w' => e = .returned (.int .i64 0) ∧ Below w.heap.size w w' := by
 have hmm := @run_makeMap Tryz.prog
 have HU : Hid (∀ W, Calls Tryz.prog 111 #[.slice la 0 lc, .slice ta 0 tc] W fun e w' => e = .returned (.slice none 0 0) ∧ Below W.heap.size W w') := fun W => undo_none W la ta lc tc
 go_enter Tryz.func79, Tryz.ntmps79
 go_upto_region 2 with fail
 generalize hW : (w.alloc (.cells #[.slice la 0 lc, .slice ta 0 tc, .slice da 0 dc] 124)).alloc (.map #[] 0) = W
 have hB : Below w.heap.size w W := by rw [← hW]; exact (((Off.refl [] w).alloc _).alloc _).below (Nat.le_refl _) (by simp)
 have h1 : W.heap[w.heap.size]? = some (.cells #[.slice la 0 lc, .slice ta 0 tc, .slice da 0 dc] 124 (0, 0)) := by
  rw [← hW]
  exact (Below.heap_alloc _ _ _ (by simp)).trans (World.alloc_heap_new _ _)
 clear hW
 have c0 : W.cell? ⟨w.heap.size, 0, none⟩ = some (.slice la 0 lc) := by rw [cell_of_row W _ 0 _ _ _ h1]; rfl
 have c1 : W.cell? ⟨w.heap.size, 1, none⟩ = some (.slice ta 0 tc) := by rw [cell_of_row W _ 1 _ _ _ h1]; rfl
 have HB := hide hB
 clear hB h1
 generalize hz : w.heap.size = ff at *
 go_wp2
 refine wp_loop_rounds 1 ?_
 rw [rounds_succ]
 go_wp2_with (go_at_call 111; refine (HU.out W).mono ?_; rintro e W2 ⟨rfl, hB2⟩; have HB2 := hide hB2; clear hB2)
 refine wp_loop_rounds 1 ?_
 rw [rounds_succ]
 go_wp2
 go_ret
 exact ⟨rfl, by rw [hz]; exact HB.out.trans (HB2.out.mono (by rw [← hz]; exact HB.out.size))⟩
end
end Go.Proofs.YteeembildppgmaaGreat
namespace Go.Proofs.YteeembildppgmaaGreat
open Go.RowKit
set_option linter.unusedVariables false
set_option linter.unusedSimpArgs false
section
variable {w0 w w1 w' : World} {r q p b lg n : Nat} {xs gp : List Nat} {R : Rg} {dk : List (List UInt8)} {D : Dv}
structure MidIs (w0 w w1 : World) (r q p b lg n : Nat) (xs gp fp1 : List Nat) (R : Rg) (dk : List (List UInt8)) (D : Dv) (i : Nat) (bs : List UInt8) : Prop where
 old : BkIs w0 w r q p b lg n xs gp R dk D
 dev : DevC w1 p fp1 (D.wrote i bs)
 step : ∃ fp, FsIs w0 w q p (2 + lg) n false (b :: (gp ++ xs)) fp D ∧ Off fp w w1 ∧ ∀ k ∈ fp1, k ∈ fp ∨ w.heap.size ≤ k
 two : i < 2
 len : bs.length = 128
theorem bk_dwrite (h : BkIs w0 w r q p b lg n xs gp R dk D) (i g c : Nat) (bs : List UInt8) (t : TypeId) (fr : Nat × Nat) (hi : i < 2) (hl : bs.length = 128) (hg : w.heap[g]? = some (.cells (secCells bs).toArray t fr)) (hx : g ∈ xs) :
 Calls Tryz.prog 113 #[.pointer (some ⟨p, 0, none⟩), .int .i64 (i : Int), .slice (some ⟨g, 0, none⟩) 128 c] w fun e w' => e = .returned (.int .i64 0) ∧ (∃ fp1, MidIs w0 w w' r q p b lg n xs gp fp1 R dk D i bs) ∧ Kept xs w w' := by
 obtain ⟨fp, x⟩ := h.fs
 have hlen := h.len
 refine (write_c (i : Int) g c bs t fr x.dv.dev.wc_self (by rw [h.wnil]; simp) hl hg (x.dv.xs g (by simp [hx])).2).mono ?_
 rintro e w' ⟨rfl, fp1, h1, h2, h3⟩
 have hw := live_write D i bs h.well.live (by omega) hl
 rw [if_neg (by have := h.well.fuse; omega)] at hw
 rw [hw] at h1 ⊢
 exact ⟨rfl, ⟨fp1, h, h1, ⟨fp, x, h2, h3⟩, hi, hl⟩, h2.size, fun k hk => h2.block k (x.dv.xs k (by simp [hk])).1 (x.dv.xs k (by simp [hk])).2⟩
theorem bk_dsync {fp1 : List Nat} {i : Nat} {bs : List UInt8} (m : MidIs w0 w w1 r q p b lg n xs gp fp1 R dk D i bs) :
 Calls Tryz.prog 114 #[.pointer (some ⟨p, 0, none⟩)] w1 fun e w' => e = .returned (.int .i64 0) ∧ (∃ D', BkIs w0 w' r q p b lg n xs gp R dk D') ∧ Kept xs w w' := by
 obtain ⟨h, hC, ⟨fp, x, hO, hF⟩, hi, hl⟩ := m
 have hlen := h.len
 have hsz := x.dv.below.size
 have w1well : (D.wrote i bs).well := well_wrote h.well i bs (by omega) hl
 refine (sync_c hC (by show (D.W ++ [(i, bs)]).length < _; rw [h.wnil]; simp)).mono ?_
 rintro e w' ⟨rfl, h1, h2⟩
 have hs := live_sync (D.wrote i bs) w1well.live
 rw [if_neg (by have := w1well.fuse; omega)] at hs
 rw [hs] at h1 ⊢
 have swell := well_synced w1well
 obtain ⟨c, a2⟩ := h1
 have hO2 : Off fp w w' := hO.trans h2 (fun k hk => hF k hk)
 have hne : ∀ k ∈ b :: (gp ++ xs), k ∉ fp := fun k hk => (x.dv.xs k hk).2
 have hblk : ∀ k ∈ b :: (gp ++ xs), w'.heap[k]? = w.heap[k]? := fun k hk => hO2.block k (x.dv.xs k hk).1 (hne k hk)
 have hnew : ∀ j, 2 ≤ j → j < D.L.length → (D.wrote i bs).synced.L.getD j [] = D.L.getD j [] := fun j hj hjl => by
  have e1 : (D.wrote i bs).synced.newest j = (D.wrote i bs).newest j := newest_synced _ j hjl
  rw [← newest_L (D := (D.wrote i bs).synced) rfl, e1, newest_wrote, if_neg (by omega), newest_L h.wnil]
 have hLl : (D.wrote i bs).synced.L.length = D.L.length := by show (laidOver _ _).length = _; rw [length_laidOver]; rfl
 refine ⟨rfl, ⟨(D.wrote i bs).synced.wc c, { h with
  fs := ⟨fp1, x.fl.off hO2 x.nq, ⟨a2, fun k hk => ?_, fun k hk => ⟨Nat.lt_of_lt_of_le (x.dv.xs k hk).1 hO2.size, fun hm => ?_⟩, x.dv.below.trans (hO2.below hsz (fun k hk => x.dv.f0 k hk))⟩, fun hm => ?_, x.q0, x.qx⟩
  rg := h.rg.keep hO2.size (fun k hk => hblk k (by simp [hk]))
  box := (hblk b (by simp)).trans h.box
  well := ⟨a2.wf, swell.live, swell.fuse⟩
  wnil := rfl
  len := by show _ ≤ (D.wrote i bs).synced.L.length; rw [hLl]; exact h.len
  disk := fun j hj => by
   rw [← h.disk j hj]
   show pageL (D.wrote i bs).synced.L _ = _
   unfold pageL
   rw [hnew _ (by omega) (by omega), hnew _ (by omega) (by omega), hnew _ (by omega) (by omega), hnew _ (by omega) (by omega)] }⟩, hO2.size, fun k hk => hblk k (by simp [hk])⟩
 · rcases hF k hk with h3 | h3
   · exact x.dv.f0 k h3
   · omega
 · rcases hF k hm with h3 | h3
   · exact hne k hk h3
   · have := (x.dv.xs k hk).1; omega
 · rcases hF q hm with h3 | h3
   · exact x.nq h3
   · have := x.fl.lt; omega
end
end Go.Proofs.YteeembildppgmaaGreat
namespace Go.Proofs.YteeembildppgmaaGreat
open Go.RowKit
set_option linter.unusedVariables false
set_option linter.unusedSimpArgs false
theorem op_alloc99 (ρ : Operand → Value) (o : Oper) (ho : o.op = .alloc 99) (w : World) : (execOp ρ o).run Tryz.prog w = .ok (.value (.pointer (some ⟨w.heap.size, 0, none⟩))) (w.alloc (.cells #[.int .i64 0, .int .i64 0, .int .i64 0, .int .i64 0] 99)) := by
 unfold execOp
 rw [ho]
 kernel_rfl
theorem Tryz.isAgg24 (w : World) : (isAgg 24).run Tryz.prog w = .ok false w := by kernel_rfl
theorem Tryz.enters105 (args : Array Value) (w : World) : (callFunc 105 args).run Tryz.prog w = .ok (.enter 105 args) w := by kernel_rfl
theorem Tryz.enters113 (args : Array Value) (w : World) : (callFunc 113 args).run Tryz.prog w = .ok (.enter 113 args) w := by kernel_rfl
theorem Tryz.enters112 (args : Array Value) (w : World) : (callFunc 112 args).run Tryz.prog w = .ok (.enter 112 args) w := by kernel_rfl
theorem op_call2_to {P : Program} {ops : Array Oper} {Q : Exit → Act → World → Prop} {o : Oper} {a : Act} {w : World} {K : Act → World → Prop} {i : Nat} {R : Ending → World → Prop} (dst f : Nat) (hi : ops[i]? = some o)
 (hd : o.dst = some dst) (hw : Region.wanted o (yielded ops a.tmps) = true) (x y : Operand) (ts : Array TypeId) (hop : o.op = Op.call { callee := Callee.value (Operand.func f), args := #[x, y], argTypes := ts })
 (vx vy : Value) (hx : a.eval x = vx) (hy : a.eval y = vy) (hcf : ∀ args w, (callFunc f args).run P w = .ok (.enter f args) w) (hc : Calls P f #[vx, vy] w R)
 (hK : ∀ e w', R e w' → ∃ v, e = .returned v ∧ K (a.put (some dst) v) w') : wpOp P ops Q i K a w := by
 refine wpOp_step hi (fun K' hK' => ?_)
 rw [if_pos hw]
 have hrun : (execOp a.eval o).run P w = .ok (.enter f #[vx, vy]) w := by
  have hff : a.eval (.func f) = .func (.func f) #[] #[] := rfl
  unfold execOp
  simp [hop, resolve, hff, Deferred.ofValue, invoke, hx, hy]
  exact hcf _ _
 unfold Oper.wp
 rw [hrun, Oper.upon_enter]
 refine hc.mono ?_
 intro e w' hR
 obtain ⟨v, rfl, hW⟩ := hK e w' hR
 show K' (a.put o.dst v) w'
 rw [hd]
 exact hK' _ _ hW
theorem run_store99 (w : World) (q : Nat) (a0 a1 a2 a3 b0 b1 b2 b3 : Int) (h : w.heap[q]? = some (.cells #[.int .i64 a0, .int .i64 a1, .int .i64 a2, .int .i64 a3] 99 (0, 0))) : (Instr.storeAt 99 (.pointer (some ⟨q, 0, none⟩)) (.agg #[.int .i64 b0, .int .i64 b1, .int .i64 b2, .int .i64 b3])).run Tryz.prog w = .ok () (w.setRow q #[.int .i64 b0, .int .i64 b1, .int .i64 b2, .int .i64 b3]) := by
 have := run_storeVar_row (P := Tryz.prog) w q 99 99 _ #[.int .i64 b0, .int .i64 b1, .int .i64 b2, .int .i64 b3] h (by kernel_rfl) (by simp) (by simp [Value.oneCell'])
 simp [Instr.storeAt, Instr.sureAddr, this]
theorem run_load99 (w : World) (q : Nat) (a0 a1 a2 a3 : Int) (h : w.heap[q]? = some (.cells #[.int .i64 a0, .int .i64 a1, .int .i64 a2, .int .i64 a3] 99 (0, 0))) : (Instr.loadAt 99 (.pointer (some ⟨q, 0, none⟩))).run Tryz.prog w = .ok (.agg #[.int .i64 a0, .int .i64 a1, .int .i64 a2, .int .i64 a3]) w :=
 run_loadAt_mid w q 0 99 [.int .i64 a0, .int .i64 a1, .int .i64 a2, .int .i64 a3] _ (fun j v hv => by rw [Nat.zero_add, cell_of_row w q j _ _ _ h]; simpa using hv) Tryz.underlying99 rfl (by kernel_rfl)
theorem blk_sec {w : World} {g : Nat} {bs : List UInt8} {cur : Array Value} (h : BlkAt w g 128 bs cur) (hl : bs.length = 128) : w.heap[g]? = some (.cells (secCells bs).toArray 5 (0, 0)) := by
 have h1 := h.pre
 rw [hl, List.take_of_length_le (by rw [Array.length_toList, h.size]; exact Nat.le_refl _)] at h1
 rw [h.blk, ← h1]
end Go.Proofs.YteeembildppgmaaGreat
