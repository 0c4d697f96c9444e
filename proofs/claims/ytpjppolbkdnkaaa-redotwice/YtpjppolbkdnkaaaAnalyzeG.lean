/- Analyze: what it tells, whatever the first pass finds. -/
import Derived.Test.YtpjppolbkdnkaaaSortN
import Derived.Maps.RangeWalk
namespace Go.Proofs.Ytpjppolbkdnkaaa
open Go.RowKit Go.Maps
set_option linter.unusedVariables false
set_option linter.unusedSimpArgs false

theorem AnaIs.stayOs {w0 w w' : World} {R bt bd n m : Nat} {lg : Sv} {T : Int → Option Tx} {F : Int → Option Int} {C : Int} {fp : List Nat} (x : AnaIs w0 w R bt bd n m lg T F C) (hO : Off fp w w') (h1 : ∀ k ∈ fp, k ≠ R) (h2 : ∀ k ∈ fp, k ≠ bt) (h3 : ∀ k ∈ fp, k ≠ bd) (h4 : ∀ k ∈ fp, w0.heap.size ≤ k) : AnaIs w0 w' R bt bd n m lg T F C :=
  { x with
    head := (hO.block R x.lt (fun h => h1 R h rfl)).trans x.head
    mt := x.mt.stay (hO.block bt x.mt.lt (fun h => h2 bt h rfl))
    md := x.md.stay (hO.block bd x.md.lt (fun h => h3 bd h rfl))
    below := x.below.trans (hO.below x.below.size h4) }
set_option maxHeartbeats 2000000 in
set_option maxRecDepth 100000 in
theorem analyze_gen (w : World) (lg : Sv) (S : An) (HPass : ∀ x1 R bt bd, AnaIs w x1 R bt bd 0 0 lg noTx noMap 0 → Calls Try.prog 20 #[.pointer (some ⟨R, 0, none⟩), .int .i64 0] x1 fun e w' => e = .returned (.tuple #[]) ∧ ∃ n' m', n' ≤ 200000 ∧ m' ≤ 200000 ∧ AnaIs w w' R bt bd n' m' lg S.T S.F S.C)
    (h12T : ∀ ss, ValsT S.T ss → ss.length ≤ 12) (h12F : ∀ ds, EntsD S.F ds → ds.length ≤ 12) :
    Calls Try.prog 9 #[.slice lg.a lg.n lg.c] w fun e w' => ∃ (at' : Option Addr) (ct : Nat) (ts : List Tx) (ad : Option Addr) (cd : Nat) (ds : List (Int × Int)), e = .returned (.tuple #[.slice at' ts.length ct, .slice ad ds.length cd, .int .i64 S.C]) ∧
      TxnsOf S.T ts ∧ TxsAt w' at' ts ∧ DirtOf S.F ds ∧ DirtsAt w' ad ds ∧ Below w.heap.size w w' := by
  have hmm := @run_makeMap Try.prog
  have HPASS := hide HPass
  have H12T := hide h12T
  have H12F := hide h12F
  have HG : Hid (∀ o : Obj, (((w.alloc (.map #[] 0)).alloc (.map #[] 0)).alloc o).heap[w.heap.size + 1 + 1]? = some o) := fun o => by
    have := World.alloc_heap_new ((w.alloc (.map #[] 0)).alloc (.map #[] 0)) o
    rwa [World.size_alloc, World.size_alloc] at this
  clear HPass h12T h12F
  go_enter Try.func9, Try.ntmps9
  go_upto_region 2 with (refine wpList_store_row (by rfl) 72 _ _ (by rfl) (w.heap.size + 1 + 1) #[.slice lg.a lg.n lg.c, .map (some w.heap.size), .map (some (w.heap.size + 1)), .int .i64 0, .nilFunc, .map none, .slice none 0 0, .slice none 0 0, .slice none 0 0] (by rfl) (by rfl) 72 _ (HG.out _) (by kernel_rfl) (by rfl) (by simp [Value.oneCell']) ?_)
  generalize hx1 : World.setRow _ _ _ = x1
  have X1 : AnaIs w x1 (w.heap.size + 1 + 1) w.heap.size (w.heap.size + 1) 0 0 lg noTx noMap 0 := {
    head := by rw [← hx1]; exact setRow_heap _ _ _ _ _ _ (HG.out _)
    mt := (MapT.made w).stay (by
      rw [← hx1]
      refine (setRow_other _ _ _ _ (by omega)).trans ?_
      refine (Below.heap_alloc _ _ _ (by simp; omega)).trans (Below.heap_alloc _ _ _ (by simp)))
    md := by
      have := (MapI.made (w.alloc (.map #[] 0)))
      rw [World.size_alloc] at this
      refine this.stay ?_
      rw [← hx1]
      refine (setRow_other _ _ _ _ (by omega)).trans ?_
      refine (Below.heap_alloc _ _ _ (by simp))
    below := by
      rw [← hx1]
      exact (((((Off.refl [] w).alloc _).alloc _).alloc _).setRow _ _ (.inr (by omega))).below (Nat.le_refl _) (by simp)
    r0 := by omega
    t0 := Nat.le_refl _
    d0 := by omega
    n1 := by omega
    n2 := by omega
    n3 := by omega }
  have HPA := hide (HPASS.out _ _ _ _ X1)
  clear hx1 X1 HG
  generalize hR0 : w.heap.size + 1 + 1 = R at *
  generalize hB0 : w.heap.size + 1 = bd at *
  generalize hD0 : w.heap.size = bt at *
  go_upto_region 3 with (go_at_call 20; refine HPA.out.mono ?_; rintro e x2 ⟨rfl, n2, m2, hn2, hm2, hX2⟩; have HX2 := hide hX2; clear hX2)
  have k2 := HX2.out.c2
  obtain ⟨D, hown, hf⟩ := HX2.out.md
  have HF := hide hf
  have hsz := World.ownsMap.size_le hown
  clear HPA hf
  obtain ⟨i0, hi, hz0, hz1, hz2⟩ := info_parts Try.info36
  go_wp2_with (first
    | (at_range; refine wpList_range_own _ rfl _ 68 rfl 3 3 keyedI Try.underlying68 _ bd m2 _ rfl hown ?_; intro x3 hrg0 hg0 hs0))
  clear hown
  go_frame
  go_loopw [3] (fun v wr => ∃ (left : Lit → Bool) (cnt : Nat) (ds : List (Int × Int)), wr.ranges Try.prog 3 (plainElem Try.prog 3) bd x2.heap.size m2 D left cnt ∧ ds.length + cnt ≤ Maps.size D ∧ CameD S.F left ds ∧ wr.ownsRow x2.heap.size 36 2 v ds.length (dirtRow ds) ∧ Below x2.heap.size x2 wr)
    (fun _ wr => wr.rangeLeft bd x2.heap.size)
  case atStart =>
    refine ⟨_, _, [], hrg0, by simp, ⟨by simp, by simp, fun k v hk hfk hl' => ?_⟩, ⟨rfl, .inl ⟨rfl, rfl⟩⟩, (Below.refl _ _).grown hg0 (Nat.le_refl _) (fun k e => by cases e)⟩
    have := (HF.out k hk).1
    rw [hfk] at this
    rw [this] at hl'
    exact absurd hl' (by simp)
  case round =>
    obtain ⟨left, cnt, ds, hrg, hcs, hC, hrow, hB⟩ := hrel
    obtain ⟨ao0, mm0, cc0, hv0⟩ := own_form (owns_zero hrow)
    have HC := hide hC
    have HB := hide hB
    go_wp2_with (first
      | (at_next; refine wpList_next_ranges_ii _ rfl _ rfl 3 3 .i64 .i64 keyedI Try.underlying3 Try.underlying3 bd x2.heap.size m2 _ _ _ rfl hrg ?_ ?_))
    · intro hc0 hl0
      have hE : EntsD S.F ds := ⟨hC.1, fun x hx => ⟨(hC.2.1 x hx).1, (hC.2.1 x hx).2.1⟩, fun k v hk hv => hC.2.2 k v hk hv (hl0 _)⟩
      have hsz0 := own_len' hrow
      obtain ⟨ao1, cc1, hv1⟩ := hsz0
      have hvq := hv0.symm.trans hv1
      injection hvq with q1 q2 q3
      subst q1; subst q2; subst q3
      subst hv0
      clear hv1
      have HS := hide (sort_all _ ds wr hrow (H12F.out ds hE) (fun x hx => ⟨(hE.2.1 x hx).1, (HX2.out.stayD hB).md.val (hE.2.1 x hx).1 (hE.2.1 x hx).2⟩))
      have HROW := hide hrow
      have HXr := hide (HX2.out.stayD hB)
      have HE := hide hE
      have HGB : Hid (∀ k, k ∈ (Value.slice ao0 ds.length cc0).ownBlock.toList → k ≠ R ∧ k ≠ bt ∧ k ≠ bd ∧ bt ≤ k) := fun k hk => by
        have h1 := (hrow.lt k (by simpa using hk)).1
        have h2 := HX2.out.lt
        have h3 := HX2.out.mt.lt
        have h4 := HX2.out.md.lt
        exact ⟨by omega, by omega, by omega, by omega⟩
      have HB2 := hide hB
      clear hrow hE hC hB HC HB hl0 hrg hcs hrg0 hg0 hs0 hc0 k2 HX2
      have hwle := HB2.out.size
      go_upto_region 9 with (first
        | (go_at_call 21; refine HS.out.mono ?_; rintro e x4 ⟨rfl, ao9, c9, d, hv9, hd, hp, hpw, hH, hO⟩
           injection hv9 with q1 q2 q3
           subst q1; subst q3
           clear q2
           have HX4 := hide (HXr.out.stayOs hO (fun k hk => (HGB.out k hk).1) (fun k hk => (HGB.out k hk).2.1) (fun k hk => (HGB.out k hk).2.2.1) (fun k hk => by rw [hD0]; exact (HGB.out k hk).2.2.2))
           have k1 := HX4.out.c1
           have hs4 := hO.size
           have HD4 := hide (And.intro hp (And.intro hd (And.intro hpw (And.intro hH hO))))
           clear hp hd hpw hH hO)
        | (go_at_call 25; refine (valuesT_any bt _).mono ?_; rintro e x5 ⟨rfl, hx5⟩
           have hB5 : Below x4.heap.size x4 x5 := by rw [hx5]; exact (Below.refl _ _).alloc (Nat.le_refl _) _
           have HX5 := hide (HX4.out.stayD hB5)
           have HST := hide (sortedT_all x4.heap.size bt n2 S.T x5 (by rw [hx5]; exact heap_alloc_new _ _) HX5.out.mt (by omega) H12T.out)
           have HB5 := hide hB5
           clear hx5 hB5)
        | (go_at_call 24; refine HST.out.mono ?_; rintro e x6 ⟨gt, ct, ts, rfl, hT1, hT2, hB6⟩
           have HX6 := hide (HX5.out.stayD hB6)
           have HT := hide (And.intro hT1 hT2)
           have HB6 := hide hB6
           clear hT1 hT2 hB6))
      have k3 := HX6.out.c3
      refine wp_region_held_drew (S := fun w' => w'.cell? ⟨R, 3, none⟩ = some (.int .i64 S.C)) (by kernel_rfl) k3 (fun hH => ?_)
      refine take_to 0 33 (.slice gt ts.length ct) rfl (by kernel_rfl) (by kernel_rfl) (by kernel_rfl) (fun _ _ _ h => h) rfl (by rfl) (fun w hw => by rfl) hH ?_
      simp only [Act.put, List.setIfInBounds_toArray, List.set_cons_zero, List.set_cons_succ]
      refine take_to 1 34 (.slice ao0 ds.length cc0) rfl (by kernel_rfl) (by kernel_rfl) (by kernel_rfl) (fun _ _ _ h => h) rfl (by rfl) (fun w hw => by rfl) hH ?_
      simp only [Act.put, List.setIfInBounds_toArray, List.set_cons_zero, List.set_cons_succ]
      refine take_to 2 35 (.pointer (some ⟨R, 3, none⟩)) rfl (by kernel_rfl) (by kernel_rfl) (by kernel_rfl) (fun _ _ _ h => h) rfl (by rfl) (fun w hw => by rfl) hH ?_
      simp only [Act.put, List.setIfInBounds_toArray, List.set_cons_zero, List.set_cons_succ]
      refine take_to 3 36 (.int .i64 S.C) rfl (by kernel_rfl) (by kernel_rfl) (by kernel_rfl) (fun _ _ _ h => h) rfl (by rfl) (fun w hw => op_load _ _ 3 (.tmp 35) rfl (.pointer (some ⟨R, 3, none⟩)) _ rfl (run_loadAny w R (3) 3 _ Try.isAgg3 hw)) hH ?_
      simp only [Act.put, List.setIfInBounds_toArray, List.set_cons_zero, List.set_cons_succ]
      refine take_to 4 2 (.slice gt ts.length ct) rfl (by kernel_rfl) (by kernel_rfl) (by kernel_rfl) (fun _ _ _ h => h) rfl (by rfl) (fun w hw => by rfl) hH ?_
      simp only [Act.put, List.setIfInBounds_toArray, List.set_cons_zero, List.set_cons_succ]
      refine take_to 5 3 (.slice ao0 ds.length cc0) rfl (by kernel_rfl) (by kernel_rfl) (by kernel_rfl) (fun _ _ _ h => h) rfl (by rfl) (fun w hw => by rfl) hH ?_
      simp only [Act.put, List.setIfInBounds_toArray, List.set_cons_zero, List.set_cons_succ]
      refine take_to 6 4 (.int .i64 S.C) rfl (by kernel_rfl) (by kernel_rfl) (by kernel_rfl) (fun _ _ _ h => h) rfl (by rfl) (fun w hw => by rfl) hH ?_
      simp only [Act.put, List.setIfInBounds_toArray, List.set_cons_zero, List.set_cons_succ]
      refine wpAnyH_done (by kernel_rfl) ?_ _
      clear hH
      go_wp2
      refine bodyPost_ret (results_tmp3 rfl _ _ _) rfl ?_
      obtain ⟨hp, hd, hpw, hH4, hO4⟩ := HD4.out
      have hEd : EntsD S.F d := HE.out.perm hp
      have hB46 : Below x4.heap.size x4 x6.drew := (HB5.out.trans (HB6.out.mono HB5.out.size)).trans (below_drewN _ _ 1)
      refine ⟨gt, ct, ts, ao0, cc0, d, by rw [hd]; rfl, HT.out.1, HT.out.2.below (below_drewN _ _ 1), ⟨hEd, hpw⟩, ?_, ?_⟩
      · refine ⟨hH4.1, fun i x hx => ?_⟩
        obtain ⟨h1, h2, b, o, h3, h4, h5⟩ := hH4.2 i x hx
        exact ⟨h1, h2, b, o, h3, Nat.lt_of_lt_of_le h4 hB46.size, fun j v hv => (hB46.cell (p := ⟨b, o + i * 2 + j, none⟩) h4).trans (h5 j v hv)⟩
      · exact hD0 ▸ (HX6.out.below.trans (below_drewN _ _ 1))
    · intro p l x4 cnt2 hwp hwl hlk hat hrg2 hlt hg2 hs2 hen
      have hp64 : In64 p := in64 hwp
      have hl64 : In64 l := in64 hwl
      have hfp : S.F p = some l := by
        obtain ⟨a1, a2, a3⟩ := HF.out p hp64
        rw [hat] at a2
        have a4 : l = (S.F p).getD 0 := (Lit.int.inj (DataW.lit.inj a2)).2
        rw [has_true_of_atKey hat] at a1
        cases hfx : S.F p with
        | none => rw [hfx] at a1; exact absurd a1 (by simp)
        | some y => rw [hfx] at a4; exact congrArg some a4.symm
      obtain ⟨o0, ho0, hw0⟩ := hrg.iter_walk
      have hrow4 := hrow.kept hg2 (ownsRow_ne_a hrow ho0 (fun cur e => by rw [e] at hw0; cases hw0))
      have hB4 : Below x2.heap.size x2 x4 := hB.grown hg2 hB.size (fun k e => by cases e; exact Nat.le_refl _)
      have HFP := hide (And.intro hp64 (And.intro hl64 hfp))
      clear hs2 hwp hwl hat hp64 hl64 hfp ho0 hw0 hB hrow
      subst hv0
      go_wp2_with (refine wpList_append_own _ (by rfl) _ _ 26 (by rfl) x2.heap.size 36 i0 (.agg (encD (0, 0)).toArray) 2 16 Try.underlying26 hi hz0 hz1 hz2 rfl (by decide) _ _ _ (by rfl) (hrow4.alloc _) ⟨x4.heap.size, 0, none⟩ 1 1 (encD (p, l)) (by rfl) (by rfl) (src_of_block (heap_alloc_new _ _)) (by simp [encD, Value.oneCell']) (by simp only [maxLen]; omega) (by omega) (by have := hB4.size; simp; omega) ?_; intro v' x6 hown' hg6 hnil6; go_frame)
      have hkw : KeepsWalks x4 x6 := (KeepsWalks.alloc _ _).trans (KeepsWalks.of_grownBy hg6 (ownsRow_not_walk_a (hrow4.alloc _)))
      have hrg6 := hrg2.of_walks hkw
      obtain ⟨hp64, hl64, hfp⟩ := HFP.out
      refine ⟨⟨_, cnt2, ds ++ [(p, l)], hrg6, by simp; omega, ⟨?_, ?_, ?_⟩, ?_, ?_⟩, ?_⟩
      · rw [List.map_append]
        refine List.nodup_append.2 ⟨HC.out.1, by simp, fun a ha b hb => ?_⟩
        simp at hb; subst hb
        intro e; subst e
        obtain ⟨y, hy, hye⟩ := List.mem_map.1 ha
        have := (HC.out.2.1 y hy).2.2
        rw [hye, hlk] at this; cases this
      · intro x hx
        rcases List.mem_append.1 hx with h | h
        · obtain ⟨b1, b2, b3⟩ := HC.out.2.1 x h
          exact ⟨b1, b2, by simp [b3]⟩
        · simp at h; subst h; exact ⟨hp64, hfp, by simp [Lit.sameKey]⟩
      · intro k v hk hv hl'
        by_cases e : k = p
        · subst e
          rw [hfp] at hv
          injection hv with hv
          subst hv; simp
        · exact List.mem_append.2 (.inl (HC.out.2.2 k v hk hv (by simpa [e, Lit.sameKey] using hl')))
      · have e1 : (ds ++ [(p, l)]).length = ds.length + 1 := by simp
        have e2 : dirtRow (ds ++ [(p, l)]) = dirtRow ds ++ encD (p, l) := by simp [dirtRow]
        rw [e1, e2]
        exact hown'
      · exact (hB4.alloc hB4.size _).grown hg6 (by have := hB4.size; simp; omega) (fun k e => (hrow4.lt k e).1)
      · rw [hrg6.left_eq, hrg.left_eq]; exact hlt
end Go.Proofs.Ytpjppolbkdnkaaa
