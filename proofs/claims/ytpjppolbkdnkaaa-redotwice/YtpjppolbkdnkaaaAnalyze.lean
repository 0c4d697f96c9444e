/- Analyze, where there is a transaction and a dirty page. -/
import Derived.Test.YtpjppolbkdnkaaaSortedT
import Derived.Test.YtpjppolbkdnkaaaLsns
import Derived.Maps.RangeWalk
namespace Go.Proofs.Ytpjppolbkdnkaaa
open Go.RowKit Go.Maps
set_option linter.unusedVariables false
set_option linter.unusedSimpArgs false

def CameD (f : Int → Option Int) (left : Lit → Bool) (ds : List (Int × Int)) : Prop :=
  (ds.map Prod.fst).Nodup ∧ (∀ x ∈ ds, In64 x.1 ∧ f x.1 = some x.2 ∧ left (.int .i64 x.1) = false) ∧ (∀ k v, In64 k → f k = some v → left (.int .i64 k) = false → (k, v) ∈ ds)
/-- The map's entries, each once. -/
def EntsD (f : Int → Option Int) (ds : List (Int × Int)) : Prop :=
  (ds.map Prod.fst).Nodup ∧ (∀ x ∈ ds, In64 x.1 ∧ f x.1 = some x.2) ∧ (∀ k v, In64 k → f k = some v → (k, v) ∈ ds)
def DirtOf (f : Int → Option Int) (d : List (Int × Int)) : Prop := EntsD f d ∧ d.Pairwise (fun x y => x.1 ≤ y.1)
theorem EntsD.perm {f : Int → Option Int} {d e : List (Int × Int)} (h : EntsD f d) (hp : e.Perm d) : EntsD f e :=
  ⟨(hp.map Prod.fst).nodup_iff.2 h.1, fun x hx => h.2.1 x (hp.mem_iff.1 hx), fun k v hk hv => hp.mem_iff.2 (h.2.2 k v hk hv)⟩
theorem Try.info36 : (Try.prog.info? 36).map (fun i => (i.zero, i.size, i.bytes)) = some (some (.agg (encD (0, 0)).toArray), 2, 16) := by kernel_rfl
def noTx : Int → Option Tx := fun _ => none
def anaOf (L : List Ln) : An := learnN ⟨noTx, noMap, 0⟩ L

set_option maxHeartbeats 2000000 in
set_option maxRecDepth 100000 in
theorem analyze_any (w : World) (lg : Sv) (L : List Ln) (hL : LogAt w lg L) (hk7 : ∀ x ∈ L, x.kind ≠ 7) (hl : L.length ≤ 100000)
    (hneT : ∃ k, In64 k ∧ ((anaOf L).T k).isSome = true) (hneF : ∃ k v, In64 k ∧ (anaOf L).F k = some v) (h12T : ∀ ss, ValsT (anaOf L).T ss → ss.length ≤ 12) (h12F : ∀ ds, EntsD (anaOf L).F ds → ds.length ≤ 12) :
    Calls Try.prog 9 #[.slice lg.a lg.n lg.c] w fun e w' => ∃ (gt ct : Nat) (ts : List Tx) (gd cd : Nat) (ds : List (Int × Int)), e = .returned (.tuple #[.slice (some ⟨gt, 0, none⟩) ts.length ct, .slice (some ⟨gd, 0, none⟩) ds.length cd, .int .i64 (anaOf L).C]) ∧
      TxnsOf (anaOf L).T ts ∧ TxsAt w' (some ⟨gt, 0, none⟩) ts ∧ DirtOf (anaOf L).F ds ∧ DirtsAt w' (some ⟨gd, 0, none⟩) ds ∧ gd < w'.heap.size ∧ Below w.heap.size w w' := by
  have hmm := @run_makeMap Try.prog
  have HL := hide hL
  have HK7 := hide hk7
  have HNT := hide hneT
  have HNF := hide hneF
  have H12T := hide h12T
  have H12F := hide h12F
  have HG : Hid (∀ o : Obj, (((w.alloc (.map #[] 0)).alloc (.map #[] 0)).alloc o).heap[w.heap.size + 1 + 1]? = some o) := fun o => by
    have := World.alloc_heap_new ((w.alloc (.map #[] 0)).alloc (.map #[] 0)) o
    rwa [World.size_alloc, World.size_alloc] at this
  clear hL hk7 hneT hneF h12T h12F
  go_enter Try.func9, Try.ntmps9
  go_upto_region 2 with (refine wpList_store_row (by rfl) 72 _ _ (by rfl) (w.heap.size + 1 + 1) #[.slice lg.a lg.n lg.c, .map (some w.heap.size), .map (some (w.heap.size + 1)), .int .i64 0, .nilFunc, .map none, .slice none 0 0, .slice none 0 0, .slice none 0 0] (by rfl) (by rfl) 72 _ (HG.out _) (by kernel_rfl) (by rfl) (by simp [Value.oneCell']) ?_)
  generalize hx1 : World.setRow _ _ _ = x1
  have X1 : AnaIs w x1 (w.heap.size + 1 + 1) w.heap.size (w.heap.size + 1) 0 0 lg noTx noMap 0 := {
    head := by rw [← hx1]; exact setRow_heap _ _ _ _ _ _ (HG.out _)
    mt := (MapT.made w).stay (by
      rw [← hx1]
      refine (setRow_other _ _ _ _ (by omega)).trans ?_
      refine (Below.heap_alloc _ _ _ (by simp; omega)).trans (Below.heap_alloc _ _ _ (by simp)))
    md := by
      have := (MapI.made (w.alloc (.map #[] 0)))
      rw [World.size_alloc] at this
      refine this.stay ?_
      rw [← hx1]
      refine (setRow_other _ _ _ _ (by omega)).trans ?_
      refine (Below.heap_alloc _ _ _ (by simp))
    below := by
      rw [← hx1]
      exact (((((Off.refl [] w).alloc _).alloc _).alloc _).setRow _ _ (.inr (by omega))).below (Nat.le_refl _) (by simp)
    r0 := by omega
    t0 := Nat.le_refl _
    d0 := by omega
    n1 := by omega
    n2 := by omega
    n3 := by omega }
  have HPA := hide (passA_any X1 L HL.out.n HL.out.lines HK7.out (by omega) (by omega) ⟨by omega, by omega⟩)
  clear hx1 X1 HG
  generalize hR0 : w.heap.size + 1 + 1 = R at *
  generalize hB0 : w.heap.size + 1 = bd at *
  generalize hD0 : w.heap.size = bt at *
  go_upto_region 3 with (go_at_call 20; refine HPA.out.mono ?_; rintro e x2 ⟨rfl, n2, m2, hn2, hm2, hX2⟩; have HX2 := hide hX2; clear hX2)
  have k2 := HX2.out.c2
  obtain ⟨D, hown, hf⟩ := HX2.out.md
  have HF := hide hf
  have hsz := World.ownsMap.size_le hown
  clear HPA hf
  obtain ⟨i0, hi, hz0, hz1, hz2⟩ := info_parts Try.info36
  go_wp2_with (first
    | (at_range; refine wpList_range_own _ rfl _ 68 rfl 3 3 keyedI Try.underlying68 _ bd m2 _ rfl hown ?_; intro x3 hrg0 hg0 hs0))
  obtain ⟨S, hS⟩ : ∃ S, learnN ⟨noTx, noMap, 0⟩ L = S := ⟨_, rfl⟩
  have hSa : anaOf L = S := hS
  rw [hS] at HX2 HF
  have HSA := hide hSa
  rw [hSa] at HNT HNF H12T H12F
  clear hS hSa hown
  go_frame
  go_loopw [3] (fun v wr => ∃ (left : Lit → Bool) (cnt : Nat) (ds : List (Int × Int)), wr.ranges Try.prog 3 (plainElem Try.prog 3) bd x2.heap.size m2 D left cnt ∧ ds.length + cnt ≤ Maps.size D ∧ CameD S.F left ds ∧ wr.ownsRow x2.heap.size 36 2 v ds.length (dirtRow ds) ∧ Below x2.heap.size x2 wr)
    (fun _ wr => wr.rangeLeft bd x2.heap.size)
  case atStart =>
    refine ⟨_, _, [], hrg0, by simp, ⟨by simp, by simp, fun k v hk hfk hl' => ?_⟩, ⟨rfl, .inl ⟨rfl, rfl⟩⟩, (Below.refl _ _).grown hg0 (Nat.le_refl _) (fun k e => by cases e)⟩
    have := (HF.out k hk).1
    rw [hfk] at this
    rw [this] at hl'
    exact absurd hl' (by simp)
  case round =>
    obtain ⟨left, cnt, ds, hrg, hcs, hC, hrow, hB⟩ := hrel
    obtain ⟨ao0, mm0, cc0, hv0⟩ := own_form (owns_zero hrow)
    have HC := hide hC
    have HB := hide hB
    go_wp2_with (first
      | (at_next; refine wpList_next_ranges_ii _ rfl _ rfl 3 3 .i64 .i64 keyedI Try.underlying3 Try.underlying3 bd x2.heap.size m2 _ _ _ rfl hrg ?_ ?_))
    · intro hc0 hl0
      have hE : EntsD S.F ds := ⟨hC.1, fun x hx => ⟨(hC.2.1 x hx).1, (hC.2.1 x hx).2.1⟩, fun k v hk hv => hC.2.2 k v hk hv (hl0 _)⟩
      have hne : ds.length ≠ 0 := by
        obtain ⟨k, v, hk, hv⟩ := HNF.out
        have := hE.2.2 k v hk hv
        intro e
        rw [List.length_eq_zero_iff.1 e] at this
        cases this
      obtain ⟨g, cap, cur, hvv, hbase, hg, hr1, hr2, hr3, hr4⟩ := own_some hrow hne
      have hvq := hv0.symm.trans hvv
      injection hvq with q1 q2 q3
      subst q1; subst q2; subst q3
      clear hv0 hvv
      have hlt : g < wr.heap.size := (Array.getElem?_eq_some_iff.1 hg).1
      have HS := hide (sort_any g cc0 ds.toArray wr (holdsD_of_owns hg hr4) hlt (by simpa using H12F.out ds hE))
      have hsz2 : ds.toArray.size = ds.length := by simp
      rw [hsz2] at HS
      have HXr := hide (HX2.out.stayD hB)
      have HE := hide hE
      have hgR : g ≠ R := by have := HX2.out.lt; omega
      have hgt : g ≠ bt := by have := HX2.out.mt.lt; omega
      have hgd : g ≠ bd := by have := HX2.out.md.lt; omega
      have hg0' : bt ≤ g := by have := HX2.out.mt.lt; omega
      have HB2 := hide hB
      clear hrow hr4 hg hE hC hB HC HB hl0 hrg hcs hrg0 hg0 hs0 hc0 k2 HX2
      have hwle := HB2.out.size
      go_upto_region 9 with (first
        | (go_at_call 21; refine HS.out.mono ?_; rintro e x4 ⟨rfl, d, hp, hd, hpw, hH, hO⟩
           have HX4 := hide (HXr.out.stayO hO hgR hgt hgd (by rw [hD0]; exact hg0'))
           have k1 := HX4.out.c1
           have hs4 := hO.size
           have HD4 := hide (And.intro hp (And.intro hd (And.intro hpw (And.intro hH hO))))
           clear hp hd hpw hH hO)
        | (go_at_call 25; refine (valuesT_any bt _).mono ?_; rintro e x5 ⟨rfl, hx5⟩
           have hB5 : Below x4.heap.size x4 x5 := by rw [hx5]; exact (Below.refl _ _).alloc (Nat.le_refl _) _
           have HX5 := hide (HX4.out.stayD hB5)
           have HST := hide (sortedT_any x4.heap.size bt n2 S.T x5 (by rw [hx5]; exact heap_alloc_new _ _) HX5.out.mt (by omega) HNT.out H12T.out)
           have HB5 := hide hB5
           clear hx5 hB5)
        | (go_at_call 24; refine HST.out.mono ?_; rintro e x6 ⟨gt, ct, ts, rfl, hct, hT1, hT2, hB6⟩
           have HX6 := hide (HX5.out.stayD hB6)
           have HT := hide (And.intro hT1 hT2)
           have HB6 := hide hB6
           clear hT1 hT2 hB6))
      have k3 := HX6.out.c3
      refine wp_region_held_drew (S := fun w' => w'.cell? ⟨R, 3, none⟩ = some (.int .i64 S.C)) (by kernel_rfl) k3 (fun hH => ?_)
      refine take_to 0 33 (.slice (some ⟨gt, 0, none⟩) ts.length ct) rfl (by kernel_rfl) (by kernel_rfl) (by kernel_rfl) (fun _ _ _ h => h) rfl (by rfl) (fun w hw => by rfl) hH ?_
      simp only [Act.put, List.setIfInBounds_toArray, List.set_cons_zero, List.set_cons_succ]
      refine take_to 1 34 (.slice (some ⟨g, 0, none⟩) ds.length cc0) rfl (by kernel_rfl) (by kernel_rfl) (by kernel_rfl) (fun _ _ _ h => h) rfl (by rfl) (fun w hw => by rfl) hH ?_
      simp only [Act.put, List.setIfInBounds_toArray, List.set_cons_zero, List.set_cons_succ]
      refine take_to 2 35 (.pointer (some ⟨R, 3, none⟩)) rfl (by kernel_rfl) (by kernel_rfl) (by kernel_rfl) (fun _ _ _ h => h) rfl (by rfl) (fun w hw => by rfl) hH ?_
      simp only [Act.put, List.setIfInBounds_toArray, List.set_cons_zero, List.set_cons_succ]
      refine take_to 3 36 (.int .i64 S.C) rfl (by kernel_rfl) (by kernel_rfl) (by kernel_rfl) (fun _ _ _ h => h) rfl (by rfl) (fun w hw => op_load _ _ 3 (.tmp 35) rfl (.pointer (some ⟨R, 3, none⟩)) _ rfl (run_loadAny w R (3) 3 _ Try.isAgg3 hw)) hH ?_
      simp only [Act.put, List.setIfInBounds_toArray, List.set_cons_zero, List.set_cons_succ]
      refine take_to 4 2 (.slice (some ⟨gt, 0, none⟩) ts.length ct) rfl (by kernel_rfl) (by kernel_rfl) (by kernel_rfl) (fun _ _ _ h => h) rfl (by rfl) (fun w hw => by rfl) hH ?_
      simp only [Act.put, List.setIfInBounds_toArray, List.set_cons_zero, List.set_cons_succ]
      refine take_to 5 3 (.slice (some ⟨g, 0, none⟩) ds.length cc0) rfl (by kernel_rfl) (by kernel_rfl) (by kernel_rfl) (fun _ _ _ h => h) rfl (by rfl) (fun w hw => by rfl) hH ?_
      simp only [Act.put, List.setIfInBounds_toArray, List.set_cons_zero, List.set_cons_succ]
      refine take_to 6 4 (.int .i64 S.C) rfl (by kernel_rfl) (by kernel_rfl) (by kernel_rfl) (fun _ _ _ h => h) rfl (by rfl) (fun w hw => by rfl) hH ?_
      simp only [Act.put, List.setIfInBounds_toArray, List.set_cons_zero, List.set_cons_succ]
      refine wpAnyH_done (by kernel_rfl) ?_ _
      clear hH
      go_wp2
      refine bodyPost_ret (results_tmp3 rfl _ _ _) rfl ?_
      obtain ⟨hp, hd, hpw, hH4, hO4⟩ := HD4.out
      have hlen : ds.length = d.toList.length := (hsz2.symm.trans hd.symm).trans Array.length_toList.symm
      have hEd : EntsD S.F d.toList := HE.out.perm (by simpa using hp)
      have hB46 : Below x4.heap.size x4 x6.drew := (HB5.out.trans (HB6.out.mono HB5.out.size)).trans (below_drewN _ _ 1)
      have hg4 : g < x4.heap.size := Nat.lt_of_lt_of_le hlt hO4.size
      have hdir : DirtsAt x4 (some ⟨g, 0, none⟩) d.toList := dirts_of_holds (by have := H12F.out _ hEd; rw [Array.length_toList] at this; omega) (fun x hx => ⟨(hEd.2.1 x hx).1, HX4.out.md.val (hEd.2.1 x hx).1 (hEd.2.1 x hx).2⟩) hg4 hH4
      refine ⟨gt, ct, ts, g, cc0, d.toList, by rw [← hlen, HSA.out]; rfl, by rw [HSA.out]; exact HT.out.1, HT.out.2.below (below_drewN _ _ 1), by rw [HSA.out]; exact ⟨hEd, hpw⟩, ?_, Nat.lt_of_lt_of_le hg4 hB46.size, ?_⟩
      · refine ⟨hdir.1, fun i x hx => ?_⟩
        obtain ⟨h1, h2, b, o, h3, h4, h5⟩ := hdir.2 i x hx
        exact ⟨h1, h2, b, o, h3, Nat.lt_of_lt_of_le h4 hB46.size, fun j v hv => (hB46.cell (p := ⟨b, o + i * 2 + j, none⟩) h4).trans (h5 j v hv)⟩
      · exact hD0 ▸ (HX6.out.below.trans (below_drewN _ _ 1))
    · intro p l x4 cnt2 hwp hwl hlk hat hrg2 hlt hg2 hs2 hen
      have hp64 : In64 p := in64 hwp
      have hl64 : In64 l := in64 hwl
      have hfp : S.F p = some l := by
        obtain ⟨a1, a2, a3⟩ := HF.out p hp64
        rw [hat] at a2
        have a4 : l = (S.F p).getD 0 := (Lit.int.inj (DataW.lit.inj a2)).2
        rw [has_true_of_atKey hat] at a1
        cases hfx : S.F p with
        | none => rw [hfx] at a1; exact absurd a1 (by simp)
        | some y => rw [hfx] at a4; exact congrArg some a4.symm
      obtain ⟨o0, ho0, hw0⟩ := hrg.iter_walk
      have hrow4 := hrow.kept hg2 (ownsRow_ne_a hrow ho0 (fun cur e => by rw [e] at hw0; cases hw0))
      have hB4 : Below x2.heap.size x2 x4 := hB.grown hg2 hB.size (fun k e => by cases e; exact Nat.le_refl _)
      have HFP := hide (And.intro hp64 (And.intro hl64 hfp))
      clear hs2 hwp hwl hat hp64 hl64 hfp ho0 hw0 hB hrow
      subst hv0
      go_wp2_with (refine wpList_append_own _ (by rfl) _ _ 26 (by rfl) x2.heap.size 36 i0 (.agg (encD (0, 0)).toArray) 2 16 Try.underlying26 hi hz0 hz1 hz2 rfl (by decide) _ _ _ (by rfl) (hrow4.alloc _) ⟨x4.heap.size, 0, none⟩ 1 1 (encD (p, l)) (by rfl) (by rfl) (src_of_block (heap_alloc_new _ _)) (by simp [encD, Value.oneCell']) (by simp only [maxLen]; omega) (by omega) (by have := hB4.size; simp; omega) ?_; intro v' x6 hown' hg6 hnil6; go_frame)
      have hkw : KeepsWalks x4 x6 := (KeepsWalks.alloc _ _).trans (KeepsWalks.of_grownBy hg6 (ownsRow_not_walk_a (hrow4.alloc _)))
      have hrg6 := hrg2.of_walks hkw
      obtain ⟨hp64, hl64, hfp⟩ := HFP.out
      refine ⟨⟨_, cnt2, ds ++ [(p, l)], hrg6, by simp; omega, ⟨?_, ?_, ?_⟩, ?_, ?_⟩, ?_⟩
      · rw [List.map_append]
        refine List.nodup_append.2 ⟨HC.out.1, by simp, fun a ha b hb => ?_⟩
        simp at hb; subst hb
        intro e; subst e
        obtain ⟨y, hy, hye⟩ := List.mem_map.1 ha
        have := (HC.out.2.1 y hy).2.2
        rw [hye, hlk] at this; cases this
      · intro x hx
        rcases List.mem_append.1 hx with h | h
        · obtain ⟨b1, b2, b3⟩ := HC.out.2.1 x h
          exact ⟨b1, b2, by simp [b3]⟩
        · simp at h; subst h; exact ⟨hp64, hfp, by simp [Lit.sameKey]⟩
      · intro k v hk hv hl'
        by_cases e : k = p
        · subst e
          rw [hfp] at hv
          injection hv with hv
          subst hv; simp
        · exact List.mem_append.2 (.inl (HC.out.2.2 k v hk hv (by simpa [e, Lit.sameKey] using hl')))
      · have e1 : (ds ++ [(p, l)]).length = ds.length + 1 := by simp
        have e2 : dirtRow (ds ++ [(p, l)]) = dirtRow ds ++ encD (p, l) := by simp [dirtRow]
        rw [e1, e2]
        exact hown'
      · exact (hB4.alloc hB4.size _).grown hg6 (by have := hB4.size; simp; omega) (fun k e => (hrow4.lt k e).1)
      · rw [hrg6.left_eq, hrg.left_eq]; exact hlt
end Go.Proofs.Ytpjppolbkdnkaaa
