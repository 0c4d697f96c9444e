/- A part of it: SStA. -/
import Derived.Test.YteeembildppgmaaGreatM0
import Derived.Test.YteeembildppgmaaGreatM35
import Derived.Test.YteeembildppgmaaGreatM36
namespace Go.Proofs.YteeembildppgmaaGreat
open Go.RowKit
set_option linter.unusedVariables false
set_option linter.unusedSimpArgs false
theorem Tryz.enters52 (args : Array Value) (w : World) : (callFunc 52 args).run Tryz.prog w = .ok (.enter 52 args) w := by kernel_rfl
theorem Tryz.size142n : (Tryz.prog.info? 142).map (·.size) = some 2 := by kernel_rfl
theorem evict_log (c : Cf) (P : Pl (Rg × List (List UInt8))) (q : Nat) (h : P.fo.1.fin = P.fo.1.tail) : (cEvict c P q).2.fo.1 = P.fo.1 := by
 have hw : ∀ f, (cWrote c P f).2.fo.1 = P.fo.1 := fun f => by
  unfold cWrote Pl.wrote
  split
  · simp only [ne_eq, not_true_eq_false, if_false]
    show (if (P.fo.1.fin : Int) < f.lsn then ({ P.fo.1 with fin := P.fo.1.tail }, P.fo.2) else P.fo).1 = P.fo.1
    split
    · show { P.fo.1 with fin := P.fo.1.tail } = P.fo.1
      rw [← h]
    · rfl
  · rfl
 unfold cEvict Pl.evict
 split
 · rfl
 · split
   · exact hw _
   · exact hw _
section
variable {w0 w w' : World} {s : Nat} {c : Cf} {xs tb : List Nat} {ov : Value} {ps : List Nat} {uvs : List Value} {S0 : St} {V : Nat → List UInt8}
theorem commitsAhead_all (h : StIs w0 w s c xs tb ov ps uvs S0) (rs : List Enc.Rc) (hrs : S0.R.held = encs rs) (hgd : ∀ R ∈ rs, R.good) (st : Int) (hno : ∀ (j : Nat) (R : Enc.Rc), rs[j]? = some R → st < ((S0.R.start + (encs (rs.take j)).length + 1 : Nat) : Int) → R.kind ≠ 4) :
 Calls Tryz.prog 112 #[.pointer (some ⟨s, 0, none⟩), .int .i64 st] w fun e w' => e = .returned (.int .i64 (S0.commits : Int)) ∧ Below w.heap.size w w' := by
 cases rs with
 | nil => exact commitsAhead_none h (by rw [hrs]; rfl) st
 | cons R r => exact commitsAhead_ok h (R :: r) hrs hgd (by simp) st hno
set_option maxHeartbeats 4000000 in
set_option maxRecDepth 100000 in
theorem startAt_gen (h : StIs w0 w s c xs tb ov ps uvs S0) (I : Pl (Rg × List (List UInt8)) → Prop) (hI : I S0.pool) (hdl : (dirtL S0.pool.fs).length ≤ 12)
 (hev : ∀ x ∈ dirtL S0.pool.fs, ∀ pl : Pl (Rg × List (List UInt8)), I pl → pl.fo.1 = S0.R → pl.wr ≤ S0.pool.wr + 12 → pl.sound c.n ∧ pl.wr ≤ 1000000 ∧ (Pl.evict (Φ := c.bk) pl x.1).1 = 0 ∧ I (Pl.evict (Φ := c.bk) pl x.1).2 ∧ (Pl.evict (Φ := c.bk) pl x.1).2.fo.1 = S0.R ∧ (Pl.evict (Φ := c.bk) pl x.1).2.wr ≤ pl.wr + 1 ∧ (Pl.evict (Φ := c.bk) pl x.1).2.fs.length = pl.fs.length)
 (rs : List Enc.Rc) (hrs : S0.R.held = encs rs) (hgd : ∀ R ∈ rs, R.good) (st : Nat)
 (hno : ∀ (j : Nat) (R : Enc.Rc), rs[j]? = some R → (st : Int) < ((S0.R.start + (encs (rs.take j)).length + 1 : Nat) : Int) → R.kind ≠ 4) (h1 : S0.R.start ≤ st) (h2 : st ≤ S0.R.fin) (h3 : st ≤ 2199023255552) (hm : S0.master < 2199023255552) (hc : S0.commits < 4611686018427387904) (hn : S0.next < 4611686018427387904) :
 Calls Tryz.prog 81 #[.pointer (some ⟨s, 0, none⟩), .int .i64 (st : Int)] w fun e w' => e = .returned (.int .i64 0) ∧ ∃ pl, I pl ∧ pl.fo.1 = S0.R ∧ pl.wr ≤ S0.pool.wr + 12 ∧ pl.fs.length = S0.pool.fs.length ∧
  StIs w0 w' s c xs tb ov ps uvs { ({ S0 with pool := pl } : St).setR { S0.R with start := st, held := S0.R.held.drop (st - S0.R.start) } with master := S0.master + 1 } ∧ Kept (tb ++ xs) w w' := by
 obtain ⟨M, hM⟩ : ∃ M, M = S0.master + 1 := ⟨_, rfl⟩
 have HM0M := hide hM
 clear hM
 obtain ⟨bl, vs, gp, D, hP, hB⟩ := h.asRing
 have HD := hide (dirty_new hP hdl)
 have HEVT := hide hev
 have H0 := hide (And.intro h1 (And.intro h2 (And.intro h3 (And.intro hm (And.intro hc hn)))))
 have HI0 := hide hI
 have HDL := hide hdl
 have HRS0 := hide hrs
 have HGD := hide hgd
 have HNO0 := hide hno
 have c2 := h.c2
 have H := hide h
 clear h hP hB hI hev hdl hrs hgd hno h1 h2 h3 hm hc hn
 go_enter Tryz.func81, Tryz.ntmps81
 go_wp2_with (go_at_call 89; refine HD.out.mono ?_; rintro e W0 ⟨ao, cc, d, rfl, ⟨hc1, hc2, hnew⟩, hDA, hp, _, hB1⟩; have HDA := hide hDA; have HPM := hide hp; have HB0 := hide hB1; have HNW := hide hnew; clear hDA hp hB1 hc1 hc2 hnew)
 obtain ⟨ys, hys⟩ : ∃ ys, ys = (Value.slice ao d.length cc).ownBlock.toList ++ xs := ⟨_, rfl⟩
 have HY0 : Hid (StIs w0 W0 s c ys tb ov ps uvs S0) := H.out.mindNew HB0.out (fun k hk => by
  rw [hys] at hk
  simp only [List.mem_append, Option.mem_toList] at hk
  rcases hk with hk | hk
  · exact .inr (HNW.out k hk)
  · exact .inl hk)
 have HYX : Hid (∀ k ∈ xs, k ∈ ys) := fun k hk => by rw [hys]; simp [hk]
 have HYB : Hid (∀ k, (Value.slice ao d.length cc).ownBlock = some k → k ∈ ys) := fun k hk => by rw [hys]; simp [hk]
 have hdl12 : d.length ≤ 12 := by rw [HPM.out.length_eq]; exact HDL.out
 clear hys
 go_loopw [17] (fun i wr => ∃ k : Nat, ∃ pl : Pl (Rg × List (List UInt8)), k ≤ d.length ∧ i = .int .i64 (k : Int) ∧ Hid (StIs w0 wr s c ys tb ov ps uvs { S0 with pool := pl } ∧ I pl ∧ pl.fo.1 = S0.R ∧ pl.wr ≤ S0.pool.wr + k ∧ pl.fs.length = S0.pool.fs.length) ∧ Hid (Kept (s :: (tb ++ ys)) W0 wr)) (fun i _ => d.length - (intOf i).toNat)
 case atStart => exact ⟨0, S0.pool, Nat.zero_le _, rfl, ⟨HY0.out, HI0.out, rfl, Nat.le_refl _, rfl⟩, ⟨Nat.le_refl _, fun _ _ => rfl⟩⟩
 case round =>
  obtain ⟨k, pl, hk, rfl, HPL, HKW⟩ := hrel
  by_cases hkl : k < d.length
  · obtain ⟨x, hx⟩ : ∃ x, d[k]? = some x := ⟨_, List.getElem?_eq_getElem hkl⟩
    have hxm := HPM.out.mem_iff.1 (List.mem_of_getElem? hx)
    obtain ⟨hsd, hw6, he0, hI2, hR2, hw2, hl2⟩ := HEVT.out x hxm pl HPL.out.2.1 HPL.out.2.2.1 (by have := HPL.out.2.2.2.1; omega)
    obtain ⟨q, hq⟩ : ∃ q : Int, x.1 = q := ⟨_, rfl⟩
    rw [hq] at he0 hI2 hR2 hw2 hl2
    have HE0 : Hid ((Pl.evict (Φ := c.bk) pl q).1 = 0) := he0
    have HST := hide (And.intro hI2 (And.intro hR2 (And.intro hw2 hl2)))
    have HSD := hide (And.intro hsd hw6)
    clear hsd hw6 he0 hI2 hR2 hw2 hl2 hxm
    obtain ⟨ao', cc', e1, hcl⟩ := HDA.out
    obtain ⟨gd, e2, d1, d2⟩ := hcl k x hx
    obtain ⟨rfl, -, rfl⟩ : ao = ao' ∧ d.length = d.length ∧ cc = cc' := by simpa using e1
    subst e2
    rw [hq] at d1
    have hgd' : gd ∈ s :: (tb ++ ys) := by simp only [List.mem_cons, List.mem_append]; exact .inr (.inr (HYB.out gd (by simp [Value.ownBlock])))
    have HRG : Hid (wr.rangeAt gd (k * 2) [.int .i64 (q : Int), .int .i64 x.2]) := fun j u hu => by
     have hb := HKW.out.2 gd hgd'
     match j, hu with
     | 0, hu => simp at hu; subst hu; exact (World.cell?_of_block (a := ⟨gd, k * 2, none⟩) hb).trans d1
     | 1, hu => simp at hu; subst hu; exact (World.cell?_of_block (a := ⟨gd, k * 2 + 1, none⟩) hb).trans d2
     | j + 2, hu => simp at hu
    have c2r := HPL.out.1.c2
    clear d1 d2 hcl e1 hx hq hgd'
    generalize x.2 = l2 at HRG
    obtain ⟨X, hX⟩ : ∃ X, wr.heap.size = X := ⟨_, rfl⟩
    have hbx : Below wr.heap.size wr (wr.alloc (.cells #[.int .i64 (q : Int), .int .i64 l2] 142)) := (Below.refl _ wr).alloc (Nat.le_refl _) _
    have hnx : (wr.alloc (.cells #[.int .i64 (q : Int), .int .i64 l2] 142)).heap[X]? = some (.cells #[.int .i64 (q : Int), .int .i64 l2] 142 (0, 0)) := by rw [← hX]; exact heap_alloc_new wr _
    have HBX := hide hbx
    have HNX := hide hnx
    clear hbx hnx
    go_upto_region 4 with (refine wpList_load_mid (by rfl) 142 _ (by rfl) gd (k * 2) (by rfl) _ _ HRG.out Tryz.underlying142 rfl Tryz.size142n ?_)
    generalize wr.alloc (.cells #[.int .i64 (q : Int), .int .i64 l2] 142) = Wx at *
    have h4 : StIs w0 Wx s c (X :: ys) tb ov ps uvs { S0 with pool := pl } := HPL.out.1.mindNew HBX.out (fun k hk => by
     simp only [List.mem_cons] at hk
     rcases hk with rfl | hk
     · exact .inr ⟨by omega, (Array.getElem?_eq_some_iff.1 HNX.out).1⟩
     · exact .inl hk)
    have hXc : Wx.cell? ⟨X, 0, none⟩ = some (.int .i64 (q : Int)) := by rw [cell_of_row Wx X 0 _ _ _ HNX.out]; rfl
    refine wp_region_held_drew (S := fun w' => w'.cell? ⟨s, 2, none⟩ = some (.pointer (some ⟨c.P, 0, none⟩)) ∧ w'.cell? ⟨X, 0, none⟩ = some (.int .i64 (q : Int))) (by kernel_rfl) ⟨h4.c2, hXc⟩ (fun hH => ?_)
    have h40 : StIs w0 Wx.drew s c (X :: ys) tb ov ps uvs { S0 with pool := pl } := h4.belowW (below_drewN _ _ 1)
    have HBD : Below Wx.heap.size Wx Wx.drew := below_drewN _ _ 1
    generalize Wx.drew = X0 at hH h40 HBD ⊢
    have HEV := hide (evict_any (Φ := c.bk) h40.pool q HSD.out.1 HSD.out.2)
    refine take_to 0 21 (.pointer (some ⟨s, 0, none⟩)) rfl (by kernel_rfl) (by kernel_rfl) (by kernel_rfl) (fun _ _ _ h => h) rfl (by rfl) (fun w hw => by rfl) hH ?_
    simp only [Act.put, zA, zB, zC]
    refine take_to 1 22 (.pointer (some ⟨s, 0, none⟩)) rfl (by kernel_rfl) (by kernel_rfl) (by kernel_rfl) (fun _ _ _ h => h) rfl (by rfl) (fun w hw => by rfl) hH ?_
    simp only [Act.put, zA, zB, zC]
    refine take_to 2 23 (.pointer (some ⟨s, 0, none⟩)) rfl (by kernel_rfl) (by kernel_rfl) (by kernel_rfl) (fun _ _ _ h => h) rfl (by rfl) (fun w hw => by rfl) hH ?_
    simp only [Act.put, zA, zB, zC]
    refine take_to 3 24 (.pointer (some ⟨s, 2, none⟩)) rfl (by kernel_rfl) (by kernel_rfl) (by kernel_rfl) (fun _ _ _ h => h) rfl (by rfl) (fun w hw => by rfl) hH ?_
    simp only [Act.put, zA, zB, zC]
    refine take_to 4 25 (.pointer (some ⟨c.P, 0, none⟩)) rfl (by kernel_rfl) (by kernel_rfl) (by kernel_rfl) (fun _ _ _ h => h) rfl (by rfl) (fun w hw => op_load _ _ 62 (.tmp 24) rfl (.pointer (some ⟨s, 2, none⟩)) _ rfl (run_loadAny w s 2 62 _ Tryz.isAgg62 hw.1)) hH ?_
    simp only [Act.put, zA, zB, zC]
    refine take_to 5 26 (.pointer (some ⟨X, 0, none⟩)) rfl (by kernel_rfl) (by kernel_rfl) (by kernel_rfl) (fun _ _ _ h => h) rfl (by rfl) (fun w hw => by rfl) hH ?_
    simp only [Act.put, zA, zB, zC]
    refine take_to 6 27 (.int .i64 (q : Int)) rfl (by kernel_rfl) (by kernel_rfl) (by kernel_rfl) (fun _ _ _ h => h) rfl (by rfl) (fun w hw => op_load _ _ 3 (.tmp 26) rfl (.pointer (some ⟨X, 0, none⟩)) _ rfl (run_loadAny w X 0 3 _ Tryz.isAgg3 hw.2)) hH ?_
    simp only [Act.put, zA, zB, zC]
    refine step_call2_to 7 28 52 rfl (by kernel_rfl) rfl (by rfl) (.tmp 25) (.tmp 27) _ rfl _ _ rfl rfl Tryz.enters52 (HEV.out) ?_
    rintro e U8 ⟨rfl, hp8, hk8⟩
    have h8 := h40.kept _ hp8 hk8
    have hH8 := And.intro h8.c2 ((World.cell?_of_block (a := ⟨X, 0, none⟩) (hk8.2 X (by simp))).trans hH.2)
    refine ⟨_, by rw [HE0.out], hH8, ?_⟩
    simp only [Act.put, zA, zB, zC]
    refine step_call2_to 8 29 51 rfl (by kernel_rfl) rfl (by rfl) (.tmp 21) (.tmp 28) _ rfl _ _ rfl rfl Tryz.enters51 (heed_ok U8 s) ?_
    rintro e w9 ⟨rfl, hw9⟩
    rw [hw9]
    refine ⟨_, rfl, hH8, ?_⟩
    simp only [Act.put, zA, zB, zC]
    refine step_to 9 7 (.int .i64 0) U8 rfl (by kernel_rfl) rfl (by rfl) rfl hH8 ?_
    simp only [Act.put, zA, zB, zC]
    refine wpAnyH_done (by kernel_rfl) ?_ _
    have H8 := hide h8
    have HK8 := hide hk8
    have HBD := hide HBD
    clear hH hH8 h8 hk8 hp8 hw9 h40 h4 hXc HEV
    go_wp2
    go_roundw
    case rel =>
     refine ⟨k + 1, (Pl.evict (Φ := c.bk) pl q).2, by omega, by go_num, ⟨H8.out.mind (fun k hk => by simp [hk]), HST.out.1, HST.out.2.1, by have := HST.out.2.2.1; have := HPL.out.2.2.2.1; omega, HST.out.2.2.2.trans HPL.out.2.2.2.2⟩, ?_⟩
     have z1 := HBX.out.size
     have z2 := HBD.out.size
     refine HKW.out.trans ⟨by have := HK8.out.1; omega, fun k hk => ?_⟩
     have lk : k < wr.heap.size := HPL.out.1.lts hk
     exact (HK8.out.2 k (by simp only [List.mem_cons, List.mem_append] at hk ⊢; rcases hk with e | e | e; exact .inl e; exact .inr (.inl e); exact .inr (.inr (.inr e)))).trans ((HBD.out.block k (by omega)).trans (HBX.out.block k lk))
    case measure => simp [intOf]; omega
  · have hkd : k = d.length := by omega
    subst hkd
    obtain ⟨S, hS⟩ : ∃ S : St, S = { S0 with pool := pl } := ⟨_, rfl⟩
    have H1 : Hid (StIs w0 wr s c xs tb ov ps uvs S) := by rw [hS]; exact HPL.out.1.mind HYX.out
    have HRR : Hid (S.R = S0.R) := by rw [hS]; exact HPL.out.2.2.1
    have hm0 : S.master = S0.master := by rw [hS]
    have hc0 : S.commits = S0.commits := by rw [hS]
    have hn0 : S.next = S0.next := by rw [hS]
    have HN : Hid (S.R.start ≤ st ∧ st ≤ S.R.fin ∧ st ≤ 2199023255552 ∧ S.master < 2199023255552 ∧ S.commits < 4611686018427387904 ∧ S.next < 4611686018427387904) := by
     rw [HRR.out, hm0, hc0, hn0]; exact H0.out
    have HQ : Hid (M = S.master + 1) := by rw [hm0]; exact HM0M.out
    have HRS : Hid (S.R.held = encs rs) := by rw [HRR.out]; exact HRS0.out
    have HNO : Hid (∀ (j : Nat) (R : Enc.Rc), rs[j]? = some R → (st : Int) < ((S.R.start + (encs (rs.take j)).length + 1 : Nat) : Int) → R.kind ≠ 4) := by rw [HRR.out]; exact HNO0.out
    have HB1 : Hid (Kept (s :: (tb ++ xs)) w wr) := Kept.trans ⟨HB0.out.size, fun k hk => HB0.out.block k (H.out.lts hk)⟩ (HKW.out.mono (fun k hk => by
     simp only [List.mem_cons, List.mem_append] at hk ⊢
     rcases hk with e | e | e
     · exact .inl e
     · exact .inr (.inl e)
     · exact .inr (.inr (HYX.out k e))))
    have HSS := hide hS
    have HPLW : Hid (pl.wr ≤ S0.pool.wr + d.length) := HPL.out.2.2.2.1
    clear hS hm0 hc0 hn0 c2
    go_wp2_with fail
    have HAD : Hid (IntKind.i64.wrap ((S.master : Int) + 1) = (M : Int)) := by show _ = _; rw [IntKind.wrap_i64]; have := HN.out.2.2.2.1; have := HQ.out; omega
    have HSL : Hid (∀ W, Below wr.heap.size wr W → W.cell? ⟨s, 7, none⟩ = some (.int .i64 (S.master : Int)) ∧ W.cell? ⟨s, 5, none⟩ = some (.int .i64 (S.next : Int))) := fun W hb => ⟨(H1.out.belowW hb).c7, (H1.out.belowW hb).c5⟩
    refine wp_region_held_drew (S := fun w' => w'.cell? ⟨s, 7, none⟩ = some (.int .i64 (S.master : Int)) ∧ w'.cell? ⟨s, 5, none⟩ = some (.int .i64 (S.next : Int))) (by kernel_rfl) (HSL.out _ (below_drewN _ _ 1)) (fun hH => ?_)
    refine take_to 0 34 (.pointer (some ⟨s, 0, none⟩)) rfl (by kernel_rfl) (by kernel_rfl) (by kernel_rfl) (fun _ _ _ h => h) rfl (by rfl) (fun w hw => by rfl) hH ?_
    simp only [Act.put, zA, zB, zC]
    refine take_to 1 35 (.pointer (some ⟨s, 0, none⟩)) rfl (by kernel_rfl) (by kernel_rfl) (by kernel_rfl) (fun _ _ _ h => h) rfl (by rfl) (fun w hw => by rfl) hH ?_
    simp only [Act.put, zA, zB, zC]
    refine take_to 2 36 (.pointer (some ⟨s, 7, none⟩)) rfl (by kernel_rfl) (by kernel_rfl) (by kernel_rfl) (fun _ _ _ h => h) rfl (by rfl) (fun w hw => by rfl) hH ?_
    simp only [Act.put, zA, zB, zC]
    refine take_to 3 37 (.int .i64 (S.master : Int)) rfl (by kernel_rfl) (by kernel_rfl) (by kernel_rfl) (fun _ _ _ h => h) rfl (by rfl) (fun w hw => op_load _ _ 3 (.tmp 36) rfl (.pointer (some ⟨s, 7, none⟩)) _ rfl (run_loadAny w s 7 3 _ Tryz.isAgg3 hw.1)) hH ?_
    simp only [Act.put, zA, zB, zC]
    refine take_to 4 38 (.int .i64 (M : Int)) rfl (by kernel_rfl) (by kernel_rfl) (by kernel_rfl) (fun _ _ _ h => h) rfl (by rfl) (fun w hw => op_add3 _ _ (.tmp 37) _ 3 rfl _ 1 rfl rfl _ HAD.out) hH ?_
    simp only [Act.put, zA, zB, zC]
    refine take_to 5 39 (.int .i64 (st : Int)) rfl (by kernel_rfl) (by kernel_rfl) (by kernel_rfl) (fun _ _ _ h => h) rfl (by rfl) (fun w hw => by rfl) hH ?_
    simp only [Act.put, zA, zB, zC]
    refine take_to 6 40 (.pointer (some ⟨s, 0, none⟩)) rfl (by kernel_rfl) (by kernel_rfl) (by kernel_rfl) (fun _ _ _ h => h) rfl (by rfl) (fun w hw => by rfl) hH ?_
    simp only [Act.put, zA, zB, zC]
    refine take_to 7 41 (.int .i64 (st : Int)) rfl (by kernel_rfl) (by kernel_rfl) (by kernel_rfl) (fun _ _ _ h => h) rfl (by rfl) (fun w hw => by rfl) hH ?_
    simp only [Act.put, zA, zB, zC]
    refine take_to 9 43 (.pointer (some ⟨s, 0, none⟩)) rfl (by kernel_rfl) (by kernel_rfl) (by kernel_rfl) (fun _ _ _ h => h) rfl (by rfl) (fun w hw => by rfl) hH ?_
    simp only [Act.put, zA, zB, zC]
    refine take_to 10 44 (.pointer (some ⟨s, 0, none⟩)) rfl (by kernel_rfl) (by kernel_rfl) (by kernel_rfl) (fun _ _ _ h => h) rfl (by rfl) (fun w hw => by rfl) hH ?_
    simp only [Act.put, zA, zB, zC]
    refine take_to 11 45 (.pointer (some ⟨s, 5, none⟩)) rfl (by kernel_rfl) (by kernel_rfl) (by kernel_rfl) (fun _ _ _ h => h) rfl (by rfl) (fun w hw => by rfl) hH ?_
    simp only [Act.put, zA, zB, zC]
    refine take_to 12 46 (.int .i64 (S.next : Int)) rfl (by kernel_rfl) (by kernel_rfl) (by kernel_rfl) (fun _ _ _ h => h) rfl (by rfl) (fun w hw => op_load _ _ 3 (.tmp 45) rfl (.pointer (some ⟨s, 5, none⟩)) _ rfl (run_loadAny w s 5 3 _ Tryz.isAgg3 hw.2)) hH ?_
    simp only [Act.put, zA, zB, zC]
    have HB0 : Below wr.heap.size wr wr.drew := below_drewN _ _ 1
    have HH1 : StIs w0 wr.drew s c xs tb ov ps uvs S := H1.out.belowW HB0
    generalize wr.drew = U0 at hH HB0 HH1 ⊢
    refine wpAnyH_all (rs := [8, 14]) (by kernel_rfl) (by simp) ?_
    intro m hm
    rcases (by simpa using hm : m = 8 ∨ m = 14) with rfl | rfl
    · refine op_call2_to 42 112 rfl rfl (by rfl) (.tmp 40) (.tmp 41) _ rfl (.pointer (some ⟨s, 0, none⟩)) (.int .i64 (st : Int)) (by rfl) (by rfl) Tryz.enters112 (commitsAhead_all HH1 rs HRS.out HGD.out (st : Int) HNO.out) ?_
      rintro e U ⟨rfl, hbU⟩
      have hb1 : Below wr.heap.size wr U := HB0.trans (hbU.mono HB0.size)
      have hH := HSL.out _ hb1
      refine ⟨_, rfl, hH, ?_⟩
      simp only [Act.put, zA, zB, zC]
      refine take_to 13 47 (.agg #[.int .i64 (M : Int), .int .i64 (st : Int), .int .i64 (S.commits : Int), .int .i64 (S.next : Int)]) rfl (by kernel_rfl) (by kernel_rfl) (by kernel_rfl) (fun _ _ _ h => h) rfl (by rfl) (fun w hw => by kernel_rfl) hH ?_
      simp only [Act.put, zA, zB, zC]
      have hz : (U.alloc (.cells #[.int .i64 0, .int .i64 0, .int .i64 0, .int .i64 0] 99)).heap[U.heap.size]? = some (.cells #[.int .i64 0, .int .i64 0, .int .i64 0, .int .i64 0] 99 (0, 0)) := World.alloc_heap_new _ _
      have hb2 : Below wr.heap.size wr (U.alloc (.cells #[.int .i64 0, .int .i64 0, .int .i64 0, .int .i64 0] 99)) := hb1.trans (((Off.refl [] U).alloc _).below hb1.size (by simp))
      refine step_to 14 8 (.pointer (some ⟨U.heap.size, 0, none⟩)) (U.alloc (.cells #[.int .i64 0, .int .i64 0, .int .i64 0, .int .i64 0] 99)) rfl (by kernel_rfl) rfl (by rfl) (op_alloc99 _ _ rfl _) (HSL.out _ hb2) ?_
      simp only [Act.put, zA, zB, zC]
      have hb3 : Below wr.heap.size wr ((U.alloc (.cells #[.int .i64 0, .int .i64 0, .int .i64 0, .int .i64 0] 99)).setRow U.heap.size #[.int .i64 (M : Int), .int .i64 (st : Int), .int .i64 (S.commits : Int), .int .i64 (S.next : Int)]) := hb2.trans (((Off.refl [U.heap.size] _).setRow _ _ (.inl (by simp))).below (Nat.le_trans hb1.size (by simp)) (by simp; exact hb1.size))
      refine step_store_to 15 ((U.alloc (.cells #[.int .i64 0, .int .i64 0, .int .i64 0, .int .i64 0] 99)).setRow U.heap.size #[.int .i64 (M : Int), .int .i64 (st : Int), .int .i64 (S.commits : Int), .int .i64 (S.next : Int)]) rfl (by kernel_rfl) rfl (by rfl) 99 (.tmp 8) (.tmp 47) rfl (.pointer (some ⟨U.heap.size, 0, none⟩)) (.agg #[.int .i64 (M : Int), .int .i64 (st : Int), .int .i64 (S.commits : Int), .int .i64 (S.next : Int)]) rfl rfl (run_store99 _ _ _ _ _ _ _ _ _ _ hz) (HSL.out _ hb3) ?_
      refine wpAnyH_done (by kernel_rfl) ?_ _
      have hm0 : wr.heap.size ≤ U.heap.size := hb1.size
      have HM : ((U.alloc (.cells #[.int .i64 0, .int .i64 0, .int .i64 0, .int .i64 0] 99)).setRow U.heap.size #[.int .i64 (M : Int), .int .i64 (st : Int), .int .i64 (S.commits : Int), .int .i64 (S.next : Int)]).heap[U.heap.size]? = some (.cells #[.int .i64 (M : Int), .int .i64 (st : Int), .int .i64 (S.commits : Int), .int .i64 (S.next : Int)] 99 (0, 0)) := setRow_heap _ _ _ _ _ _ hz
      generalize (U.alloc (.cells #[.int .i64 0, .int .i64 0, .int .i64 0, .int .i64 0] 99)).setRow U.heap.size #[.int .i64 (M : Int), .int .i64 (st : Int), .int .i64 (S.commits : Int), .int .i64 (S.next : Int)] = W3 at hb3 HM ⊢
      generalize U.heap.size = m at hm0 HM ⊢
      clear hz hb2 hb1 hbU hH HH1 HB0
      have hmx : m < W3.heap.size := (Array.getElem?_eq_some_iff.1 HM).1
      have H3 : Hid (StIs w0 W3 s c (m :: xs) tb ov ps uvs S) := H1.out.mindNew hb3 (by intro k hk; simp only [List.mem_cons] at hk; rcases hk with rfl | hk; exact .inr ⟨hm0, hmx⟩; exact .inl hk)
      have HB3 := hide hb3
      have HMM := hide (And.intro HM hmx)
      have HRM : Hid ((M : Int).tmod 2 = ((M % 2 : Nat) : Int)) := by show _ = _; rw [Int.tmod_eq_emod_of_nonneg (by omega)]; omega
      have HBD : Hid (M < 4611686018427387904 ∧ st < 4611686018427387904 ∧ S.commits < 4611686018427387904 ∧ S.next < 4611686018427387904) := by show _ ∧ _; have := HN.out; have := HQ.out; omega
      clear HM hmx hb3 hm0
      go_wp2_with fail
      refine wp_region_held_drew (S := fun w' => w'.cell? ⟨s, 0, none⟩ = some (.pointer (some ⟨c.p, 0, none⟩)) ∧ w'.heap[m]? = some (.cells #[.int .i64 (M : Int), .int .i64 (st : Int), .int .i64 (S.commits : Int), .int .i64 (S.next : Int)] 99 (0, 0))) (by kernel_rfl) ⟨(H3.out.belowW (below_drewN _ _ 1)).c0, HMM.out.1⟩ (fun hH => ?_)
      have HB30 : Below W3.heap.size W3 W3.drew := below_drewN _ _ 1
      have H30 : StIs w0 W3.drew s c (m :: xs) tb ov ps uvs S := H3.out.belowW HB30
      have HM0 : W3.drew.heap[m]? = some (.cells #[.int .i64 (M : Int), .int .i64 (st : Int), .int .i64 (S.commits : Int), .int .i64 (S.next : Int)] 99 (0, 0)) := HMM.out.1
      have hmx : m < W3.drew.heap.size := HMM.out.2
      generalize W3.drew = X0 at hH HB30 H30 HM0 hmx ⊢
      refine take_to 0 48 (.pointer (some ⟨s, 0, none⟩)) rfl (by kernel_rfl) (by kernel_rfl) (by kernel_rfl) (fun _ _ _ h => h) rfl (by rfl) (fun w hw => by rfl) hH ?_
      simp only [Act.put, zA, zB, zC]
      refine take_to 1 49 (.pointer (some ⟨s, 0, none⟩)) rfl (by kernel_rfl) (by kernel_rfl) (by kernel_rfl) (fun _ _ _ h => h) rfl (by rfl) (fun w hw => by rfl) hH ?_
      simp only [Act.put, zA, zB, zC]
      refine take_to 2 50 (.pointer (some ⟨s, 0, none⟩)) rfl (by kernel_rfl) (by kernel_rfl) (by kernel_rfl) (fun _ _ _ h => h) rfl (by rfl) (fun w hw => by rfl) hH ?_
      simp only [Act.put, zA, zB, zC]
      refine take_to 3 51 (.pointer (some ⟨s, 0, none⟩)) rfl (by kernel_rfl) (by kernel_rfl) (by kernel_rfl) (fun _ _ _ h => h) rfl (by rfl) (fun w hw => by rfl) hH ?_
      simp only [Act.put, zA, zB, zC]
      refine take_to 4 52 (.pointer (some ⟨c.p, 0, none⟩)) rfl (by kernel_rfl) (by kernel_rfl) (by kernel_rfl) (fun _ _ _ h => h) rfl (by rfl) (fun w hw => op_load _ _ 24 (.tmp 51) rfl (.pointer (some ⟨s, 0, none⟩)) _ rfl (run_loadAny w s 0 24 _ Tryz.isAgg24 hw.1)) hH ?_
      simp only [Act.put, zA, zB, zC]
      refine take_to 5 53 (.pointer (some ⟨m, 0, none⟩)) rfl (by kernel_rfl) (by kernel_rfl) (by kernel_rfl) (fun _ _ _ h => h) rfl (by rfl) (fun w hw => by rfl) hH ?_
      simp only [Act.put, zA, zB, zC]
      refine take_to 6 54 (.int .i64 (M : Int)) rfl (by kernel_rfl) (by kernel_rfl) (by kernel_rfl) (fun _ _ _ h => h) rfl (by rfl) (fun w hw => op_load _ _ 3 (.tmp 53) rfl (.pointer (some ⟨m, 0, none⟩)) _ rfl (run_loadAny w m 0 3 _ Tryz.isAgg3 (by rw [cell_of_row w m 0 _ _ _ hw.2]; rfl))) hH ?_
      simp only [Act.put, zA, zB, zC]
      refine take_to 7 55 (.int .i64 ((M % 2 : Nat) : Int)) rfl (by kernel_rfl) (by kernel_rfl) (by kernel_rfl) (fun _ _ _ h => h) rfl (by rfl) (fun w hw => op_rem3 _ _ (.tmp 54) _ 3 rfl _ 2 rfl rfl _ (by omega) (HRM.out)) hH ?_
      simp only [Act.put, zA, zB, zC]
      refine take_to 8 56 (.agg #[.int .i64 (M : Int), .int .i64 (st : Int), .int .i64 (S.commits : Int), .int .i64 (S.next : Int)]) rfl (by kernel_rfl) (by kernel_rfl) (by kernel_rfl) (fun _ _ _ h => h) rfl (by rfl) (fun w hw => op_load _ _ 99 (.tmp 8) rfl (.pointer (some ⟨m, 0, none⟩)) _ rfl (run_load99 w m _ _ _ _ hw.2)) hH ?_
      simp only [Act.put, zA, zB, zC]
      refine step_call1_to 9 57 105 rfl (by kernel_rfl) rfl (by rfl) (.tmp 56) _ rfl _ rfl Tryz.enters105 (sector_any X0 M st S.commits S.next HBD.out.1 HBD.out.2.1 HBD.out.2.2.1 HBD.out.2.2.2) ?_
      rintro e U9 ⟨g, rfl, hg0, ⟨cur, hblk⟩, hb9⟩
      have hgl : g < U9.heap.size := (Array.getElem?_eq_some_iff.1 hblk.blk).1
      have h9 : StIs w0 U9 s c (g :: m :: xs) tb ov ps uvs S := H30.mindNew hb9 (by intro k hk; simp only [List.mem_cons] at hk ⊢; rcases hk with rfl | rfl | hk; exact .inr ⟨hg0, hgl⟩; exact .inl (.inl rfl); exact .inl (.inr hk))
      have hM9 := (hb9.block m hmx).trans HM0
      have hH9 := And.intro h9.c0 hM9
      obtain ⟨bl9, vs9, gp9, D9, hP9, hB9⟩ := h9.asRing
      have hsec := blk_sec hblk (length_mkSec M st S.commits S.next 4)
      refine ⟨_, rfl, hH9, ?_⟩
      simp only [Act.put, zA, zB, zC]
      refine step_call3_to 10 58 113 rfl (by kernel_rfl) rfl (by rfl) (.tmp 52) (.tmp 55) (.tmp 57) _ rfl _ _ _ rfl rfl rfl Tryz.enters113 (bk_dwrite hB9 (M % 2) g 128 _ 5 (0, 0) (Nat.mod_lt _ (by omega)) (length_mkSec M st S.commits S.next 4) hsec (by simp)) ?_
      rintro e U10 ⟨rfl, ⟨fp1, hmid⟩, hk10⟩
      have c10 : U10.cell? ⟨s, 0, none⟩ = some (.pointer (some ⟨c.p, 0, none⟩)) := (World.cell?_of_block (a := ⟨s, 0, none⟩) (hk10.2 s (by simp))).trans h9.c0
      have hH10 := And.intro c10 ((hk10.2 m (by simp)).trans hM9)
      refine ⟨_, rfl, hH10, ?_⟩
      simp only [Act.put, zA, zB, zC]
      refine step_call2_to 11 59 51 rfl (by kernel_rfl) rfl (by rfl) (.tmp 48) (.tmp 58) _ rfl _ _ rfl rfl Tryz.enters51 (heed_ok U10 s) ?_
      rintro e w9 ⟨rfl, hw9⟩
      rw [hw9]
      refine ⟨_, rfl, hH10, ?_⟩
      simp only [Act.put, zA, zB, zC]
      refine step_to 12 9 (.int .i64 0) U10 rfl (by kernel_rfl) rfl (by rfl) rfl hH10 ?_
      simp only [Act.put, zA, zB, zC]
      refine wpAnyH_done (by kernel_rfl) ?_ _
      have HSY := hide (bk_dsync hmid)
      have H9 := hide h9
      have HP9 := hide (And.intro hP9 (And.intro hM9 (And.intro hb9 (And.intro hk10 HB30))))
      clear hmid h9 hP9 hM9 hB9 hk10 hH9 hH10 hH hblk hsec hw9 hb9 HB30 H30 HM0 hmx hg0 hgl
      go_upto_region 15 with (first
       | (go_at_call 114; refine HSY.out.mono ?_; rintro e U12 ⟨rfl, ⟨D12, hB12⟩, hk12⟩
          have h12 : StIs w0 U12 s c (g :: m :: xs) tb ov ps uvs S := (H9.out.ofRing HP9.out.1 hB12 hk12).1
          have k12 := (H9.out.ofRing HP9.out.1 hB12 hk12).2
          have H12 := hide h12
          have HK12 := hide k12
          clear hB12 hk12 h12 k12 HSY)
       | (go_at_call 51; refine (heed_ok _ s).mono ?_; rintro e w9 ⟨rfl, hw9⟩; have hw9 := hw9.symm; subst hw9))
      have m12 : U12.heap[m]? = some (.cells #[.int .i64 (M : Int), .int .i64 (st : Int), .int .i64 (S.commits : Int), .int .i64 (S.next : Int)] 99 (0, 0)) := (HK12.out.2 m (by simp)).trans HP9.out.2.1
      have d0 : U12.cell? ⟨m, 0, none⟩ = some (.int .i64 (M : Int)) := by rw [cell_of_row U12 m 0 _ _ _ m12]; rfl
      have z7 := H12.out.fz 7
      have s7 := H12.out.c7
      have h13 := H12.out.setS (w' := U12.setCell ⟨s, 7, none⟩ (.int .i64 (M : Int))) (S' := { S with master := M }) rfl rfl ((Off.refl _ U12).setCell _ _ (by simp)) (by rw [heap_setCell_same U12 s 7 _ _ _ H12.out.head]; rfl)
      have c1 := h13.c1
      obtain ⟨bl13, vs13, gp13, D13, hP13, hB13⟩ := h13.asRing
      have HT := hide (trim_ok st hB13.rg HN.out.1 HN.out.2.1 HN.out.2.2.1)
      have H13 := hide h13
      have HP13 := hide (And.intro hP13 hB13)
      have HU13 : Hid (∀ k, k ≠ s → (U12.setCell ⟨s, 7, none⟩ (.int .i64 (M : Int))).heap[k]? = U12.heap[k]?) := fun k hk => Below.heap_setCell _ _ _ _ hk
      have HZ13 : Hid (U12.heap.size ≤ (U12.setCell ⟨s, 7, none⟩ (.int .i64 (M : Int))).heap.size) := (((Off.refl [s] U12).setCell _ _ (by simp)).size)
      clear h13 hP13 hB13 m12 c10
      go_upto_region 16 with fail
      generalize U12.setCell ⟨s, 7, none⟩ (.int .i64 (M : Int)) = U13 at *
      go_wp2_with (go_at_call 115; refine HT.out.mono ?_; rintro e U14 ⟨rfl, hR, hO⟩; have HF := hide (And.intro hR hO); clear hR hO)
      go_ret
      obtain ⟨hB14, hk14⟩ := HP13.out.2.ring HF.out.2 HF.out.1 (fun k hk => .inl hk) rfl rfl rfl
      obtain ⟨h14, k14⟩ := H13.out.ofRing HP13.out.1 hB14 hk14
      have h15 := h14.mind (ys := xs) (by intro k hk; simp [hk])
      refine ⟨rfl, pl, HPL.out.2.1, HPL.out.2.2.1, ?_, HPL.out.2.2.2.2, ?_, ?_⟩
      · have := HPL.out.2.2.2.1
        omega
      · have key : ∀ (R' : Rg) (M' : Nat), R' = S.R → M' = M → StIs w0 U14 s c xs tb ov ps uvs { S.setR { S.R with start := st, held := S.R.held.drop (st - S.R.start) } with master := M } → StIs w0 U14 s c xs tb ov ps uvs { S.setR { R' with start := st, held := R'.held.drop (st - R'.start) } with master := M' } := fun R' M' e1 e2 h => by subst e1; subst e2; exact h
        have h16 := key S0.R (S0.master + 1) HRR.out.symm HM0M.out.symm h15
        have hS := HSS.out
        rw [hS] at h16
        exact h16
      have z1 := HB1.out.1
      have z3 := HB3.out.size
      have z0 := HP9.out.2.2.2.2.size
      have z9 := HP9.out.2.2.1.size
      have z12 := HK12.out.1
      have z13 := HZ13.out
      have z14 := k14.1
      refine ⟨by omega, fun k hk => ?_⟩
      have l0 : k < w.heap.size := H.out.lts (by simp only [List.mem_cons]; exact .inr hk)
      have hks : k ≠ s := fun e => H.out.sx (by rw [← e]; exact hk)
      have hk9 : k ∈ s :: (tb ++ g :: m :: xs) := by simp only [List.mem_cons, List.mem_append] at hk ⊢; rcases hk with hk | hk; exact .inr (.inl hk); exact .inr (.inr (.inr (.inr hk)))
      exact (k14.2 k hk9).trans ((HU13.out k hks).trans ((HK12.out.2 k hk9).trans ((HP9.out.2.2.1.block k (by omega)).trans ((HP9.out.2.2.2.2.block k (by omega)).trans ((HB3.out.block k (by omega)).trans (HB1.out.2 k (by simp only [List.mem_cons]; exact .inr hk)))))))
    · have hz : (U0.alloc (.cells #[.int .i64 0, .int .i64 0, .int .i64 0, .int .i64 0] 99)).heap[U0.heap.size]? = some (.cells #[.int .i64 0, .int .i64 0, .int .i64 0, .int .i64 0] 99 (0, 0)) := World.alloc_heap_new _ _
      have hb1 : Below wr.heap.size wr (U0.alloc (.cells #[.int .i64 0, .int .i64 0, .int .i64 0, .int .i64 0] 99)) := HB0.trans (((Off.refl [] U0).alloc _).below HB0.size (by simp))
      refine op_to 8 (.pointer (some ⟨U0.heap.size, 0, none⟩)) (U0.alloc (.cells #[.int .i64 0, .int .i64 0, .int .i64 0, .int .i64 0] 99)) rfl rfl (by rfl) (op_alloc99 _ _ rfl _) ⟨HSL.out _ hb1, ?_⟩
      simp only [Act.put, zA, zB, zC]
      have hl1 : U0.heap.size < (U0.alloc (.cells #[.int .i64 0, .int .i64 0, .int .i64 0, .int .i64 0] 99)).heap.size := by simp
      have hm0 : wr.heap.size ≤ U0.heap.size := HB0.size
      generalize U0.alloc (.cells #[.int .i64 0, .int .i64 0, .int .i64 0, .int .i64 0] 99) = V at hz hb1 hl1 ⊢
      generalize U0.heap.size = m at hm0 hz hl1 ⊢
      refine step_call2_to 8 42 112 rfl (by kernel_rfl) rfl (by rfl) (.tmp 40) (.tmp 41) _ rfl (.pointer (some ⟨s, 0, none⟩)) (.int .i64 (st : Int)) (by rfl) (by rfl) Tryz.enters112 (commitsAhead_all (H1.out.belowW hb1) rs HRS.out HGD.out (st : Int) HNO.out) ?_
      rintro e U ⟨rfl, hbU⟩
      have hb2 : Below wr.heap.size wr U := hb1.trans (hbU.mono hb1.size)
      have hH := HSL.out _ hb2
      refine ⟨_, rfl, hH, ?_⟩
      simp only [Act.put, zA, zB, zC]
      refine take_to 13 47 (.agg #[.int .i64 (M : Int), .int .i64 (st : Int), .int .i64 (S.commits : Int), .int .i64 (S.next : Int)]) rfl (by kernel_rfl) (by kernel_rfl) (by kernel_rfl) (fun _ _ _ h => h) rfl (by rfl) (fun w hw => by kernel_rfl) hH ?_
      simp only [Act.put, zA, zB, zC]
      have hz := (hbU.block m hl1).trans hz
      have hb3 : Below wr.heap.size wr (U.setRow m #[.int .i64 (M : Int), .int .i64 (st : Int), .int .i64 (S.commits : Int), .int .i64 (S.next : Int)]) := hb2.trans (((Off.refl [m] _).setRow _ _ (.inl (by simp))).below hb2.size (by simp; exact hm0))
      refine step_store_to 15 (U.setRow m #[.int .i64 (M : Int), .int .i64 (st : Int), .int .i64 (S.commits : Int), .int .i64 (S.next : Int)]) rfl (by kernel_rfl) rfl (by rfl) 99 (.tmp 8) (.tmp 47) rfl (.pointer (some ⟨m, 0, none⟩)) (.agg #[.int .i64 (M : Int), .int .i64 (st : Int), .int .i64 (S.commits : Int), .int .i64 (S.next : Int)]) rfl rfl (run_store99 _ _ _ _ _ _ _ _ _ _ hz) (HSL.out _ hb3) ?_
      refine wpAnyH_done (by kernel_rfl) ?_ _
      have HM : (U.setRow m #[.int .i64 (M : Int), .int .i64 (st : Int), .int .i64 (S.commits : Int), .int .i64 (S.next : Int)]).heap[m]? = some (.cells #[.int .i64 (M : Int), .int .i64 (st : Int), .int .i64 (S.commits : Int), .int .i64 (S.next : Int)] 99 (0, 0)) := setRow_heap _ _ _ _ _ _ hz
      generalize U.setRow m #[.int .i64 (M : Int), .int .i64 (st : Int), .int .i64 (S.commits : Int), .int .i64 (S.next : Int)] = W3 at hb3 HM ⊢
      clear hz hb2 hb1 hbU hH HH1 HB0 hl1
      have hmx : m < W3.heap.size := (Array.getElem?_eq_some_iff.1 HM).1
      have H3 : Hid (StIs w0 W3 s c (m :: xs) tb ov ps uvs S) := H1.out.mindNew hb3 (by intro k hk; simp only [List.mem_cons] at hk; rcases hk with rfl | hk; exact .inr ⟨hm0, hmx⟩; exact .inl hk)
      have HB3 := hide hb3
      have HMM := hide (And.intro HM hmx)
      have HRM : Hid ((M : Int).tmod 2 = ((M % 2 : Nat) : Int)) := by show _ = _; rw [Int.tmod_eq_emod_of_nonneg (by omega)]; omega
      have HBD : Hid (M < 4611686018427387904 ∧ st < 4611686018427387904 ∧ S.commits < 4611686018427387904 ∧ S.next < 4611686018427387904) := by show _ ∧ _; have := HN.out; have := HQ.out; omega
      clear HM hmx hb3 hm0
      go_wp2_with fail
      refine wp_region_held_drew (S := fun w' => w'.cell? ⟨s, 0, none⟩ = some (.pointer (some ⟨c.p, 0, none⟩)) ∧ w'.heap[m]? = some (.cells #[.int .i64 (M : Int), .int .i64 (st : Int), .int .i64 (S.commits : Int), .int .i64 (S.next : Int)] 99 (0, 0))) (by kernel_rfl) ⟨(H3.out.belowW (below_drewN _ _ 1)).c0, HMM.out.1⟩ (fun hH => ?_)
      have HB30 : Below W3.heap.size W3 W3.drew := below_drewN _ _ 1
      have H30 : StIs w0 W3.drew s c (m :: xs) tb ov ps uvs S := H3.out.belowW HB30
      have HM0 : W3.drew.heap[m]? = some (.cells #[.int .i64 (M : Int), .int .i64 (st : Int), .int .i64 (S.commits : Int), .int .i64 (S.next : Int)] 99 (0, 0)) := HMM.out.1
      have hmx : m < W3.drew.heap.size := HMM.out.2
      generalize W3.drew = X0 at hH HB30 H30 HM0 hmx ⊢
      refine take_to 0 48 (.pointer (some ⟨s, 0, none⟩)) rfl (by kernel_rfl) (by kernel_rfl) (by kernel_rfl) (fun _ _ _ h => h) rfl (by rfl) (fun w hw => by rfl) hH ?_
      simp only [Act.put, zA, zB, zC]
      refine take_to 1 49 (.pointer (some ⟨s, 0, none⟩)) rfl (by kernel_rfl) (by kernel_rfl) (by kernel_rfl) (fun _ _ _ h => h) rfl (by rfl) (fun w hw => by rfl) hH ?_
      simp only [Act.put, zA, zB, zC]
      refine take_to 2 50 (.pointer (some ⟨s, 0, none⟩)) rfl (by kernel_rfl) (by kernel_rfl) (by kernel_rfl) (fun _ _ _ h => h) rfl (by rfl) (fun w hw => by rfl) hH ?_
      simp only [Act.put, zA, zB, zC]
      refine take_to 3 51 (.pointer (some ⟨s, 0, none⟩)) rfl (by kernel_rfl) (by kernel_rfl) (by kernel_rfl) (fun _ _ _ h => h) rfl (by rfl) (fun w hw => by rfl) hH ?_
      simp only [Act.put, zA, zB, zC]
      refine take_to 4 52 (.pointer (some ⟨c.p, 0, none⟩)) rfl (by kernel_rfl) (by kernel_rfl) (by kernel_rfl) (fun _ _ _ h => h) rfl (by rfl) (fun w hw => op_load _ _ 24 (.tmp 51) rfl (.pointer (some ⟨s, 0, none⟩)) _ rfl (run_loadAny w s 0 24 _ Tryz.isAgg24 hw.1)) hH ?_
      simp only [Act.put, zA, zB, zC]
      refine take_to 5 53 (.pointer (some ⟨m, 0, none⟩)) rfl (by kernel_rfl) (by kernel_rfl) (by kernel_rfl) (fun _ _ _ h => h) rfl (by rfl) (fun w hw => by rfl) hH ?_
      simp only [Act.put, zA, zB, zC]
      refine take_to 6 54 (.int .i64 (M : Int)) rfl (by kernel_rfl) (by kernel_rfl) (by kernel_rfl) (fun _ _ _ h => h) rfl (by rfl) (fun w hw => op_load _ _ 3 (.tmp 53) rfl (.pointer (some ⟨m, 0, none⟩)) _ rfl (run_loadAny w m 0 3 _ Tryz.isAgg3 (by rw [cell_of_row w m 0 _ _ _ hw.2]; rfl))) hH ?_
      simp only [Act.put, zA, zB, zC]
      refine take_to 7 55 (.int .i64 ((M % 2 : Nat) : Int)) rfl (by kernel_rfl) (by kernel_rfl) (by kernel_rfl) (fun _ _ _ h => h) rfl (by rfl) (fun w hw => op_rem3 _ _ (.tmp 54) _ 3 rfl _ 2 rfl rfl _ (by omega) (HRM.out)) hH ?_
      simp only [Act.put, zA, zB, zC]
      refine take_to 8 56 (.agg #[.int .i64 (M : Int), .int .i64 (st : Int), .int .i64 (S.commits : Int), .int .i64 (S.next : Int)]) rfl (by kernel_rfl) (by kernel_rfl) (by kernel_rfl) (fun _ _ _ h => h) rfl (by rfl) (fun w hw => op_load _ _ 99 (.tmp 8) rfl (.pointer (some ⟨m, 0, none⟩)) _ rfl (run_load99 w m _ _ _ _ hw.2)) hH ?_
      simp only [Act.put, zA, zB, zC]
      refine step_call1_to 9 57 105 rfl (by kernel_rfl) rfl (by rfl) (.tmp 56) _ rfl _ rfl Tryz.enters105 (sector_any X0 M st S.commits S.next HBD.out.1 HBD.out.2.1 HBD.out.2.2.1 HBD.out.2.2.2) ?_
      rintro e U9 ⟨g, rfl, hg0, ⟨cur, hblk⟩, hb9⟩
      have hgl : g < U9.heap.size := (Array.getElem?_eq_some_iff.1 hblk.blk).1
      have h9 : StIs w0 U9 s c (g :: m :: xs) tb ov ps uvs S := H30.mindNew hb9 (by intro k hk; simp only [List.mem_cons] at hk ⊢; rcases hk with rfl | rfl | hk; exact .inr ⟨hg0, hgl⟩; exact .inl (.inl rfl); exact .inl (.inr hk))
      have hM9 := (hb9.block m hmx).trans HM0
      have hH9 := And.intro h9.c0 hM9
      obtain ⟨bl9, vs9, gp9, D9, hP9, hB9⟩ := h9.asRing
      have hsec := blk_sec hblk (length_mkSec M st S.commits S.next 4)
      refine ⟨_, rfl, hH9, ?_⟩
      simp only [Act.put, zA, zB, zC]
      refine step_call3_to 10 58 113 rfl (by kernel_rfl) rfl (by rfl) (.tmp 52) (.tmp 55) (.tmp 57) _ rfl _ _ _ rfl rfl rfl Tryz.enters113 (bk_dwrite hB9 (M % 2) g 128 _ 5 (0, 0) (Nat.mod_lt _ (by omega)) (length_mkSec M st S.commits S.next 4) hsec (by simp)) ?_
      rintro e U10 ⟨rfl, ⟨fp1, hmid⟩, hk10⟩
      have c10 : U10.cell? ⟨s, 0, none⟩ = some (.pointer (some ⟨c.p, 0, none⟩)) := (World.cell?_of_block (a := ⟨s, 0, none⟩) (hk10.2 s (by simp))).trans h9.c0
      have hH10 := And.intro c10 ((hk10.2 m (by simp)).trans hM9)
      refine ⟨_, rfl, hH10, ?_⟩
      simp only [Act.put, zA, zB, zC]
      refine step_call2_to 11 59 51 rfl (by kernel_rfl) rfl (by rfl) (.tmp 48) (.tmp 58) _ rfl _ _ rfl rfl Tryz.enters51 (heed_ok U10 s) ?_
      rintro e w9 ⟨rfl, hw9⟩
      rw [hw9]
      refine ⟨_, rfl, hH10, ?_⟩
      simp only [Act.put, zA, zB, zC]
      refine step_to 12 9 (.int .i64 0) U10 rfl (by kernel_rfl) rfl (by rfl) rfl hH10 ?_
      simp only [Act.put, zA, zB, zC]
      refine wpAnyH_done (by kernel_rfl) ?_ _
      have HSY := hide (bk_dsync hmid)
      have H9 := hide h9
      have HP9 := hide (And.intro hP9 (And.intro hM9 (And.intro hb9 (And.intro hk10 HB30))))
      clear hmid h9 hP9 hM9 hB9 hk10 hH9 hH10 hH hblk hsec hw9 hb9 HB30 H30 HM0 hmx hg0 hgl
      go_upto_region 15 with (first
       | (go_at_call 114; refine HSY.out.mono ?_; rintro e U12 ⟨rfl, ⟨D12, hB12⟩, hk12⟩
          have h12 : StIs w0 U12 s c (g :: m :: xs) tb ov ps uvs S := (H9.out.ofRing HP9.out.1 hB12 hk12).1
          have k12 := (H9.out.ofRing HP9.out.1 hB12 hk12).2
          have H12 := hide h12
          have HK12 := hide k12
          clear hB12 hk12 h12 k12 HSY)
       | (go_at_call 51; refine (heed_ok _ s).mono ?_; rintro e w9 ⟨rfl, hw9⟩; have hw9 := hw9.symm; subst hw9))
      have m12 : U12.heap[m]? = some (.cells #[.int .i64 (M : Int), .int .i64 (st : Int), .int .i64 (S.commits : Int), .int .i64 (S.next : Int)] 99 (0, 0)) := (HK12.out.2 m (by simp)).trans HP9.out.2.1
      have d0 : U12.cell? ⟨m, 0, none⟩ = some (.int .i64 (M : Int)) := by rw [cell_of_row U12 m 0 _ _ _ m12]; rfl
      have z7 := H12.out.fz 7
      have s7 := H12.out.c7
      have h13 := H12.out.setS (w' := U12.setCell ⟨s, 7, none⟩ (.int .i64 (M : Int))) (S' := { S with master := M }) rfl rfl ((Off.refl _ U12).setCell _ _ (by simp)) (by rw [heap_setCell_same U12 s 7 _ _ _ H12.out.head]; rfl)
      have c1 := h13.c1
      obtain ⟨bl13, vs13, gp13, D13, hP13, hB13⟩ := h13.asRing
      have HT := hide (trim_ok st hB13.rg HN.out.1 HN.out.2.1 HN.out.2.2.1)
      have H13 := hide h13
      have HP13 := hide (And.intro hP13 hB13)
      have HU13 : Hid (∀ k, k ≠ s → (U12.setCell ⟨s, 7, none⟩ (.int .i64 (M : Int))).heap[k]? = U12.heap[k]?) := fun k hk => Below.heap_setCell _ _ _ _ hk
      have HZ13 : Hid (U12.heap.size ≤ (U12.setCell ⟨s, 7, none⟩ (.int .i64 (M : Int))).heap.size) := (((Off.refl [s] U12).setCell _ _ (by simp)).size)
      clear h13 hP13 hB13 m12 c10
      go_upto_region 16 with fail
      generalize U12.setCell ⟨s, 7, none⟩ (.int .i64 (M : Int)) = U13 at *
      go_wp2_with (go_at_call 115; refine HT.out.mono ?_; rintro e U14 ⟨rfl, hR, hO⟩; have HF := hide (And.intro hR hO); clear hR hO)
      go_ret
      obtain ⟨hB14, hk14⟩ := HP13.out.2.ring HF.out.2 HF.out.1 (fun k hk => .inl hk) rfl rfl rfl
      obtain ⟨h14, k14⟩ := H13.out.ofRing HP13.out.1 hB14 hk14
      have h15 := h14.mind (ys := xs) (by intro k hk; simp [hk])
      refine ⟨rfl, pl, HPL.out.2.1, HPL.out.2.2.1, ?_, HPL.out.2.2.2.2, ?_, ?_⟩
      · have := HPL.out.2.2.2.1
        omega
      · have key : ∀ (R' : Rg) (M' : Nat), R' = S.R → M' = M → StIs w0 U14 s c xs tb ov ps uvs { S.setR { S.R with start := st, held := S.R.held.drop (st - S.R.start) } with master := M } → StIs w0 U14 s c xs tb ov ps uvs { S.setR { R' with start := st, held := R'.held.drop (st - R'.start) } with master := M' } := fun R' M' e1 e2 h => by subst e1; subst e2; exact h
        have h16 := key S0.R (S0.master + 1) HRR.out.symm HM0M.out.symm h15
        have hS := HSS.out
        rw [hS] at h16
        exact h16
      have z1 := HB1.out.1
      have z3 := HB3.out.size
      have z0 := HP9.out.2.2.2.2.size
      have z9 := HP9.out.2.2.1.size
      have z12 := HK12.out.1
      have z13 := HZ13.out
      have z14 := k14.1
      refine ⟨by omega, fun k hk => ?_⟩
      have l0 : k < w.heap.size := H.out.lts (by simp only [List.mem_cons]; exact .inr hk)
      have hks : k ≠ s := fun e => H.out.sx (by rw [← e]; exact hk)
      have hk9 : k ∈ s :: (tb ++ g :: m :: xs) := by simp only [List.mem_cons, List.mem_append] at hk ⊢; rcases hk with hk | hk; exact .inr (.inl hk); exact .inr (.inr (.inr (.inr hk)))
      exact (k14.2 k hk9).trans ((HU13.out k hks).trans ((HK12.out.2 k hk9).trans ((HP9.out.2.2.1.block k (by omega)).trans ((HP9.out.2.2.2.2.block k (by omega)).trans ((HB3.out.block k (by omega)).trans (HB1.out.2 k (by simp only [List.mem_cons]; exact .inr hk)))))))
theorem startAt_none (h : StIs w0 w s c xs tb ov ps uvs S0) (hh : S0.R.held = []) (hd : dirtL S0.pool.fs = []) (st : Nat) (h1 : S0.R.start ≤ st) (h2 : st ≤ S0.R.fin) (h3 : st ≤ 2199023255552) (hm : S0.master < 2199023255552) (hc : S0.commits < 4611686018427387904) (hn : S0.next < 4611686018427387904) :
 Calls Tryz.prog 81 #[.pointer (some ⟨s, 0, none⟩), .int .i64 (st : Int)] w fun e w' => e = .returned (.int .i64 0) ∧ StIs w0 w' s c xs tb ov ps uvs { S0.setR { S0.R with start := st, held := [] } with master := S0.master + 1 } ∧ Kept (tb ++ xs) w w' := by
 refine (startAt_gen h (· = S0.pool) rfl (by rw [hd]; simp) (fun x hx => by rw [hd] at hx; simp at hx) [] (by rw [hh]; rfl) (fun R hR => by simp at hR) st (fun j R hj => by simp at hj) h1 h2 h3 hm hc hn).mono ?_
 rintro e w' ⟨rfl, pl, rfl, _, _, _, h5, h6⟩
 refine ⟨rfl, ?_, h6⟩
 rw [hh, List.drop_nil] at h5
 exact h5
theorem startAt_ok (h : StIs w0 w s c xs tb ov ps uvs S0) (hi : PInv c.n S0.pool V) (hwr : S0.pool.wr + 12 ≤ 1000000) (hdl : (dirtL S0.pool.fs).length ≤ 12) (hfin : S0.R.fin = S0.R.tail) (rs : List Enc.Rc) (hrs : S0.R.held = encs rs) (hgd : ∀ R ∈ rs, R.good) (hl0 : 0 < rs.length) (st : Nat)
 (hno : ∀ (j : Nat) (R : Enc.Rc), rs[j]? = some R → (st : Int) < ((S0.R.start + (encs (rs.take j)).length + 1 : Nat) : Int) → R.kind ≠ 4) (h1 : S0.R.start ≤ st) (h2 : st ≤ S0.R.fin) (h3 : st ≤ 2199023255552) (hm : S0.master < 2199023255552) (hc : S0.commits < 4611686018427387904) (hn : S0.next < 4611686018427387904) :
 Calls Tryz.prog 81 #[.pointer (some ⟨s, 0, none⟩), .int .i64 (st : Int)] w fun e w' => e = .returned (.int .i64 0) ∧ ∃ pl, PInv c.n pl V ∧ pl.fo.1 = S0.R ∧ pl.wr ≤ S0.pool.wr + 12 ∧ pl.fs.length = S0.pool.fs.length ∧
  StIs w0 w' s c xs tb ov ps uvs { ({ S0 with pool := pl } : St).setR { S0.R with start := st, held := S0.R.held.drop (st - S0.R.start) } with master := S0.master + 1 } ∧ Kept (tb ++ xs) w w' := by
 refine startAt_gen h (fun pl => PInv c.n pl V) hi hdl (fun x hx pl hp hR hw => ?_) rs hrs hgd st hno h1 h2 h3 hm hc hn
 unfold dirtL at hx
 obtain ⟨f, hf, rfl⟩ := List.mem_map.1 hx
 obtain ⟨hf, hd⟩ := List.mem_filter.1 hf
 have hh : f.held = true := by
  cases e : f.held with
  | true => rfl
  | false => have := hi.un f hf e; rw [this] at hd; simp at hd
 obtain ⟨q, _, e, _⟩ := hi.he f hf hh
 obtain ⟨a1, a2⟩ := hp.evict (c := c) q
 show pl.sound c.n ∧ pl.wr ≤ 1000000 ∧ (Pl.evict (Φ := c.bk) pl f.page).1 = 0 ∧ PInv c.n (Pl.evict (Φ := c.bk) pl f.page).2 V ∧ _ ∧ (Pl.evict (Φ := c.bk) pl f.page).2.wr ≤ _ ∧ _
 rw [e]
 exact ⟨hp.sound, by omega, a1, a2.inv, (evict_log c pl q (by rw [hR]; exact hfin)).trans hR, a2.wr, a2.len⟩
end
end Go.Proofs.YteeembildppgmaaGreat
