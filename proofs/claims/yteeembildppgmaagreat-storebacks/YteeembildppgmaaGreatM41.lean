/- A part of it: SChk. -/
import Derived.Test.YteeembildppgmaaGreatM0
import Derived.Test.YteeembildppgmaaGreatM37
import Derived.Test.YteeembildppgmaaGreatM24
namespace Go.Proofs.YteeembildppgmaaGreat
open Go.RowKit
set_option linter.unusedVariables false
set_option linter.unusedSimpArgs false
theorem op_alloc69k (ρ : Operand → Value) (o : Oper) (ho : o.op = .alloc 69) (w : World) : (execOp ρ o).run Tryz.prog w = .ok (.value (.pointer (some ⟨w.heap.size, 0, none⟩))) (w.alloc (.cells Enc.zeroCells11 69)) := by
 unfold execOp
 rw [ho]
 kernel_rfl
theorem Tryz.enters88k (args : Array Value) (w : World) : (callFunc 88 args).run Tryz.prog w = .ok (.enter 88 args) w := by kernel_rfl
theorem Tryz.enters89k (args : Array Value) (w : World) : (callFunc 89 args).run Tryz.prog w = .ok (.enter 89 args) w := by kernel_rfl
theorem Tryz.size69k : (Tryz.prog.info? 69).map (·.size) = some 11 := by kernel_rfl
theorem op_call1_to {P : Program} {ops : Array Oper} {Q : Exit → Act → World → Prop} {o : Oper} {a : Act} {w : World} {K : Act → World → Prop} {i : Nat} {R : Ending → World → Prop} (dst f : Nat) (hi : ops[i]? = some o)
 (hd : o.dst = some dst) (hw : Region.wanted o (yielded ops a.tmps) = true) (x : Operand) (ts : Array TypeId) (hop : o.op = Op.call { callee := Callee.value (Operand.func f), args := #[x], argTypes := ts })
 (vx : Value) (hx : a.eval x = vx) (hcf : ∀ args w, (callFunc f args).run P w = .ok (.enter f args) w) (hc : Calls P f #[vx] w R)
 (hK : ∀ e w', R e w' → ∃ v, e = .returned v ∧ K (a.put (some dst) v) w') : wpOp P ops Q i K a w := by
 refine wpOp_step hi (fun K' hK' => ?_)
 rw [if_pos hw]
 have hrun : (execOp a.eval o).run P w = .ok (.enter f #[vx]) w := by
  have hff : a.eval (.func f) = .func (.func f) #[] #[] := rfl
  unfold execOp
  simp [hop, resolve, hff, Deferred.ofValue, invoke, hx]
  exact hcf _ _
 unfold Oper.wp
 rw [hrun, Oper.upon_enter]
 refine hc.mono ?_
 intro e w' hR
 obtain ⟨v, rfl, hW⟩ := hK e w' hR
 show K' (a.put o.dst v) w'
 rw [hd]
 exact hK' _ _ hW
theorem ck_one (ao : Option Addr) (n cc : Nat) (k : Int) : (#[.int .i64 7, .int .i64 0, .int .i64 0, .int .i64 0, .int .i64 0, .int .i64 0, .slice none 0 0, .slice none 0 0, .slice none 0 0, .slice ao n cc, .int .i64 k] : Array Value).all (·.oneCell') = true := all_oneCell_toArray (by
 intro v hv
 simp only [List.mem_cons, List.not_mem_nil, or_false] at hv
 rcases hv with rfl | rfl | rfl | rfl | rfl | rfl | rfl | rfl | rfl | rfl | rfl <;> rfl)
def ckRc (d : List (Int × Int)) (n : Nat) : Enc.Rc := ⟨7, 0, 0, 0, 0, 0, [], [], [], d, (n : Int)⟩
theorem ck_good (d : List (Int × Int)) (n : Nat) (h : ∀ x ∈ d, Enc.fits x.1 ∧ Enc.fits x.2) (hn : n < 4611686018427387904) : (ckRc d n).good :=
 ⟨fun y hy => by
  simp only [Enc.Rc.head, ckRc, List.mem_cons, List.not_mem_nil, or_false] at hy
  unfold Enc.fits
  rcases hy with rfl | rfl | rfl | rfl | rfl | rfl <;> omega, fun t ht => by simp [ckRc] at ht, h, by unfold Enc.fits; show (0 : Int) ≤ (n : Int) ∧ (n : Int) ≤ _; omega⟩
theorem ck_wf (d : List (Int × Int)) (n : Nat) (h : ∀ x ∈ d, Enc.fits x.1 ∧ Enc.fits x.2) (hn : n < 4611686018427387904) : (ckRc d n).wf :=
 ⟨fun y hy => by
  simp only [Enc.Rc.head, ckRc, List.mem_cons, List.not_mem_nil, or_false] at hy
  rcases hy with rfl | rfl | rfl | rfl | rfl | rfl <;> omega, fun t ht => by simp [ckRc] at ht, fun t ht y hy => by
  obtain ⟨h1, h2⟩ := h t ht
  unfold Enc.fits at h1 h2
  simp only [List.mem_cons, List.not_mem_nil, or_false] at hy
  rcases hy with rfl | rfl <;> omega, by show (_ : Int) ≤ (n : Int) ∧ (n : Int) ≤ _; omega⟩
theorem ck_no (S : St) (rs : List Enc.Rc) (K : Enc.Rc) (hrs : S.R.held = encs rs) (hK : K.kind = 7) (j : Nat) (R : Enc.Rc) (hj : (rs ++ [K])[j]? = some R) (hlt : (S.R.tail : Int) < ((S.R.start + (encs ((rs ++ [K]).take j)).length + 1 : Nat) : Int)) : R.kind ≠ 4 := by
 by_cases h : j < rs.length
 · exfalso
   have e : encs rs = encs (rs.take j) ++ encs (rs.drop j) := by rw [← encs_append, List.take_append_drop]
   have h1 := len_encs (rs.drop j)
   rw [List.length_drop] at h1
   have h2 : S.R.tail = S.R.start + (encs rs).length := by show S.R.start + S.R.held.length = _; rw [hrs]
   rw [e, List.length_append] at h2
   rw [List.take_append_of_le_length (by omega)] at hlt
   omega
 · have hl := (List.getElem?_eq_some_iff.1 hj).1
   rw [List.length_append, List.length_singleton] at hl
   have : j = rs.length := by omega
   subst this
   rw [List.getElem?_append_right (Nat.le_refl _), Nat.sub_self] at hj
   simp at hj
   rw [← hj, hK]
   decide
theorem dirt_setRow {U U2 : World} {ao : Option Addr} {cc m : Nat} {d : List (Int × Int)} {C : Array Value} {t : TypeId} {B : Nat} (h : DirtAt U (.slice ao d.length cc) d) (hz : U.heap[m]? = some (.cells C t (0, 0))) (C2 : Array Value) (hn : ∀ b, (Value.slice ao d.length cc).ownBlock = some b → U2.heap.size ≤ b ∧ b < B) (hm : m < U2.heap.size) : DirtAt (U.setRow m C2) (.slice ao d.length cc) d := by
 obtain ⟨ao', c', e, hd⟩ := h
 obtain ⟨rfl, -, rfl⟩ : ao = ao' ∧ d.length = d.length ∧ cc = c' := by simpa using e
 refine ⟨ao, cc, rfl, fun j x hx => ?_⟩
 obtain ⟨g, hg, a1, a2⟩ := hd j x hx
 have hgm := hn g (by rw [hg]; rfl)
 have hb : (U.setRow m C2).heap[g]? = U.heap[g]? := ((Off.refl [m] U).setRow m C2 (.inl (by simp))).block g (World.block_lt_of_cell? U _ a1) (by simp; omega)
 exact ⟨g, hg, (World.cell?_of_block (a := ⟨g, j * 2, none⟩) hb).trans a1, (World.cell?_of_block (a := ⟨g, j * 2 + 1, none⟩) hb).trans a2⟩
section
variable {w0 w w' : World} {s : Nat} {c : Cf} {xs tb : List Nat} {ov : Value} {ps : List Nat} {uvs : List Value} {S : St} {V : Nat → List UInt8}
set_option maxHeartbeats 4000000 in
set_option maxRecDepth 100000 in
theorem checkpoint_none (h : StIs w0 w s c xs tb ov ps uvs S) (hn0 : S.txs = []) (hi : PInv c.n S.pool V) (hwr : S.pool.wr + 12 ≤ 1000000) (hdl : (dirtL S.pool.fs).length ≤ 12) (rs : List Enc.Rc) (hrs : S.R.held = encs rs) (hgd : ∀ R ∈ rs, R.good) (hroom : 288 ≤ S.R.room) (htl : S.R.tail ≤ 2199023255552) (hm : S.master < 2199023255552) (hc : S.commits < 4611686018427387904) (hn : S.next < 4611686018427387904) :
 Calls Tryz.prog 55 #[.pointer (some ⟨s, 0, none⟩)] w fun e w' => e = .returned (.int .i64 0) ∧ ∃ pl d, StIs w0 w' s c xs tb ov ps uvs { S with pool := pl, master := S.master + 1 } ∧ PInv c.n pl V ∧ pl.fo.1 = { S.R with start := S.R.tail, held := (ckRc d S.commits).enc, fin := S.R.start + (S.R.held ++ (ckRc d S.commits).enc).length } ∧ d.length ≤ 12 ∧ pl.wr ≤ S.pool.wr + 12 ∧ pl.fs.length = S.pool.fs.length ∧ Kept (tb ++ xs) w w' := by
 obtain ⟨oa, oc, rfl⟩ := h.ovlen
 have HE0 : Hid (S.txs.length = 0) := by show _ = _; rw [hn0]; rfl
 have HDF : Hid (∀ x ∈ dirtL S.pool.fs, Enc.fits x.1 ∧ Enc.fits x.2) := fun x hx => by
  unfold dirtL at hx
  obtain ⟨f, hf, rfl⟩ := List.mem_map.1 hx
  obtain ⟨hf, hd⟩ := List.mem_filter.1 hf
  have hh : f.held = true := by
   cases e : f.held with
   | true => rfl
   | false => have := hi.un f hf e; rw [this] at hd; simp at hd
  obtain ⟨q, hq, e, _⟩ := hi.he f hf hh
  have := h.n8
  refine ⟨?_, hi.rl f hf⟩
  show 0 ≤ f.page ∧ f.page ≤ _
  rw [e]
  omega
 have HDIR : Hid (∀ W, Below w.heap.size w W → Calls Tryz.prog 89 #[.pointer (some ⟨c.P, 0, none⟩)] W fun e w' => ∃ ao cc d, e = .returned (.slice ao d.length cc) ∧ (d.length ≤ cc ∧ cc ≤ maxLen ∧ ∀ b, (Value.slice ao d.length cc).ownBlock = some b → W.heap.size ≤ b ∧ b < w'.heap.size) ∧ DirtAt w' (.slice ao d.length cc) d ∧ d.Perm (dirtL S.pool.fs) ∧ d.Pairwise (fun x y => x.1 ≤ y.1) ∧ Below W.heap.size W w') := fun W hW => by
  obtain ⟨bl, vs, gp, D, hP, hB⟩ := (h.belowW hW).asRing
  exact dirty_new hP hdl
 have HSL : Hid (∀ W, Below w.heap.size w W → W.cell? ⟨s, 2, none⟩ = some (.pointer (some ⟨c.P, 0, none⟩)) ∧ W.cell? ⟨s, 6, none⟩ = some (.int .i64 (S.commits : Int))) := fun W hW => ⟨(h.belowW hW).c2, by rw [cell_of_row W s 6 _ _ _ (h.belowW hW).head]; rfl⟩
 have H := hide h
 have HI := hide hi
 have HWR := hide hwr
 have HDL := hide hdl
 have HRS := hide hrs
 have HGD := hide hgd
 have HRM := hide hroom
 have HTL := hide htl
 have HMS := hide hm
 have HCM := hide hc
 have HNX := hide hn
 clear h hi hwr hdl hrs hgd hroom htl hm hc hn
 go_enter Tryz.func55, Tryz.ntmps55
 go_wp2_with fail
 refine wp_region_held_drew (S := fun w' => w'.cell? ⟨s, 2, none⟩ = some (.pointer (some ⟨c.P, 0, none⟩)) ∧ w'.cell? ⟨s, 6, none⟩ = some (.int .i64 (S.commits : Int))) (by kernel_rfl) (HSL.out _ (below_drewN _ _ 1)) (fun hH => ?_)
 refine take_to 0 9 (.pointer (some ⟨s, 0, none⟩)) rfl (by kernel_rfl) (by kernel_rfl) (by kernel_rfl) (fun _ _ _ h => h) rfl (by rfl) (fun w hw => by rfl) hH ?_
 simp only [Act.put, zA, zB, zC]
 refine take_to 2 11 (.pointer (some ⟨s, 0, none⟩)) rfl (by kernel_rfl) (by kernel_rfl) (by kernel_rfl) (fun _ _ _ h => h) rfl (by rfl) (fun w hw => by rfl) hH ?_
 simp only [Act.put, zA, zB, zC]
 refine take_to 3 12 (.pointer (some ⟨s, 0, none⟩)) rfl (by kernel_rfl) (by kernel_rfl) (by kernel_rfl) (fun _ _ _ h => h) rfl (by rfl) (fun w hw => by rfl) hH ?_
 simp only [Act.put, zA, zB, zC]
 refine take_to 4 13 (.pointer (some ⟨s, 2, none⟩)) rfl (by kernel_rfl) (by kernel_rfl) (by kernel_rfl) (fun _ _ _ h => h) rfl (by rfl) (fun w hw => by rfl) hH ?_
 simp only [Act.put, zA, zB, zC]
 refine take_to 5 14 (.pointer (some ⟨c.P, 0, none⟩)) rfl (by kernel_rfl) (by kernel_rfl) (by kernel_rfl) (fun _ _ _ h => h) rfl (by rfl) (fun w hw => op_load _ _ 62 (.tmp 13) rfl (.pointer (some ⟨s, 2, none⟩)) _ rfl (run_loadAny w s 2 62 _ Tryz.isAgg62 hw.1)) hH ?_
 simp only [Act.put, zA, zB, zC]
 refine take_to 7 16 (.pointer (some ⟨s, 0, none⟩)) rfl (by kernel_rfl) (by kernel_rfl) (by kernel_rfl) (fun _ _ _ h => h) rfl (by rfl) (fun w hw => by rfl) hH ?_
 simp only [Act.put, zA, zB, zC]
 refine take_to 8 17 (.pointer (some ⟨s, 0, none⟩)) rfl (by kernel_rfl) (by kernel_rfl) (by kernel_rfl) (fun _ _ _ h => h) rfl (by rfl) (fun w hw => by rfl) hH ?_
 simp only [Act.put, zA, zB, zC]
 refine take_to 9 18 (.pointer (some ⟨s, 6, none⟩)) rfl (by kernel_rfl) (by kernel_rfl) (by kernel_rfl) (fun _ _ _ h => h) rfl (by rfl) (fun w hw => by rfl) hH ?_
 simp only [Act.put, zA, zB, zC]
 refine take_to 10 19 (.int .i64 (S.commits : Int)) rfl (by kernel_rfl) (by kernel_rfl) (by kernel_rfl) (fun _ _ _ h => h) rfl (by rfl) (fun w hw => op_load _ _ 3 (.tmp 18) rfl (.pointer (some ⟨s, 6, none⟩)) _ rfl (run_loadAny w s 6 3 _ Tryz.isAgg3 hw.2)) hH ?_
 simp only [Act.put, zA, zB, zC]
 have HB0 : Below w.heap.size w w.drew := below_drewN _ _ 1
 have HH0 : StIs w0 w.drew s c xs tb (.slice oa S.txs.length oc) ps uvs S := H.out.belowW HB0
 have hH := HSL.out _ HB0
 generalize w.drew = U0 at hH HB0 HH0 ⊢
 refine wpAnyH_all (rs := [1, 12]) (by kernel_rfl) (by simp) ?_
 intro k hk
 rcases (by simpa using hk : k = 1 ∨ k = 12) with rfl | rfl
 · refine op_call1_to 10 88 rfl rfl (by rfl) (.tmp 9) _ rfl (.pointer (some ⟨s, 0, none⟩)) (by rfl) Tryz.enters88k (txns_none HH0 hn0) ?_
   rintro e U1 ⟨rfl, hU1⟩
   have hU1 := hU1.symm
   subst hU1
   refine ⟨_, rfl, hH, ?_⟩
   simp only [Act.put, zA, zB, zC]
   refine wpAnyH_all (rs := [6, 12]) (by kernel_rfl) (by simp) ?_
   intro k hk
   rcases (by simpa using hk : k = 6 ∨ k = 12) with rfl | rfl
   · refine op_call1_to 15 89 rfl rfl (by rfl) (.tmp 14) _ rfl (.pointer (some ⟨c.P, 0, none⟩)) (by rfl) Tryz.enters89k (HDIR.out _ HB0) ?_
     rintro e U ⟨ao, cc, d, rfl, hcap, hDA, hp, hpw, hbU⟩
     have hb1 : Below w.heap.size w U := HB0.trans (hbU.mono HB0.size)
     have hH := HSL.out _ hb1
     refine ⟨_, rfl, hH, ?_⟩
     simp only [Act.put, zA, zB, zC]
     refine take_to 11 20 (.agg #[.int .i64 7, .int .i64 0, .int .i64 0, .int .i64 0, .int .i64 0, .int .i64 0, .slice none 0 0, .slice none 0 0, .slice none 0 0, .slice ao d.length cc, .int .i64 (S.commits : Int)]) rfl (by kernel_rfl) (by kernel_rfl) (by kernel_rfl) (fun _ _ _ h => h) rfl (by rfl) (fun w hw => by kernel_rfl) hH ?_
     simp only [Act.put, zA, zB, zC]
     have hz : (U.alloc (.cells Enc.zeroCells11 69)).heap[U.heap.size]? = some (.cells Enc.zeroCells11 69 (0, 0)) := World.alloc_heap_new _ _
     have hb2 : Below w.heap.size w (U.alloc (.cells Enc.zeroCells11 69)) := hb1.trans (((Off.refl [] U).alloc _).below hb1.size (by simp))
     refine step_to 12 3 (.pointer (some ⟨U.heap.size, 0, none⟩)) (U.alloc (.cells Enc.zeroCells11 69)) rfl (by kernel_rfl) rfl (by rfl) (op_alloc69k _ _ rfl _) (HSL.out _ hb2) ?_
     simp only [Act.put, zA, zB, zC]
     have hbs : Below U.heap.size U ((U.alloc (.cells Enc.zeroCells11 69)).setRow U.heap.size #[.int .i64 7, .int .i64 0, .int .i64 0, .int .i64 0, .int .i64 0, .int .i64 0, .slice none 0 0, .slice none 0 0, .slice none 0 0, .slice ao d.length cc, .int .i64 (S.commits : Int)]) := below_setRow (((Off.refl [] U).alloc _).below (Nat.le_refl _) (by simp)) (Nat.le_refl _) _
     have hb3 : Below w.heap.size w ((U.alloc (.cells Enc.zeroCells11 69)).setRow U.heap.size #[.int .i64 7, .int .i64 0, .int .i64 0, .int .i64 0, .int .i64 0, .int .i64 0, .slice none 0 0, .slice none 0 0, .slice none 0 0, .slice ao d.length cc, .int .i64 (S.commits : Int)]) := hb1.trans (hbs.mono hb1.size)
     refine step_store_to 13 ((U.alloc (.cells Enc.zeroCells11 69)).setRow U.heap.size #[.int .i64 7, .int .i64 0, .int .i64 0, .int .i64 0, .int .i64 0, .int .i64 0, .slice none 0 0, .slice none 0 0, .slice none 0 0, .slice ao d.length cc, .int .i64 (S.commits : Int)]) rfl (by kernel_rfl) rfl (by rfl) 69 (.tmp 3) (.tmp 20) rfl (.pointer (some ⟨U.heap.size, 0, none⟩)) (.agg #[.int .i64 7, .int .i64 0, .int .i64 0, .int .i64 0, .int .i64 0, .int .i64 0, .slice none 0 0, .slice none 0 0, .slice none 0 0, .slice ao d.length cc, .int .i64 (S.commits : Int)]) rfl rfl (Enc.run_store69 _ _ _ _ rfl rfl (ck_one _ _ _ _) hz) (HSL.out _ hb3) ?_
     refine wpAnyH_done (by kernel_rfl) ?_ _
     have hm0 : w.heap.size ≤ U.heap.size := hb1.size
     have HM : ((U.alloc (.cells Enc.zeroCells11 69)).setRow U.heap.size #[.int .i64 7, .int .i64 0, .int .i64 0, .int .i64 0, .int .i64 0, .int .i64 0, .slice none 0 0, .slice none 0 0, .slice none 0 0, .slice ao d.length cc, .int .i64 (S.commits : Int)]).heap[U.heap.size]? = some (.cells #[.int .i64 7, .int .i64 0, .int .i64 0, .int .i64 0, .int .i64 0, .int .i64 0, .slice none 0 0, .slice none 0 0, .slice none 0 0, .slice ao d.length cc, .int .i64 (S.commits : Int)] 69 (0, 0)) := setRow_heap _ _ _ _ _ _ hz
     have hDA := hDA.below hbs
     generalize (U.alloc (.cells Enc.zeroCells11 69)).setRow U.heap.size #[.int .i64 7, .int .i64 0, .int .i64 0, .int .i64 0, .int .i64 0, .int .i64 0, .slice none 0 0, .slice none 0 0, .slice none 0 0, .slice ao d.length cc, .int .i64 (S.commits : Int)] = W3 at hb3 HM hDA hbs ⊢
     generalize U.heap.size = m at hm0 HM ⊢
     clear hz hb2 hb1 hbU hH HH0 HB0 hbs
     have hmx : m < W3.heap.size := (Array.getElem?_eq_some_iff.1 HM).1
     have hdl12 : d.length ≤ 12 := by rw [hp.length_eq]; exact HDL.out
     obtain ⟨Z, hZ⟩ : ∃ Z : Nat, 96 + 16 * d.length = Z := ⟨_, rfl⟩
     have hsz : (ckRc d S.commits).size = Z := by show 96 + 0 + 0 + 24 * 0 + 16 * d.length = Z; omega
     have hZ1 : Z ≤ 288 := by omega
     have HSZ := hide hsz
     have HREC : Hid (∀ W, Below W3.heap.size W3 W → Enc.RecVal W (.agg #[.int .i64 7, .int .i64 0, .int .i64 0, .int .i64 0, .int .i64 0, .int .i64 0, .slice none 0 0, .slice none 0 0, .slice none 0 0, .slice ao d.length cc, .int .i64 (S.commits : Int)]) (ckRc d S.commits)) := fun W hW => ⟨_, _, _, _, rfl, Enc.Row.nil W, Enc.Row.nil W, Enc.Row.nil W, dirt_row (hDA.below hW) hcap.1 hcap.2.1⟩
     have HFT : Hid (∀ x ∈ d, Enc.fits x.1 ∧ Enc.fits x.2) := fun x hx => HDF.out x (hp.mem_iff.1 hx)
     have H3 : Hid (StIs w0 W3 s c xs tb (.slice oa S.txs.length oc) ps uvs S) := H.out.belowW hb3
     have HB3 := hide hb3
     have HRG3 : Hid (W3.rangeAt m 0 [.int .i64 7, .int .i64 0, .int .i64 0, .int .i64 0, .int .i64 0, .int .i64 0, .slice none 0 0, .slice none 0 0, .slice none 0 0, .slice ao d.length cc, .int .i64 (S.commits : Int)]) := fun j u hu => by rw [Nat.zero_add, cell_of_row W3 m j _ _ _ HM]; simpa using hu
     have HDLL := hide hdl12
     have HPM := hide hp
     clear HM hb3 hDA hcap hp hpw hdl12 hsz hm0
     have hr0 : S.res = 0 := by show resT S.txs = 0; rw [hn0]; rfl
     have hge : ¬ ((S.R.room : Int) < (Z : Int) + (S.res : Int)) := by have := HRM.out; omega
     go_wp2_with (first
      | (refine wpList_load_mid (by rfl) 69 _ (by rfl) m 0 (by rfl) _ _ HRG3.out Tryz.underlying69 rfl Tryz.size69k ?_)
      | (go_at_call 29; refine (Enc.size_any (HREC.out W3 (Below.refl _ _)) (by rw [HSZ.out]; omega)).mono ?_; rw [HSZ.out]; rintro e W4 ⟨rfl, hW4⟩
         have hb4 : Below W3.heap.size W3 W4 := by rw [hW4]; exact (Below.refl _ W3).alloc (Nat.le_refl _) _
         have HB4 := hide hb4
         clear hb4 hW4)
      | (go_at_call 85; refine (reserved_any (H3.out.belowW HB4.out) (by omega)).mono ?_; rintro e W5 ⟨rfl, hb5⟩
         have HB5 := hide (HB4.out.trans (hb5.mono HB4.out.size))
         have H5 := hide (H3.out.belowW HB5.out)
         have c15 := H5.out.c1
         have c45 : W5.cell? ⟨s, 4, none⟩ = some (.slice oa 0 oc) := by have := H5.out.c4; rw [HE0.out] at this; exact this
         obtain ⟨bl5, vs5, gp5, D5, hP5, hy5⟩ := H5.out.asRing
         have HY5 := hide hy5
         clear hb5 hP5 hy5)
      | (go_at_call 84; refine (room_any HY5.out.rg).mono ?_; rintro e W6 ⟨rfl, m6, hw6⟩
         have hb6 : Below W5.heap.size W5 W6 := by rw [hw6]; exact below_drewN _ _ _
         have HB6 := hide (HB5.out.trans (hb6.mono HB5.out.size))
         have H6 := hide (H3.out.belowW HB6.out)
         have c16 := H6.out.c1
         obtain ⟨bl6, vs6, gp6, D6, hP6, hy6⟩ := H6.out.asRing
         have HY6 := hide hy6
         clear hb6 hw6 hP6 hy6)
      | (go_at_call 56; refine (tail_any HY6.out.rg).mono ?_; rintro e W7 ⟨rfl, m7, hw7⟩
         have hb7 : Below W6.heap.size W6 W7 := by rw [hw7]; exact below_drewN _ _ _
         have HB7 := hide (HB6.out.trans (hb7.mono HB6.out.size))
         have H7 := hide (H3.out.belowW HB7.out)
         have c47 : W7.cell? ⟨s, 4, none⟩ = some (.slice oa 0 oc) := by have := H7.out.c4; rw [HE0.out] at this; exact this
         have HRG7 : Hid (W7.rangeAt m 0 [.int .i64 7, .int .i64 0, .int .i64 0, .int .i64 0, .int .i64 0, .int .i64 0, .slice none 0 0, .slice none 0 0, .slice none 0 0, .slice ao d.length cc, .int .i64 (S.commits : Int)]) := fun j u hu => (HB7.out.cell (p := ⟨m, _, none⟩) hmx).trans (HRG3.out j u hu)
         clear hb7 hw7)
      | (refine wpList_load_mid (by rfl) 69 _ (by rfl) m 0 (by rfl) _ _ HRG7.out Tryz.underlying69 rfl Tryz.size69k ?_)
      | (go_at_call 30; refine (tell_ok H7.out (HREC.out W7 HB7.out) (by rw [HSZ.out]; omega) (ck_wf d S.commits HFT.out HCM.out) (by rw [HSZ.out]; have := HRM.out; omega)).mono ?_; rintro e W8 ⟨rfl, h8, hk8⟩
         have H8 := hide h8
         have HK8 := hide hk8
         clear h8 hk8)
      | (go_at_call 41; refine (sflush_ok H8.out).mono ?_; rintro e W9 ⟨rfl, h9, hk9⟩
         have H9 := hide h9
         have HK9 := hide hk9
         clear h9 hk9)
      | (go_at_call 81
         refine (startAt_ok H9.out (V := V) ((HI.out.setR _).setR _) HWR.out HDL.out rfl (rs ++ [ckRc d S.commits]) (by show S.R.held ++ _ = _; rw [HRS.out, encs_append]; simp [encs]) (fun R hR => by
          rcases List.mem_append.1 hR with h1 | h1
          · exact HGD.out R h1
          · rw [List.mem_singleton.1 h1]; exact ck_good d S.commits HFT.out HCM.out) (by simp) S.R.tail (fun j R hj hlt => ck_no S rs (ckRc d S.commits) HRS.out rfl j R hj hlt) (Nat.le_add_right _ _) (by show S.R.start + S.R.held.length ≤ S.R.start + (S.R.held ++ (ckRc d S.commits).enc).length; rw [List.length_append]; omega) HTL.out HMS.out HCM.out HNX.out).mono ?_
         rintro e W10 ⟨rfl, pl, hz⟩
         have HF := hide hz
         clear hz))
     go_ret
     obtain ⟨z1, z2, z3, z4, z5, z6⟩ := HF.out
     refine ⟨rfl, { pl with fo := ({ S.R with start := S.R.tail, held := (ckRc d S.commits).enc, fin := S.R.start + (S.R.held ++ (ckRc d S.commits).enc).length }, pl.fo.2) }, d, ?_, z1.setR _, rfl, HDLL.out, z3, z4, ?_⟩
     · have e1 : (S.R.held ++ (ckRc d S.commits).enc).drop (S.R.tail - S.R.start) = (ckRc d S.commits).enc := by
        show (S.R.held ++ (ckRc d S.commits).enc).drop (S.R.start + S.R.held.length - S.R.start) = _
        rw [show S.R.start + S.R.held.length - S.R.start = S.R.held.length by omega, List.drop_left]
       have key : ∀ l, (S.R.held ++ (ckRc d S.commits).enc).drop (S.R.tail - S.R.start) = l → StIs w0 W10 s c xs tb (.slice oa S.txs.length oc) ps uvs { S with pool := { pl with fo := ({ S.R with start := S.R.tail, held := l, fin := S.R.start + (S.R.held ++ (ckRc d S.commits).enc).length }, pl.fo.2) }, master := S.master + 1 } := fun l e => by rw [← e]; exact z5
       exact key _ e1
     · have k8 := HK8.out.mono (ys := tb ++ xs) (fun k hk => by simp only [List.mem_cons]; exact .inr hk)
       have k9 := HK9.out.mono (ys := tb ++ xs) (fun k hk => by simp only [List.mem_cons]; exact .inr hk)
       exact Kept.trans ⟨HB3.out.size, fun k hk => HB3.out.block k (H.out.lts (by simp only [List.mem_cons]; exact .inr hk))⟩ (Kept.trans ⟨HB7.out.size, fun k hk => HB7.out.block k (H3.out.lts (by simp only [List.mem_cons]; exact .inr hk))⟩ (k8.trans (k9.trans z6)))
   · have hz : (U0.alloc (.cells Enc.zeroCells11 69)).heap[U0.heap.size]? = some (.cells Enc.zeroCells11 69 (0, 0)) := World.alloc_heap_new _ _
     have hb1 : Below w.heap.size w (U0.alloc (.cells Enc.zeroCells11 69)) := HB0.trans (((Off.refl [] U0).alloc _).below HB0.size (by simp))
     refine op_to 3 (.pointer (some ⟨U0.heap.size, 0, none⟩)) (U0.alloc (.cells Enc.zeroCells11 69)) rfl rfl (by rfl) (op_alloc69k _ _ rfl _) ⟨HSL.out _ hb1, ?_⟩
     simp only [Act.put, zA, zB, zC]
     have hl1 : U0.heap.size < (U0.alloc (.cells Enc.zeroCells11 69)).heap.size := by simp
     have hm0 : w.heap.size ≤ U0.heap.size := HB0.size
     generalize U0.alloc (.cells Enc.zeroCells11 69) = U2 at hz hb1 hl1 ⊢
     generalize U0.heap.size = m at hm0 hz hl1 ⊢
     refine step_call1_to 6 15 89 rfl (by kernel_rfl) rfl (by rfl) (.tmp 14) _ rfl _ rfl Tryz.enters89k (HDIR.out _ hb1) ?_
     rintro e U ⟨ao, cc, d, rfl, hcap, hDA, hp, hpw, hbU⟩
     have hb2 : Below w.heap.size w U := hb1.trans (hbU.mono hb1.size)
     have hH := HSL.out _ hb2
     refine ⟨_, rfl, hH, ?_⟩
     simp only [Act.put, zA, zB, zC]
     refine take_to 11 20 (.agg #[.int .i64 7, .int .i64 0, .int .i64 0, .int .i64 0, .int .i64 0, .int .i64 0, .slice none 0 0, .slice none 0 0, .slice none 0 0, .slice ao d.length cc, .int .i64 (S.commits : Int)]) rfl (by kernel_rfl) (by kernel_rfl) (by kernel_rfl) (fun _ _ _ h => h) rfl (by rfl) (fun w hw => by kernel_rfl) hH ?_
     simp only [Act.put, zA, zB, zC]
     have hz := (hbU.block m hl1).trans hz
     have hb3 : Below w.heap.size w (U.setRow m #[.int .i64 7, .int .i64 0, .int .i64 0, .int .i64 0, .int .i64 0, .int .i64 0, .slice none 0 0, .slice none 0 0, .slice none 0 0, .slice ao d.length cc, .int .i64 (S.commits : Int)]) := hb2.trans (((Off.refl [m] _).setRow _ _ (.inl (by simp))).below hb2.size (by simp; exact hm0))
     have hDA : DirtAt (U.setRow m #[.int .i64 7, .int .i64 0, .int .i64 0, .int .i64 0, .int .i64 0, .int .i64 0, .slice none 0 0, .slice none 0 0, .slice none 0 0, .slice ao d.length cc, .int .i64 (S.commits : Int)]) (.slice ao d.length cc) d := dirt_setRow hDA hz _ hcap.2.2 hl1
     refine step_store_to 13 (U.setRow m #[.int .i64 7, .int .i64 0, .int .i64 0, .int .i64 0, .int .i64 0, .int .i64 0, .slice none 0 0, .slice none 0 0, .slice none 0 0, .slice ao d.length cc, .int .i64 (S.commits : Int)]) rfl (by kernel_rfl) rfl (by rfl) 69 (.tmp 3) (.tmp 20) rfl (.pointer (some ⟨m, 0, none⟩)) (.agg #[.int .i64 7, .int .i64 0, .int .i64 0, .int .i64 0, .int .i64 0, .int .i64 0, .slice none 0 0, .slice none 0 0, .slice none 0 0, .slice ao d.length cc, .int .i64 (S.commits : Int)]) rfl rfl (Enc.run_store69 _ _ _ _ rfl rfl (ck_one _ _ _ _) hz) (HSL.out _ hb3) ?_
     refine wpAnyH_done (by kernel_rfl) ?_ _
     have HM : (U.setRow m #[.int .i64 7, .int .i64 0, .int .i64 0, .int .i64 0, .int .i64 0, .int .i64 0, .slice none 0 0, .slice none 0 0, .slice none 0 0, .slice ao d.length cc, .int .i64 (S.commits : Int)]).heap[m]? = some (.cells #[.int .i64 7, .int .i64 0, .int .i64 0, .int .i64 0, .int .i64 0, .int .i64 0, .slice none 0 0, .slice none 0 0, .slice none 0 0, .slice ao d.length cc, .int .i64 (S.commits : Int)] 69 (0, 0)) := setRow_heap _ _ _ _ _ _ hz
     generalize U.setRow m #[.int .i64 7, .int .i64 0, .int .i64 0, .int .i64 0, .int .i64 0, .int .i64 0, .slice none 0 0, .slice none 0 0, .slice none 0 0, .slice ao d.length cc, .int .i64 (S.commits : Int)] = W3 at hb3 HM hDA ⊢
     clear hz hb2 hb1 hbU hH HH0 HB0 hl1
     have hmx : m < W3.heap.size := (Array.getElem?_eq_some_iff.1 HM).1
     have hdl12 : d.length ≤ 12 := by rw [hp.length_eq]; exact HDL.out
     obtain ⟨Z, hZ⟩ : ∃ Z : Nat, 96 + 16 * d.length = Z := ⟨_, rfl⟩
     have hsz : (ckRc d S.commits).size = Z := by show 96 + 0 + 0 + 24 * 0 + 16 * d.length = Z; omega
     have hZ1 : Z ≤ 288 := by omega
     have HSZ := hide hsz
     have HREC : Hid (∀ W, Below W3.heap.size W3 W → Enc.RecVal W (.agg #[.int .i64 7, .int .i64 0, .int .i64 0, .int .i64 0, .int .i64 0, .int .i64 0, .slice none 0 0, .slice none 0 0, .slice none 0 0, .slice ao d.length cc, .int .i64 (S.commits : Int)]) (ckRc d S.commits)) := fun W hW => ⟨_, _, _, _, rfl, Enc.Row.nil W, Enc.Row.nil W, Enc.Row.nil W, dirt_row (hDA.below hW) hcap.1 hcap.2.1⟩
     have HFT : Hid (∀ x ∈ d, Enc.fits x.1 ∧ Enc.fits x.2) := fun x hx => HDF.out x (hp.mem_iff.1 hx)
     have H3 : Hid (StIs w0 W3 s c xs tb (.slice oa S.txs.length oc) ps uvs S) := H.out.belowW hb3
     have HB3 := hide hb3
     have HRG3 : Hid (W3.rangeAt m 0 [.int .i64 7, .int .i64 0, .int .i64 0, .int .i64 0, .int .i64 0, .int .i64 0, .slice none 0 0, .slice none 0 0, .slice none 0 0, .slice ao d.length cc, .int .i64 (S.commits : Int)]) := fun j u hu => by rw [Nat.zero_add, cell_of_row W3 m j _ _ _ HM]; simpa using hu
     have HDLL := hide hdl12
     have HPM := hide hp
     clear HM hb3 hDA hcap hp hpw hdl12 hsz hm0
     have hr0 : S.res = 0 := by show resT S.txs = 0; rw [hn0]; rfl
     have hge : ¬ ((S.R.room : Int) < (Z : Int) + (S.res : Int)) := by have := HRM.out; omega
     go_wp2_with (first
      | (refine wpList_load_mid (by rfl) 69 _ (by rfl) m 0 (by rfl) _ _ HRG3.out Tryz.underlying69 rfl Tryz.size69k ?_)
      | (go_at_call 29; refine (Enc.size_any (HREC.out W3 (Below.refl _ _)) (by rw [HSZ.out]; omega)).mono ?_; rw [HSZ.out]; rintro e W4 ⟨rfl, hW4⟩
         have hb4 : Below W3.heap.size W3 W4 := by rw [hW4]; exact (Below.refl _ W3).alloc (Nat.le_refl _) _
         have HB4 := hide hb4
         clear hb4 hW4)
      | (go_at_call 85; refine (reserved_any (H3.out.belowW HB4.out) (by omega)).mono ?_; rintro e W5 ⟨rfl, hb5⟩
         have HB5 := hide (HB4.out.trans (hb5.mono HB4.out.size))
         have H5 := hide (H3.out.belowW HB5.out)
         have c15 := H5.out.c1
         have c45 : W5.cell? ⟨s, 4, none⟩ = some (.slice oa 0 oc) := by have := H5.out.c4; rw [HE0.out] at this; exact this
         obtain ⟨bl5, vs5, gp5, D5, hP5, hy5⟩ := H5.out.asRing
         have HY5 := hide hy5
         clear hb5 hP5 hy5)
      | (go_at_call 84; refine (room_any HY5.out.rg).mono ?_; rintro e W6 ⟨rfl, m6, hw6⟩
         have hb6 : Below W5.heap.size W5 W6 := by rw [hw6]; exact below_drewN _ _ _
         have HB6 := hide (HB5.out.trans (hb6.mono HB5.out.size))
         have H6 := hide (H3.out.belowW HB6.out)
         have c16 := H6.out.c1
         obtain ⟨bl6, vs6, gp6, D6, hP6, hy6⟩ := H6.out.asRing
         have HY6 := hide hy6
         clear hb6 hw6 hP6 hy6)
      | (go_at_call 56; refine (tail_any HY6.out.rg).mono ?_; rintro e W7 ⟨rfl, m7, hw7⟩
         have hb7 : Below W6.heap.size W6 W7 := by rw [hw7]; exact below_drewN _ _ _
         have HB7 := hide (HB6.out.trans (hb7.mono HB6.out.size))
         have H7 := hide (H3.out.belowW HB7.out)
         have c47 : W7.cell? ⟨s, 4, none⟩ = some (.slice oa 0 oc) := by have := H7.out.c4; rw [HE0.out] at this; exact this
         have HRG7 : Hid (W7.rangeAt m 0 [.int .i64 7, .int .i64 0, .int .i64 0, .int .i64 0, .int .i64 0, .int .i64 0, .slice none 0 0, .slice none 0 0, .slice none 0 0, .slice ao d.length cc, .int .i64 (S.commits : Int)]) := fun j u hu => (HB7.out.cell (p := ⟨m, _, none⟩) hmx).trans (HRG3.out j u hu)
         clear hb7 hw7)
      | (refine wpList_load_mid (by rfl) 69 _ (by rfl) m 0 (by rfl) _ _ HRG7.out Tryz.underlying69 rfl Tryz.size69k ?_)
      | (go_at_call 30; refine (tell_ok H7.out (HREC.out W7 HB7.out) (by rw [HSZ.out]; omega) (ck_wf d S.commits HFT.out HCM.out) (by rw [HSZ.out]; have := HRM.out; omega)).mono ?_; rintro e W8 ⟨rfl, h8, hk8⟩
         have H8 := hide h8
         have HK8 := hide hk8
         clear h8 hk8)
      | (go_at_call 41; refine (sflush_ok H8.out).mono ?_; rintro e W9 ⟨rfl, h9, hk9⟩
         have H9 := hide h9
         have HK9 := hide hk9
         clear h9 hk9)
      | (go_at_call 81
         refine (startAt_ok H9.out (V := V) ((HI.out.setR _).setR _) HWR.out HDL.out rfl (rs ++ [ckRc d S.commits]) (by show S.R.held ++ _ = _; rw [HRS.out, encs_append]; simp [encs]) (fun R hR => by
          rcases List.mem_append.1 hR with h1 | h1
          · exact HGD.out R h1
          · rw [List.mem_singleton.1 h1]; exact ck_good d S.commits HFT.out HCM.out) (by simp) S.R.tail (fun j R hj hlt => ck_no S rs (ckRc d S.commits) HRS.out rfl j R hj hlt) (Nat.le_add_right _ _) (by show S.R.start + S.R.held.length ≤ S.R.start + (S.R.held ++ (ckRc d S.commits).enc).length; rw [List.length_append]; omega) HTL.out HMS.out HCM.out HNX.out).mono ?_
         rintro e W10 ⟨rfl, pl, hz⟩
         have HF := hide hz
         clear hz))
     go_ret
     obtain ⟨z1, z2, z3, z4, z5, z6⟩ := HF.out
     refine ⟨rfl, { pl with fo := ({ S.R with start := S.R.tail, held := (ckRc d S.commits).enc, fin := S.R.start + (S.R.held ++ (ckRc d S.commits).enc).length }, pl.fo.2) }, d, ?_, z1.setR _, rfl, HDLL.out, z3, z4, ?_⟩
     · have e1 : (S.R.held ++ (ckRc d S.commits).enc).drop (S.R.tail - S.R.start) = (ckRc d S.commits).enc := by
        show (S.R.held ++ (ckRc d S.commits).enc).drop (S.R.start + S.R.held.length - S.R.start) = _
        rw [show S.R.start + S.R.held.length - S.R.start = S.R.held.length by omega, List.drop_left]
       have key : ∀ l, (S.R.held ++ (ckRc d S.commits).enc).drop (S.R.tail - S.R.start) = l → StIs w0 W10 s c xs tb (.slice oa S.txs.length oc) ps uvs { S with pool := { pl with fo := ({ S.R with start := S.R.tail, held := l, fin := S.R.start + (S.R.held ++ (ckRc d S.commits).enc).length }, pl.fo.2) }, master := S.master + 1 } := fun l e => by rw [← e]; exact z5
       exact key _ e1
     · have k8 := HK8.out.mono (ys := tb ++ xs) (fun k hk => by simp only [List.mem_cons]; exact .inr hk)
       have k9 := HK9.out.mono (ys := tb ++ xs) (fun k hk => by simp only [List.mem_cons]; exact .inr hk)
       exact Kept.trans ⟨HB3.out.size, fun k hk => HB3.out.block k (H.out.lts (by simp only [List.mem_cons]; exact .inr hk))⟩ (Kept.trans ⟨HB7.out.size, fun k hk => HB7.out.block k (H3.out.lts (by simp only [List.mem_cons]; exact .inr hk))⟩ (k8.trans (k9.trans z6)))
 · have hz : (U0.alloc (.cells Enc.zeroCells11 69)).heap[U0.heap.size]? = some (.cells Enc.zeroCells11 69 (0, 0)) := World.alloc_heap_new _ _
   have hb1 : Below w.heap.size w (U0.alloc (.cells Enc.zeroCells11 69)) := HB0.trans (((Off.refl [] U0).alloc _).below HB0.size (by simp))
   refine op_to 3 (.pointer (some ⟨U0.heap.size, 0, none⟩)) (U0.alloc (.cells Enc.zeroCells11 69)) rfl rfl (by rfl) (op_alloc69k _ _ rfl _) ⟨HSL.out _ hb1, ?_⟩
   simp only [Act.put, zA, zB, zC]
   have hl1 : U0.heap.size < (U0.alloc (.cells Enc.zeroCells11 69)).heap.size := by simp
   have hm0 : w.heap.size ≤ U0.heap.size := HB0.size
   generalize U0.alloc (.cells Enc.zeroCells11 69) = U2 at hz hb1 hl1 ⊢
   generalize U0.heap.size = m at hm0 hz hl1 ⊢
   refine step_call1_to 1 10 88 rfl (by kernel_rfl) rfl (by rfl) (.tmp 9) _ rfl _ rfl Tryz.enters88k (txns_none (H.out.belowW hb1) hn0) ?_
   rintro e U1 ⟨rfl, hU1⟩
   have hU1 := hU1.symm
   subst hU1
   refine ⟨_, rfl, HSL.out _ hb1, ?_⟩
   simp only [Act.put, zA, zB, zC]
   refine step_call1_to 6 15 89 rfl (by kernel_rfl) rfl (by rfl) (.tmp 14) _ rfl _ rfl Tryz.enters89k (HDIR.out _ hb1) ?_
   rintro e U ⟨ao, cc, d, rfl, hcap, hDA, hp, hpw, hbU⟩
   have hb2 : Below w.heap.size w U := hb1.trans (hbU.mono hb1.size)
   have hH := HSL.out _ hb2
   refine ⟨_, rfl, hH, ?_⟩
   simp only [Act.put, zA, zB, zC]
   refine take_to 11 20 (.agg #[.int .i64 7, .int .i64 0, .int .i64 0, .int .i64 0, .int .i64 0, .int .i64 0, .slice none 0 0, .slice none 0 0, .slice none 0 0, .slice ao d.length cc, .int .i64 (S.commits : Int)]) rfl (by kernel_rfl) (by kernel_rfl) (by kernel_rfl) (fun _ _ _ h => h) rfl (by rfl) (fun w hw => by kernel_rfl) hH ?_
   simp only [Act.put, zA, zB, zC]
   have hz := (hbU.block m hl1).trans hz
   have hb3 : Below w.heap.size w (U.setRow m #[.int .i64 7, .int .i64 0, .int .i64 0, .int .i64 0, .int .i64 0, .int .i64 0, .slice none 0 0, .slice none 0 0, .slice none 0 0, .slice ao d.length cc, .int .i64 (S.commits : Int)]) := hb2.trans (((Off.refl [m] _).setRow _ _ (.inl (by simp))).below hb2.size (by simp; exact hm0))
   have hDA : DirtAt (U.setRow m #[.int .i64 7, .int .i64 0, .int .i64 0, .int .i64 0, .int .i64 0, .int .i64 0, .slice none 0 0, .slice none 0 0, .slice none 0 0, .slice ao d.length cc, .int .i64 (S.commits : Int)]) (.slice ao d.length cc) d := dirt_setRow hDA hz _ hcap.2.2 hl1
   refine step_store_to 13 (U.setRow m #[.int .i64 7, .int .i64 0, .int .i64 0, .int .i64 0, .int .i64 0, .int .i64 0, .slice none 0 0, .slice none 0 0, .slice none 0 0, .slice ao d.length cc, .int .i64 (S.commits : Int)]) rfl (by kernel_rfl) rfl (by rfl) 69 (.tmp 3) (.tmp 20) rfl (.pointer (some ⟨m, 0, none⟩)) (.agg #[.int .i64 7, .int .i64 0, .int .i64 0, .int .i64 0, .int .i64 0, .int .i64 0, .slice none 0 0, .slice none 0 0, .slice none 0 0, .slice ao d.length cc, .int .i64 (S.commits : Int)]) rfl rfl (Enc.run_store69 _ _ _ _ rfl rfl (ck_one _ _ _ _) hz) (HSL.out _ hb3) ?_
   refine wpAnyH_done (by kernel_rfl) ?_ _
   have HM : (U.setRow m #[.int .i64 7, .int .i64 0, .int .i64 0, .int .i64 0, .int .i64 0, .int .i64 0, .slice none 0 0, .slice none 0 0, .slice none 0 0, .slice ao d.length cc, .int .i64 (S.commits : Int)]).heap[m]? = some (.cells #[.int .i64 7, .int .i64 0, .int .i64 0, .int .i64 0, .int .i64 0, .int .i64 0, .slice none 0 0, .slice none 0 0, .slice none 0 0, .slice ao d.length cc, .int .i64 (S.commits : Int)] 69 (0, 0)) := setRow_heap _ _ _ _ _ _ hz
   generalize U.setRow m #[.int .i64 7, .int .i64 0, .int .i64 0, .int .i64 0, .int .i64 0, .int .i64 0, .slice none 0 0, .slice none 0 0, .slice none 0 0, .slice ao d.length cc, .int .i64 (S.commits : Int)] = W3 at hb3 HM hDA ⊢
   clear hz hb2 hb1 hbU hH HH0 HB0 hl1
   have hmx : m < W3.heap.size := (Array.getElem?_eq_some_iff.1 HM).1
   have hdl12 : d.length ≤ 12 := by rw [hp.length_eq]; exact HDL.out
   obtain ⟨Z, hZ⟩ : ∃ Z : Nat, 96 + 16 * d.length = Z := ⟨_, rfl⟩
   have hsz : (ckRc d S.commits).size = Z := by show 96 + 0 + 0 + 24 * 0 + 16 * d.length = Z; omega
   have hZ1 : Z ≤ 288 := by omega
   have HSZ := hide hsz
   have HREC : Hid (∀ W, Below W3.heap.size W3 W → Enc.RecVal W (.agg #[.int .i64 7, .int .i64 0, .int .i64 0, .int .i64 0, .int .i64 0, .int .i64 0, .slice none 0 0, .slice none 0 0, .slice none 0 0, .slice ao d.length cc, .int .i64 (S.commits : Int)]) (ckRc d S.commits)) := fun W hW => ⟨_, _, _, _, rfl, Enc.Row.nil W, Enc.Row.nil W, Enc.Row.nil W, dirt_row (hDA.below hW) hcap.1 hcap.2.1⟩
   have HFT : Hid (∀ x ∈ d, Enc.fits x.1 ∧ Enc.fits x.2) := fun x hx => HDF.out x (hp.mem_iff.1 hx)
   have H3 : Hid (StIs w0 W3 s c xs tb (.slice oa S.txs.length oc) ps uvs S) := H.out.belowW hb3
   have HB3 := hide hb3
   have HRG3 : Hid (W3.rangeAt m 0 [.int .i64 7, .int .i64 0, .int .i64 0, .int .i64 0, .int .i64 0, .int .i64 0, .slice none 0 0, .slice none 0 0, .slice none 0 0, .slice ao d.length cc, .int .i64 (S.commits : Int)]) := fun j u hu => by rw [Nat.zero_add, cell_of_row W3 m j _ _ _ HM]; simpa using hu
   have HDLL := hide hdl12
   have HPM := hide hp
   clear HM hb3 hDA hcap hp hpw hdl12 hsz hm0
   have hr0 : S.res = 0 := by show resT S.txs = 0; rw [hn0]; rfl
   have hge : ¬ ((S.R.room : Int) < (Z : Int) + (S.res : Int)) := by have := HRM.out; omega
   go_wp2_with (first
    | (refine wpList_load_mid (by rfl) 69 _ (by rfl) m 0 (by rfl) _ _ HRG3.out Tryz.underlying69 rfl Tryz.size69k ?_)
    | (go_at_call 29; refine (Enc.size_any (HREC.out W3 (Below.refl _ _)) (by rw [HSZ.out]; omega)).mono ?_; rw [HSZ.out]; rintro e W4 ⟨rfl, hW4⟩
       have hb4 : Below W3.heap.size W3 W4 := by rw [hW4]; exact (Below.refl _ W3).alloc (Nat.le_refl _) _
       have HB4 := hide hb4
       clear hb4 hW4)
    | (go_at_call 85; refine (reserved_any (H3.out.belowW HB4.out) (by omega)).mono ?_; rintro e W5 ⟨rfl, hb5⟩
       have HB5 := hide (HB4.out.trans (hb5.mono HB4.out.size))
       have H5 := hide (H3.out.belowW HB5.out)
       have c15 := H5.out.c1
       have c45 : W5.cell? ⟨s, 4, none⟩ = some (.slice oa 0 oc) := by have := H5.out.c4; rw [HE0.out] at this; exact this
       obtain ⟨bl5, vs5, gp5, D5, hP5, hy5⟩ := H5.out.asRing
       have HY5 := hide hy5
       clear hb5 hP5 hy5)
    | (go_at_call 84; refine (room_any HY5.out.rg).mono ?_; rintro e W6 ⟨rfl, m6, hw6⟩
       have hb6 : Below W5.heap.size W5 W6 := by rw [hw6]; exact below_drewN _ _ _
       have HB6 := hide (HB5.out.trans (hb6.mono HB5.out.size))
       have H6 := hide (H3.out.belowW HB6.out)
       have c16 := H6.out.c1
       obtain ⟨bl6, vs6, gp6, D6, hP6, hy6⟩ := H6.out.asRing
       have HY6 := hide hy6
       clear hb6 hw6 hP6 hy6)
    | (go_at_call 56; refine (tail_any HY6.out.rg).mono ?_; rintro e W7 ⟨rfl, m7, hw7⟩
       have hb7 : Below W6.heap.size W6 W7 := by rw [hw7]; exact below_drewN _ _ _
       have HB7 := hide (HB6.out.trans (hb7.mono HB6.out.size))
       have H7 := hide (H3.out.belowW HB7.out)
       have c47 : W7.cell? ⟨s, 4, none⟩ = some (.slice oa 0 oc) := by have := H7.out.c4; rw [HE0.out] at this; exact this
       have HRG7 : Hid (W7.rangeAt m 0 [.int .i64 7, .int .i64 0, .int .i64 0, .int .i64 0, .int .i64 0, .int .i64 0, .slice none 0 0, .slice none 0 0, .slice none 0 0, .slice ao d.length cc, .int .i64 (S.commits : Int)]) := fun j u hu => (HB7.out.cell (p := ⟨m, _, none⟩) hmx).trans (HRG3.out j u hu)
       clear hb7 hw7)
    | (refine wpList_load_mid (by rfl) 69 _ (by rfl) m 0 (by rfl) _ _ HRG7.out Tryz.underlying69 rfl Tryz.size69k ?_)
    | (go_at_call 30; refine (tell_ok H7.out (HREC.out W7 HB7.out) (by rw [HSZ.out]; omega) (ck_wf d S.commits HFT.out HCM.out) (by rw [HSZ.out]; have := HRM.out; omega)).mono ?_; rintro e W8 ⟨rfl, h8, hk8⟩
       have H8 := hide h8
       have HK8 := hide hk8
       clear h8 hk8)
    | (go_at_call 41; refine (sflush_ok H8.out).mono ?_; rintro e W9 ⟨rfl, h9, hk9⟩
       have H9 := hide h9
       have HK9 := hide hk9
       clear h9 hk9)
    | (go_at_call 81
       refine (startAt_ok H9.out (V := V) ((HI.out.setR _).setR _) HWR.out HDL.out rfl (rs ++ [ckRc d S.commits]) (by show S.R.held ++ _ = _; rw [HRS.out, encs_append]; simp [encs]) (fun R hR => by
        rcases List.mem_append.1 hR with h1 | h1
        · exact HGD.out R h1
        · rw [List.mem_singleton.1 h1]; exact ck_good d S.commits HFT.out HCM.out) (by simp) S.R.tail (fun j R hj hlt => ck_no S rs (ckRc d S.commits) HRS.out rfl j R hj hlt) (Nat.le_add_right _ _) (by show S.R.start + S.R.held.length ≤ S.R.start + (S.R.held ++ (ckRc d S.commits).enc).length; rw [List.length_append]; omega) HTL.out HMS.out HCM.out HNX.out).mono ?_
       rintro e W10 ⟨rfl, pl, hz⟩
       have HF := hide hz
       clear hz))
   go_ret
   obtain ⟨z1, z2, z3, z4, z5, z6⟩ := HF.out
   refine ⟨rfl, { pl with fo := ({ S.R with start := S.R.tail, held := (ckRc d S.commits).enc, fin := S.R.start + (S.R.held ++ (ckRc d S.commits).enc).length }, pl.fo.2) }, d, ?_, z1.setR _, rfl, HDLL.out, z3, z4, ?_⟩
   · have e1 : (S.R.held ++ (ckRc d S.commits).enc).drop (S.R.tail - S.R.start) = (ckRc d S.commits).enc := by
      show (S.R.held ++ (ckRc d S.commits).enc).drop (S.R.start + S.R.held.length - S.R.start) = _
      rw [show S.R.start + S.R.held.length - S.R.start = S.R.held.length by omega, List.drop_left]
     have key : ∀ l, (S.R.held ++ (ckRc d S.commits).enc).drop (S.R.tail - S.R.start) = l → StIs w0 W10 s c xs tb (.slice oa S.txs.length oc) ps uvs { S with pool := { pl with fo := ({ S.R with start := S.R.tail, held := l, fin := S.R.start + (S.R.held ++ (ckRc d S.commits).enc).length }, pl.fo.2) }, master := S.master + 1 } := fun l e => by rw [← e]; exact z5
     exact key _ e1
   · have k8 := HK8.out.mono (ys := tb ++ xs) (fun k hk => by simp only [List.mem_cons]; exact .inr hk)
     have k9 := HK9.out.mono (ys := tb ++ xs) (fun k hk => by simp only [List.mem_cons]; exact .inr hk)
     exact Kept.trans ⟨HB3.out.size, fun k hk => HB3.out.block k (H.out.lts (by simp only [List.mem_cons]; exact .inr hk))⟩ (Kept.trans ⟨HB7.out.size, fun k hk => HB7.out.block k (H3.out.lts (by simp only [List.mem_cons]; exact .inr hk))⟩ (k8.trans (k9.trans z6)))
end
end Go.Proofs.YteeembildppgmaaGreat
