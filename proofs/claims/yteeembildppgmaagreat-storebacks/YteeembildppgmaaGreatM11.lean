/- A part of it: PWrite PFree. -/
import Derived.Test.YteeembildppgmaaGreatM0
import Derived.Test.YteeembildppgmaaGreatM10
namespace Go.Proofs.YteeembildppgmaaGreat
open Go.RowKit
set_option linter.unusedVariables false
set_option linter.unusedSimpArgs false
theorem run_loadAny (w : World) (b o t : Nat) (v : Value) (ha : ∀ w, (isAgg t).run Tryz.prog w = .ok false w) (h : w.cell? ⟨b, o, none⟩ = some v) : (Instr.loadAt t (.pointer (some ⟨b, o, none⟩))).run Tryz.prog w = .ok v w := by
 simp [go_sem, ha, h]
theorem step_callv1_to {P : Program} {ops : Array Oper} {Q : Exit → Act → World → Prop} {md : Region.Mode} {S : World → Prop} {o : Oper} {fuel : Nat} {listed : Array Bool} {a : Act} {w : World} {R : Ending → World → Prop} (j dst f : Nat) (cb : Array Value) (hj : ops[j]? = some o)
 (hr : Region.ready md ops listed = [j]) (hd : o.dst = some dst) (hw : Region.wanted o (yielded ops a.tmps) = true) (fo x : Operand) (ts : Array TypeId) (hop : o.op = Op.call { callee := Callee.value fo, args := #[x], argTypes := ts })
 (vx : Value) (hf : a.eval fo = .func (.func f) #[] cb) (hx : a.eval x = vx) (hcf : ∀ args w, (callFunc f args).run P w = .ok (.enter f args) w) (hc : Calls P f (#[vx] ++ cb) w R)
 (hK : ∀ e w', R e w' → ∃ v, e = .returned v ∧ S w' ∧ wpAnyH P md ops Q S fuel (listed.setIfInBounds j true) (a.put (some dst) v) w') : wpAnyH P md ops Q S (fuel + 1) listed a w := by
 refine step_by j hj hr (fun K hK' => ?_)
 rw [if_pos hw]
 have hrun : (execOp a.eval o).run P w = .ok (.enter f (#[vx] ++ cb)) w := by
  unfold execOp
  simp [hop, resolve, hf, Deferred.ofValue, invoke, hx]
  exact hcf _ _
 unfold Oper.wp
 rw [hrun, Oper.upon_enter]
 refine hc.mono ?_
 intro e w' hR
 obtain ⟨v, rfl, hS, hW⟩ := hK e w' hR
 show K (a.put o.dst v) w'
 rw [hd]
 exact hK' _ _ hS hW
structure BlkAt (w : World) (g c : Nat) (bs : List UInt8) (cur : Array Value) : Prop where
 blk : w.heap[g]? = some (.cells cur 5 (0, 0))
 pre : cur.toList.take bs.length = secCells bs
 cap : bs.length ≤ c
 size : cur.size = c
theorem BlkAt.src {w : World} {g c : Nat} {bs : List UInt8} {cur : Array Value} (h : BlkAt w g c bs cur) : SrcAt w g 0 bs := by
 refine ⟨(Array.getElem?_eq_some_iff.1 h.blk).1, fun j u hu => ?_⟩
 refine src_of_block (X := cur.toList) (by simpa using h.blk) j u ?_
 rw [← h.pre] at hu
 rw [List.getElem?_take] at hu
 split at hu
 · exact hu
 · cases hu
theorem BlkAt.lt {w : World} {g c : Nat} {bs : List UInt8} {cur : Array Value} (h : BlkAt w g c bs cur) : g < w.heap.size := (Array.getElem?_eq_some_iff.1 h.blk).1
theorem clone_any {w : World} {g c : Nat} {bs : List UInt8} (h : SrcAt w g 0 bs) (hl : bs.length = 512) :
 Calls Tryz.prog 93 #[.slice (some ⟨g, 0, none⟩) 512 c] w fun e w' => ∃ g' c' cur, e = .returned (.slice (some ⟨g', 0, none⟩) 512 c') ∧ w.heap.size ≤ g' ∧ BlkAt w' g' c' bs cur ∧ Below w.heap.size w w' := by
 have hcon := Any.bytes_Clone_at Tryz.cloneB ⟨g, 0, none⟩ 512 c (bs.map fun b => (b.toNat : Int)) w (by simp [hl]) (by omega) (fun i hi => by
  refine h.2 i _ ?_
  simp [secCells, bcell, List.getElem?_eq_getElem (show i < bs.length by omega)])
 change Calls Tryz.prog 93 _ _ _ at hcon
 refine hcon.mono ?_
 rintro e w' ⟨v', rfl, ho, hne, hb⟩
 have ho : w'.ownsRow w.heap.size 5 1 v' 512 ((bs.map fun b => (b.toNat : Int)).map (Value.int .u8)) := ho
 obtain ⟨h1, h2⟩ := ho
 rcases h2 with ⟨rfl, _⟩ | ⟨g', cap, cur, rfl, h3, h4, h5, h6, h7, h8⟩
 · exact absurd rfl hne
 · refine ⟨g', cap, cur, rfl, h3, ⟨h4, ?_, by omega, by omega⟩, hb⟩
   rw [hl]
   rw [Nat.mul_one] at h8
   rw [h8]
   simp [secCells, bcell]

def Pl.wrote {Φ : Back} (S : Pl Φ.σ) (f : Fm) : Int × Pl Φ.σ :=
 if f.dirty = true then
  (if (Φ.step S.fo f.lsn).1 ≠ 0 then ((Φ.step S.fo f.lsn).1, { S with fo := (Φ.step S.fo f.lsn).2 })
   else (0, { S with fo := Φ.wr (Φ.step S.fo f.lsn).2 f.page.toNat f.bs, wr := S.wr + 1 }))
 else (0, S)
theorem Kept.mono {xs ys : List Nat} {a b : World} (h : Kept xs a b) (hy : ∀ k ∈ ys, k ∈ xs) : Kept ys a b := ⟨h.1, fun k hk => h.2 k (hy k hk)⟩
section
variable {Φ : Back} {w0 w w' : World} {P G : Nat} {xs bl : List Nat} {vs : List Value} {S : Pl Φ.σ}
theorem pool_fwrite (h : PoolIs Φ w0 w P G xs bl vs S) (i g c : Nat) (bs : List UInt8) (hl : bs.length = 512) (hc : 512 ≤ c) (hg : g ∈ bl) (hs : SrcAt w g 0 bs) (hi : i < Φ.n) :
 Calls Tryz.prog 116 #[.pointer (some ⟨Φ.q, 0, none⟩), .int .i64 (i : Int), .slice (some ⟨g, 0, none⟩) 512 c] w fun e w' => e = .returned (.int .i64 0) ∧
  PoolIs Φ w0 w' P G xs bl vs { S with fo := Φ.wr S.fo i bs } ∧ Kept xs w w' := by
 refine (Φ.fwrite h.bk hl hc (by simp [hg]) hs hi).mono ?_
 rintro e w' ⟨rfl, h1, h2⟩
 exact ⟨rfl, h.kept _ h1 h2, h2.mono (fun k hk => by simp [hk])⟩
theorem pool_force (h : PoolIs Φ w0 w P G xs bl vs S) (l : Int) (h1 : -9223372036854775808 ≤ l) (h2 : l ≤ 9223372036854775807) :
 Calls Tryz.prog Φ.g (#[.int .i64 l] ++ Φ.cb) w fun e w' => e = .returned (.int .i64 (Φ.step S.fo l).1) ∧ PoolIs Φ w0 w' P G xs bl vs { S with fo := (Φ.step S.fo l).2 } ∧ Kept xs w w' := by
 refine (Φ.force h.bk h1 h2).mono ?_
 rintro e w' ⟨rfl, h3, h4⟩
 exact ⟨rfl, h.kept _ h3 h4, h4.mono (fun k hk => by simp [hk])⟩

set_option maxHeartbeats 1000000 in
set_option maxRecDepth 100000 in
theorem write_any (h : PoolIs Φ w0 w P G xs bl vs S) (i : Nat) (f : Fm) (hf : S.fs[i]? = some f) (hpg : f.dirty = true → 0 ≤ f.page ∧ f.page < (Φ.n : Int) ∧ f.bs.length = 512) (hwr : S.wr ≤ 1000000) :
 Calls Tryz.prog 83 #[.pointer (some ⟨P, 0, none⟩), .pointer (some ⟨G, i * 7, none⟩)] w fun e w' => e = .returned (.int .i64 (S.wrote f).1) ∧ PoolIs Φ w0 w' P G xs bl vs (S.wrote f).2 ∧ Kept xs w w' := by
 obtain ⟨v, hv, hB, hi, d0, d1, d2, d3, d4, d5, d6⟩ := h.cells i f hf
 by_cases hd : f.dirty = true
 · obtain ⟨hp0, hpn, hb5⟩ := hpg hd
   have hls := h.lsn f (List.mem_of_getElem? hf)
   rw [hd] at d4
   have c1 := h.c1
   have c0 := h.c0
   unfold Back.fv at c1
   have HC := hide (fun d => pool_force (h.belowW (below_drewN _ _ d)) f.lsn hls.1 hls.2)
   have eg := Φ.enters
   have H := hide h
   have HBB := hide hB
   have HF := hide hf
   have HV := hide hv
   have HD := hide hd
   have hpos : ∃ m : Nat, f.page = (m : Int) ∧ m < Φ.n := ⟨f.page.toNat, by omega, by omega⟩
   obtain ⟨m, hm, hmn⟩ := hpos
   rw [hm] at d1
   have HM := hide hm
   have HB5 := hide hb5
   clear h hB hd hf hv hpg hls hp0 hpn hm hb5
   obtain ⟨⟨x, s⟩, hX⟩ : ∃ X, Φ.step S.fo f.lsn = X := ⟨_, rfl⟩
   rw [hX] at HC
   have HX := hide hX
   clear hX
   obtain ⟨L, hL⟩ : ∃ L, f.lsn = L := ⟨_, rfl⟩
   rw [hL] at d6 HC
   have HL := hide hL
   clear hL
   by_cases hx : x = 0
   · subst hx
     have HW : Hid (S.wrote f = (0, { S with fo := Φ.wr s m f.bs, wr := S.wr + 1 })) := by
      show _ = _
      unfold Pl.wrote
      rw [if_pos HD.out, HX.out, if_neg (by simp), HM.out]
      rfl
     rw [HW.out]
     clear HW
     go_enter Tryz.func83, Tryz.ntmps83
     go_wp2
     refine wp_region_held_drew (S := fun w' => w'.cell? ⟨P, 1, none⟩ = some (.func (.func Φ.g) #[] Φ.cb) ∧ w'.cell? ⟨G, i * 7 + 6, none⟩ = some (.int .i64 L)) (by kernel_rfl) ⟨c1, d6⟩ (fun hH => ?_)
     refine take_to 0 12 (.pointer (some ⟨P, 0, none⟩)) rfl (by kernel_rfl) (by kernel_rfl) (by kernel_rfl) (fun _ _ _ h => h) rfl (by rfl) (fun w hw => by rfl) hH ?_
     simp only [Act.put, zA, zB, zC]
     refine take_to 1 13 (.pointer (some ⟨P, 0, none⟩)) rfl (by kernel_rfl) (by kernel_rfl) (by kernel_rfl) (fun _ _ _ h => h) rfl (by rfl) (fun w hw => by rfl) hH ?_
     simp only [Act.put, zA, zB, zC]
     refine take_to 2 14 (.pointer (some ⟨P, 1, none⟩)) rfl (by kernel_rfl) (by kernel_rfl) (by kernel_rfl) (fun _ _ _ h => h) rfl (by rfl) (fun w hw => by rfl) hH ?_
     simp only [Act.put, zA, zB, zC]
     refine take_to 3 15 (.func (.func Φ.g) #[] Φ.cb) rfl (by kernel_rfl) (by kernel_rfl) (by kernel_rfl) (fun _ _ _ h => h) rfl (by rfl) (fun w hw => op_load _ _ 41 (.tmp 14) rfl (.pointer (some ⟨P, 1, none⟩)) _ rfl (run_loadAny w P 1 41 _ Tryz.isAgg41 hw.1)) hH ?_
     simp only [Act.put, zA, zB, zC]
     refine take_to 4 16 (.pointer (some ⟨G, i * 7, none⟩)) rfl (by kernel_rfl) (by kernel_rfl) (by kernel_rfl) (fun _ _ _ h => h) rfl (by rfl) (fun w hw => by rfl) hH ?_
     simp only [Act.put, zA, zB, zC]
     refine take_to 5 17 (.pointer (some ⟨G, i * 7, none⟩)) rfl (by kernel_rfl) (by kernel_rfl) (by kernel_rfl) (fun _ _ _ h => h) rfl (by rfl) (fun w hw => by rfl) hH ?_
     simp only [Act.put, zA, zB, zC]
     refine take_to 6 18 (.pointer (some ⟨G, i * 7 + 6, none⟩)) rfl (by kernel_rfl) (by kernel_rfl) (by kernel_rfl) (fun _ _ _ h => h) rfl (by rfl) (fun w hw => by rfl) hH ?_
     simp only [Act.put, zA, zB, zC]
     refine take_to 7 19 (.int .i64 L) rfl (by kernel_rfl) (by kernel_rfl) (by kernel_rfl) (fun _ _ _ h => h) rfl (by rfl) (fun w hw => op_load _ _ 3 (.tmp 18) rfl (.pointer (some ⟨G, (i * 7 + 6), none⟩)) _ rfl (run_loadAny w G (i * 7 + 6) 3 _ Tryz.isAgg3 hw.2)) hH ?_
     simp only [Act.put, zA, zB, zC]
     refine step_callv1_to 8 20 Φ.g Φ.cb rfl (by kernel_rfl) rfl (by rfl) (.tmp 15) (.tmp 19) _ rfl _ rfl rfl Φ.enters (HC.out 1) ?_
     rintro e w1 ⟨rfl, h1, hO1⟩
     obtain ⟨v1, hv1, hB1, _, b0, b1, b2, b3, b4, b5, b6⟩ := h1.cells i f HF.out
     rw [HL.out] at b6
     have hS1 : w1.cell? ⟨P, 1, none⟩ = some (.func (.func Φ.g) #[] Φ.cb) ∧ w1.cell? ⟨G, i * 7 + 6, none⟩ = some (.int .i64 L) := ⟨h1.c1, b6⟩
     refine ⟨_, rfl, hS1, ?_⟩
     simp only [Act.put, zA, zB, zC]
     refine step_to 9 5 (.int .i64 0) w1 rfl (by kernel_rfl) rfl (by rfl) (rfl) hS1 ?_
     simp only [Act.put, zA, zB, zC]
     refine wpAnyH_done (by kernel_rfl) ?_ _
     rcases hB1 with ⟨hb0, _⟩ | ⟨g, c, rfl, hc, hb5, hgb, hsr⟩
     · have := HB5.out
       rw [hb0] at this
       simp at this
     rw [HM.out] at b1
     have HFW := hide (fun d => pool_fwrite (h1.belowW (below_drewN _ _ d)) m g c f.bs HB5.out hc hgb hsr hmn)
     have a0 := h1.c0
     have HV := hide hv1
     have HK1 : Hid (Kept xs w w1) := ⟨hO1.1, hO1.2⟩
     clear hv1 b0 b3 b4 b5 b6 hS1 hO1 hH c1 c0 d0 d1 d2 d3 d4 d5 d6 h1 HC hb5 hgb hsr
     go_wp2
     refine wp_region_held_drew (S := fun w' => w'.cell? ⟨P, 0, none⟩ = some (.pointer (some ⟨Φ.q, 0, none⟩)) ∧ w'.cell? ⟨G, i * 7 + 1, none⟩ = some (.int .i64 (m : Int)) ∧ w'.cell? ⟨G, i * 7 + 2, none⟩ = some (.slice (some ⟨g, 0, none⟩) 512 c)) (by kernel_rfl) ⟨a0, b1, b2⟩ (fun hH => ?_)
     refine take_to 0 24 (.pointer (some ⟨P, 0, none⟩)) rfl (by kernel_rfl) (by kernel_rfl) (by kernel_rfl) (fun _ _ _ h => h) rfl (by rfl) (fun w hw => by rfl) hH ?_
     simp only [Act.put, zA, zB, zC]
     refine take_to 1 25 (.pointer (some ⟨P, 0, none⟩)) rfl (by kernel_rfl) (by kernel_rfl) (by kernel_rfl) (fun _ _ _ h => h) rfl (by rfl) (fun w hw => by rfl) hH ?_
     simp only [Act.put, zA, zB, zC]
     refine take_to 2 26 (.pointer (some ⟨P, 0, none⟩)) rfl (by kernel_rfl) (by kernel_rfl) (by kernel_rfl) (fun _ _ _ h => h) rfl (by rfl) (fun w hw => by rfl) hH ?_
     simp only [Act.put, zA, zB, zC]
     refine take_to 3 27 (.pointer (some ⟨Φ.q, 0, none⟩)) rfl (by kernel_rfl) (by kernel_rfl) (by kernel_rfl) (fun _ _ _ h => h) rfl (by rfl) (fun w hw => op_load _ _ 118 (.tmp 26) rfl (.pointer (some ⟨P, 0, none⟩)) _ rfl (run_loadAny w P 0 118 _ Tryz.isAgg118 hw.1)) hH ?_
     simp only [Act.put, zA, zB, zC]
     refine take_to 4 28 (.pointer (some ⟨G, i * 7, none⟩)) rfl (by kernel_rfl) (by kernel_rfl) (by kernel_rfl) (fun _ _ _ h => h) rfl (by rfl) (fun w hw => by rfl) hH ?_
     simp only [Act.put, zA, zB, zC]
     refine take_to 5 29 (.pointer (some ⟨G, i * 7, none⟩)) rfl (by kernel_rfl) (by kernel_rfl) (by kernel_rfl) (fun _ _ _ h => h) rfl (by rfl) (fun w hw => by rfl) hH ?_
     simp only [Act.put, zA, zB, zC]
     refine take_to 6 30 (.pointer (some ⟨G, i * 7 + 1, none⟩)) rfl (by kernel_rfl) (by kernel_rfl) (by kernel_rfl) (fun _ _ _ h => h) rfl (by rfl) (fun w hw => by rfl) hH ?_
     simp only [Act.put, zA, zB, zC]
     refine take_to 7 31 (.int .i64 (m : Int)) rfl (by kernel_rfl) (by kernel_rfl) (by kernel_rfl) (fun _ _ _ h => h) rfl (by rfl) (fun w hw => op_load _ _ 3 (.tmp 30) rfl (.pointer (some ⟨G, (i * 7 + 1), none⟩)) _ rfl (run_loadAny w G (i * 7 + 1) 3 _ Tryz.isAgg3 hw.2.1)) hH ?_
     simp only [Act.put, zA, zB, zC]
     refine take_to 8 32 (.pointer (some ⟨G, i * 7, none⟩)) rfl (by kernel_rfl) (by kernel_rfl) (by kernel_rfl) (fun _ _ _ h => h) rfl (by rfl) (fun w hw => by rfl) hH ?_
     simp only [Act.put, zA, zB, zC]
     refine take_to 9 33 (.pointer (some ⟨G, i * 7, none⟩)) rfl (by kernel_rfl) (by kernel_rfl) (by kernel_rfl) (fun _ _ _ h => h) rfl (by rfl) (fun w hw => by rfl) hH ?_
     simp only [Act.put, zA, zB, zC]
     refine take_to 10 34 (.pointer (some ⟨G, i * 7 + 2, none⟩)) rfl (by kernel_rfl) (by kernel_rfl) (by kernel_rfl) (fun _ _ _ h => h) rfl (by rfl) (fun w hw => by rfl) hH ?_
     simp only [Act.put, zA, zB, zC]
     refine take_to 11 35 (.slice (some ⟨g, 0, none⟩) 512 c) rfl (by kernel_rfl) (by kernel_rfl) (by kernel_rfl) (fun _ _ _ h => h) rfl (by rfl) (fun w hw => op_load _ _ 36 (.tmp 34) rfl (.pointer (some ⟨G, (i * 7 + 2), none⟩)) _ rfl (run_loadAny w G (i * 7 + 2) 36 _ Tryz.isAgg36 hw.2.2)) hH ?_
     simp only [Act.put, zA, zB, zC]
     refine step_call3_to 12 36 116 rfl (by kernel_rfl) rfl (by rfl) (.tmp 27) (.tmp 31) (.tmp 35) _ rfl _ _ _ rfl rfl rfl Tryz.enters116 (HFW.out 1) ?_
     rintro e w2 ⟨rfl, h2, hK2⟩
     obtain ⟨v2, hv2, hB2, _, e0, e1, e2, e3, e4, e5, e6⟩ := h2.cells i f HF.out
     rw [HV.out] at hv2
     cases hv2
     rw [HM.out] at e1
     have hS2 : w2.cell? ⟨P, 0, none⟩ = some (.pointer (some ⟨Φ.q, 0, none⟩)) ∧ w2.cell? ⟨G, i * 7 + 1, none⟩ = some (.int .i64 (m : Int)) ∧ w2.cell? ⟨G, i * 7 + 2, none⟩ = some (.slice (some ⟨g, 0, none⟩) 512 c) := ⟨h2.c0, e1, e2⟩
     refine ⟨_, rfl, hS2, ?_⟩
     simp only [Act.put, zA, zB, zC]
     refine step_to 13 6 (.int .i64 0) w2 rfl (by kernel_rfl) rfl (by rfl) (rfl) hS2 ?_
     simp only [Act.put, zA, zB, zC]
     refine wpAnyH_done (by kernel_rfl) ?_ _
     have a4 := h2.c4
     have f4 := h2.fzP 4
     have H2 := hide h2
     have HK2 : Hid (Kept xs w1 w2) := ⟨hK2.1, hK2.2⟩
     clear h2 hK2 hB2 e0 e1 e2 e3 e4 e5 e6 hS2 hH a0 b1 b2 HFW
     have hw4 : IntKind.i64.wrap ((S.wr : Int) + 1) = (S.wr : Int) + 1 := by rw [IntKind.wrap_i64]; omega
     have a4 : w2.cell? ⟨P, 4, none⟩ = some (.int .i64 (S.wr : Int)) := a4
     go_wp2
     go_ret
     have HO3 : Off [P] w2 (w2.setCell ⟨P, 4, none⟩ (.int .i64 ((S.wr : Int) + 1))) := (Off.refl _ _).setCell _ _ (by simp)
     refine ⟨rfl, H2.out.setP S.hand (S.wr + 1) HO3 ?_ H2.out.hand, HK1.out.trans (HK2.out.trans ⟨HO3.size, fun k hk => HO3.block k (Φ.lts H2.out.bk (by simp [hk])) (fun hm => by simp at hm; exact H2.out.pb (by rw [← hm]; simp [hk]))⟩)⟩
     rw [heap_setCell_same _ P 4 _ _ _ H2.out.head]
     rfl
   · have HW : Hid (S.wrote f = (x, { S with fo := s })) := by
      show _ = _
      unfold Pl.wrote
      rw [if_pos HD.out, HX.out, if_pos (by simpa using hx)]
     rw [HW.out]
     clear HW
     go_enter Tryz.func83, Tryz.ntmps83
     go_wp2
     refine wp_region_held_drew (S := fun w' => w'.cell? ⟨P, 1, none⟩ = some (.func (.func Φ.g) #[] Φ.cb) ∧ w'.cell? ⟨G, i * 7 + 6, none⟩ = some (.int .i64 L)) (by kernel_rfl) ⟨c1, d6⟩ (fun hH => ?_)
     refine take_to 0 12 (.pointer (some ⟨P, 0, none⟩)) rfl (by kernel_rfl) (by kernel_rfl) (by kernel_rfl) (fun _ _ _ h => h) rfl (by rfl) (fun w hw => by rfl) hH ?_
     simp only [Act.put, zA, zB, zC]
     refine take_to 1 13 (.pointer (some ⟨P, 0, none⟩)) rfl (by kernel_rfl) (by kernel_rfl) (by kernel_rfl) (fun _ _ _ h => h) rfl (by rfl) (fun w hw => by rfl) hH ?_
     simp only [Act.put, zA, zB, zC]
     refine take_to 2 14 (.pointer (some ⟨P, 1, none⟩)) rfl (by kernel_rfl) (by kernel_rfl) (by kernel_rfl) (fun _ _ _ h => h) rfl (by rfl) (fun w hw => by rfl) hH ?_
     simp only [Act.put, zA, zB, zC]
     refine take_to 3 15 (.func (.func Φ.g) #[] Φ.cb) rfl (by kernel_rfl) (by kernel_rfl) (by kernel_rfl) (fun _ _ _ h => h) rfl (by rfl) (fun w hw => op_load _ _ 41 (.tmp 14) rfl (.pointer (some ⟨P, 1, none⟩)) _ rfl (run_loadAny w P 1 41 _ Tryz.isAgg41 hw.1)) hH ?_
     simp only [Act.put, zA, zB, zC]
     refine take_to 4 16 (.pointer (some ⟨G, i * 7, none⟩)) rfl (by kernel_rfl) (by kernel_rfl) (by kernel_rfl) (fun _ _ _ h => h) rfl (by rfl) (fun w hw => by rfl) hH ?_
     simp only [Act.put, zA, zB, zC]
     refine take_to 5 17 (.pointer (some ⟨G, i * 7, none⟩)) rfl (by kernel_rfl) (by kernel_rfl) (by kernel_rfl) (fun _ _ _ h => h) rfl (by rfl) (fun w hw => by rfl) hH ?_
     simp only [Act.put, zA, zB, zC]
     refine take_to 6 18 (.pointer (some ⟨G, i * 7 + 6, none⟩)) rfl (by kernel_rfl) (by kernel_rfl) (by kernel_rfl) (fun _ _ _ h => h) rfl (by rfl) (fun w hw => by rfl) hH ?_
     simp only [Act.put, zA, zB, zC]
     refine take_to 7 19 (.int .i64 L) rfl (by kernel_rfl) (by kernel_rfl) (by kernel_rfl) (fun _ _ _ h => h) rfl (by rfl) (fun w hw => op_load _ _ 3 (.tmp 18) rfl (.pointer (some ⟨G, (i * 7 + 6), none⟩)) _ rfl (run_loadAny w G (i * 7 + 6) 3 _ Tryz.isAgg3 hw.2)) hH ?_
     simp only [Act.put, zA, zB, zC]
     refine step_callv1_to 8 20 Φ.g Φ.cb rfl (by kernel_rfl) rfl (by rfl) (.tmp 15) (.tmp 19) _ rfl _ rfl rfl Φ.enters (HC.out 1) ?_
     rintro e w1 ⟨rfl, h1, hO1⟩
     obtain ⟨v1, hv1, hB1, _, b0, b1, b2, b3, b4, b5, b6⟩ := h1.cells i f HF.out
     rw [HL.out] at b6
     have hS1 : w1.cell? ⟨P, 1, none⟩ = some (.func (.func Φ.g) #[] Φ.cb) ∧ w1.cell? ⟨G, i * 7 + 6, none⟩ = some (.int .i64 L) := ⟨h1.c1, b6⟩
     refine ⟨_, rfl, hS1, ?_⟩
     simp only [Act.put, zA, zB, zC]
     refine step_to 9 5 (.int .i64 x) w1 rfl (by kernel_rfl) rfl (by rfl) (rfl) hS1 ?_
     simp only [Act.put, zA, zB, zC]
     refine wpAnyH_done (by kernel_rfl) ?_ _
     have H1 := hide h1
     have HK1 : Hid (Kept xs w w1) := ⟨hO1.1, hO1.2⟩
     clear hv1 hB1 b0 b1 b2 b3 b4 b5 b6 hS1 hO1 hH c1 c0 d0 d1 d2 d3 d4 d5 d6 h1 HC
     have hxb : (x != 0) = true := by simpa using hx
     go_wp2
     go_ret
     exact ⟨rfl, H1.out, HK1.out⟩
 · have hd' : f.dirty = false := by simpa using hd
   rw [hd'] at d4
   have HW : Hid (S.wrote f = (0, S)) := by show _ = _; unfold Pl.wrote; rw [if_neg hd]
   rw [HW.out]
   have H := hide h
   clear h hB hpg
   go_enter Tryz.func83, Tryz.ntmps83
   go_wp2
   go_ret
   exact ⟨rfl, H.out, Kept.refl _ _⟩
end
end Go.Proofs.YteeembildppgmaaGreat
namespace Go.Proofs.YteeembildppgmaaGreat
open Go.RowKit
set_option linter.unusedVariables false
set_option linter.unusedSimpArgs false
def Pl.empty {σ : Type} (S : Pl σ) : Option Nat := S.fs.findIdx? (fun f => !f.held)
def Pl.next {σ : Type} (S : Pl σ) : Nat := (S.hand + 1) % S.fs.length
def Fm.unasked (f : Fm) : Fm := { f with asked := false }
def Pl.clock {σ : Type} : Nat → Pl σ → Nat × Pl σ
 | 0, S => (S.hand, S)
 | k + 1, S => match S.fs[S.hand]? with
   | some f => if f.asked = true then Pl.clock k { S with fs := S.fs.set S.hand f.unasked, hand := S.next } else (S.hand, { S with hand := S.next })
   | none => (S.hand, S)
def Pl.pick {σ : Type} (S : Pl σ) : Nat × Pl σ := match S.empty with
 | some i => (i, S)
 | none => S.clock 65
def Pl.nAsk {σ : Type} (S : Pl σ) : Nat := S.fs.countP (·.asked)
theorem countP_rangeN {α : Type} (pr : α → Bool) (Q : Nat → Bool) (l : List α) (h : ∀ (i : Nat) x, l[i]? = some x → Q i = pr x) : ∀ k, k ≤ l.length → (List.range k).countP Q = (l.take k).countP pr
 | 0, _ => by simp
 | k + 1, hk => by
   have hx := h k l[k] (List.getElem?_eq_getElem (by omega))
   rw [List.range_succ, List.countP_append, countP_rangeN pr Q l h k (by omega), List.take_succ_eq_append_getElem (by omega), List.countP_append]
   simp [List.countP_cons, hx]
theorem countP_range {α : Type} (pr : α → Bool) (Q : Nat → Bool) (l : List α) (h : ∀ (i : Nat) x, l[i]? = some x → Q i = pr x) : (List.range l.length).countP Q = l.countP pr := by
 rw [countP_rangeN pr Q l h l.length (Nat.le_refl _), List.take_length]
def askB : Option Value → Bool
 | some (.bool b) => b
 | _ => false
def askW (w : World) (G N : Nat) : Nat := (List.range N).countP (fun i => askB (w.cell? ⟨G, i * 7 + 3, none⟩))
theorem op_add3 (ρ : Operand → Value) (o : Oper) (x y : Operand) (tt : TypeId) (ho : o.op = .binOp .add 3 x y tt) (n m : Int) (hx : ρ x = .int .i64 n) (hy : ρ y = .int .i64 m) (b : Int) (hb : IntKind.i64.wrap (n + m) = b) {w : World} : (execOp ρ o).run Tryz.prog w = .ok (.value (.int .i64 b)) w := by
 have hu := Tryz.underlying3
 unfold execOp
 simp only [ho, hx, hy]
 simp [go_sem, hu, hb]
theorem op_rem3 (ρ : Operand → Value) (o : Oper) (x y : Operand) (tt : TypeId) (ho : o.op = .binOp .rem 3 x y tt) (n m : Int) (hx : ρ x = .int .i64 n) (hy : ρ y = .int .i64 m) (b : Int) (hm : 0 < m) (hb : n.tmod m = b) {w : World} : (execOp ρ o).run Tryz.prog w = .ok (.value (.int .i64 b)) w := by
 have hu := Tryz.underlying3
 have h0 : (m == 0) = false := beq_eq_false_iff_ne.2 (by omega)
 have h0' : m ≠ 0 := by omega
 unfold execOp
 simp only [ho, hx, hy]
 simp [go_sem, hu, hb, h0, h0']
theorem run_index145 (w : World) (lb n cap i : Nat) (h : i < n) : (Instr.indexAt 145 (.slice (some ⟨lb, 0, none⟩) n cap) (.int .i64 (i : Int))).run Tryz.prog w = .ok (.pointer (some ⟨lb, i * 7, none⟩)) w := by
 have hu := Tryz.underlying145
 have hs := Tryz.sizeOf132
 simp [go_sem, hu, hs, h]
section
variable {Φ : Back} {w0 w w' : World} {P G : Nat} {xs bl : List Nat} {vs : List Value} {S : Pl Φ.σ}
theorem PoolIs.askW (h : PoolIs Φ w0 w P G xs bl vs S) : askW w G S.fs.length = S.nAsk := by
 unfold YteeembildppgmaaGreat.askW Pl.nAsk
 refine countP_range _ _ _ (fun i f hi => ?_)
 obtain ⟨v, _, _, _, _, _, _, d3, _⟩ := h.cells i f hi
 rw [d3]
 rfl
theorem PoolIs.nAsk (h : PoolIs Φ w0 w P G xs bl vs S) : S.nAsk < 65 := by
 have := h.f2
 have h2 := List.countP_le_length (p := fun f : Fm => f.asked) (l := S.fs)
 unfold Pl.nAsk
 omega
theorem PoolIs.mark (h : PoolIs Φ w0 w P G xs bl vs S) (i : Nat) (f : Fm) (hf : S.fs[i]? = some f) (b : Bool) : PoolIs Φ w0 (w.setCell ⟨G, i * 7 + 3, none⟩ (.bool b)) P G xs bl vs { S with fs := S.fs.set i { f with asked := b } } := by
 obtain ⟨v, hv, hB, hi, _⟩ := h.cells i f hf
 obtain ⟨hlt, rfl⟩ := List.getElem?_eq_some_iff.1 hf
 obtain ⟨hvl, rfl⟩ := List.getElem?_eq_some_iff.1 hv
 have hO : Off [G] w (w.setCell ⟨G, i * 7 + 3, none⟩ (.bool b)) := (Off.refl _ _).setCell _ _ (by simp)
 have := h.setG i { S.fs[i] with asked := b } vs[i] hi hO (by
  rw [heap_setCell_same _ G _ _ _ _ h.row, List.setIfInBounds_toArray, rowF_set1 S.fs vs h.vlen i hi 3 (by omega) (.bool b) { S.fs[i] with asked := b } vs[i] rfl]) (hB.stay rfl (Nat.le_refl _) (fun k hk => ⟨hk, rfl⟩)) (h.lsn S.fs[i] (List.getElem_mem _))
 rw [List.set_getElem_self] at this
 exact this
theorem nAsk_unmark {σ : Type} (S : Pl σ) (i : Nat) (f : Fm) (hf : S.fs[i]? = some f) (ha : f.asked = true) (k : Nat) : ({ S with fs := S.fs.set i f.unasked, hand := k } : Pl σ).nAsk + 1 = S.nAsk := by
 obtain ⟨hlt, rfl⟩ := List.getElem?_eq_some_iff.1 hf
 have h1 : 0 < S.fs.countP (·.asked) := List.countP_pos_iff.2 ⟨_, List.getElem_mem hlt, ha⟩
 unfold Pl.nAsk
 simp only
 rw [List.countP_set hlt]
 simp [ha, Fm.unasked]
 omega
def Pl.free {Φ : Back} (S : Pl Φ.σ) : Int × Nat × Pl Φ.σ := match S.pick.2.fs[S.pick.1]? with
 | some f => ((S.pick.2.wrote f).1, S.pick.1, (S.pick.2.wrote f).2)
 | none => (0, S.pick.1, S.pick.2)
def Pl.sound {σ : Type} (S : Pl σ) (n : Nat) : Prop := ∀ f ∈ S.fs, f.dirty = true → 0 ≤ f.page ∧ f.page < (n : Int) ∧ f.bs.length = 512

set_option maxHeartbeats 2000000 in
set_option maxRecDepth 100000 in
theorem free_any (h : PoolIs Φ w0 w P G xs bl vs S) (hpg : S.sound Φ.n) (hwr : S.wr ≤ 1000000) :
 Calls Tryz.prog 95 #[.pointer (some ⟨P, 0, none⟩)] w fun e w' => e = .returned (.tuple #[.pointer (if S.free.1 = 0 then some ⟨G, S.free.2.1 * 7, none⟩ else none), .int .i64 S.free.1]) ∧ PoolAt Φ w0 w' P G xs S.free.2.2 ∧ Kept xs w w' := by
 have c2 := h.c2
 have hm64 := h.f2
 have H := hide h
 clear h
 cases hE : S.empty with
 | some i =>
   have hI := List.findIdx?_eq_some_iff_getElem.1 hE
   obtain ⟨hil, hip, hij⟩ := hI
   have HPK : Hid (S.pick = (i, S)) := by show _ = _; unfold Pl.pick; rw [hE]
   have HNE : Hid (∀ (j : Nat) y, j < i → S.fs[j]? = some y → y.held = true) := fun j y hj hy => by
    have := hij j hj
    obtain ⟨hjl, rfl⟩ := List.getElem?_eq_some_iff.1 hy
    simpa using this
   have hfi : S.fs[i]? = some S.fs[i] := List.getElem?_eq_getElem hil
   have hhe : S.fs[i].held = false := by simpa using hip
   generalize S.fs[i] = f at *
   have HFI := hide hfi
   have HHE := hide hhe
   clear hE hip hij hfi hhe
   go_enter Tryz.func95, Tryz.ntmps95
   go_wp2
   refine wp_scope_fwd 1 ?_
   go_wp2
   go_loopw [12] (fun i' wr => ∃ k : Nat, k ≤ i ∧ i' = .int .i64 k ∧ wr = w) (fun i' _ => i - (intOf i').toNat)
   case atStart => exact ⟨0, by omega, rfl, rfl⟩
   case round =>
    obtain ⟨k, hk, rfl, hw⟩ := hrel
    have hw2 := hw.symm
    subst hw2
    clear hw
    obtain ⟨N, hN⟩ : ∃ N, S.fs.length = N := ⟨_, rfl⟩
    by_cases hlt : k < i
    · obtain ⟨y, hf⟩ : ∃ f, S.fs[k]? = some f := ⟨_, List.getElem?_eq_getElem (by omega)⟩
      obtain ⟨v, hv, hB, _, d0, _⟩ := H.out.cells k y hf
      rw [HNE.out k y hlt hf] at d0
      clear hB hv hf
      rw [hN] at c2 hm64 hil
      have hkN : k < N := by omega
      have HN := hide hN
      clear hN
      go_wp2
      go_roundw
      case rel => exact ⟨k + 1, by omega, by go_num, by first | rfl | trivial⟩
      case measure => simp [intOf]; omega
    · have hk' : k = i := by omega
      subst hk'
      obtain ⟨v, hv, hB, _, d0, _⟩ := H.out.cells k f HFI.out
      rw [HHE.out] at d0
      clear hB hv
      rw [hN] at c2 hm64 hil
      have HN := hide hN
      clear hN
      have HFR : Hid (S.free = ((Pl.wrote S f).1, k, (Pl.wrote S f).2)) := by
       show _ = _
       unfold Pl.free
       rw [HPK.out]
       simp only [HFI.out]
      have HW := hide (write_any H.out k f HFI.out (hpg f (List.mem_of_getElem? HFI.out)) hwr)
      obtain ⟨⟨x, T⟩, hT⟩ : ∃ T, Pl.wrote S f = T := ⟨_, rfl⟩
      rw [hT] at HW HFR
      clear hT HPK hpg
      by_cases hx : x = 0
      · subst hx
        go_wp2
        go_step3
        refine ⟨_, rfl, ?_⟩
        go_wp2_with (go_at_call 83; refine HW.out.mono ?_; rintro e w3 ⟨rfl, h3, hK3⟩)
        rw [Exit.jumps_ret]
        go_ret2
        rw [HFR.out]
        exact ⟨rfl, h3.at, hK3⟩
      · have hxb : (x != 0) = true := by simpa using hx
        go_wp2
        go_step3
        refine ⟨_, rfl, ?_⟩
        go_wp2_with (go_at_call 83; refine HW.out.mono ?_; rintro e w3 ⟨rfl, h3, hK3⟩)
        rw [Exit.jumps_ret]
        go_ret2
        rw [HFR.out]
        simp only
        rw [if_neg hx]
        exact ⟨rfl, h3.at, hK3⟩
 | none =>
   have HNE : Hid (∀ (j : Nat) y, S.fs[j]? = some y → y.held = true) := fun j y hy => by
    have := List.findIdx?_eq_none_iff.1 hE y (List.mem_of_getElem? hy)
    simpa using this
   have HPK : Hid (S.pick = S.clock 65) := by show _ = _; unfold Pl.pick; rw [hE]
   clear hE
   go_enter Tryz.func95, Tryz.ntmps95
   go_wp2
   refine wp_scope_fwd 1 ?_
   go_wp2
   go_loopw [12] (fun i wr => ∃ k : Nat, k ≤ S.fs.length ∧ i = .int .i64 k ∧ wr = w) (fun i _ => S.fs.length - (intOf i).toNat)
   case atStart => exact ⟨0, by omega, rfl, rfl⟩
   case round =>
    obtain ⟨k, hk, rfl, hw⟩ := hrel
    have hw2 := hw.symm
    subst hw2
    clear hw
    by_cases hlt : k < S.fs.length
    · obtain ⟨f, hf⟩ : ∃ f, S.fs[k]? = some f := ⟨_, List.getElem?_eq_getElem hlt⟩
      obtain ⟨v, hv, hB, _, d0, _⟩ := H.out.cells k f hf
      rw [HNE.out k f hf] at d0
      clear hB hv hf
      obtain ⟨N, hN⟩ : ∃ N, S.fs.length = N := ⟨_, rfl⟩
      rw [hN] at hlt hk c2 hm64
      have HN := hide hN
      clear hN
      go_wp2
      go_roundw
      case rel => exact ⟨k + 1, by rw [HN.out]; omega, by go_num, by first | rfl | trivial⟩
      case measure => rw [HN.out]; simp [intOf]; omega
    · have hk' : k = S.fs.length := by omega
      go_wp2
      clear c2 hk hk' hlt hm64
      go_loopw [4] (fun i wx => ∃ (S1 : Pl Φ.σ) (k : Nat), PoolIs Φ w0 wx P G xs bl vs S1 ∧ S1.clock k = S.clock 65 ∧ S1.nAsk < k ∧ S1.fs.length = S.fs.length ∧ S1.fo = S.fo ∧ S1.wr = S.wr ∧ S1.sound Φ.n ∧ Kept xs w wx) (fun _ wx => askW wx G S.fs.length)
      case atStart => exact ⟨S, 65, H.out, rfl, H.out.nAsk, rfl, rfl, rfl, hpg, Kept.refl _ _⟩
      case round =>
       clear H HNE hpg
       obtain ⟨S1, k1, h1, hck, hnk, hlen, hfo, hwr1, hsd, hK⟩ := hrel
       have hhand := h1.hand
       have hf2 := h1.f2
       obtain ⟨f, hf⟩ : ∃ f, S1.fs[S1.hand]? = some f := ⟨_, List.getElem?_eq_getElem hhand⟩
       have c2 := h1.c2
       have c3 := h1.c3
       have fz3 := h1.fzP 3
       have H1 := hide h1
       have HF := hide hf
       have HCK := hide hck
       have HNK := hide hnk
       have HLEN := hide hlen
       have HFO := hide hfo
       have HWR := hide hwr1
       have HSD := hide hsd
       have HK := hide hK
       clear h1 hf hck hnk hlen hfo hwr1 hsd hK
       obtain ⟨N, hN⟩ : ∃ N, S1.fs.length = N := ⟨_, rfl⟩
       obtain ⟨hd, hhd'⟩ : ∃ hd, S1.hand = hd := ⟨_, rfl⟩
       rw [hN] at c2 hhand hf2
       rw [hhd'] at c3 hhand
       have hhd := hhand
       have hadd : IntKind.i64.wrap ((hd : Int) + 1) = (hd : Int) + 1 := by rw [IntKind.wrap_i64]; omega
       obtain ⟨hn, hhn⟩ : ∃ hn, (hd + 1) % N = hn := ⟨_, rfl⟩
       have hrem : ((hd : Int) + 1).tmod (N : Int) = (hn : Int) := by
        rw [Int.tmod_eq_emod_of_nonneg (by omega)]
        rw [← hhn]
        simp
       have HNX : Hid (S1.next = hn) := by show _ = _; unfold Pl.next; rw [hN, hhd', hhn]
       have HHD := hide hhd'
       have HN := hide hN
       have hNpos : (0 : Int) < (N : Int) := by omega
       clear hhn hN hhd'
       go_wp2
       refine wp_region_held_drew (S := fun w' => w'.cell? ⟨P, 2, none⟩ = some (.slice (some ⟨G, 0, none⟩) N N) ∧ w'.cell? ⟨P, 3, none⟩ = some (.int .i64 (hd : Int))) (by kernel_rfl) ⟨c2, c3⟩ (fun hH => ?_)
       refine take_to 0 27 (.pointer (some ⟨P, 0, none⟩)) rfl (by kernel_rfl) (by kernel_rfl) (by kernel_rfl) (fun _ _ _ h => h) rfl (by rfl) (fun w hw => by rfl) hH ?_
       simp only [Act.put, zA, zB, zC]
       refine take_to 1 28 (.pointer (some ⟨P, 0, none⟩)) rfl (by kernel_rfl) (by kernel_rfl) (by kernel_rfl) (fun _ _ _ h => h) rfl (by rfl) (fun w hw => by rfl) hH ?_
       simp only [Act.put, zA, zB, zC]
       refine take_to 2 29 (.pointer (some ⟨P, 2, none⟩)) rfl (by kernel_rfl) (by kernel_rfl) (by kernel_rfl) (fun _ _ _ h => h) rfl (by rfl) (fun w hw => by rfl) hH ?_
       simp only [Act.put, zA, zB, zC]
       refine take_to 3 30 (.slice (some ⟨G, 0, none⟩) N N) rfl (by kernel_rfl) (by kernel_rfl) (by kernel_rfl) (fun _ _ _ h => h) rfl (by rfl) (fun w hw => op_load _ _ 145 (.tmp 29) rfl (.pointer (some ⟨P, 2, none⟩)) _ rfl (run_loadAny w P 2 145 _ Tryz.isAgg145 hw.1)) hH ?_
       simp only [Act.put, zA, zB, zC]
       refine take_to 4 31 (.pointer (some ⟨P, 0, none⟩)) rfl (by kernel_rfl) (by kernel_rfl) (by kernel_rfl) (fun _ _ _ h => h) rfl (by rfl) (fun w hw => by rfl) hH ?_
       simp only [Act.put, zA, zB, zC]
       refine take_to 5 32 (.pointer (some ⟨P, 0, none⟩)) rfl (by kernel_rfl) (by kernel_rfl) (by kernel_rfl) (fun _ _ _ h => h) rfl (by rfl) (fun w hw => by rfl) hH ?_
       simp only [Act.put, zA, zB, zC]
       refine take_to 6 33 (.pointer (some ⟨P, 3, none⟩)) rfl (by kernel_rfl) (by kernel_rfl) (by kernel_rfl) (fun _ _ _ h => h) rfl (by rfl) (fun w hw => by rfl) hH ?_
       simp only [Act.put, zA, zB, zC]
       refine take_to 7 34 (.int .i64 (hd : Int)) rfl (by kernel_rfl) (by kernel_rfl) (by kernel_rfl) (fun _ _ _ h => h) rfl (by rfl) (fun w hw => op_load _ _ 3 (.tmp 33) rfl (.pointer (some ⟨P, 3, none⟩)) _ rfl (run_loadAny w P 3 3 _ Tryz.isAgg3 hw.2)) hH ?_
       simp only [Act.put, zA, zB, zC]
       refine take_to 8 35 (.pointer (some ⟨G, hd * 7, none⟩)) rfl (by kernel_rfl) (by kernel_rfl) (by kernel_rfl) (fun _ _ _ h => h) rfl (by rfl) (fun w hw => op_index _ _ 145 (.tmp 30) (.tmp 34) rfl _ _ _ rfl rfl (run_index145 w G _ _ _ hhd)) hH ?_
       simp only [Act.put, zA, zB, zC]
       refine take_to 9 4 (.pointer (some ⟨G, hd * 7, none⟩)) rfl (by kernel_rfl) (by kernel_rfl) (by kernel_rfl) (fun _ _ _ h => h) rfl (by rfl) (fun w hw => by rfl) hH ?_
       simp only [Act.put, zA, zB, zC]
       refine wpAnyH_done (by kernel_rfl) ?_ _
       go_wp2
       go_region
       have hO2 : Off [P] wr (wr.setCell ⟨P, 3, none⟩ (.int .i64 (hn : Int))) := (Off.refl _ _).setCell _ _ (by simp)
       have h2 : PoolIs Φ w0 (wr.setCell ⟨P, 3, none⟩ (.int .i64 (hn : Int))).drew.drew P G xs bl vs { S1 with hand := hn } :=
        (H1.out.setP hn S1.wr hO2 (by rw [heap_setCell_same _ P 3 _ _ _ H1.out.head]; rfl) (by rw [HN.out]; rw [← HNX.out]; unfold Pl.next; rw [HN.out]; exact Nat.mod_lt _ (by omega))).belowW ⟨rfl, rfl, rfl, Nat.le_refl _, fun _ _ => rfl⟩
       have HK2 : Hid (Kept xs w (wr.setCell ⟨P, 3, none⟩ (.int .i64 (hn : Int))).drew.drew) := HK.out.trans ⟨hO2.size, fun k hk => hO2.block k (Φ.lts H1.out.bk (by simp [hk])) (fun hm => by simp at hm; exact H1.out.pb (by rw [← hm]; simp [hk]))⟩
       have HA1 : Hid (askW wr G S.fs.length = S1.nAsk) := by show _ = _; rw [← HLEN.out]; exact H1.out.askW
       clear c2 c3 fz3 hH hO2 HK H1
       generalize (wr.setCell ⟨P, 3, none⟩ (.int .i64 (hn : Int))).drew.drew = W at *
       have hf2' : ({ S1 with hand := hn } : Pl Φ.σ).fs[hd]? = some f := by rw [← HHD.out]; exact HF.out
       obtain ⟨v, hv, hB, hi, d0, d1, d2, d3, d4, d5, d6⟩ := h2.cells hd f hf2'
       have g3 := h2.fzG (hd * 7 + 3)
       have H2 := hide h2
       have HF2 := hide hf2'
       clear h2 hf2' d0 d1 d2 d4 d5 d6 hB hv
       obtain ⟨k2, rfl⟩ : ∃ k2, k1 = k2 + 1 := ⟨k1 - 1, by have := HNK.out; omega⟩
       have HST : Hid (S1.clock (k2 + 1) = if f.asked = true then Pl.clock k2 { S1 with fs := S1.fs.set hd f.unasked, hand := hn } else (hd, { S1 with hand := hn })) := by
        show _ = _
        rw [Pl.clock, HF.out]
        simp only [HNX.out, HHD.out]
       by_cases ha : f.asked = true
       · rw [ha] at d3
         have HA := hide ha
         clear ha
         go_wp2
         go_roundw
         case rel =>
          refine ⟨{ S1 with fs := S1.fs.set hd f.unasked, hand := hn }, k2, H2.out.mark hd f HF2.out false, ?_, ?_, ?_, HFO.out, HWR.out, ?_, ?_⟩
          · rw [← HCK.out, HST.out, if_pos HA.out]
          · have := nAsk_unmark S1 hd f (by rw [← HHD.out]; exact HF.out) HA.out hn
            have h3 := HNK.out
            omega
          · rw [← HLEN.out]; exact List.length_set
          · intro y hy
            rcases List.mem_or_eq_of_mem_set hy with h3 | h3
            · exact HSD.out y h3
            · rw [h3]; exact HSD.out f (List.mem_of_getElem? HF.out)
          · have hO3 : Off [G] W (W.setCell ⟨G, hd * 7 + 3, none⟩ (.bool false)) := (Off.refl _ _).setCell _ _ (by simp)
            exact HK2.out.trans ⟨hO3.size, fun k hk => hO3.block k (Φ.lts H2.out.bk (by simp [hk])) (fun hm => by simp at hm; exact H2.out.gb (by rw [← hm]; simp [hk]))⟩
         case measure =>
          have h3 := H2.out.mark hd f HF2.out false
          have h4 := h3.askW
          have h5 := nAsk_unmark S1 hd f (by rw [← HHD.out]; exact HF.out) HA.out hn
          have h6 := HA1.out
          have h7 : ({ S1 with fs := S1.fs.set hd f.unasked, hand := hn } : Pl Φ.σ).fs.length = S.fs.length := by rw [← HLEN.out]; exact List.length_set
          have h4 : askW (W.setCell ⟨G, hd * 7 + 3, none⟩ (.bool false)) G ({ S1 with fs := S1.fs.set hd f.unasked, hand := hn } : Pl Φ.σ).fs.length = ({ S1 with fs := S1.fs.set hd f.unasked, hand := hn } : Pl Φ.σ).nAsk := h4
          rw [h7] at h4
          omega
       · have HA := hide ha
         have ha' : f.asked = false := by simpa using ha
         rw [ha'] at d3
         clear ha ha'
         have HFR : Hid (S.free = ((Pl.wrote ({ S1 with hand := hn } : Pl Φ.σ) f).1, hd, (Pl.wrote ({ S1 with hand := hn } : Pl Φ.σ) f).2)) := by
          show _ = _
          have e : S.pick = (hd, { S1 with hand := hn }) := by rw [HPK.out, ← HCK.out, HST.out, if_neg HA.out]
          unfold Pl.free
          rw [e]
          simp only [HF2.out]
         have HW := hide (write_any H2.out hd f HF2.out (HSD.out f (List.mem_of_getElem? HF.out)) (by have := HWR.out; simp only; omega))
         obtain ⟨⟨x, T⟩, hT⟩ : ∃ T, Pl.wrote ({ S1 with hand := hn } : Pl Φ.σ) f = T := ⟨_, rfl⟩
         rw [hT] at HW HFR
         clear hT HST HCK HPK
         by_cases hx : x = 0
         · subst hx
           go_wp2
           go_step3
           refine ⟨_, rfl, ?_⟩
           go_wp2_with (go_at_call 83; refine HW.out.mono ?_; rintro e w3 ⟨rfl, h3, hK3⟩)
           rw [Exit.jumps_ret]
           go_ret2
           rw [HFR.out]
           exact ⟨rfl, h3.at, HK2.out.trans hK3⟩
         · have hxb : (x != 0) = true := by simpa using hx
           go_wp2
           go_step3
           refine ⟨_, rfl, ?_⟩
           go_wp2_with (go_at_call 83; refine HW.out.mono ?_; rintro e w3 ⟨rfl, h3, hK3⟩)
           rw [Exit.jumps_ret]
           go_ret2
           rw [HFR.out]
           simp only
           rw [if_neg hx]
           exact ⟨rfl, h3.at, HK2.out.trans hK3⟩
end
end Go.Proofs.YteeembildppgmaaGreat
