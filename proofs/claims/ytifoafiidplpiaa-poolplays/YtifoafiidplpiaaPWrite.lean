/- bytes.Clone; write: the log is forced, then the page is written. -/
import Derived.Test.YtifoafiidplpiaaPFind
import Derived.Test.YtifoafiidplpiaaLib
namespace Go.Proofs.Ytifoafiidplpiaa
open Go.RowKit
set_option linter.unusedVariables false
set_option linter.unusedSimpArgs false

theorem run_loadAny (w : World) (b o t : Nat) (v : Value) (ha : ∀ w, (isAgg t).run Try.prog w = .ok false w) (h : w.cell? ⟨b, o, none⟩ = some v) : (Instr.loadAt t (.pointer (some ⟨b, o, none⟩))).run Try.prog w = .ok v w := by
  simp [go_sem, ha, h]
theorem step_callv1_to {P : Program} {ops : Array Oper} {Q : Exit → Act → World → Prop} {md : Region.Mode} {S : World → Prop} {o : Oper} {fuel : Nat} {listed : Array Bool} {a : Act} {w : World} {R : Ending → World → Prop} (j dst f : Nat) (cb : Array Value) (hj : ops[j]? = some o)
    (hr : Region.ready md ops listed = [j]) (hd : o.dst = some dst) (hw : Region.wanted o (yielded ops a.tmps) = true) (fo x : Operand) (ts : Array TypeId) (hop : o.op = Op.call { callee := Callee.value fo, args := #[x], argTypes := ts })
    (vx : Value) (hf : a.eval fo = .func (.func f) #[] cb) (hx : a.eval x = vx) (hcf : ∀ args w, (callFunc f args).run P w = .ok (.enter f args) w) (hc : Calls P f (#[vx] ++ cb) w R)
    (hK : ∀ e w', R e w' → ∃ v, e = .returned v ∧ S w' ∧ wpAnyH P md ops Q S fuel (listed.setIfInBounds j true) (a.put (some dst) v) w') : wpAnyH P md ops Q S (fuel + 1) listed a w := by
  refine step_by j hj hr (fun K hK' => ?_)
  rw [if_pos hw]
  have hrun : (execOp a.eval o).run P w = .ok (.enter f (#[vx] ++ cb)) w := by
    unfold execOp
    simp [hop, resolve, hf, Deferred.ofValue, invoke, hx]
    exact hcf _ _
  unfold Oper.wp
  rw [hrun, Oper.upon_enter]
  refine hc.mono ?_
  intro e w' hR
  obtain ⟨v, rfl, hS, hW⟩ := hK e w' hR
  show K (a.put o.dst v) w'
  rw [hd]
  exact hK' _ _ hS hW
/-- Bytes in a block of their own, from its beginning on. -/
structure BlkAt (w : World) (g c : Nat) (bs : List UInt8) (cur : Array Value) : Prop where
  blk : w.heap[g]? = some (.cells cur 5 (0, 0))
  pre : cur.toList.take bs.length = secCells bs
  cap : bs.length ≤ c
  size : cur.size = c
theorem BlkAt.src {w : World} {g c : Nat} {bs : List UInt8} {cur : Array Value} (h : BlkAt w g c bs cur) : SrcAt w g 0 bs := by
  refine ⟨(Array.getElem?_eq_some_iff.1 h.blk).1, fun j u hu => ?_⟩
  refine src_of_block (X := cur.toList) (by simpa using h.blk) j u ?_
  rw [← h.pre] at hu
  rw [List.getElem?_take] at hu
  split at hu
  · exact hu
  · cases hu
theorem BlkAt.lt {w : World} {g c : Nat} {bs : List UInt8} {cur : Array Value} (h : BlkAt w g c bs cur) : g < w.heap.size := (Array.getElem?_eq_some_iff.1 h.blk).1
theorem clone_any {w : World} {g c : Nat} {bs : List UInt8} (h : SrcAt w g 0 bs) (hl : bs.length = 512) :
    Calls Try.prog 41 #[.slice (some ⟨g, 0, none⟩) 512 c] w fun e w' => ∃ g' c' cur, e = .returned (.slice (some ⟨g', 0, none⟩) 512 c') ∧ w.heap.size ≤ g' ∧ BlkAt w' g' c' bs cur ∧ Below w.heap.size w w' := by
  have hcon := Any.bytes_Clone_at Try.cloneB ⟨g, 0, none⟩ 512 c (bs.map fun b => (b.toNat : Int)) w (by simp [hl]) (by omega) (fun i hi => by
    refine h.2 i _ ?_
    simp [secCells, bcell, List.getElem?_eq_getElem (show i < bs.length by omega)])
  change Calls Try.prog 41 _ _ _ at hcon
  refine hcon.mono ?_
  rintro e w' ⟨v', rfl, ho, hne, hb⟩
  have ho : w'.ownsRow w.heap.size 5 1 v' 512 ((bs.map fun b => (b.toNat : Int)).map (Value.int .u8)) := ho
  obtain ⟨h1, h2⟩ := ho
  rcases h2 with ⟨rfl, _⟩ | ⟨g', cap, cur, rfl, h3, h4, h5, h6, h7, h8⟩
  · exact absurd rfl hne
  · refine ⟨g', cap, cur, rfl, h3, ⟨h4, ?_, by omega, by omega⟩, hb⟩
    rw [hl]
    rw [Nat.mul_one] at h8
    rw [h8]
    simp [secCells, bcell]

def Pl.wrote {Φ : Force} (S : Pl Φ.σ) (f : Fm) : Int × Pl Φ.σ :=
  if f.dirty = true then
    (if (Φ.step S.fo f.lsn).1 ≠ 0 then ((Φ.step S.fo f.lsn).1, { S with fo := (Φ.step S.fo f.lsn).2 })
     else (0, { S with fo := (Φ.step S.fo f.lsn).2, disk := S.disk.set f.page.toNat f.bs, wr := S.wr + 1 }))
  else (0, S)
theorem Kept.mono {xs ys : List Nat} {a b : World} (h : Kept xs a b) (hy : ∀ k ∈ ys, k ∈ xs) : Kept ys a b := ⟨h.1, fun k hk => h.2 k (hy k hk)⟩
section
variable {Φ : Force} {w0 w w' : World} {P G q p n : Nat} {xs bl ff : List Nat} {vs : List Value} {S : Pl Φ.σ} {D D' : Dv}
/-- The file's Write, the pool standing by. -/
theorem pool_fwrite (h : PoolIs Φ w0 w P G q p n xs bl ff vs S D) (i g c : Nat) (bs : List UInt8) (hl : bs.length = 512) (hc : 512 ≤ c) (hg : g ∈ bl) (hs : SrcAt w g 0 bs) (hi : i < n) :
    Calls Try.prog 49 #[.pointer (some ⟨q, 0, none⟩), .int .i64 (i : Int), .slice (some ⟨g, 0, none⟩) 512 c] w fun e w' => e = .returned (.int .i64 0) ∧
      ∃ D', PoolIs Φ w0 w' P G q p n xs bl ff vs { S with disk := S.disk.set i bs } D' ∧ Kept xs w w' := by
  obtain ⟨fp, x⟩ := h.fs
  obtain ⟨E, e1, e2, e3, e4, e5⟩ := carJ_well h.well h.wnil 0 i n bs hl (by have := h.len; omega) hi
  have hmax := x.dv.dev.wf.max
  have hlen := h.len
  refine (fwrite_go i g c bs hl hc x.fl x.dv.dev x.nq hs (x.dv.xs g (by simp [hg])).2 (by rw [h.wnil]; simp) (by omega) hi (by omega)).mono ?_
  rintro e w' ⟨rfl, fp', h1, h2, h3, h4, h5⟩
  rw [e1] at h1 h2 ⊢
  have hsz := x.dv.below.size
  have hF : Fs w0 w' q p 0 n false (P :: G :: (bl ++ (ff ++ xs))) E := by
    refine ⟨fp', h1, ⟨h2, fun k hk => ?_, fun k hk => ⟨Nat.lt_of_lt_of_le (x.dv.xs k hk).1 h3.size, fun hm => ?_⟩, x.dv.below.trans (h3.below hsz (fun k hk => ?_))⟩, h5, x.q0, x.qx⟩
    · rcases h4 k hk with h6 | h6
      · exact x.dv.f0 k h6
      · omega
    · rcases h4 k hm with h6 | h6
      · exact (x.dv.xs k hk).2 h6
      · have := (x.dv.xs k hk).1; omega
    · rcases List.mem_cons.1 hk with h6 | h6
      · rw [h6]; exact x.q0
      · exact x.dv.f0 k h6
  have hK : Kept (P :: G :: (bl ++ (ff ++ xs))) w w' := ⟨h3.size, fun k hk => h3.block k (x.dv.xs k hk).1 (fun hm => by
    rcases List.mem_cons.1 hm with h6 | h6
    · exact x.qx (h6 ▸ hk)
    · exact (x.dv.xs k hk).2 h6)⟩
  refine ⟨rfl, E, h.kept hF hK e2 e3 (by rw [e4, length_wroteL]; exact h.len) _ (fun j hj => ?_) (by rw [List.length_set]; exact h.dlen) (fun j hj => ?_), hK.mono (fun k hk => by simp [hk])⟩
  · rw [e4, page_wroteL D.L 0 i j n bs hl (by omega) hi hj]
    by_cases e : j = i
    · rw [if_pos e, e, List.getD_eq_getElem?_getD, List.getElem?_set_self (by rw [h.dlen]; exact hi)]
      rfl
    · rw [if_neg e, h.disk j hj, List.getD_eq_getElem?_getD, List.getD_eq_getElem?_getD, List.getElem?_set_ne (Ne.symm e)]
  · by_cases e : j = i
    · rw [e, List.getD_eq_getElem?_getD, List.getElem?_set_self (by rw [h.dlen]; exact hi)]
      exact hl
    · rw [List.getD_eq_getElem?_getD, List.getElem?_set_ne (Ne.symm e), ← List.getD_eq_getElem?_getD]
      exact h.d512 j hj

set_option maxHeartbeats 1000000 in
set_option maxRecDepth 100000 in
theorem write_any (h : PoolIs Φ w0 w P G q p n xs bl ff vs S D) (i : Nat) (f : Fm) (hf : S.fs[i]? = some f) (hok : Φ.ok S.fo) (hpg : f.dirty = true → 0 ≤ f.page ∧ f.page < (n : Int) ∧ f.bs.length = 512) (hwr : S.wr ≤ 1000000) :
    Calls Try.prog 30 #[.pointer (some ⟨P, 0, none⟩), .pointer (some ⟨G, i * 7, none⟩)] w fun e w' => e = .returned (.int .i64 (S.wrote f).1) ∧ (∃ ff' D', PoolIs Φ w0 w' P G q p n xs bl ff' vs (S.wrote f).2 D') ∧ Kept xs w w' := by
  obtain ⟨v, hv, hB, hi, d0, d1, d2, d3, d4, d5, d6⟩ := h.cells i f hf
  by_cases hd : f.dirty = true
  · obtain ⟨hp0, hpn, hb5⟩ := hpg hd
    have hls := h.lsn f (List.mem_of_getElem? hf)
    rw [hd] at d4
    have c1 := h.c1
    have c0 := h.c0
    unfold Force.fv at c1
    have HC := hide (fun d => Φ.call (w.drewN d) ff S.fo f.lsn (Φ.stay _ _ _ _ h.fo (Nat.le_refl _) (fun k hk => rfl)) hok hls.1 hls.2)
    have eg := Φ.enters
    have H := hide h
    have HBB := hide hB
    have HF := hide hf
    have HV := hide hv
    have HD := hide hd
    have hpos : ∃ m : Nat, f.page = (m : Int) ∧ m < n := ⟨f.page.toNat, by omega, by omega⟩
    obtain ⟨m, hm, hmn⟩ := hpos
    rw [hm] at d1
    have HM := hide hm
    have HB5 := hide hb5
    clear h hB hd hf hv hpg hok hls hp0 hpn hm hb5
    obtain ⟨⟨x, s⟩, hX⟩ : ∃ X, Φ.step S.fo f.lsn = X := ⟨_, rfl⟩
    rw [hX] at HC
    have HX := hide hX
    clear hX
    obtain ⟨L, hL⟩ : ∃ L, f.lsn = L := ⟨_, rfl⟩
    rw [hL] at d6 HC
    have HL := hide hL
    clear hL
    by_cases hx : x = 0
    · subst hx
      have HW : Hid (S.wrote f = (0, { S with fo := s, disk := S.disk.set m f.bs, wr := S.wr + 1 })) := by
        show _ = _
        unfold Pl.wrote
        rw [if_pos HD.out, HX.out, if_neg (by simp), HM.out]
        rfl
      rw [HW.out]
      clear HW
      go_enter Try.func30, Try.ntmps30
      go_wp2
      refine wp_region_held_drew (S := fun w' => w'.cell? ⟨P, 1, none⟩ = some (.func (.func Φ.g) #[] Φ.cb) ∧ w'.cell? ⟨G, i * 7 + 6, none⟩ = some (.int .i64 L)) (by kernel_rfl) ⟨c1, d6⟩ (fun hH => ?_)
      refine take_to 0 12 (.pointer (some ⟨P, 0, none⟩)) rfl (by kernel_rfl) (by kernel_rfl) (by kernel_rfl) (fun _ _ _ h => h) rfl (by rfl) (fun w hw => by rfl) hH ?_
      simp only [Act.put, List.setIfInBounds_toArray, List.set_cons_zero, List.set_cons_succ]
      refine take_to 1 13 (.pointer (some ⟨P, 0, none⟩)) rfl (by kernel_rfl) (by kernel_rfl) (by kernel_rfl) (fun _ _ _ h => h) rfl (by rfl) (fun w hw => by rfl) hH ?_
      simp only [Act.put, List.setIfInBounds_toArray, List.set_cons_zero, List.set_cons_succ]
      refine take_to 2 14 (.pointer (some ⟨P, 1, none⟩)) rfl (by kernel_rfl) (by kernel_rfl) (by kernel_rfl) (fun _ _ _ h => h) rfl (by rfl) (fun w hw => by rfl) hH ?_
      simp only [Act.put, List.setIfInBounds_toArray, List.set_cons_zero, List.set_cons_succ]
      refine take_to 3 15 (.func (.func Φ.g) #[] Φ.cb) rfl (by kernel_rfl) (by kernel_rfl) (by kernel_rfl) (fun _ _ _ h => h) rfl (by rfl) (fun w hw => op_load _ _ 33 (.tmp 14) rfl (.pointer (some ⟨P, 1, none⟩)) _ rfl (run_loadAny w P 1 33 _ Try.isAgg33 hw.1)) hH ?_
      simp only [Act.put, List.setIfInBounds_toArray, List.set_cons_zero, List.set_cons_succ]
      refine take_to 4 16 (.pointer (some ⟨G, i * 7, none⟩)) rfl (by kernel_rfl) (by kernel_rfl) (by kernel_rfl) (fun _ _ _ h => h) rfl (by rfl) (fun w hw => by rfl) hH ?_
      simp only [Act.put, List.setIfInBounds_toArray, List.set_cons_zero, List.set_cons_succ]
      refine take_to 5 17 (.pointer (some ⟨G, i * 7, none⟩)) rfl (by kernel_rfl) (by kernel_rfl) (by kernel_rfl) (fun _ _ _ h => h) rfl (by rfl) (fun w hw => by rfl) hH ?_
      simp only [Act.put, List.setIfInBounds_toArray, List.set_cons_zero, List.set_cons_succ]
      refine take_to 6 18 (.pointer (some ⟨G, i * 7 + 6, none⟩)) rfl (by kernel_rfl) (by kernel_rfl) (by kernel_rfl) (fun _ _ _ h => h) rfl (by rfl) (fun w hw => by rfl) hH ?_
      simp only [Act.put, List.setIfInBounds_toArray, List.set_cons_zero, List.set_cons_succ]
      refine take_to 7 19 (.int .i64 L) rfl (by kernel_rfl) (by kernel_rfl) (by kernel_rfl) (fun _ _ _ h => h) rfl (by rfl) (fun w hw => op_load _ _ 3 (.tmp 18) rfl (.pointer (some ⟨G, (i * 7 + 6), none⟩)) _ rfl (run_loadAny w G (i * 7 + 6) 3 _ Try.isAgg3 hw.2)) hH ?_
      simp only [Act.put, List.setIfInBounds_toArray, List.set_cons_zero, List.set_cons_succ]
      refine step_callv1_to 8 20 Φ.g Φ.cb rfl (by kernel_rfl) rfl (by rfl) (.tmp 15) (.tmp 19) _ rfl _ rfl rfl Φ.enters (HC.out 1) ?_
      rintro e w1 ⟨rfl, ff1, hs1, hO1, hf1⟩
      have h1 := H.out.asked ff1 s hs1 hO1.undrewN hf1
      obtain ⟨v1, hv1, hB1, _, b0, b1, b2, b3, b4, b5, b6⟩ := h1.cells i f HF.out
      rw [HL.out] at b6
      have hS1 : w1.cell? ⟨P, 1, none⟩ = some (.func (.func Φ.g) #[] Φ.cb) ∧ w1.cell? ⟨G, i * 7 + 6, none⟩ = some (.int .i64 L) := ⟨h1.c1, b6⟩
      refine ⟨_, rfl, hS1, ?_⟩
      simp only [Act.put, List.setIfInBounds_toArray, List.set_cons_zero, List.set_cons_succ]
      refine step_to 9 5 (.int .i64 0) w1 rfl (by kernel_rfl) rfl (by rfl) (rfl) hS1 ?_
      simp only [Act.put, List.setIfInBounds_toArray, List.set_cons_zero, List.set_cons_succ]
      refine wpAnyH_done (by kernel_rfl) ?_ _
      rcases hB1 with ⟨hb0, _⟩ | ⟨g, c, rfl, hc, hb5, hgb, hsr⟩
      · have := HB5.out
        rw [hb0] at this
        simp at this
      rw [HM.out] at b1
      have HFW := hide (fun d => pool_fwrite (h1.belowW (below_drewN _ _ d)) m g c f.bs HB5.out hc hgb hsr hmn)
      have a0 := h1.c0
      have HV := hide hv1
      have HK1 : Hid (Kept xs w w1) := ⟨hO1.size, fun k hk => hO1.block k (H.out.fs.lts (by simp [hk])) (fun hm => H.out.fx k hm hk)⟩
      clear hv1 b0 b3 b4 b5 b6 hS1 hs1 hO1 hf1 hH c1 c0 d0 d1 d2 d3 d4 d5 d6 h1 HC hb5 hgb hsr
      go_wp2
      refine wp_region_held_drew (S := fun w' => w'.cell? ⟨P, 0, none⟩ = some (.pointer (some ⟨q, 0, none⟩)) ∧ w'.cell? ⟨G, i * 7 + 1, none⟩ = some (.int .i64 (m : Int)) ∧ w'.cell? ⟨G, i * 7 + 2, none⟩ = some (.slice (some ⟨g, 0, none⟩) 512 c)) (by kernel_rfl) ⟨a0, b1, b2⟩ (fun hH => ?_)
      refine take_to 0 24 (.pointer (some ⟨P, 0, none⟩)) rfl (by kernel_rfl) (by kernel_rfl) (by kernel_rfl) (fun _ _ _ h => h) rfl (by rfl) (fun w hw => by rfl) hH ?_
      simp only [Act.put, List.setIfInBounds_toArray, List.set_cons_zero, List.set_cons_succ]
      refine take_to 1 25 (.pointer (some ⟨P, 0, none⟩)) rfl (by kernel_rfl) (by kernel_rfl) (by kernel_rfl) (fun _ _ _ h => h) rfl (by rfl) (fun w hw => by rfl) hH ?_
      simp only [Act.put, List.setIfInBounds_toArray, List.set_cons_zero, List.set_cons_succ]
      refine take_to 2 26 (.pointer (some ⟨P, 0, none⟩)) rfl (by kernel_rfl) (by kernel_rfl) (by kernel_rfl) (fun _ _ _ h => h) rfl (by rfl) (fun w hw => by rfl) hH ?_
      simp only [Act.put, List.setIfInBounds_toArray, List.set_cons_zero, List.set_cons_succ]
      refine take_to 3 27 (.pointer (some ⟨q, 0, none⟩)) rfl (by kernel_rfl) (by kernel_rfl) (by kernel_rfl) (fun _ _ _ h => h) rfl (by rfl) (fun w hw => op_load _ _ 27 (.tmp 26) rfl (.pointer (some ⟨P, 0, none⟩)) _ rfl (run_loadAny w P 0 27 _ Try.isAgg27 hw.1)) hH ?_
      simp only [Act.put, List.setIfInBounds_toArray, List.set_cons_zero, List.set_cons_succ]
      refine take_to 4 28 (.pointer (some ⟨G, i * 7, none⟩)) rfl (by kernel_rfl) (by kernel_rfl) (by kernel_rfl) (fun _ _ _ h => h) rfl (by rfl) (fun w hw => by rfl) hH ?_
      simp only [Act.put, List.setIfInBounds_toArray, List.set_cons_zero, List.set_cons_succ]
      refine take_to 5 29 (.pointer (some ⟨G, i * 7, none⟩)) rfl (by kernel_rfl) (by kernel_rfl) (by kernel_rfl) (fun _ _ _ h => h) rfl (by rfl) (fun w hw => by rfl) hH ?_
      simp only [Act.put, List.setIfInBounds_toArray, List.set_cons_zero, List.set_cons_succ]
      refine take_to 6 30 (.pointer (some ⟨G, i * 7 + 1, none⟩)) rfl (by kernel_rfl) (by kernel_rfl) (by kernel_rfl) (fun _ _ _ h => h) rfl (by rfl) (fun w hw => by rfl) hH ?_
      simp only [Act.put, List.setIfInBounds_toArray, List.set_cons_zero, List.set_cons_succ]
      refine take_to 7 31 (.int .i64 (m : Int)) rfl (by kernel_rfl) (by kernel_rfl) (by kernel_rfl) (fun _ _ _ h => h) rfl (by rfl) (fun w hw => op_load _ _ 3 (.tmp 30) rfl (.pointer (some ⟨G, (i * 7 + 1), none⟩)) _ rfl (run_loadAny w G (i * 7 + 1) 3 _ Try.isAgg3 hw.2.1)) hH ?_
      simp only [Act.put, List.setIfInBounds_toArray, List.set_cons_zero, List.set_cons_succ]
      refine take_to 8 32 (.pointer (some ⟨G, i * 7, none⟩)) rfl (by kernel_rfl) (by kernel_rfl) (by kernel_rfl) (fun _ _ _ h => h) rfl (by rfl) (fun w hw => by rfl) hH ?_
      simp only [Act.put, List.setIfInBounds_toArray, List.set_cons_zero, List.set_cons_succ]
      refine take_to 9 33 (.pointer (some ⟨G, i * 7, none⟩)) rfl (by kernel_rfl) (by kernel_rfl) (by kernel_rfl) (fun _ _ _ h => h) rfl (by rfl) (fun w hw => by rfl) hH ?_
      simp only [Act.put, List.setIfInBounds_toArray, List.set_cons_zero, List.set_cons_succ]
      refine take_to 10 34 (.pointer (some ⟨G, i * 7 + 2, none⟩)) rfl (by kernel_rfl) (by kernel_rfl) (by kernel_rfl) (fun _ _ _ h => h) rfl (by rfl) (fun w hw => by rfl) hH ?_
      simp only [Act.put, List.setIfInBounds_toArray, List.set_cons_zero, List.set_cons_succ]
      refine take_to 11 35 (.slice (some ⟨g, 0, none⟩) 512 c) rfl (by kernel_rfl) (by kernel_rfl) (by kernel_rfl) (fun _ _ _ h => h) rfl (by rfl) (fun w hw => op_load _ _ 37 (.tmp 34) rfl (.pointer (some ⟨G, (i * 7 + 2), none⟩)) _ rfl (run_loadAny w G (i * 7 + 2) 37 _ Try.isAgg37 hw.2.2)) hH ?_
      simp only [Act.put, List.setIfInBounds_toArray, List.set_cons_zero, List.set_cons_succ]
      refine step_call3_to 12 36 49 rfl (by kernel_rfl) rfl (by rfl) (.tmp 27) (.tmp 31) (.tmp 35) _ rfl _ _ _ rfl rfl rfl Try.enters49 (HFW.out 1) ?_
      rintro e w2 ⟨rfl, D2, h2, hK2⟩
      obtain ⟨v2, hv2, hB2, _, e0, e1, e2, e3, e4, e5, e6⟩ := h2.cells i f HF.out
      rw [HV.out] at hv2
      cases hv2
      rw [HM.out] at e1
      have hS2 : w2.cell? ⟨P, 0, none⟩ = some (.pointer (some ⟨q, 0, none⟩)) ∧ w2.cell? ⟨G, i * 7 + 1, none⟩ = some (.int .i64 (m : Int)) ∧ w2.cell? ⟨G, i * 7 + 2, none⟩ = some (.slice (some ⟨g, 0, none⟩) 512 c) := ⟨h2.c0, e1, e2⟩
      refine ⟨_, rfl, hS2, ?_⟩
      simp only [Act.put, List.setIfInBounds_toArray, List.set_cons_zero, List.set_cons_succ]
      refine step_to 13 6 (.int .i64 0) w2 rfl (by kernel_rfl) rfl (by rfl) (rfl) hS2 ?_
      simp only [Act.put, List.setIfInBounds_toArray, List.set_cons_zero, List.set_cons_succ]
      refine wpAnyH_done (by kernel_rfl) ?_ _
      have a4 := h2.c4
      have f4 := h2.fzP 4
      have H2 := hide h2
      have HK2 : Hid (Kept xs w1 w2) := ⟨hK2.1, hK2.2⟩
      clear h2 hK2 hB2 e0 e1 e2 e3 e4 e5 e6 hS2 hH a0 b1 b2 HFW
      have hw4 : IntKind.i64.wrap ((S.wr : Int) + 1) = (S.wr : Int) + 1 := by rw [IntKind.wrap_i64]; omega
      have a4 : w2.cell? ⟨P, 4, none⟩ = some (.int .i64 (S.wr : Int)) := a4
      go_wp2
      go_ret
      have HO3 : Off [P] w2 (w2.setCell ⟨P, 4, none⟩ (.int .i64 ((S.wr : Int) + 1))) := (Off.refl _ _).setCell _ _ (by simp)
      refine ⟨rfl, ⟨ff1, D2, H2.out.setP S.hand (S.wr + 1) HO3 ?_ H2.out.hand⟩, HK1.out.trans (HK2.out.trans ⟨HO3.size, fun k hk => HO3.block k (H2.out.fs.lts (by simp [hk])) (fun hm => by simp at hm; exact H2.out.pb (by rw [← hm]; simp [hk]))⟩)⟩
      rw [heap_setCell_same _ P 4 _ _ _ H2.out.head]
      rfl
    · have HW : Hid (S.wrote f = (x, { S with fo := s })) := by
        show _ = _
        unfold Pl.wrote
        rw [if_pos HD.out, HX.out, if_pos (by simpa using hx)]
      rw [HW.out]
      clear HW
      go_enter Try.func30, Try.ntmps30
      go_wp2
      refine wp_region_held_drew (S := fun w' => w'.cell? ⟨P, 1, none⟩ = some (.func (.func Φ.g) #[] Φ.cb) ∧ w'.cell? ⟨G, i * 7 + 6, none⟩ = some (.int .i64 L)) (by kernel_rfl) ⟨c1, d6⟩ (fun hH => ?_)
      refine take_to 0 12 (.pointer (some ⟨P, 0, none⟩)) rfl (by kernel_rfl) (by kernel_rfl) (by kernel_rfl) (fun _ _ _ h => h) rfl (by rfl) (fun w hw => by rfl) hH ?_
      simp only [Act.put, List.setIfInBounds_toArray, List.set_cons_zero, List.set_cons_succ]
      refine take_to 1 13 (.pointer (some ⟨P, 0, none⟩)) rfl (by kernel_rfl) (by kernel_rfl) (by kernel_rfl) (fun _ _ _ h => h) rfl (by rfl) (fun w hw => by rfl) hH ?_
      simp only [Act.put, List.setIfInBounds_toArray, List.set_cons_zero, List.set_cons_succ]
      refine take_to 2 14 (.pointer (some ⟨P, 1, none⟩)) rfl (by kernel_rfl) (by kernel_rfl) (by kernel_rfl) (fun _ _ _ h => h) rfl (by rfl) (fun w hw => by rfl) hH ?_
      simp only [Act.put, List.setIfInBounds_toArray, List.set_cons_zero, List.set_cons_succ]
      refine take_to 3 15 (.func (.func Φ.g) #[] Φ.cb) rfl (by kernel_rfl) (by kernel_rfl) (by kernel_rfl) (fun _ _ _ h => h) rfl (by rfl) (fun w hw => op_load _ _ 33 (.tmp 14) rfl (.pointer (some ⟨P, 1, none⟩)) _ rfl (run_loadAny w P 1 33 _ Try.isAgg33 hw.1)) hH ?_
      simp only [Act.put, List.setIfInBounds_toArray, List.set_cons_zero, List.set_cons_succ]
      refine take_to 4 16 (.pointer (some ⟨G, i * 7, none⟩)) rfl (by kernel_rfl) (by kernel_rfl) (by kernel_rfl) (fun _ _ _ h => h) rfl (by rfl) (fun w hw => by rfl) hH ?_
      simp only [Act.put, List.setIfInBounds_toArray, List.set_cons_zero, List.set_cons_succ]
      refine take_to 5 17 (.pointer (some ⟨G, i * 7, none⟩)) rfl (by kernel_rfl) (by kernel_rfl) (by kernel_rfl) (fun _ _ _ h => h) rfl (by rfl) (fun w hw => by rfl) hH ?_
      simp only [Act.put, List.setIfInBounds_toArray, List.set_cons_zero, List.set_cons_succ]
      refine take_to 6 18 (.pointer (some ⟨G, i * 7 + 6, none⟩)) rfl (by kernel_rfl) (by kernel_rfl) (by kernel_rfl) (fun _ _ _ h => h) rfl (by rfl) (fun w hw => by rfl) hH ?_
      simp only [Act.put, List.setIfInBounds_toArray, List.set_cons_zero, List.set_cons_succ]
      refine take_to 7 19 (.int .i64 L) rfl (by kernel_rfl) (by kernel_rfl) (by kernel_rfl) (fun _ _ _ h => h) rfl (by rfl) (fun w hw => op_load _ _ 3 (.tmp 18) rfl (.pointer (some ⟨G, (i * 7 + 6), none⟩)) _ rfl (run_loadAny w G (i * 7 + 6) 3 _ Try.isAgg3 hw.2)) hH ?_
      simp only [Act.put, List.setIfInBounds_toArray, List.set_cons_zero, List.set_cons_succ]
      refine step_callv1_to 8 20 Φ.g Φ.cb rfl (by kernel_rfl) rfl (by rfl) (.tmp 15) (.tmp 19) _ rfl _ rfl rfl Φ.enters (HC.out 1) ?_
      rintro e w1 ⟨rfl, ff1, hs1, hO1, hf1⟩
      have h1 := H.out.asked ff1 s hs1 hO1.undrewN hf1
      obtain ⟨v1, hv1, hB1, _, b0, b1, b2, b3, b4, b5, b6⟩ := h1.cells i f HF.out
      rw [HL.out] at b6
      have hS1 : w1.cell? ⟨P, 1, none⟩ = some (.func (.func Φ.g) #[] Φ.cb) ∧ w1.cell? ⟨G, i * 7 + 6, none⟩ = some (.int .i64 L) := ⟨h1.c1, b6⟩
      refine ⟨_, rfl, hS1, ?_⟩
      simp only [Act.put, List.setIfInBounds_toArray, List.set_cons_zero, List.set_cons_succ]
      refine step_to 9 5 (.int .i64 x) w1 rfl (by kernel_rfl) rfl (by rfl) (rfl) hS1 ?_
      simp only [Act.put, List.setIfInBounds_toArray, List.set_cons_zero, List.set_cons_succ]
      refine wpAnyH_done (by kernel_rfl) ?_ _
      have H1 := hide h1
      have HK1 : Hid (Kept xs w w1) := ⟨hO1.size, fun k hk => hO1.block k (H.out.fs.lts (by simp [hk])) (fun hm => H.out.fx k hm hk)⟩
      clear hv1 hB1 b0 b1 b2 b3 b4 b5 b6 hS1 hs1 hO1 hf1 hH c1 c0 d0 d1 d2 d3 d4 d5 d6 h1 HC
      have hxb : (x != 0) = true := by simpa using hx
      go_wp2
      go_ret
      exact ⟨rfl, ⟨ff1, D, H1.out⟩, HK1.out⟩
  · have hd' : f.dirty = false := by simpa using hd
    rw [hd'] at d4
    have HW : Hid (S.wrote f = (0, S)) := by show _ = _; unfold Pl.wrote; rw [if_neg hd]
    rw [HW.out]
    have H := hide h
    clear h hB hpg
    go_enter Try.func30, Try.ntmps30
    go_wp2
    go_ret
    exact ⟨rfl, ⟨_, _, H.out⟩, Kept.refl _ _⟩
end
end Go.Proofs.Ytifoafiidplpiaa
