/- A part of it: SChange. -/
import Derived.Test.YteeembildppgmaaGreatM0
import Derived.Test.YteeembildppgmaaGreatM21
namespace Go.Proofs.YteeembildppgmaaGreat
open Go.RowKit
set_option linter.unusedVariables false
set_option linter.unusedSimpArgs false
theorem Tryz.enters62 (args : Array Value) (w : World) : (callFunc 62 args).run Tryz.prog w = .ok (.enter 62 args) w := by kernel_rfl
theorem Tryz.enters97 (args : Array Value) (w : World) : (callFunc 97 args).run Tryz.prog w = .ok (.enter 97 args) w := by kernel_rfl
theorem Tryz.enters51 (args : Array Value) (w : World) : (callFunc 51 args).run Tryz.prog w = .ok (.enter 51 args) w := by kernel_rfl
theorem step_call4_to {P : Program} {ops : Array Oper} {Q : Exit → Act → World → Prop} {md : Region.Mode} {S : World → Prop} {o : Oper} {fuel : Nat} {listed : Array Bool} {a : Act} {w : World} {R : Ending → World → Prop} (j dst f : Nat) (hj : ops[j]? = some o)
 (hr : Region.ready md ops listed = [j]) (hd : o.dst = some dst) (hw : Region.wanted o (yielded ops a.tmps) = true) (x y z u : Operand) (ts : Array TypeId) (hop : o.op = Op.call { callee := Callee.value (Operand.func f), args := #[x, y, z, u], argTypes := ts })
 (vx vy vz vu : Value) (hx : a.eval x = vx) (hy : a.eval y = vy) (hz : a.eval z = vz) (hu : a.eval u = vu) (hcf : ∀ args w, (callFunc f args).run P w = .ok (.enter f args) w) (hc : Calls P f #[vx, vy, vz, vu] w R)
 (hK : ∀ e w', R e w' → ∃ v, e = .returned v ∧ S w' ∧ wpAnyH P md ops Q S fuel (listed.setIfInBounds j true) (a.put (some dst) v) w') : wpAnyH P md ops Q S (fuel + 1) listed a w := by
 refine step_by j hj hr (fun K hK' => ?_)
 rw [if_pos hw]
 have hrun : (execOp a.eval o).run P w = .ok (.enter f #[vx, vy, vz, vu]) w := by
  unfold execOp
  simp [hop, resolve, hx, hy, hz, hu, show a.eval (.func f) = .func (.func f) #[] #[] from rfl, Deferred.ofValue, invoke]
  exact hcf _ _
 unfold Oper.wp
 rw [hrun, Oper.upon_enter]
 refine hc.mono ?_
 intro e w' hR
 obtain ⟨v, rfl, hS, hW⟩ := hK e w' hR
 show K (a.put o.dst v) w'
 rw [hd]
 exact hK' _ _ hS hW
theorem op_slice36 (ρ : Operand → Value) (o : Oper) (x l : Operand) (ho : o.op = .slice 36 x (some l) none none) (v lv r : Value) (hx : ρ x = v) (hl : ρ l = lv) {P : Program} {w : World} (hr : (Instr.sliceAt 36 v (some lv) none none).run P w = .ok r w) : (execOp ρ o).run P w = .ok (.value r) w := by
 unfold execOp
 simp [ho, hx, hl, hr, Sem.run_bind, Result.andThen]
theorem step_copy_row {ops : Array Oper} {Q : Exit → Act → World → Prop} {md : Region.Mode} {S : World → Prop} {o : Oper} {fuel : Nat} {listed : Array Bool} {a : Act} {w : World} (j dst : Nat) (hj : ops[j]? = some o)
 (hr : Region.ready md ops listed = [j]) (hdst : o.dst = some dst) (hgd : o.guard = none) (x y : Operand) (ho : o.op = .call { callee := .builtin .copy, args := #[x, y], argTypes := #[36, 36] })
 (g off dLen dCap : Nat) (ad : Addr) (sLen sCap : Nat) (hd : a.eval x = .slice (some ⟨g, off, none⟩) dLen dCap) (hs : a.eval y = .slice (some ad) sLen sCap)
 (cur : Array Value) (t : TypeId) (hg : w.heap[g]? = some (.cells cur t (0, 0))) (cs : List Value) (hn : cs.length = Nat.min sLen dLen)
 (hsrc : ∀ j v, cs[j]? = some v → w.cell? (ad.add j) = some v) (hfit : off + cs.length ≤ cur.size) (h1 : ∀ v ∈ cs, v.oneCell' = true)
 (hS : S (w.setRow g (cur.toList.take off ++ (cs ++ cur.toList.drop (off + cs.length))).toArray))
 (h : wpAnyH Tryz.prog md ops Q S fuel (listed.setIfInBounds j true) (a.put (some dst) (goInt cs.length)) (w.setRow g (cur.toList.take off ++ (cs ++ cur.toList.drop (off + cs.length))).toArray)) : wpAnyH Tryz.prog md ops Q S (fuel + 1) listed a w := by
 refine step_by j hj hr (fun K hK => ?_)
 have hrun := run_copy_row (P := Tryz.prog) w 36 36 o.type 5 g off dLen dCap ad sLen sCap cur t cs Tryz.underlying36 (by kernel_rfl) hg hn hsrc hfit h1
 have hwt : Region.wanted o (yielded ops a.tmps) = true := by simp [Region.wanted, hgd]
 rw [if_pos hwt]
 unfold Oper.wp
 simp [execOp, ho, resolve, invoke, builtin, hd, hs, hrun, Result.andThen]
 rw [Oper.upon_value, hdst]
 exact hK _ _ hS h
theorem patch_cells (cur : List Value) (bs : List UInt8) (o : Nat) (ns : List UInt8) (hp : cur.take bs.length = secCells bs) (hl : bs.length ≤ cur.length) (ho : o + ns.length ≤ bs.length) :
 (cur.take o ++ (secCells ns ++ cur.drop (o + (secCells ns).length))).take bs.length = secCells (patch bs o ns) := by
 have e1 : secCells (patch bs o ns) = (secCells bs).take o ++ (secCells ns ++ (secCells bs).drop (o + ns.length)) := by simp [patch, secCells, List.map_take, List.map_drop]
 rw [e1, ← hp, length_secCells, List.take_take, Nat.min_eq_left (by omega)]
 rw [List.take_append, List.length_take, Nat.min_eq_left (by omega), List.take_of_length_le (by rw [List.length_take]; omega)]
 congr 1
 rw [List.take_append, length_secCells, List.take_of_length_le (by rw [length_secCells]; omega)]
 congr 1
 rw [List.drop_take]
 congr 1
 omega
structure ByteSrc (w0 w : World) (L : List Nat) (g o c : Nat) (bs : List UInt8) : Prop where
 cap : bs.length ≤ c
 max : c ≤ maxLen
 at_ : g ∈ L ∨ g < w0.heap.size
 rd : w.rangeAt g o (secCells bs)
theorem ByteSrc.keep {w0 w w' : World} {L : List Nat} {g o c : Nat} {bs : List UInt8} (h : ByteSrc w0 w L g o c bs) (hb : Below w0.heap.size w0 w) (hb' : Below w0.heap.size w0 w') (hk : ∀ k ∈ L, w'.heap[k]? = w.heap[k]?) (hs : w.heap.size ≤ w'.heap.size) : ByteSrc w0 w' L g o c bs := by
 have e : w'.heap[g]? = w.heap[g]? := by
  rcases h.at_ with h1 | h1
  · exact hk g h1
  · rw [hb.block g h1, hb'.block g h1]
 exact ⟨h.cap, h.max, h.at_, fun j v hv => (World.cell?_of_block (a := ⟨g, o + j, none⟩) e).trans (h.rd j v hv)⟩
theorem ByteSrc.belowW {w0 w w' : World} {L : List Nat} {g o c : Nat} {bs : List UInt8} (h : ByteSrc w0 w L g o c bs) (hb : Below w0.heap.size w0 w) (hb' : Below w.heap.size w w') (hl : ∀ k ∈ L, k < w.heap.size) : ByteSrc w0 w' L g o c bs :=
 h.keep hb (hb.trans (hb'.mono hb.size)) (fun k hk => hb'.block k (hl k hk)) hb'.size
theorem ByteSrc.lt1 {w0 w w1 : World} {L : List Nat} {g o c : Nat} {bs : List UInt8} (h : ByteSrc w0 w L g o c bs) (hb : Below w0.heap.size w0 w1) (hl : ∀ k ∈ L, k < w1.heap.size) : g < w1.heap.size := by
 rcases h.at_ with h1 | h1
 · exact hl g h1
 · have := hb.size; omega
section
variable {w0 w w' : World} {s : Nat} {c : Cf} {xs tb : List Nat} {ov : Value} {ps : List Nat} {uvs : List Value} {S : St} {V : Nat → List UInt8}
theorem pput_ok (h : StIs w0 w s c xs tb ov ps uvs S) (hi : PInv c.n S.pool V) (hwr : S.pool.wr ≤ 1000000) (pg : Nat) (hp : pg < c.n) (g cc : Nat) (bs : List UInt8) (hl : bs.length = 512) (hg : g ∈ xs) (hs : SrcAt w g 0 bs) (lsn : Nat) (h1 : 1 ≤ lsn) (h2 : lsn < 4611686018427387904) :
 Calls Tryz.prog 97 #[.pointer (some ⟨c.P, 0, none⟩), .int .i64 (pg : Int), .slice (some ⟨g, 0, none⟩) 512 cc, .int .i64 (lsn : Int)] w fun e w' => e = .returned (.int .i64 0) ∧ StIs w0 w' s c xs tb ov ps uvs { S with pool := (cPut c S.pool pg bs lsn).2 } ∧ Kept (s :: (tb ++ xs)) w w' := by
 obtain ⟨a1, a2⟩ := hi.put (c := c) pg hp bs hl (lsn : Int) (by omega) (by omega)
 refine (put_any (Φ := c.bk) h.pool (pg : Int) g cc bs hl (by simp [hg]) hs (lsn : Int) (by omega) (by omega) hi.sound hwr).mono ?_
 rintro e w' ⟨rfl, hP, hK⟩
 refine ⟨?_, h.kept _ hP hK, hK⟩
 show Ending.returned (.int .i64 (cPut c S.pool pg bs lsn).1) = _
 rw [a1]
set_option maxHeartbeats 2000000 in
set_option maxRecDepth 100000 in
theorem change_ok (h : StIs w0 w s c xs tb ov ps uvs S) (hi : PInv c.n S.pool V) (hwr : S.pool.wr ≤ 1000000) (k0 k1 k2 k3 k4 : Int) (ab : Option Addr) (nb cb ga oa ca : Nat) (bs : List UInt8) (hb : ByteSrc w0 w (tb ++ xs) ga oa ca bs) (pg off lsn : Nat) (hp : pg < c.n) (hn : 1 ≤ bs.length) (ho : off + bs.length ≤ 504) (hl1 : 1 ≤ lsn) (hl2 : lsn < 4611686018427387904) (hwr2 : (cGet c S.pool pg).2.2.wr ≤ 1000000) :
 Calls Tryz.prog 63 #[.pointer (some ⟨s, 0, none⟩), .agg #[.int .i64 k0, .int .i64 k1, .int .i64 k2, .int .i64 k3, .int .i64 (pg : Int), .int .i64 (off : Int), .slice ab nb cb, .slice (some ⟨ga, oa, none⟩) bs.length ca, .slice none 0 0, .slice none 0 0, .int .i64 k4], .int .i64 (lsn : Int)] w fun e w' => e = .returned (.int .i64 0) ∧
  ∃ pl, StIs w0 w' s c xs tb ov ps uvs { S with pool := pl } ∧ PInv c.n pl (fun q => if q = pg then patch (patch (V pg) 0 (be8 lsn)) (8 + off) bs else V q) ∧ RS S.R pl.fo.1 ∧ pl.wr ≤ S.pool.wr + 2 ∧ pl.fs.length = S.pool.fs.length ∧ Kept (s :: (tb ++ xs)) w w' := by
 have hb1 : Below w.heap.size w (w.alloc (.cells #[.int .i64 k0, .int .i64 k1, .int .i64 k2, .int .i64 k3, .int .i64 (pg : Int), .int .i64 (off : Int), .slice ab nb cb, .slice (some ⟨ga, oa, none⟩) bs.length ca, .slice none 0 0, .slice none 0 0, .int .i64 k4] 69)) := (Below.refl _ w).alloc (Nat.le_refl _) _
 have hq1 : (w.alloc (.cells #[.int .i64 k0, .int .i64 k1, .int .i64 k2, .int .i64 k3, .int .i64 (pg : Int), .int .i64 (off : Int), .slice ab nb cb, .slice (some ⟨ga, oa, none⟩) bs.length ca, .slice none 0 0, .slice none 0 0, .int .i64 k4] 69)).heap[w.heap.size]? = some (.cells #[.int .i64 k0, .int .i64 k1, .int .i64 k2, .int .i64 k3, .int .i64 (pg : Int), .int .i64 (off : Int), .slice ab nb cb, .slice (some ⟨ga, oa, none⟩) bs.length ca, .slice none 0 0, .slice none 0 0, .int .i64 k4] 69 (0, 0)) := heap_alloc_new w _
 have hz1 : (w.alloc (.cells #[.int .i64 k0, .int .i64 k1, .int .i64 k2, .int .i64 k3, .int .i64 (pg : Int), .int .i64 (off : Int), .slice ab nb cb, .slice (some ⟨ga, oa, none⟩) bs.length ca, .slice none 0 0, .slice none 0 0, .int .i64 k4] 69)).heap.size = w.heap.size + 1 := by simp
 have h1 := h.mindNew (ys := w.heap.size :: xs) hb1 (fun k hk => by
  rcases List.mem_cons.1 hk with e | e
  · exact .inr (by omega)
  · exact .inl e)
 have HHAS := hide (shas_any h1 (pg : Int) (off : Int) (bs.length : Int) (by omega))
 have hhas : hasB c.n (pg : Int) (off : Int) (bs.length : Int) = true := decide_eq_true (by omega)
 rw [hhas] at HHAS
 have hsl : s < w.heap.size := h.lts (by simp)
 have c2 := h.c2
 have HLT : Hid (∀ k ∈ s :: (tb ++ xs), k < w.heap.size) := fun k hk => h.lts hk
 have HBY := hide (hb.belowW h.below hb1 (fun k hk => h.lts (by simp only [List.mem_cons]; exact .inr hk)))
 have HI := hide hi
 have HWR := hide hwr
 have HWR2 := hide hwr2
 have HB1 := hide hb1
 have HQ1 := hide hq1
 have HZ1 := hide hz1
 have H1 := hide h1
 clear h hi hb hb1 hq1 hz1 h1 hwr hwr2 hhas
 obtain ⟨N, hN⟩ : ∃ N : Nat, bs.length = N := ⟨_, rfl⟩
 have hoN : off + N ≤ 504 := by omega
 have hn1 : 1 ≤ N := by omega
 rw [hN] at HHAS HB1 HQ1 HZ1 H1 HBY ⊢
 have HN := hide hN
 clear hN ho
 go_enter Tryz.func63, Tryz.ntmps63
 go_wp2_with (go_at_call 32; refine HHAS.out.mono ?_; rintro e w' ⟨rfl, hw⟩; have hw := hw.symm; subst hw)
 obtain ⟨W1, hW1⟩ : ∃ W1, w.alloc (.cells #[.int .i64 k0, .int .i64 k1, .int .i64 k2, .int .i64 k3, .int .i64 (pg : Int), .int .i64 (off : Int), .slice ab nb cb, .slice (some ⟨ga, oa, none⟩) N ca, .slice none 0 0, .slice none 0 0, .int .i64 k4] 69) = W1 := ⟨_, rfl⟩
 rw [hW1] at HB1 HQ1 HZ1 H1 HBY ⊢
 clear hW1 HHAS c2
 obtain ⟨Q, hQ⟩ : ∃ Q, w.heap.size = Q := ⟨_, rfl⟩
 rw [hQ] at HQ1 HZ1 H1 HB1 HLT hsl ⊢
 have HQ := hide hQ
 clear hQ
 have c21 := H1.out.c2
 have q4 : W1.cell? ⟨Q, 4, none⟩ = some (.int .i64 (pg : Int)) := by rw [cell_of_row W1 Q 4 _ _ _ HQ1.out]; rfl
 have HG := hide (fun d => pget_ok (H1.out.belowW (below_drewN _ W1 d)) HI.out HWR.out pg hp)
 refine wp_region_held_drew (S := fun w' => w'.cell? ⟨s, 2, none⟩ = some (.pointer (some ⟨c.P, 0, none⟩)) ∧ w'.cell? ⟨Q, 4, none⟩ = some (.int .i64 (pg : Int))) (by kernel_rfl) ⟨c21, q4⟩ (fun hH => ?_)
 refine take_to 0 20 (.pointer (some ⟨s, 0, none⟩)) rfl (by kernel_rfl) (by kernel_rfl) (by kernel_rfl) (fun _ _ _ h => h) rfl (by rfl) (fun w hw => by rfl) hH ?_
 simp only [Act.put, zA, zB, zC]
 refine take_to 1 21 (.pointer (some ⟨s, 0, none⟩)) rfl (by kernel_rfl) (by kernel_rfl) (by kernel_rfl) (fun _ _ _ h => h) rfl (by rfl) (fun w hw => by rfl) hH ?_
 simp only [Act.put, zA, zB, zC]
 refine take_to 2 22 (.pointer (some ⟨s, 2, none⟩)) rfl (by kernel_rfl) (by kernel_rfl) (by kernel_rfl) (fun _ _ _ h => h) rfl (by rfl) (fun w hw => by rfl) hH ?_
 simp only [Act.put, zA, zB, zC]
 refine take_to 3 23 (.pointer (some ⟨c.P, 0, none⟩)) rfl (by kernel_rfl) (by kernel_rfl) (by kernel_rfl) (fun _ _ _ h => h) rfl (by rfl) (fun w hw => op_load _ _ 62 (.tmp 22) rfl (.pointer (some ⟨s, 2, none⟩)) _ rfl (run_loadAny w s 2 62 _ Tryz.isAgg62 hw.1)) hH ?_
 simp only [Act.put, zA, zB, zC]
 refine take_to 4 24 (.pointer (some ⟨Q, 4, none⟩)) rfl (by kernel_rfl) (by kernel_rfl) (by kernel_rfl) (fun _ _ _ h => h) rfl (by rfl) (fun w hw => by rfl) hH ?_
 simp only [Act.put, zA, zB, zC]
 refine take_to 5 25 (.int .i64 (pg : Int)) rfl (by kernel_rfl) (by kernel_rfl) (by kernel_rfl) (fun _ _ _ h => h) rfl (by rfl) (fun w hw => op_load _ _ 3 (.tmp 24) rfl (.pointer (some ⟨Q, 4, none⟩)) _ rfl (run_loadAny w Q 4 3 _ Tryz.isAgg3 hw.2)) hH ?_
 simp only [Act.put, zA, zB, zC]
 refine step_call2_to 6 26 62 rfl (by kernel_rfl) rfl (by rfl) (.tmp 23) (.tmp 25) _ rfl _ _ rfl rfl Tryz.enters62 (HG.out 1) ?_
 rintro e W2 ⟨g, cc, cur, rfl, hg2, hb2, h2, hK2⟩
 have hS2 : W2.cell? ⟨s, 2, none⟩ = some (.pointer (some ⟨c.P, 0, none⟩)) ∧ W2.cell? ⟨Q, 4, none⟩ = some (.int .i64 (pg : Int)) := ⟨h2.c2, (World.cell?_of_block (a := ⟨Q, 4, none⟩) (hK2.2 Q (by simp))).trans q4⟩
 refine ⟨_, rfl, hS2, ?_⟩
 simp only [Act.put, zA, zB, zC]
 refine step_to 7 19 (.tuple #[.slice (some ⟨g, 0, none⟩) 512 cc, .int .i64 0]) W2 rfl (by kernel_rfl) rfl (by rfl) (rfl) hS2 ?_
 simp only [Act.put, zA, zB, zC]
 refine take_to 8 27 (.slice (some ⟨g, 0, none⟩) 512 cc) rfl (by kernel_rfl) (by kernel_rfl) (by kernel_rfl) (fun _ _ _ h => h) rfl (by rfl) (fun w hw => by rfl) hS2 ?_
 simp only [Act.put, zA, zB, zC]
 refine take_to 9 28 (.int .i64 0) rfl (by kernel_rfl) (by kernel_rfl) (by kernel_rfl) (fun _ _ _ h => h) rfl (by rfl) (fun w hw => by rfl) hS2 ?_
 simp only [Act.put, zA, zB, zC]
 refine take_to 10 7 (.slice (some ⟨g, 0, none⟩) 512 cc) rfl (by kernel_rfl) (by kernel_rfl) (by kernel_rfl) (fun _ _ _ h => h) rfl (by rfl) (fun w hw => by rfl) hS2 ?_
 simp only [Act.put, zA, zB, zC]
 refine take_to 11 8 (.int .i64 0) rfl (by kernel_rfl) (by kernel_rfl) (by kernel_rfl) (fun _ _ _ h => h) rfl (by rfl) (fun w hw => by rfl) hS2 ?_
 simp only [Act.put, zA, zB, zC]
 refine wpAnyH_done (by kernel_rfl) ?_ _
 have HK2 : Hid (Kept (s :: (tb ++ (Q :: xs))) W1 W2) := ⟨hK2.1, hK2.2⟩
 have HH2 := hide h2
 have hg1 : W1.heap.size ≤ g := hg2
 have HQG : Hid (g ≠ Q) := by have := HZ1.out; show g ≠ Q; omega
 have HPN := hide (putNumber_any g 0 512 cc lsn cc (V pg) cur W2 hb2 (by rw [HI.out.v5 pg hp]; omega) (by omega) hl2)
 have hcc : 512 ≤ cc := by have := hb2.cap; rw [HI.out.v5 pg hp] at this; exact this
 have HHD := hide (fun w => heed_ok w s)
 clear h2 hK2 hg2 hb2 hS2 hH HG q4 c21
 go_wp2_with (first
  | (go_at_call 51; refine (HHD.out _).mono ?_; rintro e w' ⟨rfl, hw⟩; have hw := hw.symm; subst hw)
  | (go_at_call 96; refine HPN.out.mono ?_; rintro e W3 ⟨rfl, ⟨cur3, hb3⟩, hO3⟩))
 have h3 := HH2.out.writeL (Z := [g]) (fun k hk => by simp only [List.mem_singleton] at hk; subst hk; exact ⟨by simp, by have := HH2.out.below.size; have := H1.out.below.size; omega⟩) hO3
 have hq3 : W3.heap[Q]? = some (.cells #[.int .i64 k0, .int .i64 k1, .int .i64 k2, .int .i64 k3, .int .i64 (pg : Int), .int .i64 (off : Int), .slice ab nb cb, .slice (some ⟨ga, oa, none⟩) N ca, .slice none 0 0, .slice none 0 0, .int .i64 k4] 69 (0, 0)) := (hO3.block Q (by have := HK2.out.1; have := HZ1.out; omega) (by simpa using Ne.symm HQG.out)).trans ((HK2.out.2 Q (by simp)).trans HQ1.out)
 have q53 : W3.cell? ⟨Q, 5, none⟩ = some (.int .i64 (off : Int)) := by rw [cell_of_row W3 Q 5 _ _ _ hq3]; rfl
 have q73 : W3.cell? ⟨Q, 7, none⟩ = some (.slice (some ⟨ga, oa, none⟩) bs.length ca) := by rw [cell_of_row W3 Q 7 _ _ _ hq3, HN.out]; rfl
 have hby3 := (HBY.out.keep H1.out.below HH2.out.below (fun k hk => HK2.out.2 k (by simp only [List.mem_cons, List.mem_append] at hk ⊢; rcases hk with e | e; exact .inr (.inl e); exact .inr (.inr (.inr e)))) HK2.out.1)
 have hga : ga ≠ g := fun e => by
  have := hby3.lt1 H1.out.below (fun k hk => H1.out.lts (by simp only [List.mem_cons, List.mem_append] at hk ⊢; rcases hk with e | e; exact .inr (.inl e); exact .inr (.inr (.inr e))))
  omega
 have HSR : Hid (∀ j v, (secCells bs)[j]? = some v → (W3.drewN 1).cell? ((⟨ga, oa, none⟩ : Addr).add j) = some v) := fun j v hv => by
  have e := hby3.rd j v hv
  rw [Addr.add_mid]
  have hlt : ga < W2.heap.size := World.block_lt_of_cell? W2 _ e
  exact (World.cell?_of_block (a := ⟨ga, oa + j, none⟩) (hO3.block ga hlt (by simpa using hga))).trans e
 have hlp : (patch (V pg) 0 (be8 lsn)).length = 512 := by rw [length_patch _ _ _ (by rw [length_be8, HI.out.v5 pg hp]; omega), HI.out.v5 pg hp]
 have HBK : Hid (BlkAt (W3.drewN 1) g cc (patch (V pg) 0 (be8 lsn)) cur3) := hb3.keep rfl
 have HLN : Hid ((secCells bs).length = Nat.min bs.length (504 - off)) := by
  show _ = _
  rw [length_secCells]
  show bs.length = min bs.length (504 - off)
  have := HN.out
  omega
 have HFT : Hid (8 + off + (secCells bs).length ≤ cur3.size) := by
  show _ ≤ _
  rw [length_secCells, hb3.size]
  have := HN.out
  omega
 have hadd : IntKind.i64.wrap (8 + (off : Int)) = ((8 + off : Nat) : Int) := by rw [IntKind.wrap_i64]; omega
 have HCUT : Hid (∀ W : World, (Instr.sliceAt 36 (.slice (some ⟨g, 0, none⟩) 512 cc) (some (.int .i64 ((8 + off : Nat) : Int))) none none).run Tryz.prog W = .ok (.slice (some ⟨g, 8 + off, none⟩) (504 - off) (cc - (8 + off))) W) := fun W => by
  have := run_cut_from W (some ⟨g, 0, none⟩) 512 cc (8 + off) (by omega)
  rw [show 512 - (8 + off) = 504 - off by omega] at this
  rw [this]
  unfold cutAt
  rw [if_neg (by omega)]
  simp [Addr.add]
 have HO3 := hide hO3
 have H3 := hide h3
 have HB3 := hide hb3
 have HQ3 := hide hq3
 clear hO3 h3 hb3 hby3 hq3 HPN
 rw [show (Value.slice (some ⟨ga, oa, none⟩) N ca) = .slice (some ⟨ga, oa, none⟩) bs.length ca by rw [HN.out]]
 refine wp_region_held_drew (S := fun w' => w'.cell? ⟨Q, 5, none⟩ = some (.int .i64 (off : Int)) ∧ w'.cell? ⟨Q, 7, none⟩ = some (.slice (some ⟨ga, oa, none⟩) bs.length ca)) (by kernel_rfl) ⟨q53, q73⟩ (fun hH => ?_)
 refine take_to 0 37 (.slice (some ⟨g, 0, none⟩) 512 cc) rfl (by kernel_rfl) (by kernel_rfl) (by kernel_rfl) (fun _ _ _ h => h) rfl (by rfl) (fun w hw => by rfl) hH ?_
 simp only [Act.put, zA, zB, zC]
 refine take_to 1 38 (.pointer (some ⟨Q, 5, none⟩)) rfl (by kernel_rfl) (by kernel_rfl) (by kernel_rfl) (fun _ _ _ h => h) rfl (by rfl) (fun w hw => by rfl) hH ?_
 simp only [Act.put, zA, zB, zC]
 refine take_to 2 39 (.int .i64 (off : Int)) rfl (by kernel_rfl) (by kernel_rfl) (by kernel_rfl) (fun _ _ _ h => h) rfl (by rfl) (fun w hw => op_load _ _ 3 (.tmp 38) rfl (.pointer (some ⟨Q, 5, none⟩)) _ rfl (run_loadAny w Q 5 3 _ Tryz.isAgg3 hw.1)) hH ?_
 simp only [Act.put, zA, zB, zC]
 refine take_to 3 40 (.int .i64 ((8 + off : Nat) : Int)) rfl (by kernel_rfl) (by kernel_rfl) (by kernel_rfl) (fun _ _ _ h => h) rfl (by rfl) (fun w hw => op_add3 _ _ _ _ _ rfl 8 (off : Int) rfl rfl _ hadd) hH ?_
 simp only [Act.put, zA, zB, zC]
 refine take_to 4 41 (.slice (some ⟨g, 8 + off, none⟩) (504 - off) (cc - (8 + off))) rfl (by kernel_rfl) (by kernel_rfl) (by kernel_rfl) (fun _ _ _ h => h) rfl (by rfl) (fun w hw => op_slice36 _ _ _ _ rfl (.slice (some ⟨g, 0, none⟩) 512 cc) (.int .i64 ((8 + off : Nat) : Int)) _ rfl rfl (HCUT.out w)) hH ?_
 simp only [Act.put, zA, zB, zC]
 refine take_to 5 42 (.pointer (some ⟨Q, 7, none⟩)) rfl (by kernel_rfl) (by kernel_rfl) (by kernel_rfl) (fun _ _ _ h => h) rfl (by rfl) (fun w hw => by rfl) hH ?_
 simp only [Act.put, zA, zB, zC]
 refine take_to 6 43 (.slice (some ⟨ga, oa, none⟩) bs.length ca) rfl (by kernel_rfl) (by kernel_rfl) (by kernel_rfl) (fun _ _ _ h => h) rfl (by rfl) (fun w hw => op_load _ _ 36 (.tmp 42) rfl (.pointer (some ⟨Q, 7, none⟩)) _ rfl (run_loadAny w Q 7 36 _ Tryz.isAgg36 hw.2)) hH ?_
 simp only [Act.put, zA, zB, zC]
 refine step_copy_row 7 44 rfl (by kernel_rfl) rfl rfl (.tmp 41) (.tmp 43) rfl g (8 + off) (504 - off) (cc - (8 + off)) ⟨ga, oa, none⟩ bs.length ca rfl rfl cur3 5 HBK.out.blk (secCells bs) HLN.out HSR.out HFT.out (one_secCells _) ?_ ?_
 · exact ⟨(World.cell?_of_block (a := ⟨Q, 5, none⟩) (setRow_other _ g Q _ (Ne.symm HQG.out))).trans q53, (World.cell?_of_block (a := ⟨Q, 7, none⟩) (setRow_other _ g Q _ (Ne.symm HQG.out))).trans q73⟩
 simp only [Act.put, zA, zB, zC]
 refine wpAnyH_done (by kernel_rfl) ?_ _
 obtain ⟨cur4, hcur4⟩ : ∃ cur4, (cur3.toList.take (8 + off) ++ (secCells bs ++ cur3.toList.drop (8 + off + (secCells bs).length))).toArray = cur4 := ⟨_, rfl⟩
 rw [hcur4]
 have hb4 : BlkAt ((W3.drewN 1).setRow g cur4) g cc (patch (patch (V pg) 0 (be8 lsn)) (8 + off) bs) cur4 := by
  refine ⟨setRow_heap _ _ _ _ _ _ HBK.out.blk, ?_, ?_, ?_⟩
  · rw [← hcur4, length_patch _ _ _ (by rw [hlp]; have := HN.out; omega), hlp]
    have e9 := patch_cells cur3.toList (patch (V pg) 0 (be8 lsn)) (8 + off) bs (by have := HB3.out.pre; rw [hlp] at this ⊢; exact this) (by have h9 := HB3.out.size; rw [hlp, Array.length_toList]; omega) (by rw [hlp]; have := HN.out; omega)
    rw [hlp] at e9
    exact e9
  · rw [length_patch _ _ _ (by rw [hlp]; have := HN.out; omega), hlp]; exact hcc
  · rw [← hcur4]
    have h5 := HB3.out.size
    have h6 := HFT.out
    simp only [List.size_toArray, List.length_append, List.length_take, List.length_drop, Array.length_toList]
    omega
 have O4 : Off [g] W3 ((W3.drewN 1).setRow g cur4) := ((Off.refl _ W3).drewN 1).setRow _ _ (by simp)
 have h4 := H3.out.writeL (Z := [g]) (fun k hk => by simp only [List.mem_singleton] at hk; subst hk; exact ⟨by simp, by have := H3.out.below.size; have := H1.out.below.size; omega⟩) O4
 have hq4 := (O4.block Q (by have := HO3.out.size; have := HK2.out.1; have := HZ1.out; omega) (by simpa using Ne.symm HQG.out)).trans HQ3.out
 obtain ⟨W4, hW4⟩ : ∃ W4, (W3.drewN 1).setRow g cur4 = W4 := ⟨_, rfl⟩
 rw [hW4] at hb4 O4 h4 hq4
 show Exit.then _ _ _ _ ((W3.drewN 1).setRow g cur4)
 rw [hW4]
 have q44 : W4.cell? ⟨Q, 4, none⟩ = some (.int .i64 (pg : Int)) := by rw [cell_of_row W4 Q 4 _ _ _ hq4]; rfl
 have c24 := h4.c2
 obtain ⟨a1, a2, a3⟩ := HI.out.get (c := c) pg hp
 have hl4 : (patch (patch (V pg) 0 (be8 lsn)) (8 + off) bs).length = 512 := by rw [length_patch _ _ _ (by rw [hlp]; have := HN.out; omega), hlp]
 have HL4 := hide hl4
 have HPUT := hide (fun d => pput_ok (h4.belowW (below_drewN _ W4 d)) a3.inv (by exact HWR2.out) pg hp g cc _ hl4 (by simp) (hb4.src.of (Nat.le_refl _) rfl) lsn hl1 hl2)
 have HO4 := hide O4
 have HST := hide a3
 clear hW4 hb4 O4 h4 hq4 hcur4 hH q53 q73 HSR HLN HFT HCUT HBK HQ3 H3 HB3 a1 a2 a3 hl4 hlp hadd hga HH2 HBY HI
 go_wp2_with fail
 refine wp_region_held_drew (S := fun w' => w'.cell? ⟨s, 2, none⟩ = some (.pointer (some ⟨c.P, 0, none⟩)) ∧ w'.cell? ⟨Q, 4, none⟩ = some (.int .i64 (pg : Int))) (by kernel_rfl) ⟨c24, q44⟩ (fun hH => ?_)
 refine take_to 0 45 (.pointer (some ⟨s, 0, none⟩)) rfl (by kernel_rfl) (by kernel_rfl) (by kernel_rfl) (fun _ _ _ h => h) rfl (by rfl) (fun w hw => by rfl) hH ?_
 simp only [Act.put, zA, zB, zC]
 refine take_to 1 46 (.pointer (some ⟨s, 0, none⟩)) rfl (by kernel_rfl) (by kernel_rfl) (by kernel_rfl) (fun _ _ _ h => h) rfl (by rfl) (fun w hw => by rfl) hH ?_
 simp only [Act.put, zA, zB, zC]
 refine take_to 2 47 (.pointer (some ⟨s, 0, none⟩)) rfl (by kernel_rfl) (by kernel_rfl) (by kernel_rfl) (fun _ _ _ h => h) rfl (by rfl) (fun w hw => by rfl) hH ?_
 simp only [Act.put, zA, zB, zC]
 refine take_to 3 48 (.pointer (some ⟨s, 2, none⟩)) rfl (by kernel_rfl) (by kernel_rfl) (by kernel_rfl) (fun _ _ _ h => h) rfl (by rfl) (fun w hw => by rfl) hH ?_
 simp only [Act.put, zA, zB, zC]
 refine take_to 4 49 (.pointer (some ⟨c.P, 0, none⟩)) rfl (by kernel_rfl) (by kernel_rfl) (by kernel_rfl) (fun _ _ _ h => h) rfl (by rfl) (fun w hw => op_load _ _ 62 (.tmp 48) rfl (.pointer (some ⟨s, 2, none⟩)) _ rfl (run_loadAny w s 2 62 _ Tryz.isAgg62 hw.1)) hH ?_
 simp only [Act.put, zA, zB, zC]
 refine take_to 5 50 (.pointer (some ⟨Q, 4, none⟩)) rfl (by kernel_rfl) (by kernel_rfl) (by kernel_rfl) (fun _ _ _ h => h) rfl (by rfl) (fun w hw => by rfl) hH ?_
 simp only [Act.put, zA, zB, zC]
 refine take_to 6 51 (.int .i64 (pg : Int)) rfl (by kernel_rfl) (by kernel_rfl) (by kernel_rfl) (fun _ _ _ h => h) rfl (by rfl) (fun w hw => op_load _ _ 3 (.tmp 50) rfl (.pointer (some ⟨Q, 4, none⟩)) _ rfl (run_loadAny w Q 4 3 _ Tryz.isAgg3 hw.2)) hH ?_
 simp only [Act.put, zA, zB, zC]
 refine take_to 7 52 (.slice (some ⟨g, 0, none⟩) 512 cc) rfl (by kernel_rfl) (by kernel_rfl) (by kernel_rfl) (fun _ _ _ h => h) rfl (by rfl) (fun w hw => by rfl) hH ?_
 simp only [Act.put, zA, zB, zC]
 refine take_to 8 53 (.int .i64 (lsn : Int)) rfl (by kernel_rfl) (by kernel_rfl) (by kernel_rfl) (fun _ _ _ h => h) rfl (by rfl) (fun w hw => by rfl) hH ?_
 simp only [Act.put, zA, zB, zC]
 refine step_call4_to 9 54 97 rfl (by kernel_rfl) rfl (by rfl) (.tmp 49) (.tmp 51) (.tmp 52) (.tmp 53) _ rfl _ _ _ _ rfl rfl rfl rfl Tryz.enters97 (HPUT.out 1) ?_
 rintro e W5 ⟨rfl, h5, hK5⟩
 have hS5 : W5.cell? ⟨s, 2, none⟩ = some (.pointer (some ⟨c.P, 0, none⟩)) ∧ W5.cell? ⟨Q, 4, none⟩ = some (.int .i64 (pg : Int)) := ⟨h5.c2, (World.cell?_of_block (a := ⟨Q, 4, none⟩) (hK5.2 Q (by simp))).trans q44⟩
 refine ⟨_, rfl, hS5, ?_⟩
 simp only [Act.put, zA, zB, zC]
 refine step_call2_to 10 55 51 rfl (by kernel_rfl) rfl (by rfl) (.tmp 45) (.tmp 54) _ rfl _ _ rfl rfl Tryz.enters51 (heed_ok _ s) ?_
 rintro e W6 ⟨rfl, hw6⟩
 have hw6 := hw6.symm
 subst hw6
 refine ⟨_, rfl, hS5, ?_⟩
 simp only [Act.put, zA, zB, zC]
 refine step_to 11 6 (.int .i64 0) _ rfl (by kernel_rfl) rfl (by rfl) (rfl) hS5 ?_
 simp only [Act.put, zA, zB, zC]
 refine wpAnyH_done (by kernel_rfl) ?_ _
 go_wp2
 go_ret
 obtain ⟨b1, b2⟩ := HST.out.inv.put (c := c) pg hp (patch (patch (V pg) 0 (be8 lsn)) (8 + off) bs) HL4.out (lsn : Int) (by omega) (by omega)
 refine ⟨rfl, _, h5.mind (fun k hk => by simp [hk]), b2.inv, HST.out.rs.trans b2.rs, by have h7 := HST.out.wr; have h8 := b2.wr; omega, by rw [b2.len, HST.out.len], ?_⟩
 have e1 : Kept (s :: (tb ++ xs)) w W1 := ⟨HB1.out.size, fun k hk => HB1.out.block k (HLT.out k hk)⟩
 refine e1.trans (Kept.trans ⟨HK2.out.1, fun k hk => HK2.out.2 k (by simp only [List.mem_cons, List.mem_append] at hk ⊢; rcases hk with e | e | e; exact .inl e; exact .inr (.inl e); exact .inr (.inr (.inr e)))⟩ (Kept.trans (b := W3) ⟨HO3.out.size, fun k hk => HO3.out.block k ?_ ?_⟩ (Kept.trans (b := W4) ⟨HO4.out.size, fun k hk => HO4.out.block k ?_ ?_⟩ ⟨hK5.1, fun k hk => hK5.2 k ?_⟩)))
 · have := HLT.out k hk; have := HB1.out.size; have := HK2.out.1; have := HQ.out; omega
 · have := HLT.out k hk; have := HZ1.out; simp; omega
 · have := HLT.out k hk; have := HB1.out.size; have := HK2.out.1; have := HQ.out; have := HO3.out.size; omega
 · have := HLT.out k hk; have := HZ1.out; simp; omega
 · simp only [List.mem_cons, List.mem_append] at hk ⊢
   rcases hk with e | e | e
   · exact .inl e
   · exact .inr (.inl e)
   · exact .inr (.inr (.inr (.inr e)))
end
end Go.Proofs.YteeembildppgmaaGreat
