/- A part of it: SUpd. -/
import Derived.Test.YteeembildppgmaaGreatM0
import Derived.Test.YteeembildppgmaaGreatM23
namespace Go.Proofs.YteeembildppgmaaGreat
open Go.RowKit
set_option linter.unusedVariables false
set_option linter.unusedSimpArgs false
theorem run_store73 (w : World) (q : Nat) (u : Value) (ao : Option Addr) (m c : Nat) (h : w.cell? ⟨q, 3, none⟩ = some u) (hf : w.frozen? ⟨q, 3, none⟩ = false) :
 (Instr.storeAt 73 (.pointer (some ⟨q, 3, none⟩)) (.slice ao m c)).run Tryz.prog w = .ok () (w.setCell ⟨q, 3, none⟩ (.slice ao m c)) := by
 simp [go_sem, h, hf]
theorem Tryz.info107 : (Tryz.prog.info? 107).map (fun i => (i.zero, i.size, i.bytes)) = some (some (.agg #[.int .i64 0, .int .i64 0, .int .i64 0, .int .i64 0, .int .i64 0, .int .i64 0, .int .i64 0, .slice none 0 0, .slice none 0 0, .slice none 0 0, .slice none 0 0, .int .i64 0]), 12, 160) := by kernel_rfl
theorem Tryz.enters29 (args : Array Value) (w : World) : (callFunc 29 args).run Tryz.prog w = .ok (.enter 29 args) w := by kernel_rfl
theorem Tryz.enters28 (args : Array Value) (w : World) : (callFunc 28 args).run Tryz.prog w = .ok (.enter 28 args) w := by kernel_rfl
theorem Tryz.enters63 (args : Array Value) (w : World) : (callFunc 63 args).run Tryz.prog w = .ok (.enter 63 args) w := by kernel_rfl
theorem one_upCells (u : Up) (v : Value) (h : v.oneCell' = true) : ∀ y ∈ upCells u v, y.oneCell' = true := by
 intro y hy
 simp only [upCells, List.mem_cons, List.not_mem_nil, or_false] at hy
 rcases hy with rfl | rfl | rfl | rfl | rfl | rfl | rfl | rfl | rfl | rfl | rfl | rfl
 all_goals first | rfl | exact h
theorem ByteSrc.more {w0 w : World} {L L' : List Nat} {g o c : Nat} {bs : List UInt8} (h : ByteSrc w0 w L g o c bs) (hl : ∀ k ∈ L, k ∈ L') : ByteSrc w0 w L' g o c bs := ⟨h.cap, h.max, h.at_.imp (hl g) id, h.rd⟩
theorem sl_of_by {w0 w : World} {L : List Nat} {g o c n : Nat} {bs : List UInt8} (h : ByteSrc w0 w L g o c bs) (hn : bs.length = n) : Enc.Sl w (.slice (some ⟨g, o, none⟩) n c) bs := by
 subst hn
 exact ⟨_, _, rfl, h.cap, h.max, fun _ => ⟨g, o, rfl, h.rd⟩⟩
theorem PInv.setR {n : Nat} {P : Pl (Rg × List (List UInt8))} {V : Nat → List UInt8} (h : PInv n P V) (R : Rg) : PInv n { P with fo := (R, P.fo.2) } V := ⟨h.dl, h.v5, h.un, h.he, h.inj, h.out, h.hand, h.rl⟩
def updRc (pg off : Nat) (bf af : List UInt8) : Enc.Rc := ⟨2, 0, 0, 0, (pg : Int), (off : Int), bf, af, [], [], 0⟩
section
variable {w0 w w' : World} {s : Nat} {c : Cf} {xs tb : List Nat} {ov : Value} {ps : List Nat} {uvs : List Value} {S : St} {V : Nat → List UInt8}
theorem StIs.adopt (h : StIs w0 w s c xs tb ov ps uvs S) {g : Nat} {ys : List Nat} (hg : g ∈ xs) (hg0 : w0.heap.size ≤ g) (hy : ∀ k ∈ ys, k ∈ xs) (hn : g ∉ ys) : StIs w0 w s c ys (g :: tb) ov ps uvs S :=
 { h with
   pool := h.pool.mind (fun k hk => by
    simp only [List.mem_cons, List.mem_append] at hk ⊢
    rcases hk with e | (e | e) | e
    · exact .inl e
    · rw [e]; exact .inr (.inr hg)
    · exact .inr (.inl e)
    · exact .inr (.inr (hy k e)))
   tx := fun i x T uv a b d => let ⟨vs, t⟩ := h.tx i x T uv a b d; ⟨vs, t.keep (Nat.le_refl _) (fun k hk => ⟨by simp [hk], rfl⟩)⟩
   t0 := fun k hk => by
    rcases List.mem_cons.1 hk with e | e
    · rw [e]; exact hg0
    · exact h.t0 k e
   sx := fun hm => by
    simp only [List.mem_append, List.mem_cons] at hm
    rcases hm with (e | e) | e
    · exact h.sx (by rw [e]; simp [hg])
    · exact h.sx (by simp [e])
    · exact h.sx (by simp [hy s e])
   tbx := fun k hk hm => by
    rcases List.mem_cons.1 hk with e | e
    · exact hn (e ▸ hm)
    · exact h.tbx k e (hy k hm)
   inO := fun k hk => by simp [h.inO k hk] }
set_option maxHeartbeats 4000000 in
set_option maxRecDepth 100000 in
theorem update_ok (gb : Nat) (h : StIs w0 w s c (gb :: xs) tb ov ps uvs S) {i x : Nat} {T : Tn} {uv : Value} (hx : ps[i]? = some x) (hT : S.txs[i]? = some T) (hu : uvs[i]? = some uv) (hi : PInv c.n S.pool V) (hwr : S.pool.wr + 2 ≤ 1000000) (pg off n ga oa ca : Nat) (bf af : List UInt8) (hbl : bf.length = n) (hal : af.length = n)
 (hgb : w.heap[gb]? = some (.cells (secCells bf).toArray 5 (0, 0))) (hgx : gb ∉ xs) (hgb0 : w0.heap.size ≤ gb) (hby : ByteSrc w0 w xs ga oa ca af) (hp : pg < c.n) (hn : 1 ≤ n) (ho : off + n ≤ 504) (hb : S.res ≤ 1000000000) (hroom : 192 + 3 * n + S.res + 2048 ≤ S.R.room) (hid : T.id ≤ 1000000000000) (hla : T.last ≤ 4398046511104) :
 Calls Tryz.prog 36 #[.pointer (some ⟨s, 0, none⟩), .pointer (some ⟨x, 0, none⟩), .agg #[.int .i64 2, .int .i64 0, .int .i64 0, .int .i64 0, .int .i64 (pg : Int), .int .i64 (off : Int), .slice (some ⟨gb, 0, none⟩) n n, .slice (some ⟨ga, oa, none⟩) n ca, .slice none 0 0, .slice none 0 0, .int .i64 0]] w fun e w' => e = .returned (.int .i64 0) ∧ ∃ pl,
  StAt w0 w' s c xs { S with pool := pl, txs := S.txs.set i { T with last := S.R.tail + 1, ups := T.ups ++ [⟨S.R.tail + 1, T.last, pg, off, bf⟩] } } ∧
  PInv c.n pl (fun q => if q = pg then patch (patch (V pg) 0 (be8 (S.R.tail + 1))) (8 + off) af else V q) ∧ RS { S.R with held := S.R.held ++ ({ updRc pg off bf af with txn := (T.id : Int), prev := (T.last : Int) } : Enc.Rc).enc } pl.fo.1 ∧ pl.wr ≤ S.pool.wr + 2 ∧ pl.fs.length = S.pool.fs.length ∧ Kept xs w w' := by
 obtain ⟨vs, t⟩ := h.tx i x T uv hx hT hu
 obtain ⟨ua, uc, rfl⟩ := t.uvlen
 have hb1 : Below w.heap.size w (w.alloc (.cells #[.int .i64 2, .int .i64 0, .int .i64 0, .int .i64 0, .int .i64 (pg : Int), .int .i64 (off : Int), .slice (some ⟨gb, 0, none⟩) n n, .slice (some ⟨ga, oa, none⟩) n ca, .slice none 0 0, .slice none 0 0, .int .i64 0] 69)) := (Below.refl _ w).alloc (Nat.le_refl _) _
 have hq1 : (w.alloc (.cells #[.int .i64 2, .int .i64 0, .int .i64 0, .int .i64 0, .int .i64 (pg : Int), .int .i64 (off : Int), .slice (some ⟨gb, 0, none⟩) n n, .slice (some ⟨ga, oa, none⟩) n ca, .slice none 0 0, .slice none 0 0, .int .i64 0] 69)).heap[w.heap.size]? = some (.cells #[.int .i64 2, .int .i64 0, .int .i64 0, .int .i64 0, .int .i64 (pg : Int), .int .i64 (off : Int), .slice (some ⟨gb, 0, none⟩) n n, .slice (some ⟨ga, oa, none⟩) n ca, .slice none 0 0, .slice none 0 0, .int .i64 0] 69 (0, 0)) := heap_alloc_new w _
 have hz1 : (w.alloc (.cells #[.int .i64 2, .int .i64 0, .int .i64 0, .int .i64 0, .int .i64 (pg : Int), .int .i64 (off : Int), .slice (some ⟨gb, 0, none⟩) n n, .slice (some ⟨ga, oa, none⟩) n ca, .slice none 0 0, .slice none 0 0, .int .i64 0] 69)).heap.size = w.heap.size + 1 := by simp
 have hxl : x < w.heap.size := h.lts (by simp [t.inX])
 have hgl : gb < w.heap.size := h.lt (by simp)
 have HX2 : Hid (∀ W, Below w.heap.size w W → W.cell? ⟨x, 2, none⟩ = some (.int .i64 (T.last : Int))) := fun W hW => (hW.cell (p := ⟨x, 2, none⟩) hxl).trans t.c2
 have hml : T.ups.length ≤ 1000000000 := by
  have h1 := length_resU T.ups
  have h2 : T.res ≤ S.res := by
   have h3 := sum_take Tn.res S.txs i T hT
   have h4 := sum_take_le Tn.res S.txs (i + 1)
   show _ ≤ resT S.txs
   unfold resT
   omega
  have h5 : T.res = 192 + resU T.ups := rfl
  omega
 have hst : S.R.tail + 1 < 4611686018427387904 := by
  obtain ⟨bl, vs2, gp, D, hpx, hy⟩ := h.asRing
  have h1 := hy.rg.wf.start
  have h2 := hy.rg.wf.held
  show S.R.start + S.R.held.length + 1 < _
  omega
 have HREC : Hid (∀ W, Below w.heap.size w W → Enc.RecVal W (.agg #[.int .i64 2, .int .i64 0, .int .i64 0, .int .i64 0, .int .i64 (pg : Int), .int .i64 (off : Int), .slice (some ⟨gb, 0, none⟩) n n, .slice (some ⟨ga, oa, none⟩) n ca, .slice none 0 0, .slice none 0 0, .int .i64 0]) (updRc pg off bf af)) := fun W hW =>
  ⟨_, _, _, _, rfl, sl_of_src (SrcAt.block ((hW.block gb hgl).trans hgb)) hbl (Nat.le_refl _) (by omega), sl_of_by (hby.belowW h.below hW (fun k hk => h.lt (by simp [hk]))) hal, Enc.Row.nil W, Enc.Row.nil W⟩
 have HREC2 : Hid (∀ W, Below w.heap.size w W → Enc.RecVal W (.agg #[.int .i64 3, .int .i64 0, .int .i64 0, .int .i64 (T.last : Int), .int .i64 (pg : Int), .int .i64 (off : Int), .slice none 0 0, .slice (some ⟨gb, 0, none⟩) n n, .slice none 0 0, .slice none 0 0, .int .i64 0]) (Up.rc ⟨0, T.last, pg, off, bf⟩)) := fun W hW =>
  ⟨_, _, _, _, rfl, Enc.Row.nil W, sl_of_src (SrcAt.block ((hW.block gb hgl).trans hgb)) hbl (Nat.le_refl _) (by omega), Enc.Row.nil W, Enc.Row.nil W⟩
 have hsz1 : (updRc pg off bf af).size = 96 + n + n := by show 96 + bf.length + af.length + 24 * 0 + 16 * 0 = _; omega
 have hsz2 : (Up.rc ⟨0, T.last, pg, off, bf⟩).size = 96 + n := by show 96 + 0 + bf.length + 24 * 0 + 16 * 0 = _; omega
 have HWF : Hid ((updRc pg off bf af).wf) := ⟨fun y hy => by
  simp only [Enc.Rc.head, updRc, List.mem_cons, List.not_mem_nil, or_false] at hy
  have := h.n8
  rcases hy with rfl | rfl | rfl | rfl | rfl | rfl <;> omega, by simp [updRc], by simp [updRc], by simp [updRc]⟩
 have HMK0 : Hid (∀ W, Below w.heap.size w W → Calls Tryz.prog 28 #[.pointer (some ⟨s, 0, none⟩), .int .i64 ((192 + 3 * n : Nat) : Int)] W fun e w' => e = .returned (.int .i64 0) ∧ Below W.heap.size W w') := fun W hW => makeRoom_ok (h.belowW hW) hb (192 + 3 * n) (by omega) hroom
 have H := hide h
 have HT := hide hT
 have HX := hide hx
 have HU := hide hu
 have HTX := hide t
 have HI := hide hi
 have HWR := hide hwr
 have HBY := hide hby
 have HGB := hide hgb
 have HRM := hide hroom
 have HB1 := hide hb1
 have HQ1 := hide hq1
 have HZ1 := hide hz1
 have HS1 := hide hsz1
 have HS2 := hide hsz2
 have HBL := hide hbl
 have HAL0 := hide hal
 clear h hT hx hu t hi hwr hby hgb hb1 hq1 hz1 hb hroom hsz1 hsz2 hbl hal
 go_enter Tryz.func36, Tryz.ntmps36
 go_wp2_with fail
 obtain ⟨W1, hW1⟩ : ∃ W1, w.alloc (.cells #[.int .i64 2, .int .i64 0, .int .i64 0, .int .i64 0, .int .i64 (pg : Int), .int .i64 (off : Int), .slice (some ⟨gb, 0, none⟩) n n, .slice (some ⟨ga, oa, none⟩) n ca, .slice none 0 0, .slice none 0 0, .int .i64 0] 69) = W1 := ⟨_, rfl⟩
 rw [hW1] at HB1 HQ1 HZ1 ⊢
 clear hW1
 obtain ⟨Q, hQ⟩ : ∃ Q, w.heap.size = Q := ⟨_, rfl⟩
 rw [hQ] at HQ1 HZ1 HB1 hxl hgl HX2 HREC HREC2 HMK0 ⊢
 have HQ := hide hQ
 clear hQ
 obtain ⟨Q2, hQ2⟩ : ∃ Q2, W1.heap.size = Q2 := ⟨_, rfl⟩
 obtain ⟨W2, hW2⟩ : ∃ W2, (W1.drewN 1).alloc (.cells Enc.zeroCells11 69) = W2 := ⟨_, rfl⟩
 have b2 : Below W1.heap.size W1 W2 := by rw [← hW2]; exact (below_drewN _ W1 1).alloc (Nat.le_refl _) _
 have g2 : W2.heap[Q2]? = some (.cells Enc.zeroCells11 69 (0, 0)) := by rw [← hW2, ← hQ2]; exact heap_alloc_new (W1.drewN 1) _
 obtain ⟨W3, hW3⟩ : ∃ W3, W2.setRow Q2 #[.int .i64 3, .int .i64 0, .int .i64 0, .int .i64 (T.last : Int), .int .i64 (pg : Int), .int .i64 (off : Int), .slice none 0 0, .slice (some ⟨gb, 0, none⟩) n n, .slice none 0 0, .slice none 0 0, .int .i64 0] = W3 := ⟨_, rfl⟩
 have HST : Hid ((Instr.storeAt 69 (.pointer (some ⟨Q2, 0, none⟩)) (.agg #[.int .i64 3, .int .i64 0, .int .i64 0, .int .i64 (T.last : Int), .int .i64 (pg : Int), .int .i64 (off : Int), .slice none 0 0, .slice (some ⟨gb, 0, none⟩) n n, .slice none 0 0, .slice none 0 0, .int .i64 0])).run Tryz.prog W2 = .ok () W3) := by
  show _ = _
  rw [← hW3]
  exact Enc.run_store69 W2 Q2 _ _ rfl rfl (all_oneCell_toArray (by
   intro v hv
   simp only [List.mem_cons, List.not_mem_nil, or_false] at hv
   rcases hv with rfl | rfl | rfl | rfl | rfl | rfl | rfl | rfl | rfl | rfl | rfl <;> rfl)) g2
 have HAL : Hid (∀ (ρ : Operand → Value) (o : Oper), o.op = .alloc 69 → (execOp ρ o).run Tryz.prog (W1.drewN 1) = .ok (.value (.pointer (some ⟨Q2, 0, none⟩))) W2) := fun ρ o h1 => by
  rw [← hW2, ← hQ2]
  unfold execOp
  simp only [h1]
  kernel_rfl
 have b3 : Below W1.heap.size W1 W3 := by rw [← hW3]; exact below_setRow b2 (by omega) _
 have g3 : W3.heap[Q2]? = some (.cells #[.int .i64 3, .int .i64 0, .int .i64 0, .int .i64 (T.last : Int), .int .i64 (pg : Int), .int .i64 (off : Int), .slice none 0 0, .slice (some ⟨gb, 0, none⟩) n n, .slice none 0 0, .slice none 0 0, .int .i64 0] 69 (0, 0)) := by rw [← hW3]; exact setRow_heap _ _ _ _ _ _ g2
 have z2 : Q < Q2 := by have := HZ1.out; omega
 have hQ3 : W3.heap[Q]? = some (.cells #[.int .i64 2, .int .i64 0, .int .i64 0, .int .i64 0, .int .i64 (pg : Int), .int .i64 (off : Int), .slice (some ⟨gb, 0, none⟩) n n, .slice (some ⟨ga, oa, none⟩) n ca, .slice none 0 0, .slice none 0 0, .int .i64 0] 69 (0, 0)) := (b3.block Q (by omega)).trans HQ1.out
 have hQ21 : W2.heap[Q]? = some (.cells #[.int .i64 2, .int .i64 0, .int .i64 0, .int .i64 0, .int .i64 (pg : Int), .int .i64 (off : Int), .slice (some ⟨gb, 0, none⟩) n n, .slice (some ⟨ga, oa, none⟩) n ca, .slice none 0 0, .slice none 0 0, .int .i64 0] 69 (0, 0)) := (b2.block Q (by omega)).trans HQ1.out
 have B3 : Below Q w W3 := HB1.out.trans (b3.mono (by omega))
 have B2' : Below Q w W2 := HB1.out.trans (b2.mono (by omega))
 have hS1 : W1.cell? ⟨x, 2, none⟩ = some (.int .i64 (T.last : Int)) ∧ W1.cell? ⟨Q, 4, none⟩ = some (.int .i64 (pg : Int)) ∧ W1.cell? ⟨Q, 5, none⟩ = some (.int .i64 (off : Int)) ∧ W1.cell? ⟨Q, 6, none⟩ = some (.slice (some ⟨gb, 0, none⟩) n n) := ⟨HX2.out W1 HB1.out, by rw [cell_of_row W1 Q 4 _ _ _ HQ1.out]; rfl, by rw [cell_of_row W1 Q 5 _ _ _ HQ1.out]; rfl, by rw [cell_of_row W1 Q 6 _ _ _ HQ1.out]; rfl⟩
 have hS2 : W2.cell? ⟨x, 2, none⟩ = some (.int .i64 (T.last : Int)) ∧ W2.cell? ⟨Q, 4, none⟩ = some (.int .i64 (pg : Int)) ∧ W2.cell? ⟨Q, 5, none⟩ = some (.int .i64 (off : Int)) ∧ W2.cell? ⟨Q, 6, none⟩ = some (.slice (some ⟨gb, 0, none⟩) n n) := ⟨HX2.out W2 B2', by rw [cell_of_row W2 Q 4 _ _ _ hQ21]; rfl, by rw [cell_of_row W2 Q 5 _ _ _ hQ21]; rfl, by rw [cell_of_row W2 Q 6 _ _ _ hQ21]; rfl⟩
 have hS3 : W3.cell? ⟨x, 2, none⟩ = some (.int .i64 (T.last : Int)) ∧ W3.cell? ⟨Q, 4, none⟩ = some (.int .i64 (pg : Int)) ∧ W3.cell? ⟨Q, 5, none⟩ = some (.int .i64 (off : Int)) ∧ W3.cell? ⟨Q, 6, none⟩ = some (.slice (some ⟨gb, 0, none⟩) n n) := ⟨HX2.out W3 B3, by rw [cell_of_row W3 Q 4 _ _ _ hQ3]; rfl, by rw [cell_of_row W3 Q 5 _ _ _ hQ3]; rfl, by rw [cell_of_row W3 Q 6 _ _ _ hQ3]; rfl⟩
 refine wp_region_held_drew (S := fun w' => w'.cell? ⟨x, 2, none⟩ = some (.int .i64 (T.last : Int)) ∧ w'.cell? ⟨Q, 4, none⟩ = some (.int .i64 (pg : Int)) ∧ w'.cell? ⟨Q, 5, none⟩ = some (.int .i64 (off : Int)) ∧ w'.cell? ⟨Q, 6, none⟩ = some (.slice (some ⟨gb, 0, none⟩) n n)) (by kernel_rfl) hS1 (fun hH => ?_)
 refine take_to 0 10 (.pointer (some ⟨x, 0, none⟩)) rfl (by kernel_rfl) (by kernel_rfl) (by kernel_rfl) (fun _ _ _ h => h) rfl (by rfl) (fun w hw => by rfl) hH ?_
 simp only [Act.put, zA, zB, zC]
 refine take_to 1 11 (.pointer (some ⟨x, 0, none⟩)) rfl (by kernel_rfl) (by kernel_rfl) (by kernel_rfl) (fun _ _ _ h => h) rfl (by rfl) (fun w hw => by rfl) hH ?_
 simp only [Act.put, zA, zB, zC]
 refine take_to 2 12 (.pointer (some ⟨x, 2, none⟩)) rfl (by kernel_rfl) (by kernel_rfl) (by kernel_rfl) (fun _ _ _ h => h) rfl (by rfl) (fun w hw => by rfl) hH ?_
 simp only [Act.put, zA, zB, zC]
 refine take_to 3 13 (.int .i64 (T.last : Int)) rfl (by kernel_rfl) (by kernel_rfl) (by kernel_rfl) (fun _ _ _ h => h) rfl (by rfl) (fun w hw => op_load _ _ 3 (.tmp 12) rfl (.pointer (some ⟨x, 2, none⟩)) _ rfl (run_loadAny w x 2 3 _ Tryz.isAgg3 hw.1)) hH ?_
 simp only [Act.put, zA, zB, zC]
 refine take_to 4 14 (.pointer (some ⟨Q, 4, none⟩)) rfl (by kernel_rfl) (by kernel_rfl) (by kernel_rfl) (fun _ _ _ h => h) rfl (by rfl) (fun w hw => by rfl) hH ?_
 simp only [Act.put, zA, zB, zC]
 refine take_to 5 15 (.int .i64 (pg : Int)) rfl (by kernel_rfl) (by kernel_rfl) (by kernel_rfl) (fun _ _ _ h => h) rfl (by rfl) (fun w hw => op_load _ _ 3 (.tmp 14) rfl (.pointer (some ⟨Q, 4, none⟩)) _ rfl (run_loadAny w Q 4 3 _ Tryz.isAgg3 hw.2.1)) hH ?_
 simp only [Act.put, zA, zB, zC]
 refine take_to 6 16 (.pointer (some ⟨Q, 5, none⟩)) rfl (by kernel_rfl) (by kernel_rfl) (by kernel_rfl) (fun _ _ _ h => h) rfl (by rfl) (fun w hw => by rfl) hH ?_
 simp only [Act.put, zA, zB, zC]
 refine take_to 7 17 (.int .i64 (off : Int)) rfl (by kernel_rfl) (by kernel_rfl) (by kernel_rfl) (fun _ _ _ h => h) rfl (by rfl) (fun w hw => op_load _ _ 3 (.tmp 16) rfl (.pointer (some ⟨Q, 5, none⟩)) _ rfl (run_loadAny w Q 5 3 _ Tryz.isAgg3 hw.2.2.1)) hH ?_
 simp only [Act.put, zA, zB, zC]
 refine take_to 8 18 (.pointer (some ⟨Q, 6, none⟩)) rfl (by kernel_rfl) (by kernel_rfl) (by kernel_rfl) (fun _ _ _ h => h) rfl (by rfl) (fun w hw => by rfl) hH ?_
 simp only [Act.put, zA, zB, zC]
 refine take_to 9 19 (.slice (some ⟨gb, 0, none⟩) n n) rfl (by kernel_rfl) (by kernel_rfl) (by kernel_rfl) (fun _ _ _ h => h) rfl (by rfl) (fun w hw => op_load _ _ 36 (.tmp 18) rfl (.pointer (some ⟨Q, 6, none⟩)) _ rfl (run_loadAny w Q 6 36 _ Tryz.isAgg36 hw.2.2.2)) hH ?_
 simp only [Act.put, zA, zB, zC]
 refine take_to 10 20 (.agg #[.int .i64 3, .int .i64 0, .int .i64 0, .int .i64 (T.last : Int), .int .i64 (pg : Int), .int .i64 (off : Int), .slice none 0 0, .slice (some ⟨gb, 0, none⟩) n n, .slice none 0 0, .slice none 0 0, .int .i64 0]) rfl (by kernel_rfl) (by kernel_rfl) (by kernel_rfl) (fun _ _ _ h => h) rfl (by rfl) (fun w hw => by kernel_rfl) hH ?_
 simp only [Act.put, zA, zB, zC]
 refine step_to 11 7 (.pointer (some ⟨Q2, 0, none⟩)) W2 rfl (by kernel_rfl) rfl (by rfl) (HAL.out _ _ rfl) hS2 ?_
 simp only [Act.put, zA, zB, zC]
 refine step_store_to 12 W3 rfl (by kernel_rfl) rfl (by rfl) 69 (.tmp 7) (.tmp 20) rfl (.pointer (some ⟨Q2, 0, none⟩)) (.agg #[.int .i64 3, .int .i64 0, .int .i64 0, .int .i64 (T.last : Int), .int .i64 (pg : Int), .int .i64 (off : Int), .slice none 0 0, .slice (some ⟨gb, 0, none⟩) n n, .slice none 0 0, .slice none 0 0, .int .i64 0]) rfl rfl HST.out hS3 ?_
 refine wpAnyH_done (by kernel_rfl) ?_ _
 have lt3 : Q2 < W3.heap.size := (Array.getElem?_eq_some_iff.1 g3).1
 have hK3 : ∀ W, Below W3.heap.size W3 W → W.heap[Q]? = some (.cells #[.int .i64 2, .int .i64 0, .int .i64 0, .int .i64 0, .int .i64 (pg : Int), .int .i64 (off : Int), .slice (some ⟨gb, 0, none⟩) n n, .slice (some ⟨ga, oa, none⟩) n ca, .slice none 0 0, .slice none 0 0, .int .i64 0] 69 (0, 0)) ∧ W.heap[Q2]? = some (.cells #[.int .i64 3, .int .i64 0, .int .i64 0, .int .i64 (T.last : Int), .int .i64 (pg : Int), .int .i64 (off : Int), .slice none 0 0, .slice (some ⟨gb, 0, none⟩) n n, .slice none 0 0, .slice none 0 0, .int .i64 0] 69 (0, 0)) := fun W hW => ⟨(hW.block Q (by omega)).trans hQ3, (hW.block Q2 lt3).trans g3⟩
 have HB3 := hide B3
 have HSZ1 := hide (fun d => Enc.size_any (HREC.out (W3.drewN d) (B3.trans (below_drewN Q W3 d))) (by rw [HS1.out]; omega))
 have HSZ2 := hide (fun W (hW : Below W3.heap.size W3 W) => Enc.size_any (HREC2.out W (B3.trans (hW.mono (by have := B3.size; have := HQ.out; omega)))) (by rw [HS2.out]; omega))
 have HMK := hide (fun W (hW : Below W3.heap.size W3 W) => HMK0.out W (B3.trans (hW.mono (by have := B3.size; have := HQ.out; omega))))
 rw [HS1.out] at HSZ1
 rw [HS2.out] at HSZ2
 have hadd : IntKind.i64.wrap (((96 + n + n : Nat) : Int) + ((96 + n : Nat) : Int)) = ((192 + 3 * n : Nat) : Int) := by rw [IntKind.wrap_i64]; omega
 have HQ2E := hide hQ2
 clear hS1 hS2 hS3 hH hW2 hW3 b2 b3 g2 HST HAL B2' hQ21 HMK0 hQ2
 go_wp2_with fail
 refine wp_region_held_drew (S := fun w' => w'.heap[Q]? = some (.cells #[.int .i64 2, .int .i64 0, .int .i64 0, .int .i64 0, .int .i64 (pg : Int), .int .i64 (off : Int), .slice (some ⟨gb, 0, none⟩) n n, .slice (some ⟨ga, oa, none⟩) n ca, .slice none 0 0, .slice none 0 0, .int .i64 0] 69 (0, 0)) ∧ w'.heap[Q2]? = some (.cells #[.int .i64 3, .int .i64 0, .int .i64 0, .int .i64 (T.last : Int), .int .i64 (pg : Int), .int .i64 (off : Int), .slice none 0 0, .slice (some ⟨gb, 0, none⟩) n n, .slice none 0 0, .slice none 0 0, .int .i64 0] 69 (0, 0))) (by kernel_rfl) ⟨hQ3, g3⟩ (fun hH => ?_)
 refine take_to 0 21 (.pointer (some ⟨s, 0, none⟩)) rfl (by kernel_rfl) (by kernel_rfl) (by kernel_rfl) (fun _ _ _ h => h) rfl (by rfl) (fun w hw => by rfl) hH ?_
 simp only [Act.put, zA, zB, zC]
 refine take_to 1 22 (.agg #[.int .i64 2, .int .i64 0, .int .i64 0, .int .i64 0, .int .i64 (pg : Int), .int .i64 (off : Int), .slice (some ⟨gb, 0, none⟩) n n, .slice (some ⟨ga, oa, none⟩) n ca, .slice none 0 0, .slice none 0 0, .int .i64 0]) rfl (by kernel_rfl) (by kernel_rfl) (by kernel_rfl) (fun _ _ _ h => h) rfl (by rfl) (fun w hw => op_load _ _ 69 (.tmp 5) rfl (.pointer (some ⟨Q, 0, none⟩)) _ rfl (Enc.run_load69 w Q _ rfl hw.1)) hH ?_
 simp only [Act.put, zA, zB, zC]
 refine take_to 3 24 (.agg #[.int .i64 3, .int .i64 0, .int .i64 0, .int .i64 (T.last : Int), .int .i64 (pg : Int), .int .i64 (off : Int), .slice none 0 0, .slice (some ⟨gb, 0, none⟩) n n, .slice none 0 0, .slice none 0 0, .int .i64 0]) rfl (by kernel_rfl) (by kernel_rfl) (by kernel_rfl) (fun _ _ _ h => h) rfl (by rfl) (fun w hw => op_load _ _ 69 (.tmp 7) rfl (.pointer (some ⟨Q2, 0, none⟩)) _ rfl (Enc.run_load69 w Q2 _ rfl hw.2)) hH ?_
 simp only [Act.put, zA, zB, zC]
 refine step_call1_to 2 23 29 rfl (by kernel_rfl) rfl (by rfl) (.tmp 22) _ rfl _ rfl Tryz.enters29 (HSZ1.out 1) ?_
 rintro e W4 ⟨rfl, hW4⟩
 have b4 : Below W3.heap.size W3 W4 := by rw [hW4]; exact (below_drewN _ W3 1).alloc (Nat.le_refl _) _
 have hS4 := hK3 W4 b4
 clear hW4
 refine ⟨_, rfl, hS4, ?_⟩
 simp only [Act.put, zA, zB, zC]
 refine step_call1_to 4 25 29 rfl (by kernel_rfl) rfl (by rfl) (.tmp 24) _ rfl _ rfl Tryz.enters29 (HSZ2.out W4 b4) ?_
 rintro e W5 ⟨rfl, hW5⟩
 have b5 : Below W3.heap.size W3 W5 := b4.trans ((by rw [hW5]; exact (Below.refl _ W4).alloc (Nat.le_refl _) _ : Below W4.heap.size W4 W5).mono b4.size)
 have hS5 := hK3 W5 b5
 clear hW5
 refine ⟨_, rfl, hS5, ?_⟩
 simp only [Act.put, zA, zB, zC]
 refine step_to 5 26 (.int .i64 ((192 + 3 * n : Nat) : Int)) W5 rfl (by kernel_rfl) rfl (by rfl) (op_add3 _ _ _ _ _ rfl ((96 + n + n : Nat) : Int) ((96 + n : Nat) : Int) rfl rfl _ hadd) hS5 ?_
 simp only [Act.put, zA, zB, zC]
 refine step_call2_to 6 27 28 rfl (by kernel_rfl) rfl (by rfl) (.tmp 21) (.tmp 26) _ rfl _ _ rfl rfl Tryz.enters28 (HMK.out W5 b5) ?_
 rintro e W6 ⟨rfl, hb6⟩
 have b6 : Below W3.heap.size W3 W6 := b5.trans (hb6.mono b5.size)
 have hS6 := hK3 W6 b6
 refine ⟨_, rfl, hS6, ?_⟩
 simp only [Act.put, zA, zB, zC]
 refine step_to 7 8 (.int .i64 0) W6 rfl (by kernel_rfl) rfl (by rfl) (rfl) hS6 ?_
 simp only [Act.put, zA, zB, zC]
 refine wpAnyH_done (by kernel_rfl) ?_ _
 have B6 : Below Q w W6 := HB3.out.trans (b6.mono (by have := HB3.out.size; have := HQ.out; omega))
 have hQ6 := hS6.1
 have hQ26 := hS6.2
 have HREC6 := HREC.out W6 B6
 have q0 : W6.cell? ⟨Q, 0, none⟩ = some (.int .i64 2) := by rw [cell_of_row W6 Q 0 _ _ _ hQ6]; rfl
 have q1 : W6.cell? ⟨Q, 1, none⟩ = some (.int .i64 0) := by rw [cell_of_row W6 Q 1 _ _ _ hQ6]; rfl
 have q2 : W6.cell? ⟨Q, 2, none⟩ = some (.int .i64 0) := by rw [cell_of_row W6 Q 2 _ _ _ hQ6]; rfl
 have q3 : W6.cell? ⟨Q, 3, none⟩ = some (.int .i64 0) := by rw [cell_of_row W6 Q 3 _ _ _ hQ6]; rfl
 have q4 : W6.cell? ⟨Q, 4, none⟩ = some (.int .i64 (pg : Int)) := by rw [cell_of_row W6 Q 4 _ _ _ hQ6]; rfl
 have q5 : W6.cell? ⟨Q, 5, none⟩ = some (.int .i64 (off : Int)) := by rw [cell_of_row W6 Q 5 _ _ _ hQ6]; rfl
 have q6 : W6.cell? ⟨Q, 6, none⟩ = some (.slice (some ⟨gb, 0, none⟩) n n) := by rw [cell_of_row W6 Q 6 _ _ _ hQ6]; rfl
 have q7 : W6.cell? ⟨Q, 7, none⟩ = some (.slice (some ⟨ga, oa, none⟩) n ca) := by rw [cell_of_row W6 Q 7 _ _ _ hQ6]; rfl
 have q8 : W6.cell? ⟨Q, 8, none⟩ = some (.slice none 0 0) := by rw [cell_of_row W6 Q 8 _ _ _ hQ6]; rfl
 have q9 : W6.cell? ⟨Q, 9, none⟩ = some (.slice none 0 0) := by rw [cell_of_row W6 Q 9 _ _ _ hQ6]; rfl
 have q10 : W6.cell? ⟨Q, 10, none⟩ = some (.int .i64 0) := by rw [cell_of_row W6 Q 10 _ _ _ hQ6]; rfl
 have h6 := H.out.mindNew (w' := W6) (ys := Q :: Q2 :: gb :: xs) (by rw [HQ.out]; exact B6) (fun k hk => by
  simp only [List.mem_cons] at hk
  have hz := b6.size
  rcases hk with e | e | e
  · exact .inr ⟨by rw [HQ.out]; omega, by omega⟩
  · exact .inr ⟨by rw [HQ.out]; omega, by omega⟩
  · exact .inl (by simpa using e))
 have HTO := hide (tellOf_ok h6 HX.out HT.out HU.out HREC6 (by rw [HS1.out]; omega) HWF.out (by rw [HS1.out]; have := HRM.out; omega) hid hla)
 have HB6 := hide B6
 have HQ6 := hide hQ6
 have HQ26 := hide hQ26
 clear h6 hb6 b4 b5 b6 hS4 hS5 hS6 hH HSZ1 HSZ2 HMK hadd hK3 HREC6 hQ3 g3
 go_wp2_with fail
 refine HTO.out.mono ?_
 rintro e W7 ⟨rfl, h7, hK7, -⟩
 clear q0 q1 q2 q3 q4 q5 q6 q7 q8 q9 q10 HTO
 obtain ⟨L, hL⟩ : ∃ L : Nat, S.R.tail + 1 = L := ⟨_, rfl⟩
 have h7 : StIs w0 W7 s c (Q :: Q2 :: gb :: xs) tb ov ps uvs { S.setR { S.R with held := S.R.held ++ ({ updRc pg off bf af with txn := (T.id : Int), prev := (T.last : Int) } : Enc.Rc).enc } with txs := S.txs.set i { T with last := L } } := by
  have := h7
  unfold St.told at this
  rw [hL] at this
  exact this
 have hQ7 : W7.heap[Q]? = some (.cells #[.int .i64 2, .int .i64 0, .int .i64 0, .int .i64 0, .int .i64 (pg : Int), .int .i64 (off : Int), .slice (some ⟨gb, 0, none⟩) n n, .slice (some ⟨ga, oa, none⟩) n ca, .slice none 0 0, .slice none 0 0, .int .i64 0] 69 (0, 0)) := (hK7.2 Q (by simp)).trans HQ6.out
 have hQ27 : W7.heap[Q2]? = some (.cells #[.int .i64 3, .int .i64 0, .int .i64 0, .int .i64 (T.last : Int), .int .i64 (pg : Int), .int .i64 (off : Int), .slice none 0 0, .slice (some ⟨gb, 0, none⟩) n n, .slice none 0 0, .slice none 0 0, .int .i64 0] 69 (0, 0)) := (hK7.2 Q2 (by simp)).trans HQ26.out
 have hgb7 : W7.heap[gb]? = some (.cells (secCells bf).toArray 5 (0, 0)) := (hK7.2 gb (by simp)).trans ((HB6.out.block gb hgl).trans HGB.out)
 have hil := (List.getElem?_eq_some_iff.1 HT.out).1
 have hT7 : ({ S.setR { S.R with held := S.R.held ++ ({ updRc pg off bf af with txn := (T.id : Int), prev := (T.last : Int) } : Enc.Rc).enc } with txs := S.txs.set i { T with last := L } } : St).txs[i]? = some { T with last := L } := List.getElem?_set_self hil
 obtain ⟨vs7, t7⟩ := h7.tx i x _ _ HX.out hT7 HU.out
 have h7a := h7.adopt (g := gb) (ys := Q :: Q2 :: xs) (by simp) hgb0 (fun k hk => by simp only [List.mem_cons] at hk ⊢; rcases hk with e | e | e; exact .inl e; exact .inr (.inl e); exact .inr (.inr (.inr e))) (fun hm => by
  simp only [List.mem_cons] at hm
  rcases hm with e | e | e
  · omega
  · omega
  · exact hgx e)
 have hx27 : W7.cell? ⟨x, 2, none⟩ = some (.int .i64 (L : Int)) := t7.c2
 have k37 : W7.cell? ⟨x, 3, none⟩ = some (.slice ua T.ups.length uc) := t7.c3
 obtain ⟨X, hX⟩ : ∃ X, W7.heap.size = X := ⟨_, rfl⟩
 obtain ⟨W8, hW8⟩ : ∃ W8, (W7.drewN 1).alloc (.cells #[.int .i64 (L : Int), .int .i64 3, .int .i64 0, .int .i64 0, .int .i64 (T.last : Int), .int .i64 (pg : Int), .int .i64 (off : Int), .slice none 0 0, .slice (some ⟨gb, 0, none⟩) n n, .slice none 0 0, .slice none 0 0, .int .i64 0] 107) = W8 := ⟨_, rfl⟩
 have b8 : Below W7.heap.size W7 W8 := by rw [← hW8]; exact (below_drewN _ W7 1).alloc (Nat.le_refl _) _
 have g8 : W8.heap[X]? = some (.cells #[.int .i64 (L : Int), .int .i64 3, .int .i64 0, .int .i64 0, .int .i64 (T.last : Int), .int .i64 (pg : Int), .int .i64 (off : Int), .slice none 0 0, .slice (some ⟨gb, 0, none⟩) n n, .slice none 0 0, .slice none 0 0, .int .i64 0] 107 (0, 0)) := by rw [← hW8, ← hX]; exact heap_alloc_new (W7.drewN 1) _
 have z8 : W8.heap.size = X + 1 := by rw [← hW8, ← hX]; simp
 have hx7 : x < W7.heap.size := h7.lts (by simp [t7.inX])
 have hq27 : Q2 < W7.heap.size := h7.lts (by simp)
 have hq7 : Q < W7.heap.size := h7.lts (by simp)
 have hS8 : W8.cell? ⟨x, 2, none⟩ = some (.int .i64 (L : Int)) ∧ W8.heap[Q2]? = some (.cells #[.int .i64 3, .int .i64 0, .int .i64 0, .int .i64 (T.last : Int), .int .i64 (pg : Int), .int .i64 (off : Int), .slice none 0 0, .slice (some ⟨gb, 0, none⟩) n n, .slice none 0 0, .slice none 0 0, .int .i64 0] 69 (0, 0)) := ⟨(b8.cell (p := ⟨x, 2, none⟩) hx7).trans hx27, (b8.block Q2 hq27).trans hQ27⟩
 have k38 : W8.cell? ⟨x, 3, none⟩ = some (.slice ua T.ups.length uc) := (b8.cell (p := ⟨x, 3, none⟩) hx7).trans k37
 have HFZ8 : Hid (W8.frozen? ⟨x, 3, none⟩ = false) := frozen_of_row W8 x 3 _ _ ((b8.block x hx7).trans t7.head)
 have HXH8 : Hid (W8.heap[x]? = some (.cells #[.int .i64 (T.id : Int), .int .i64 (T.begin : Int), .int .i64 (L : Int), .slice ua T.ups.length uc] 75 (0, 0))) := (b8.block x hx7).trans t7.head
 have HBS : Hid ((do pure (Next.value (← Instr.buildSlice 73 1 #[(0, .agg #[.int .i64 (L : Int), .int .i64 3, .int .i64 0, .int .i64 0, .int .i64 (T.last : Int), .int .i64 (pg : Int), .int .i64 (off : Int), .slice none 0 0, .slice (some ⟨gb, 0, none⟩) n n, .slice none 0 0, .slice none 0 0, .int .i64 0])])) : Sem Next).run Tryz.prog (W7.drewN 1) = .ok (.value (.slice (some ⟨X, 0, none⟩) 1 1)) W8) := by
  show _ = _
  rw [← hW8, ← hX]
  kernel_rfl
 have HOW8 : Hid (W8.ownsRow 0 107 12 (.slice ua T.ups.length uc) T.ups.length (upsRow T.ups vs7)) := owns_of_block t7.ups (fun k hk => b8.block k (t7.ups.lt k hk).2)
 have HSRC : Hid (∀ j u, (upCells ⟨L, T.last, pg, off, bf⟩ (.slice (some ⟨gb, 0, none⟩) n n))[j]? = some u → W8.cell? ((⟨X, 0, none⟩ : Addr).add j) = some u) := src_of_block (X := upCells ⟨L, T.last, pg, off, bf⟩ (.slice (some ⟨gb, 0, none⟩) n n)) g8
 have HXL8 : Hid (x < W8.heap.size) := by show x < _; omega
 have HQ2L8 : Hid (Q2 < W8.heap.size) := by show Q2 < _; omega
 have HXU : Hid ((Value.slice ua T.ups.length uc).ownBlock ≠ some x) := fun e => by
  obtain ⟨C, hC⟩ := t7.row x e
  rw [t7.head] at hC; simp at hC
 have HQ2U : Hid ((Value.slice ua T.ups.length uc).ownBlock ≠ some Q2) := fun e => by
  have := h7.tbx Q2 (t7.inU Q2 e)
  exact this (by simp)
 have HQ2X : Hid (¬ Q2 = x) := fun e => by omega
 have HT7 := hide t7
 have H7a := hide h7a
 have HK7 : Hid (Kept (Q :: Q2 :: gb :: xs) W6 W7) := ⟨hK7.1, hK7.2⟩
 have HB8 := hide b8
 have HL := hide hL
 have HQ7 := hide hQ7
 have HGB7 := hide hgb7
 have HQ27 := hide hQ27
 have HT7a := hide hT7
 clear h7 h7a hK7 t7 b8 g8 hW8 hL hQ7 hQ27 hgb7 hT7
 go_wp2_with fail
 refine wp_region_held_drew (S := fun w' => w'.cell? ⟨x, 2, none⟩ = some (.int .i64 (L : Int)) ∧ w'.heap[Q2]? = some (.cells #[.int .i64 3, .int .i64 0, .int .i64 0, .int .i64 (T.last : Int), .int .i64 (pg : Int), .int .i64 (off : Int), .slice none 0 0, .slice (some ⟨gb, 0, none⟩) n n, .slice none 0 0, .slice none 0 0, .int .i64 0] 69 (0, 0))) (by kernel_rfl) ⟨hx27, HQ27.out⟩ (fun hH => ?_)
 refine take_to 0 38 (.pointer (some ⟨x, 0, none⟩)) rfl (by kernel_rfl) (by kernel_rfl) (by kernel_rfl) (fun _ _ _ h => h) rfl (by rfl) (fun w hw => by rfl) hH ?_
 simp only [Act.put, zA, zB, zC]
 refine take_to 1 39 (.pointer (some ⟨x, 0, none⟩)) rfl (by kernel_rfl) (by kernel_rfl) (by kernel_rfl) (fun _ _ _ h => h) rfl (by rfl) (fun w hw => by rfl) hH ?_
 simp only [Act.put, zA, zB, zC]
 refine take_to 2 40 (.pointer (some ⟨x, 0, none⟩)) rfl (by kernel_rfl) (by kernel_rfl) (by kernel_rfl) (fun _ _ _ h => h) rfl (by rfl) (fun w hw => by rfl) hH ?_
 simp only [Act.put, zA, zB, zC]
 refine take_to 3 41 (.pointer (some ⟨x, 3, none⟩)) rfl (by kernel_rfl) (by kernel_rfl) (by kernel_rfl) (fun _ _ _ h => h) rfl (by rfl) (fun w hw => by rfl) hH ?_
 simp only [Act.put, zA, zB, zC]
 refine take_to 5 43 (.pointer (some ⟨x, 0, none⟩)) rfl (by kernel_rfl) (by kernel_rfl) (by kernel_rfl) (fun _ _ _ h => h) rfl (by rfl) (fun w hw => by rfl) hH ?_
 simp only [Act.put, zA, zB, zC]
 refine take_to 6 44 (.pointer (some ⟨x, 0, none⟩)) rfl (by kernel_rfl) (by kernel_rfl) (by kernel_rfl) (fun _ _ _ h => h) rfl (by rfl) (fun w hw => by rfl) hH ?_
 simp only [Act.put, zA, zB, zC]
 refine take_to 7 45 (.pointer (some ⟨x, 2, none⟩)) rfl (by kernel_rfl) (by kernel_rfl) (by kernel_rfl) (fun _ _ _ h => h) rfl (by rfl) (fun w hw => by rfl) hH ?_
 simp only [Act.put, zA, zB, zC]
 refine take_to 8 46 (.int .i64 (L : Int)) rfl (by kernel_rfl) (by kernel_rfl) (by kernel_rfl) (fun _ _ _ h => h) rfl (by rfl) (fun w hw => op_load _ _ 3 (.tmp 45) rfl (.pointer (some ⟨x, 2, none⟩)) _ rfl (run_loadAny w x 2 3 _ Tryz.isAgg3 hw.1)) hH ?_
 simp only [Act.put, zA, zB, zC]
 refine take_to 9 47 (.agg #[.int .i64 3, .int .i64 0, .int .i64 0, .int .i64 (T.last : Int), .int .i64 (pg : Int), .int .i64 (off : Int), .slice none 0 0, .slice (some ⟨gb, 0, none⟩) n n, .slice none 0 0, .slice none 0 0, .int .i64 0]) rfl (by kernel_rfl) (by kernel_rfl) (by kernel_rfl) (fun _ _ _ h => h) rfl (by rfl) (fun w hw => op_load _ _ 69 (.tmp 7) rfl (.pointer (some ⟨Q2, 0, none⟩)) _ rfl (Enc.run_load69 w Q2 _ rfl hw.2)) hH ?_
 simp only [Act.put, zA, zB, zC]
 refine take_to 10 48 (.agg #[.int .i64 (L : Int), .int .i64 3, .int .i64 0, .int .i64 0, .int .i64 (T.last : Int), .int .i64 (pg : Int), .int .i64 (off : Int), .slice none 0 0, .slice (some ⟨gb, 0, none⟩) n n, .slice none 0 0, .slice none 0 0, .int .i64 0]) rfl (by kernel_rfl) (by kernel_rfl) (by kernel_rfl) (fun _ _ _ h => h) rfl (by rfl) (fun w hw => by kernel_rfl) hH ?_
 simp only [Act.put, zA, zB, zC]
 refine wpAnyH_all (rs := [4, 11]) (by kernel_rfl) (by simp) ?_
 intro k hk
 rcases (by simpa using hk : k = 4 ∨ k = 11) with rfl | rfl
 refine op_to 42 (.slice ua T.ups.length uc) _ rfl rfl (by rfl) (op_load _ _ 73 (.tmp 41) rfl (.pointer (some ⟨x, 3, none⟩)) _ rfl (run_loadAny _ x 3 73 _ Tryz.isAgg73 k37)) ⟨hH, ?_⟩
 simp only [Act.put, zA, zB, zC]
 refine step_to 11 49 (.slice (some ⟨X, 0, none⟩) 1 1) W8 rfl (by kernel_rfl) rfl (by rfl) (by rw [Enc.buildSlice_op _ _ 73 1 0 (.tmp 48) rfl _ rfl]; exact HBS.out) hS8 ?_
 simp only [Act.put, zA, zB, zC]
 rotate_left
 refine op_to 49 (.slice (some ⟨X, 0, none⟩) 1 1) W8 rfl rfl (by rfl) (by rw [Enc.buildSlice_op _ _ 73 1 0 (.tmp 48) rfl _ rfl]; exact HBS.out) ⟨hS8, ?_⟩
 simp only [Act.put, zA, zB, zC]
 refine step_to 4 42 (.slice ua T.ups.length uc) _ rfl (by kernel_rfl) rfl (by rfl) (op_load _ _ 73 (.tmp 41) rfl (.pointer (some ⟨x, 3, none⟩)) _ rfl (run_loadAny _ x 3 73 _ Tryz.isAgg73 k38)) hS8 ?_
 simp only [Act.put, zA, zB, zC]
 all_goals
  refine step_append_to 12 50 rfl (by kernel_rfl) rfl rfl (.tmp 42) (.tmp 49) 73 rfl 107 (.agg #[.int .i64 0, .int .i64 0, .int .i64 0, .int .i64 0, .int .i64 0, .int .i64 0, .int .i64 0, .slice none 0 0, .slice none 0 0, .slice none 0 0, .slice none 0 0, .int .i64 0]) 12 160 Tryz.underlying73 Tryz.info107 rfl (by omega) (.slice ua T.ups.length uc) T.ups.length (upsRow T.ups vs7) rfl HOW8.out ⟨X, 0, none⟩ 1 1 (upCells ⟨L, T.last, pg, off, bf⟩ (.slice (some ⟨gb, 0, none⟩) n n)) rfl rfl HSRC.out (one_upCells _ _ rfl) (by simp only [maxLen]; omega) (by omega) ?_
  intro v9 w9 ho9 hg9 hf9
  have e9 : w9.heap[x]? = W8.heap[x]? := hg9.block x HXL8.out (fun e => HXU.out e.symm)
  have hS9 : w9.cell? ⟨x, 2, none⟩ = some (.int .i64 (L : Int)) ∧ w9.heap[Q2]? = some (.cells #[.int .i64 3, .int .i64 0, .int .i64 0, .int .i64 (T.last : Int), .int .i64 (pg : Int), .int .i64 (off : Int), .slice none 0 0, .slice (some ⟨gb, 0, none⟩) n n, .slice none 0 0, .slice none 0 0, .int .i64 0] 69 (0, 0)) := ⟨(World.cell?_of_block (a := ⟨x, 2, none⟩) e9).trans hS8.1, (hg9.block Q2 HQ2L8.out (fun e => HQ2U.out e.symm)).trans hS8.2⟩
  refine ⟨hS9, ?_⟩
  simp only [Act.put, zA, zB, zC]
  refine step_to 13 51 (.pointer (some ⟨x, 0, none⟩)) w9 rfl (by kernel_rfl) rfl (by rfl) rfl hS9 ?_
  simp only [Act.put, zA, zB, zC]
  refine step_to 14 52 (.pointer (some ⟨x, 3, none⟩)) w9 rfl (by kernel_rfl) rfl (by rfl) (by kernel_rfl) hS9 ?_
  simp only [Act.put, zA, zB, zC]
  obtain ⟨ao9, n9, cc9, hv9⟩ := own_form ho9
  have k39 : w9.cell? ⟨x, 3, none⟩ = some (.slice ua T.ups.length uc) := (World.cell?_of_block (a := ⟨x, 3, none⟩) e9).trans k38
  have f39 : w9.frozen? ⟨x, 3, none⟩ = false := (World.frozen?_of_block (a := ⟨x, 3, none⟩) e9).trans HFZ8.out
  have hst := run_store73 w9 x _ ao9 n9 cc9 k39 f39
  rw [← hv9] at hst
  have hxh : (w9.setCell ⟨x, 3, none⟩ v9).heap[x]? = some (.cells #[.int .i64 (T.id : Int), .int .i64 (T.begin : Int), .int .i64 (L : Int), v9] 75 (0, 0)) := by
   rw [heap_setCell_same w9 x 3 _ _ v9 (e9.trans HXH8.out)]; rfl
  have hS10 : (w9.setCell ⟨x, 3, none⟩ v9).cell? ⟨x, 2, none⟩ = some (.int .i64 (L : Int)) ∧ (w9.setCell ⟨x, 3, none⟩ v9).heap[Q2]? = some (.cells #[.int .i64 3, .int .i64 0, .int .i64 0, .int .i64 (T.last : Int), .int .i64 (pg : Int), .int .i64 (off : Int), .slice none 0 0, .slice (some ⟨gb, 0, none⟩) n n, .slice none 0 0, .slice none 0 0, .int .i64 0] 69 (0, 0)) := ⟨by rw [cell_of_row _ x 2 _ _ _ hxh]; rfl, (heap_setCell_other w9 _ Q2 v9 HQ2X.out).trans hS9.2⟩
  refine step_store_to 15 _ rfl (by kernel_rfl) rfl (by rfl) 73 (.tmp 52) (.tmp 50) rfl _ _ rfl rfl hst hS10 ?_
  refine wpAnyH_done (by kernel_rfl) ?_ _

  have O10 : Off (x :: (Value.slice ua T.ups.length uc).ownBlock.toList) W7 (w9.setCell ⟨x, 3, none⟩ v9) := (((Off.of_below HB8.out _).grown hg9 (fun k hk => .inl (by rw [hk]; simp))).setCell _ _ (.inl (by simp)))
  have hu9 : ∀ k, v9.ownBlock = some k → k ≠ x := fun k hk e => by
   rcases hf9 k hk with h1 | h1
   · exact HXU.out (by rw [h1, e])
   · have := HXL8.out; omega
  have t10 : TxIs (w9.setCell ⟨x, 3, none⟩ v9) (v9.ownBlock.toList ++ (gb :: tb)) x { T with last := L, ups := T.ups ++ [⟨L, T.last, pg, off, bf⟩] } v9 (vs7 ++ [.slice (some ⟨gb, 0, none⟩) n n]) := by
   have hkeep : ∀ g C, g ∈ gb :: tb → W7.heap[g]? = some (.cells C 5 (0, 0)) → (w9.setCell ⟨x, 3, none⟩ v9).heap[g]? = W7.heap[g]? := fun g C hm hC => O10.block g (H7a.out.lts (by simp only [List.mem_cons, List.mem_append] at hm ⊢; exact .inr (.inl hm))) (fun hz => by
    simp only [List.mem_cons, Option.mem_toList] at hz
    rcases hz with e | e
    · rw [e, HT7.out.head] at hC; simp at hC
    · obtain ⟨C', hC'⟩ := HT7.out.row g e
      rw [hC'] at hC; simp at hC)
   refine ⟨hxh, ?_, by simp [HT7.out.vlen], fun j u v h1 h2 => ?_, by simp [HT7.out.inX], fun k hk => by simp [hk]⟩
   · show World.ownsRow _ 0 107 12 v9 (T.ups ++ [_]).length (upsRow (T.ups ++ [_]) (vs7 ++ [_]))
     rw [upsRow_snoc _ _ HT7.out.vlen, List.length_append]
     exact owns_of_block ho9 (fun k hk => heap_setCell_other w9 _ k v9 (hu9 k hk))
   · by_cases hj : j < T.ups.length
     · rw [List.getElem?_append_left hj] at h1
       rw [List.getElem?_append_left (by rw [HT7.out.vlen]; exact hj)] at h2
       obtain ⟨g, cc, a1, a2, a3, a4, a5, C, a6⟩ := HT7.out.byt j u v h1 h2
       have e := hkeep g C (by simp [a4]) a6
       exact ⟨g, cc, a1, a2, a3, by simp [a4], a5.of O10.size e, C, by rw [e]; exact a6⟩
     · rw [List.getElem?_append_right (by omega)] at h1
       rw [List.getElem?_append_right (by rw [HT7.out.vlen]; show T.ups.length ≤ j; omega), HT7.out.vlen] at h2
       have hj0 : j - T.ups.length = 0 := by have := (List.getElem?_eq_some_iff.1 h1).1; simp at this; omega
       rw [hj0] at h1
       have h2 : [Value.slice (some ⟨gb, 0, none⟩) n n][j - T.ups.length]? = some v := h2
       rw [hj0] at h2
       simp at h1 h2
       subst h1; subst h2
       have e := hkeep gb _ (by simp) HGB7.out
       exact ⟨gb, n, by rw [HBL.out], by rw [HBL.out]; exact Nat.le_refl _, by omega, by simp, (SrcAt.block HGB7.out).of O10.size e, _, by rw [e]; exact HGB7.out⟩
  have h10 := H7a.out.setTx (i := i) HX.out HT7a.out HU.out O10 (fun k hk => by simpa using hk) t10 (fun k hk => by simp only [List.mem_append]; exact .inr hk) (fun k hk => by
   simp only [List.mem_append, Option.mem_toList] at hk
   rcases hk with e | e
   · rcases hf9 k e with h1 | h1
     · exact .inl (by simp [HT7.out.inU k h1])
     · exact .inr ⟨by have := HB8.out.size; omega, by have := (ho9.lt k e).2; simpa [World.setCell] using this⟩
   · exact .inl e) (fun k hk => by
   rcases hf9 k hk with h1 | h1
   · exact .inl h1
   · exact .inr (by have := HB8.out.size; omega)) (fun k hk => HT7.out.row k hk)
  obtain ⟨W10, hW10⟩ : ∃ W10, w9.setCell ⟨x, 3, none⟩ v9 = W10 := ⟨_, rfl⟩
  rw [hW10] at h10 O10 hxh hS10 ⊢
  have hQ10 : W10.heap[Q]? = some (.cells #[.int .i64 2, .int .i64 0, .int .i64 0, .int .i64 0, .int .i64 (pg : Int), .int .i64 (off : Int), .slice (some ⟨gb, 0, none⟩) n n, .slice (some ⟨ga, oa, none⟩) n ca, .slice none 0 0, .slice none 0 0, .int .i64 0] 69 (0, 0)) := (O10.block Q hq7 (fun hz => by
   simp only [List.mem_cons, Option.mem_toList] at hz
   rcases hz with e | e
   · omega
   · exact H7a.out.tbx Q (by simp [HT7.out.inU Q e]) (by simp))).trans HQ7.out
  have x210 := hS10.1
  have HXT : Hid (x ∈ v9.ownBlock.toList ++ (gb :: tb)) := by show _ ∈ _; simp [HT7.out.inX]
  have hkx : ∀ k ∈ xs, W10.heap[k]? = W7.heap[k]? := fun k hk => O10.block k (H7a.out.lt (by simp [hk])) (fun hz => by
   simp only [List.mem_cons, Option.mem_toList] at hz
   rcases hz with e | e
   · exact H7a.out.tbx x (by simp [HT7.out.inX]) (by simp [← e, hk])
   · exact H7a.out.tbx k (by simp [HT7.out.inU k e]) (by simp [hk]))
  have hKx : Kept xs w W10 := ⟨Nat.le_trans (by rw [HQ.out]; exact Nat.le_trans (by omega) hq7) O10.size, fun k hk => (hkx k hk).trans ((HK7.out.2 k (by simp [hk])).trans (HB6.out.block k (by have := H.out.lt (k := k) (by simp [hk]); have := HQ.out; omega)))⟩
  have by10 := (HBY.out.keep H.out.below h10.below hKx.2 hKx.1)
  have HI2 := hide (HI.out.setR { S.R with held := S.R.held ++ ({ updRc pg off bf af with txn := (T.id : Int), prev := (T.last : Int) } : Enc.Rc).enc })
  have HCH := hide (fun d => change_ok (V := V) (h10.belowW (below_drewN _ W10 d)) HI2.out (by have := HWR.out; show S.pool.wr ≤ _; omega) 2 0 0 0 0 (some ⟨gb, 0, none⟩) n n ga oa ca af ((by10.belowW h10.below (below_drewN _ W10 d) (fun k hk => h10.lt (by simp [hk]))).more (fun k hk => by simp [hk])) pg off L hp (by rw [HAL0.out]; exact hn) (by rw [HAL0.out]; exact ho) (by have := HL.out; omega) (by have := HL.out; omega) (by have h1 := (HI2.out.get (c := c) pg hp).2.2.wr; have := HWR.out; exact Nat.le_trans h1 (by show S.pool.wr + 1 ≤ 1000000; omega)))
  rw [HAL0.out] at HCH
  have HKX := hide hKx
  have H10 := hide h10
  clear h10 O10 t10 hxh hS10 hW10 hkx by10 ho9 hg9 hf9 hv9 hst hS9 k39 f39 e9 hu9 hKx hS8 hH
  go_wp2_with fail
  refine wp_region_held_drew (S := fun w' => w'.heap[Q]? = some (.cells #[.int .i64 2, .int .i64 0, .int .i64 0, .int .i64 0, .int .i64 (pg : Int), .int .i64 (off : Int), .slice (some ⟨gb, 0, none⟩) n n, .slice (some ⟨ga, oa, none⟩) n ca, .slice none 0 0, .slice none 0 0, .int .i64 0] 69 (0, 0)) ∧ w'.cell? ⟨x, 2, none⟩ = some (.int .i64 (L : Int))) (by kernel_rfl) ⟨hQ10, x210⟩ (fun hH => ?_)
  refine take_to 0 53 (.pointer (some ⟨s, 0, none⟩)) rfl (by kernel_rfl) (by kernel_rfl) (by kernel_rfl) (fun _ _ _ h => h) rfl (by rfl) (fun w hw => by rfl) hH ?_
  simp only [Act.put, zA, zB, zC]
  refine take_to 1 54 (.agg #[.int .i64 2, .int .i64 0, .int .i64 0, .int .i64 0, .int .i64 (pg : Int), .int .i64 (off : Int), .slice (some ⟨gb, 0, none⟩) n n, .slice (some ⟨ga, oa, none⟩) n ca, .slice none 0 0, .slice none 0 0, .int .i64 0]) rfl (by kernel_rfl) (by kernel_rfl) (by kernel_rfl) (fun _ _ _ h => h) rfl (by rfl) (fun w hw => op_load _ _ 69 (.tmp 5) rfl (.pointer (some ⟨Q, 0, none⟩)) _ rfl (Enc.run_load69 w Q _ rfl hw.1)) hH ?_
  simp only [Act.put, zA, zB, zC]
  refine take_to 2 55 (.pointer (some ⟨x, 0, none⟩)) rfl (by kernel_rfl) (by kernel_rfl) (by kernel_rfl) (fun _ _ _ h => h) rfl (by rfl) (fun w hw => by rfl) hH ?_
  simp only [Act.put, zA, zB, zC]
  refine take_to 3 56 (.pointer (some ⟨x, 0, none⟩)) rfl (by kernel_rfl) (by kernel_rfl) (by kernel_rfl) (fun _ _ _ h => h) rfl (by rfl) (fun w hw => by rfl) hH ?_
  simp only [Act.put, zA, zB, zC]
  refine take_to 4 57 (.pointer (some ⟨x, 2, none⟩)) rfl (by kernel_rfl) (by kernel_rfl) (by kernel_rfl) (fun _ _ _ h => h) rfl (by rfl) (fun w hw => by rfl) hH ?_
  simp only [Act.put, zA, zB, zC]
  refine take_to 5 58 (.int .i64 (L : Int)) rfl (by kernel_rfl) (by kernel_rfl) (by kernel_rfl) (fun _ _ _ h => h) rfl (by rfl) (fun w hw => op_load _ _ 3 (.tmp 57) rfl (.pointer (some ⟨x, 2, none⟩)) _ rfl (run_loadAny w x 2 3 _ Tryz.isAgg3 hw.2)) hH ?_
  simp only [Act.put, zA, zB, zC]
  refine step_call3_to 6 59 63 rfl (by kernel_rfl) rfl (by rfl) (.tmp 53) (.tmp 54) (.tmp 58) _ rfl _ _ _ rfl rfl rfl Tryz.enters63 (HCH.out 1) ?_
  rintro e W11 ⟨rfl, pl, h11, hI11, hR11, hw11, hl11, hK11⟩
  have hS11 : W11.heap[Q]? = some (.cells #[.int .i64 2, .int .i64 0, .int .i64 0, .int .i64 0, .int .i64 (pg : Int), .int .i64 (off : Int), .slice (some ⟨gb, 0, none⟩) n n, .slice (some ⟨ga, oa, none⟩) n ca, .slice none 0 0, .slice none 0 0, .int .i64 0] 69 (0, 0)) ∧ W11.cell? ⟨x, 2, none⟩ = some (.int .i64 (L : Int)) := ⟨(hK11.2 Q (by simp)).trans hQ10, (World.cell?_of_block (a := ⟨x, 2, none⟩) (hK11.2 x (by simp [HT7.out.inX]))).trans x210⟩
  refine ⟨_, rfl, hS11, ?_⟩
  simp only [Act.put, zA, zB, zC]
  refine step_to 7 6 (.int .i64 0) W11 rfl (by kernel_rfl) rfl (by rfl) (rfl) hS11 ?_
  simp only [Act.put, zA, zB, zC]
  refine wpAnyH_done (by kernel_rfl) ?_ _
  go_wp2
  go_ret
  refine ⟨rfl, pl, ?_, ?_, ?_, hw11, hl11, ?_⟩
  · have := (h11.mind (ys := xs) (fun k hk => by simp [hk])).at
    rw [HL.out]
    simp only [List.set_set] at this
    exact this
  · rw [HL.out]; exact hI11
  · exact hR11
  · exact HKX.out.trans ⟨hK11.1, fun k hk => hK11.2 k (by simp [hk])⟩
end
end Go.Proofs.YteeembildppgmaaGreat
