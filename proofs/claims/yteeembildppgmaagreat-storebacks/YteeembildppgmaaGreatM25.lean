/- A part of it: SWrite SDel SScope SEnd SUndo. -/
import Derived.Test.YteeembildppgmaaGreatM0
import Derived.Test.YteeembildppgmaaGreatM24
import Derived.LaidEqlPtr
import Derived.Lib.SliceRun
import Derived.Deep.RegionLaw
import Derived.WalkMore
import Derived.ScopeJumps
namespace Go.Proofs.YteeembildppgmaaGreat
open Go.RowKit
set_option linter.unusedVariables false
set_option linter.unusedSimpArgs false
theorem run_neq_ptr_same {P : Program} {tp te : TypeId} {j : TypeInfo} (w : World) (a : Addr) (hp : P.underlying tp = some (.pointer te)) (hte : P.info? te = some j) :
 (binOp .neq tp (.pointer (some a)) (.pointer (some a))).run P w = .ok (.bool false) w := by
 have h : ∀ d : Nat, (Op.equalIn (d + 1) tp (.pointer (some a)) (.pointer (some a))).run P w = .ok true w := fun d => by
  simp [Op.equalIn, run_underlying hp, sizeOf, typeInfo, hte, run_sameAddr_same]
 simp only [binOp]
 simp [Op.equal, Op.maxDepth, h 9999]
theorem Tryz.size75 : ∃ j, Tryz.prog.info? 75 = some j ∧ j.size ≠ 0 := by
 have h : (Tryz.prog.info? 75).map (fun j => j.size) = some 4 := by kernel_rfl
 cases hj : Tryz.prog.info? 75 with
 | none => rw [hj] at h; cases h
 | some j => rw [hj] at h; exact ⟨j, rfl, by simp at h; omega⟩
theorem rng_block {w : World} {g : Nat} {bs : List UInt8} {t : TypeId} {fr : Nat × Nat} (h : w.heap[g]? = some (.cells (secCells bs).toArray t fr)) : w.rangeAt g 0 (secCells bs) := fun j v hv => by
 have := (SrcAt.block h).2 j v hv
 rwa [Addr.add_mid] at this
theorem run_strAt (w : World) (g o n c : Nat) (bs : List UInt8) (hl : bs.length = n) (h : w.rangeAt g o (secCells bs)) : (convert 36 9 (.slice (some ⟨g, o, none⟩) n c)).run Tryz.prog w = .ok (.string (strOf bs)) w := by
 rw [run_convert_bytes_string w 36 9 5 _ _ _ Tryz.underlying36 Tryz.underlying5 Tryz.underlying9]
 have hload : (loadCells ⟨g, o, none⟩ n).run Tryz.prog w = .ok ((bs.map fun b => (b.toNat : Int)).map (Value.int .u8)).toArray w := by
  have := run_loadCells_list (P := Tryz.prog) w ⟨g, o, none⟩ (secCells bs) (fun j v hv => by rw [Addr.add_mid]; exact h j v hv)
  rw [length_secCells, hl] at this
  rw [this]
  simp [secCells, bcell]
 rw [run_bytesToString w _ _ _ _ hload, foldl_push]
 simp [strOf]
set_option maxHeartbeats 400000 in
theorem equal_any (w : World) (g o n c g2 o2 m d : Nat) (A B : List UInt8) (hA : A.length = n) (hB : B.length = m) (h1 : w.rangeAt g o (secCells A)) (h2 : w.rangeAt g2 o2 (secCells B)) :
 Calls Tryz.prog 35 #[.slice (some ⟨g, o, none⟩) n c, .slice (some ⟨g2, o2, none⟩) m d] w fun e w' => e = .returned (.bool (decide (A = B))) ∧ w' = w := by
 have r1 := run_strAt w g o n c A hA h1
 have r2 := run_strAt w g2 o2 m d B hB h2
 have hq := beq_str A B
 clear h1 h2
 generalize (strOf A) = sA at *
 generalize (strOf B) = sB at *
 go_enter Tryz.func35, Tryz.ntmps35
 go_wp2
 go_ret
 exact ⟨by rw [← hq]; first | rfl | skip, rfl⟩
section
variable {w0 w w' : World} {s : Nat} {c : Cf} {xs tb : List Nat} {ov : Value} {ps : List Nat} {uvs : List Value} {S : St} {V : Nat → List UInt8}
set_option maxHeartbeats 400000 in
theorem spages_ok (h : StIs w0 w s c xs tb ov ps uvs S) : Calls Tryz.prog 44 #[.pointer (some ⟨s, 0, none⟩)] w fun e w' => e = .returned (.int .i64 (c.n : Int)) ∧ w' = w := by
 have c3 := h.c3
 clear h
 go_enter Tryz.func44, Tryz.ntmps44
 go_wp2
 go_ret
 exact ⟨rfl, rfl⟩
set_option maxHeartbeats 1000000 in
theorem sread_ok (h : StIs w0 w s c xs tb ov ps uvs S) (hi : PInv c.n S.pool V) (hwr : S.pool.wr ≤ 1000000) (pg off n : Nat) (hp : pg < c.n) (hn : 1 ≤ n) (ho : off + n ≤ 504) :
 Calls Tryz.prog 24 #[.pointer (some ⟨s, 0, none⟩), .int .i64 (pg : Int), .int .i64 (off : Int), .int .i64 (n : Int)] w fun e w' => ∃ g, e = .returned (.tuple #[.slice (some ⟨g, 0, none⟩) n n, .int .i64 0]) ∧ w.heap.size ≤ g ∧
  w'.heap[g]? = some (.cells (secCells (((V pg).drop (8 + off)).take n)).toArray 5 (0, 0)) ∧ StIs w0 w' s c (g :: xs) tb ov ps uvs { S with pool := (cGet c S.pool pg).2.2 } ∧ Kept (s :: (tb ++ xs)) w w' := by
 have c10 := h.c10
 have HHAS := hide (shas_any h (pg : Int) (off : Int) (n : Int) (by omega))
 have hhas : hasB c.n (pg : Int) (off : Int) (n : Int) = true := decide_eq_true (by omega)
 rw [hhas] at HHAS
 have HG := hide (sget_ok h hi hwr pg off n hp hn ho)
 clear h hi hhas
 go_enter Tryz.func24, Tryz.ntmps24
 go_wp2_with (first
  | (go_at_call 32; refine HHAS.out.mono ?_; rintro e w' ⟨rfl, hw⟩; have hw := hw.symm; subst hw)
  | (go_at_call 34; refine HG.out.mono ?_; rintro e w2 ⟨g, rfl, hg, hb, h2, hK2⟩; have H2 := hide (And.intro hg (And.intro hb (And.intro h2 hK2))); clear hg hb h2 hK2))
 go_ret2
 exact ⟨g, rfl, H2.out⟩
set_option maxHeartbeats 1000000 in
set_option maxRecDepth 100000 in
theorem busy_one (h : StIs w0 w s c xs tb ov ps uvs S) (h1 : S.txs.length = 1) (x : Nat) (hx : ps[0]? = some x) (pg off n : Int) :
 Calls Tryz.prog 33 #[.pointer (some ⟨s, 0, none⟩), .pointer (some ⟨x, 0, none⟩), .int .i64 pg, .int .i64 off, .int .i64 n] w fun e w' => e = .returned (.bool false) ∧ Below w.heap.size w w' := by
 obtain ⟨T, hT⟩ : ∃ T, S.txs[0]? = some T := ⟨_, List.getElem?_eq_getElem (by omega)⟩
 obtain ⟨g, y, uv, vs, cc, hov, hy, hu, t, hcell⟩ := h.txAt 0 T hT
 rw [hx] at hy
 cases hy
 rw [h1] at hov
 subst hov
 have c4 := h.c4
 have hsl : s < w.heap.size := h.lts (by simp)
 have hgl : g < w.heap.size := World.block_lt_of_cell? w _ hcell
 have hb3 : Below w.heap.size w (((w.alloc (.cells #[.int .i64 pg] 3)).alloc (.cells #[.int .i64 off] 3)).alloc (.cells #[.int .i64 n] 3)) := (((Below.refl _ w).alloc (Nat.le_refl _) _).alloc (by simp) _).alloc (by simp; omega) _
 have d4 := (hb3.cell (p := ⟨s, 4, none⟩) hsl).trans c4
 have dg := (hb3.cell (p := ⟨g, 0, none⟩) hgl).trans hcell
 have HB3 := hide hb3
 have hne : ∀ W : World, (binOp .neq 72 (.pointer (some ⟨x, 0, none⟩)) (.pointer (some ⟨x, 0, none⟩))).run Tryz.prog W = .ok (.bool false) W := fun W => by
  obtain ⟨j, hj, _⟩ := Tryz.size75
  exact run_neq_ptr_same W ⟨x, 0, none⟩ Tryz.underlying72 hj
 clear h t hu hT hx h1 hb3 c4 hcell
 go_enter Tryz.func33, Tryz.ntmps33
 go_wp2
 refine wp_loop_rounds 2 ?_
 rw [rounds_succ]
 go_wp2
 rw [rounds_succ]
 go_wp2
 go_ret
 exact ⟨rfl, HB3.out⟩
set_option maxHeartbeats 2000000 in
set_option maxRecDepth 100000 in
theorem swrite_ne (h : StIs w0 w s c xs tb ov ps uvs S) {i x : Nat} {T : Tn} {uv : Value} (hx : ps[i]? = some x) (hT : S.txs[i]? = some T) (hu : uvs[i]? = some uv) (hno : ∀ (j : Nat) U, j < i → S.txs[j]? = some U → U.id ≠ T.id) (hi : PInv c.n S.pool V) (hwr : S.pool.wr + 3 ≤ 1000000) (t : Int) (ht : t = (T.id : Int)) (pg off n ga oa ca : Nat) (af : List UInt8) (hal : af.length = n)
 (hby : ByteSrc w0 w xs ga oa ca af) (hp : pg < c.n) (hn : 1 ≤ n) (ho : off + n ≤ 504) (hb : S.res ≤ 1000000000) (hroom : 192 + 3 * n + S.res + 2048 ≤ S.R.room) (hid : T.id ≤ 1000000000000) (hla : T.last ≤ 4398046511104)
 (hbz : Calls Tryz.prog 33 #[.pointer (some ⟨s, 0, none⟩), .pointer (some ⟨x, 0, none⟩), .int .i64 (pg : Int), .int .i64 (off : Int), .int .i64 (n : Int)] w fun e w' => e = .returned (.bool false) ∧ Below w.heap.size w w')
 (hq : ((V pg).drop (8 + off)).take n ≠ af) :
 Calls Tryz.prog 13 #[.pointer (some ⟨s, 0, none⟩), .int .i64 t, .int .i64 (pg : Int), .int .i64 (off : Int), .slice (some ⟨ga, oa, none⟩) n ca] w fun e w' => e = .returned (.int .i64 0) ∧ ∃ pl, StAt w0 w' s c xs { S with pool := pl, txs := S.txs.set i { T with last := S.R.tail + 1, ups := T.ups ++ [⟨S.R.tail + 1, T.last, pg, off, ((V pg).drop (8 + off)).take n⟩] } } ∧
  PInv c.n pl (fun q => if q = pg then patch (patch (V pg) 0 (be8 (S.R.tail + 1))) (8 + off) af else V q) ∧ RS { S.R with held := S.R.held ++ ({ updRc pg off (((V pg).drop (8 + off)).take n) af with txn := (T.id : Int), prev := (T.last : Int) } : Enc.Rc).enc } pl.fo.1 ∧ pl.wr ≤ S.pool.wr + 3 ∧ pl.fs.length = S.pool.fs.length ∧ Kept xs w w' := by
 have HF := hide (sfind_ok h hx hT hno t ht)
 have HHAS := hide (shas_any h (pg : Int) (off : Int) (n : Int) (by omega))
 have hhas : hasB c.n (pg : Int) (off : Int) (n : Int) = true := decide_eq_true (by omega)
 rw [hhas] at HHAS
 have HBZ := hide hbz
 have HG : Hid (∀ W, Below w.heap.size w W → Calls Tryz.prog 34 #[.pointer (some ⟨s, 0, none⟩), .int .i64 (pg : Int), .int .i64 (off : Int), .int .i64 (n : Int)] W fun e w' => ∃ g, e = .returned (.tuple #[.slice (some ⟨g, 0, none⟩) n n, .int .i64 0]) ∧ W.heap.size ≤ g ∧
  w'.heap[g]? = some (.cells (secCells (((V pg).drop (8 + off)).take n)).toArray 5 (0, 0)) ∧ StIs w0 w' s c (g :: xs) tb ov ps uvs { S with pool := (cGet c S.pool pg).2.2 } ∧ Kept (s :: (tb ++ xs)) W w') := fun W hW => sget_ok (h.belowW hW) hi (by omega) pg off n hp hn ho
 have hv5 := hi.v5 pg hp
 have hbl : (((V pg).drop (8 + off)).take n).length = n := by simp; omega
 obtain ⟨-, -, hs⟩ := hi.get pg hp
 have HS := hide hs
 have HBL := hide hbl
 have HQ := hide hq
 have HAL := hide hal
 have HBY := hide hby
 have HH := hide h
 have HKX := hide hx
 have HKT := hide hT
 have HKU := hide hu
 have HWR := hide hwr
 have HB := hide hb
 have HRM := hide hroom
 have hn0 : ((n : Int) == 0) = false := by simp; omega
 clear h hx hT hu hno hi hwr ht hal hby hb hroom hbz hq hhas hv5 hbl hs
 go_enter Tryz.func13, Tryz.ntmps13
 go_wp2_with (first
  | (go_at_call 31; refine HF.out.mono ?_; rintro e w' ⟨rfl, hw⟩; have hw := hw.symm; subst hw)
  | (go_at_call 32; refine HHAS.out.mono ?_; rintro e w' ⟨rfl, hw⟩; have hw := hw.symm; subst hw)
  | (go_at_call 33; refine HBZ.out.mono ?_; rintro e w1 ⟨rfl, hw1⟩; have HW1 := hide hw1; clear hw1)
  | (go_at_call 34; refine (HG.out w1 HW1.out).mono ?_; rintro e w2 ⟨g, rfl, hg, hb, h2, hK2⟩
     have HE0 := equal_any w2 g 0 n n ga oa n ca _ af HBL.out HAL.out (rng_block hb) ((HBY.out.belowW HH.out.below HW1.out (fun k hk => HH.out.lt hk)).keep (HH.out.belowW HW1.out).below h2.below (fun k hk => hK2.2 k (by simp [hk])) hK2.1).rd
     rw [decide_eq_false HQ.out] at HE0
     have HE := hide HE0
     have HG2 := hide hg
     have HB2 := hide hb
     have HH2 := hide h2
     have HK2 := hide hK2
     clear hg hb h2 hK2 HE0)
  | (go_at_call 35; refine HE.out.mono ?_; rintro e w' ⟨rfl, hw⟩; have hw := hw.symm; subst hw)
  | (go_at_call 36
     have hgw := HW1.out.size
     refine (update_ok g HH2.out HKX.out HKT.out HKU.out HS.out.inv (by have := HS.out.wr; have := HWR.out; show (cGet c S.pool pg).2.2.wr + 2 ≤ _; omega) pg off n ga oa ca _ af HBL.out HAL.out HB2.out (fun hm => by have := HH.out.lt hm; have := HG2.out; omega) (by have := HH.out.below.size; have := HG2.out; omega)
      ((HBY.out.belowW HH.out.below HW1.out (fun k hk => HH.out.lt hk)).keep (HH.out.belowW HW1.out).below HH2.out.below (fun k hk => HK2.out.2 k (by simp [hk])) HK2.out.1) hp hn ho HB.out (by show _ ≤ Rg.room (cGet c S.pool pg).2.2.fo.1; rw [HS.out.rs.room]; exact HRM.out) hid hla).mono ?_
     rintro e w3 ⟨rfl, pl, h3⟩
     have H3 := hide h3
     clear h3))
 go_ret
 obtain ⟨a1, a2, a3, a4, a5, a6⟩ := H3.out
 have e1 : St.R { S with pool := (cGet c S.pool pg).2.2 } = (cGet c S.pool pg).2.2.fo.1 := rfl
 have e2 := HS.out.rs
 have e3 : (cGet c S.pool pg).2.2.fo.1.tail = S.R.tail := e2.tail
 rw [e1, e3] at a1
 rw [e1, e3] at a2
 rw [e1] at a3
 refine ⟨rfl, pl, a1, a2, ?_, ?_, ?_, ?_⟩
 · obtain ⟨f, hf⟩ := e2
   obtain ⟨f2, hf2⟩ := a3
   refine ⟨f2, ?_⟩
   rw [hf2, hf]
   rfl
 · have := HS.out.wr
   have e : ({ S with pool := (cGet c S.pool pg).2.2 } : St).pool.wr = (cGet c S.pool pg).2.2.wr := rfl
   omega
 · exact a5.trans HS.out.len
 · exact Kept.trans ⟨HW1.out.size, fun k hk => HW1.out.block k (HH.out.lt hk)⟩ ((HK2.out.mono (fun k hk => by simp [hk])).trans a6)
end
end Go.Proofs.YteeembildppgmaaGreat
namespace Go.Proofs.YteeembildppgmaaGreat
open Go.RowKit
set_option linter.unusedVariables false
set_option linter.unusedSimpArgs false
def zeroUp : List Value := [.int .i64 0, .int .i64 0, .int .i64 0, .int .i64 0, .int .i64 0, .int .i64 0, .int .i64 0, .slice none 0 0, .slice none 0 0, .slice none 0 0, .slice none 0 0, .int .i64 0]
theorem Tryz.zero107 : ∀ w, (zeroValue 107).run Tryz.prog w = .ok (.agg zeroUp.toArray) w := fun w => by kernel_rfl
theorem run_clear_up (w : World) (ty : TypeId) (b k c : Nat) (cur : Array Value) (hg : w.heap[b]? = some (.cells cur 107 (0, 0))) (hl : k * 12 + 12 ≤ cur.size) :
 (Builtin.clear_ #[73] ty #[.slice (some ⟨b, k * 12, none⟩) 1 c]).run Tryz.prog w = .ok (.tuple #[]) (w.setRow b (cur.toList.take (k * 12) ++ zeroUp ++ cur.toList.drop (k * 12 + 12)).toArray) := by
 have hz : (Builtin.zeroCells (Value.agg #[.int .i64 0, .int .i64 0, .int .i64 0, .int .i64 0, .int .i64 0, .int .i64 0, .int .i64 0, .slice none 0 0, .slice none 0 0, .slice none 0 0, .slice none 0 0, .int .i64 0]).cells 1).toList = zeroUp := by kernel_rfl
 have hst := run_storeCells_at (P := Tryz.prog) b (k * 12) 107 zeroUp 0 cur w hg (by show k * 12 + 0 + 12 ≤ _; omega) (by
  intro v hv
  simp only [zeroUp, List.mem_cons, List.not_mem_nil, or_false] at hv
  rcases hv with rfl | rfl | rfl | rfl | rfl | rfl | rfl | rfl | rfl | rfl | rfl | rfl <;> rfl)
 rw [Nat.add_zero] at hst
 simp [Builtin.clear_, run_underlying Tryz.underlying73, Tryz.zero107, hz, hst]
 try rfl
set_option maxHeartbeats 1000000 in
set_option maxRecDepth 100000 in
theorem delete_last (w : World) (b k cap : Nat) (cur : Array Value) (hg : w.heap[b]? = some (.cells cur 107 (0, 0))) (hc : k + 1 ≤ cap) (hm0 : cap ≤ maxLen) (hsz : cur.size = cap * 12) :
 Calls Tryz.prog 67 #[.slice (some ⟨b, 0, none⟩) (k + 1) cap, .int .i64 (k : Int), .int .i64 ((k : Int) + 1)] w fun e w' => e = .returned (.slice (some ⟨b, 0, none⟩) k cap) ∧ w' = (w.drewN 1).setRow b (cur.toList.take (k * 12) ++ zeroUp ++ cur.toList.drop (k * 12 + 12)).toArray := by
 have hm : cap ≤ 9223372036854775807 := by simp only [maxLen] at hm0; omega
 clear hm0
 have HCL : ∀ ty c, (Builtin.clear_ #[73] ty #[.slice (some ⟨b, k * 12, none⟩) 1 c]).run Tryz.prog w.drew = .ok (.tuple #[]) (w.drew.setRow b (cur.toList.take (k * 12) ++ zeroUp ++ cur.toList.drop (k * 12 + 12)).toArray) := fun ty c => run_clear_up w.drew ty b k c cur hg (by omega)
 obtain ⟨i0, hi0, hz0, hz1, hz2⟩ : ∃ i, Tryz.prog.info? 107 = some i ∧ i.size = 12 ∧ True ∧ True := by
  have h := Tryz.info107
  cases hj : Tryz.prog.info? 107 with
  | none => rw [hj] at h; cases h
  | some j => rw [hj] at h; simp at h; exact ⟨j, rfl, h.2.1, trivial, trivial⟩
 obtain ⟨A, hA⟩ : ∃ A : Addr, (if cap = k + 1 then some (⟨b, 0, none⟩ : Addr) else some ⟨b, (k + 1) * 12, none⟩) = some A := by
  by_cases h : cap = k + 1
  · exact ⟨_, by rw [if_pos h]⟩
  · exact ⟨_, by rw [if_neg h]⟩
 have hk : k ≤ cap := by omega
 have hk1 : (0 : Int) ≤ (k : Int) + 1 := by omega
 clear hg
 go_enter Tryz.func67, Tryz.ntmps67
 go_wp2_with fail
 go_region_law (refine step_append_room rfl (.tmp 22) (.tmp 25) 73 rfl 107 i0 12 Tryz.underlying73 hi0 hz0 b 0 k cap (by simp [Act.eval, Act.put]) A 0 (cap - (k + 1)) [] (by simp [Act.eval, Act.put]) rfl (by simp) (by simp) (by omega) (by simp) ?_; rw [Enc.setCells_nil])
 go_wp2
 go_ret
 exact ⟨rfl, by rw [List.append_assoc]; rfl⟩
end Go.Proofs.YteeembildppgmaaGreat
namespace Go.Proofs.YteeembildppgmaaGreat
open Go.RowKit
set_option linter.unusedVariables false
set_option linter.unusedSimpArgs false
def jump2 (l m : Nat) (J K : Act → World → Prop) (Q : Exit → Act → World → Prop) : Exit → Act → World → Prop
 | .goto l', a, w => (l' = l ∧ J a w) ∨ (l' = m ∧ K a w)
 | e, a, w => Q e a w
section
variable {P : Program} {a : Act} {w : World} {Q : Exit → Act → World → Prop}
theorem wp_scope_two {c r0 r1 : Code} (l m : Nat) (J K : Act → World → Prop) (μ : Act → World → Nat) (hf0 : findLabel c l = some r0) (hf1 : findLabel c m = some r1)
 (first : c.wp P (jump2 l m J K Q) a w)
 (pass0 : ∀ a w, J a w → r0.wp P (jump2 l m (fun a' w' => J a' w' ∧ μ a' w' < μ a w) K Q) a w)
 (pass1 : ∀ a w, K a w → r1.wp P (Exit.noGoto Q) a w) : (Code.scope c).wp P Q a w := by
 intro b k cs
 have hg0 : gotoIn l (.inScope c :: k) = some (.code r0 :: .inScope c :: k) := by simp [gotoIn, hf0]
 have hg1 : gotoIn m (.inScope c :: k) = some (.code r1 :: .inScope c :: k) := by simp [gotoIn, hf1]
 have key1 : ∀ a w, K a w → ∃ e a' w', Q e a' w' ∧ Arrives P (lone (b.at a (.code r1 :: .inScope c :: k)) cs w) b k cs e a' w' := by
  intro a w hK
  obtain ⟨e, a₁, w₁, hq, harr⟩ := pass1 a w hK b (.inScope c :: k) cs
  cases e with
  | normal => exact ⟨.normal, a₁, w₁, hq, Steps.trans harr (.one step_inScope)⟩
  | exit id => exact ⟨.exit id, a₁, w₁, hq, fun k' hk => harr k' (by simp [exitTo, hk])⟩
  | goto l' => exact hq.elim
  | ret => exact ⟨_, a₁, w₁, hq, harr⟩
  | panic ch => exact ⟨_, a₁, w₁, hq, harr⟩
  | outgrown => exact ⟨_, a₁, w₁, hq, harr⟩
 have key0 : ∀ n a w, μ a w = n → J a w → ∃ e a' w', Q e a' w' ∧ Arrives P (lone (b.at a (.code r0 :: .inScope c :: k)) cs w) b k cs e a' w' := by
  intro n
  induction n using Nat.strongRecOn with
  | _ n ih =>
    intro a w hn hJ
    obtain ⟨e, a₁, w₁, hq, harr⟩ := pass0 a w hJ b (.inScope c :: k) cs
    cases e with
    | normal => exact ⟨.normal, a₁, w₁, hq, Steps.trans harr (.one step_inScope)⟩
    | exit id => exact ⟨.exit id, a₁, w₁, hq, fun k' hk => harr k' (by simp [exitTo, hk])⟩
    | goto l' =>
      rcases hq with ⟨rfl, hJ', hlt⟩ | ⟨rfl, hK'⟩
      · obtain ⟨e₂, a₂, w₂, hq₂, harr₂⟩ := ih _ (by omega) a₁ w₁ rfl hJ'
        exact ⟨e₂, a₂, w₂, hq₂, .of_steps (harr _ hg0) harr₂⟩
      · obtain ⟨e₂, a₂, w₂, hq₂, harr₂⟩ := key1 a₁ w₁ hK'
        exact ⟨e₂, a₂, w₂, hq₂, .of_steps (harr _ hg1) harr₂⟩
    | ret => exact ⟨_, a₁, w₁, hq, harr⟩
    | panic ch => exact ⟨_, a₁, w₁, hq, harr⟩
    | outgrown => exact ⟨_, a₁, w₁, hq, harr⟩
 obtain ⟨e, a₁, w₁, hq, harr⟩ := first b (.inScope c :: k) cs
 cases e with
 | normal => exact ⟨.normal, a₁, w₁, hq, .head step_scope (Steps.trans harr (.one step_inScope))⟩
 | exit id => exact ⟨.exit id, a₁, w₁, hq, fun k' hk => .head step_scope (harr k' (by simp [exitTo, hk]))⟩
 | goto l' =>
   rcases hq with ⟨rfl, hJ'⟩ | ⟨rfl, hK'⟩
   · obtain ⟨e₂, a₂, w₂, hq₂, harr₂⟩ := key0 _ a₁ w₁ rfl hJ'
     exact ⟨e₂, a₂, w₂, hq₂, .of_steps (.head step_scope (harr _ hg0)) harr₂⟩
   · obtain ⟨e₂, a₂, w₂, hq₂, harr₂⟩ := key1 a₁ w₁ hK'
     exact ⟨e₂, a₂, w₂, hq₂, .of_steps (.head step_scope (harr _ hg1)) harr₂⟩
 | ret => exact ⟨_, a₁, w₁, hq, .of_steps (.one step_scope) harr⟩
 | panic ch => exact ⟨_, a₁, w₁, hq, .of_steps (.one step_scope) harr⟩
 | outgrown => exact ⟨_, a₁, w₁, hq, .of_steps (.one step_scope) harr⟩
end
end Go.Proofs.YteeembildppgmaaGreat
namespace Go.Proofs.YteeembildppgmaaGreat
open Go.RowKit
set_option linter.unusedVariables false
set_option linter.unusedSimpArgs false
theorem end1_same (w : World) (x B : Nat) (hB : w.cell? ⟨B, 0, none⟩ = some (.pointer (some ⟨x, 0, none⟩))) :
 Calls Tryz.prog 70 #[.pointer (some ⟨x, 0, none⟩), .pointer (some ⟨B, 0, none⟩)] w fun e w' => e = .returned (.bool true) ∧ w' = w := by
 have hne : ∀ W : World, (binOp .eql 72 (.pointer (some ⟨x, 0, none⟩)) (.pointer (some ⟨x, 0, none⟩))).run Tryz.prog W = .ok (.bool true) W := fun W => by
  obtain ⟨j, hj, _⟩ := Tryz.size75
  exact run_eql_ptr_same W ⟨x, 0, none⟩ Tryz.underlying72 hj
 go_enter Tryz.func70, Tryz.ntmps70
 go_wp2
 go_ret
 exact ⟨rfl, rfl⟩
set_option maxHeartbeats 1000000 in
theorem indexOne (w : World) (g cap x B : Nat) (h0 : w.cell? ⟨g, 0, none⟩ = some (.pointer (some ⟨x, 0, none⟩))) (hB : w.cell? ⟨B, 0, none⟩ = some (.pointer (some ⟨x, 0, none⟩))) :
 Calls Tryz.prog 102 #[.slice (some ⟨g, 0, none⟩) 1 cap, .func (.func 70) #[] #[.pointer (some ⟨B, 0, none⟩)]] w fun e w' => e = .returned (.int .i64 0) ∧ w' = w := by
 have H1 := hide (end1_same w x B hB)
 clear hB
 go_enter Tryz.func102, Tryz.ntmps102
 go_wp2
 refine wp_loop_rounds 2 ?_
 rw [rounds_succ]
 go_wp2_with (go_at_call 70; refine H1.out.mono ?_; rintro e w' ⟨rfl, hw⟩; have hw := hw.symm; subst hw)
 go_ret
 exact ⟨rfl, rfl⟩
set_option maxHeartbeats 1000000 in
set_option maxRecDepth 100000 in
theorem deleteOne (w : World) (g cap x B : Nat) (h0 : w.cell? ⟨g, 0, none⟩ = some (.pointer (some ⟨x, 0, none⟩))) (hB : w.cell? ⟨B, 0, none⟩ = some (.pointer (some ⟨x, 0, none⟩))) (hf : w.frozen? ⟨g, 0, none⟩ = false) (hc : 1 ≤ cap) (hm0 : cap ≤ maxLen) :
 Calls Tryz.prog 69 #[.slice (some ⟨g, 0, none⟩) 1 cap, .func (.func 70) #[] #[.pointer (some ⟨B, 0, none⟩)]] w fun e w' => e = .returned (.slice (some ⟨g, 0, none⟩) 0 cap) ∧ w' = w.setCell ⟨g, 0, none⟩ (.pointer none) := by
 have H1 := hide (indexOne w g cap x B h0 hB)
 have hm : cap ≤ 9223372036854775807 := by simp only [maxLen] at hm0; omega
 have HCL : ∀ ty, (Builtin.clear_ #[63] ty #[.slice (some ⟨g, 0, none⟩) 1 cap]).run Tryz.prog w = .ok (.tuple #[]) (w.setCell ⟨g, 0, none⟩ (.pointer none)) := fun ty => by
  have := Lib.run_clear_slice (P := Tryz.prog) w 63 72 ty (.pointer none) Tryz.underlying63 (fun w => by kernel_rfl) rfl rfl g 0 1 cap (by omega) (fun j hj => by
   obtain rfl : j = 0 := by omega
   rw [h0]; rfl) (fun j hj => by
   obtain rfl : j = 0 := by omega
   exact hf)
  exact this
 clear hB hm0 h0 hf
 go_enter Tryz.func69, Tryz.ntmps69
 go_wp2_with (go_at_call 102; refine H1.out.mono ?_; rintro e w' ⟨rfl, hw⟩; have hw := hw.symm; subst hw)
 refine wp_loop_rounds 1 ?_
 rw [rounds_succ]
 go_wp2
 go_ret
 exact ⟨rfl, rfl⟩
end Go.Proofs.YteeembildppgmaaGreat
namespace Go.Proofs.YteeembildppgmaaGreat
open Go.RowKit
set_option linter.unusedVariables false
set_option linter.unusedSimpArgs false
theorem run_load69_up (w : World) (q : Nat) (a b0 b1 b2 b3 b4 b5 b6 b7 b8 b9 b10 : Value) (h : w.heap[q]? = some (.cells #[a, b0, b1, b2, b3, b4, b5, b6, b7, b8, b9, b10] 107 (0, 0))) : (Instr.loadAt 69 (.pointer (some ⟨q, 1, none⟩))).run Tryz.prog w = .ok (.agg #[b0, b1, b2, b3, b4, b5, b6, b7, b8, b9, b10]) w := by
 have := run_loadAt_mid (P := Tryz.prog) w q 1 69 [b0, b1, b2, b3, b4, b5, b6, b7, b8, b9, b10] _ (fun j v hv => by
  rw [cell_of_row w q (1 + j) _ _ _ h, Nat.add_comm 1 j]
  simpa using hv) Tryz.underlying69 rfl (Enc.Tryz.size69 (cs := #[b0, b1, b2, b3, b4, b5, b6, b7, b8, b9, b10]) rfl)
 simpa using this
theorem upsRow_take (us : List Up) (vs : List Value) (k : Nat) (hv : vs.length = us.length) (hk : k ≤ us.length) : (upsRow us vs).take (k * 12) = upsRow (us.take k) (vs.take k) := by
 unfold upsRow
 induction us generalizing vs k with
 | nil => simp
 | cons u r ih =>
   cases vs with
   | nil => simp at hv
   | cons v q =>
     cases k with
     | zero => simp
     | succ k =>
       have := ih q k (by simpa using hv) (by simpa using hk)
       simp only [List.zipWith_cons_cons, List.flatten_cons, List.take_succ_cons]
       have hl : (upCells u v).length = 12 := rfl
       rw [List.take_append, hl, ← this, List.take_of_length_le (by rw [hl]; omega)]
       congr 2
       omega
section
variable {w0 w w' : World} {s : Nat} {c : Cf} {xs tb : List Nat} {ov : Value} {ps : List Nat} {uvs : List Value} {S : St} {V : Nat → List UInt8}
theorem TxIs.drop1 {w w' : World} {tb : List Nat} {x g k cap : Nat} {T : Tn} {vs : List Value} {cur : Array Value} (t : TxIs w tb x T (.slice (some ⟨g, 0, none⟩) (k + 1) cap) vs) (hk : T.ups.length = k + 1) (hg : w.heap[g]? = some (.cells cur 107 (0, 0)))
 (hx' : w'.heap[x]? = some (.cells #[.int .i64 (T.id : Int), .int .i64 (T.begin : Int), .int .i64 (T.last : Int), .slice (some ⟨g, 0, none⟩) k cap] 75 (0, 0))) (hg' : w'.heap[g]? = some (.cells (cur.toList.take (k * 12) ++ zeroUp ++ cur.toList.drop (k * 12 + 12)).toArray 107 (0, 0)))
 (hO : ∀ q, q ∈ tb → q ≠ x → q ≠ g → w'.heap[q]? = w.heap[q]?) (hs : w.heap.size ≤ w'.heap.size) : TxIs w' tb x { T with ups := T.ups.take k } (.slice (some ⟨g, 0, none⟩) k cap) (vs.take k) := by
 have hv := t.vlen
 have hkeep : ∀ q C, q ∈ tb → w.heap[q]? = some (.cells C 5 (0, 0)) → w'.heap[q]? = w.heap[q]? := fun q C hm hC => hO q hm (fun e => by rw [e, t.head] at hC; simp at hC) (fun e => by rw [e, hg] at hC; simp at hC)
 refine ⟨hx', ?_, by simp [hv], fun j u v h1 h2 => ?_, t.inX, fun q hq => t.inU q hq⟩
 · rcases t.ups.2 with ⟨h1, h2⟩ | ⟨g', cap', cur', h1, h0, h3, h4, h5, h6, h7⟩
   · cases h1
   · injection h1 with e1 e2 e3
     injection e1 with e1
     injection e1 with e1
     subst e1; subst e3
     rw [hg] at h3
     injection h3 with h3
     injection h3 with h3
     subst h3
     have hz : zeroUp.length = 12 := rfl
     rw [hk] at h4 h7
     have h6' : cur.toList.length = cap * 12 := by simpa using h6
     have htk : cur.toList.take (k * 12) = upsRow (T.ups.take k) (vs.take k) := by
      rw [← upsRow_take T.ups vs k hv (by omega), ← h7, List.take_take]
      congr 1
      omega
     have hkl : ({ T with ups := T.ups.take k } : Tn).ups.length = k := by show (T.ups.take k).length = k; rw [List.length_take]; omega
     rw [hkl]
     refine ⟨?_, .inr ⟨g, cap, _, rfl, Nat.zero_le _, hg', by omega, h5, ?_, ?_⟩⟩
     · show (upsRow (T.ups.take k) (vs.take k)).length = _
       rw [← htk, List.length_take]
       omega
     · simp only [List.size_toArray, List.length_append, List.length_take, List.length_drop, hz, h6']
       omega
     · show _ = upsRow (T.ups.take k) (vs.take k)
       rw [← htk]
       rw [List.append_assoc, List.take_append, List.length_take, h6', List.take_of_length_le (by rw [List.length_take]; omega)]
       rw [show k * 12 - min (k * 12) (cap * 12) = 0 by omega]
       simp
 · have hj : j < k := by have := (List.getElem?_eq_some_iff.1 h1).1; simp at this; omega
   have h1 : (T.ups.take k)[j]? = some u := h1
   rw [List.getElem?_take_of_lt hj] at h1
   rw [List.getElem?_take_of_lt hj] at h2
   obtain ⟨q, cc, a1, a2, a3, a4, a5, C, a6⟩ := t.byt j u v h1 h2
   have e := hkeep q C a4 a6
   exact ⟨q, cc, a1, a2, a3, a4, a5.of hs e, C, by rw [e]; exact a6⟩
set_option maxHeartbeats 4000000 in
set_option maxRecDepth 100000 in
theorem undoNewest_ok (h : StIs w0 w s c xs tb ov ps uvs S) {i x : Nat} {T : Tn} {uv : Value} (hx : ps[i]? = some x) (hT : S.txs[i]? = some T) (hu : uvs[i]? = some uv) (k : Nat) (u : Up) (hk : T.ups.length = k + 1) (hl : T.ups[k]? = some u) (hi : PInv c.n S.pool V) (hwr : S.pool.wr + 2 ≤ 1000000)
 (hp : u.page < c.n) (hn : 1 ≤ u.after.length) (ho : u.off + u.after.length ≤ 504) (hroom : 96 + u.after.length ≤ S.R.room) (hid : T.id ≤ 1000000000000) (hla : T.last ≤ 4398046511104) (hnx : u.next ≤ 4398046511104) (hkb : k ≤ 1000000000) :
 Calls Tryz.prog 39 #[.pointer (some ⟨s, 0, none⟩), .pointer (some ⟨x, 0, none⟩)] w fun e w' => e = .returned (.int .i64 0) ∧ ∃ pl uvs',
  StIs w0 w' s c xs tb ov ps uvs' { S with pool := pl, txs := S.txs.set i { T with last := S.R.tail + 1, ups := T.ups.take k } } ∧
  PInv c.n pl (fun q => if q = u.page then patch (patch (V u.page) 0 (be8 (S.R.tail + 1))) (8 + u.off) u.after else V q) ∧ RS { S.R with held := S.R.held ++ ({ u.rc with txn := (T.id : Int), prev := (T.last : Int) } : Enc.Rc).enc } pl.fo.1 ∧ pl.wr ≤ S.pool.wr + 2 ∧ pl.fs.length = S.pool.fs.length ∧ Kept xs w w' := by
 obtain ⟨vs, t⟩ := h.tx i x T uv hx hT hu
 obtain ⟨g, cap, gv, cv, e1, e2, e3, e4, e5, e6, e7⟩ := t.upAt k u hl
 subst e1
 rw [hk] at t hu
 have x3 := t.c3
 have d0 := e7 0 (by omega)
 have d1 := e7 1 (by omega)
 have d2 := e7 2 (by omega)
 have d3 := e7 3 (by omega)
 have d4 := e7 4 (by omega)
 have d5 := e7 5 (by omega)
 have d6 := e7 6 (by omega)
 have d7 := e7 7 (by omega)
 have d8 := e7 8 (by omega)
 have d9 := e7 9 (by omega)
 have d10 := e7 10 (by omega)
 have d11 := e7 11 (by omega)
 simp only [upCells, List.getElem?_cons_zero, List.getElem?_cons_succ, Nat.add_zero] at d0 d1 d2 d3 d4 d5 d6 d7 d8 d9 d10 d11
 have hst : S.R.tail + 1 < 4611686018427387904 := by
  obtain ⟨bl, vs2, gp, D, hpx, hy⟩ := h.asRing
  have h1 := hy.rg.wf.start
  have h2 := hy.rg.wf.held
  show S.R.start + S.R.held.length + 1 < _
  omega
 have hb1 : Below w.heap.size w (w.alloc (.cells #[.int .i64 (u.lsn : Int), .int .i64 3, .int .i64 0, .int .i64 0, .int .i64 (u.next : Int), .int .i64 (u.page : Int), .int .i64 (u.off : Int), .slice none 0 0, .slice (some ⟨gv, 0, none⟩) u.after.length cv, .slice none 0 0, .slice none 0 0, .int .i64 0] 107)) := (Below.refl _ w).alloc (Nat.le_refl _) _
 have hN1 : (w.alloc (.cells #[.int .i64 (u.lsn : Int), .int .i64 3, .int .i64 0, .int .i64 0, .int .i64 (u.next : Int), .int .i64 (u.page : Int), .int .i64 (u.off : Int), .slice none 0 0, .slice (some ⟨gv, 0, none⟩) u.after.length cv, .slice none 0 0, .slice none 0 0, .int .i64 0] 107)).heap[w.heap.size]? = some (.cells #[.int .i64 (u.lsn : Int), .int .i64 3, .int .i64 0, .int .i64 0, .int .i64 (u.next : Int), .int .i64 (u.page : Int), .int .i64 (u.off : Int), .slice none 0 0, .slice (some ⟨gv, 0, none⟩) u.after.length cv, .slice none 0 0, .slice none 0 0, .int .i64 0] 107 (0, 0)) := heap_alloc_new w _
 have hsz : u.rc.size = 96 + u.after.length := by show 96 + 0 + u.after.length + 24 * 0 + 16 * 0 = _; omega
 have HWF : u.rc.wf := ⟨fun y hy => by
  simp only [Enc.Rc.head, Up.rc, List.mem_cons, List.not_mem_nil, or_false] at hy
  have := h.n8
  rcases hy with rfl | rfl | rfl | rfl | rfl | rfl <;> omega, by simp [Up.rc], by simp [Up.rc], by simp [Up.rc]⟩
 have h1 := h.mindNew (w' := w.alloc (.cells #[.int .i64 (u.lsn : Int), .int .i64 3, .int .i64 0, .int .i64 0, .int .i64 (u.next : Int), .int .i64 (u.page : Int), .int .i64 (u.off : Int), .slice none 0 0, .slice (some ⟨gv, 0, none⟩) u.after.length cv, .slice none 0 0, .slice none 0 0, .int .i64 0] 107)) (ys := w.heap.size :: xs) hb1 (fun k hk => by
  simp only [List.mem_cons] at hk
  rcases hk with e | e
  · exact .inr ⟨by omega, by rw [e]; simp⟩
  · exact .inl e)
 have HTO := hide (tellOf_ok h1 hx hT hu (rec_of_up (u := u) (e6.of hb1.size (hb1.block gv e6.1)) e3 e4) (by rw [hsz]; omega) HWF (by rw [hsz]; exact hroom) hid hla)
 have H := hide h
 have HX := hide hx
 have HT := hide hT
 have HU := hide hu
 have HTX := hide t
 have HI := hide hi
 have HWR := hide hwr
 have HB1 := hide hb1
 have HN1 := hide hN1
 have HS6 := hide e6
 have HGT := hide e5
 have hk1 : (0 : Int) ≤ (k : Int) + 1 := by omega
 have hwk : IntKind.i64.wrap ((k : Int) + 1) = (k : Int) + 1 := by rw [IntKind.wrap_i64]; omega
 have hwk2 : IntKind.i64.wrap ((k : Int) + 1 - 1) = (k : Int) := by rw [IntKind.wrap_i64]; omega
 clear h hx hT hu t hi hwr hb1 hN1 h1 e6 e7 e5 HWF hsz
 go_enter Tryz.func39, Tryz.ntmps39
 go_wp2_with fail
 refine HTO.out.mono ?_
 rintro e W2 ⟨rfl, h2, hK2, hKt⟩
 have HKT := hide hKt
 clear hKt
 clear HTO d0 d1 d2 d3 d4 d5 d6 d7 d8 d9 d10 d11 x3
 obtain ⟨N, hN⟩ : ∃ N, w.heap.size = N := ⟨_, rfl⟩
 rw [hN] at h2 hK2 HN1 HB1 ⊢
 have HNE := hide hN
 obtain ⟨L, hL⟩ : ∃ L : Nat, S.R.tail + 1 = L := ⟨_, rfl⟩
 have h2 : StIs w0 W2 s c (N :: xs) tb ov ps uvs { S.setR { S.R with held := S.R.held ++ ({ u.rc with txn := (T.id : Int), prev := (T.last : Int) } : Enc.Rc).enc } with txs := S.txs.set i { T with last := L } } := by
  have := h2
  unfold St.told at this
  rw [hL] at this
  exact this
 have HL := hide hL
 have hil := (List.getElem?_eq_some_iff.1 HT.out).1
 have hT2 : ({ S.setR { S.R with held := S.R.held ++ ({ u.rc with txn := (T.id : Int), prev := (T.last : Int) } : Enc.Rc).enc } with txs := S.txs.set i { T with last := L } } : St).txs[i]? = some { T with last := L } := List.getElem?_set_self hil
 obtain ⟨vs2, t2⟩ := h2.tx i x _ _ HX.out hT2 HU.out
 have hN2 : W2.heap[N]? = some (.cells #[.int .i64 (u.lsn : Int), .int .i64 3, .int .i64 0, .int .i64 0, .int .i64 (u.next : Int), .int .i64 (u.page : Int), .int .i64 (u.off : Int), .slice none 0 0, .slice (some ⟨gv, 0, none⟩) u.after.length cv, .slice none 0 0, .slice none 0 0, .int .i64 0] 107 (0, 0)) := (hK2.2 N (by simp)).trans HN1.out
 have x32 := t2.c3
 obtain ⟨cur, hcur, hcsz, hcap⟩ : ∃ cur, W2.heap[g]? = some (.cells cur 107 (0, 0)) ∧ cur.size = cap * 12 ∧ k + 1 ≤ cap ∧ cap ≤ maxLen := by
  rcases t2.ups.2 with ⟨h1, h2⟩ | ⟨g', cap', cur', h1, h0, h3, h4, h5, h6, h7⟩
  · cases h1
  · injection h1 with e1 e2 e3
    injection e1 with e1
    injection e1 with e1
    subst e1; subst e3
    exact ⟨cur', h3, h6, by have : T.ups.length ≤ cap := h4; omega, h5⟩
 have hgx : ¬ g = x := fun e => by rw [e, t2.head] at hcur; simp at hcur
 have hgN : ¬ g = N := fun e => h2.tbx g (t2.inU g rfl) (by rw [e]; simp)
 have hxN : ¬ x = N := fun e => h2.tbx x t2.inX (by rw [e]; simp)
 have HDL := hide (delete_last W2 g k cap cur hcur hcap.1 hcap.2 hcsz)
 obtain ⟨W3, hW3⟩ : ∃ W3, (W2.drewN 1).setRow g (cur.toList.take (k * 12) ++ zeroUp ++ cur.toList.drop (k * 12 + 12)).toArray = W3 := ⟨_, rfl⟩
 have g3 : W3.heap[g]? = some (.cells (cur.toList.take (k * 12) ++ zeroUp ++ cur.toList.drop (k * 12 + 12)).toArray 107 (0, 0)) := by rw [← hW3]; exact setRow_heap _ _ _ _ _ _ hcur
 have o3 : ∀ q, ¬ q = g → W3.heap[q]? = W2.heap[q]? := fun q hq => by rw [← hW3]; exact setRow_other _ _ _ _ hq
 have z3 : W3.heap.size = W2.heap.size := by rw [← hW3]; simp [World.setRow, World.drewN]
 have x33 : W3.cell? ⟨x, 3, none⟩ = some (.slice (some ⟨g, 0, none⟩) (k + 1) cap) := (World.cell?_of_block (a := ⟨x, 3, none⟩) (o3 x (fun e => hgx e.symm))).trans x32
 have f33 : W3.frozen? ⟨x, 3, none⟩ = false := (World.frozen?_of_block (a := ⟨x, 3, none⟩) (o3 x (fun e => hgx e.symm))).trans (t2.fz 3)
 have xh3 : W3.heap[x]? = some (.cells #[.int .i64 (T.id : Int), .int .i64 (T.begin : Int), .int .i64 (L : Int), .slice (some ⟨g, 0, none⟩) (k + 1) cap] 75 (0, 0)) := (o3 x (fun e => hgx e.symm)).trans t2.head
 have O3 : Off [x, g] W2 W3 := by
  rw [← hW3]
  exact ((Off.refl _ W2).drewN 1).setRow _ _ (.inl (by simp))
 rw [hW3] at HDL
 have H2 := hide h2
 have HK2 := hide hK2
 have HT2 := hide t2
 have HT2a := hide hT2
 have HN2 := hide hN2
 have HO3 := hide O3
 have HG3 := hide g3
 have HXH3 := hide xh3
 have HCU := hide hcur
 clear h2 hK2 t2 hT2 hN2 O3 g3 xh3 hcur o3 hW3 hL hN
 go_wp2_with (go_at_call 67; refine HDL.out.mono ?_; rintro e w' ⟨rfl, hw⟩; have hw := hw.symm; subst hw)
 have O4 : Off [x, g] W2 (W3.setCell ⟨x, 3, none⟩ (.slice (some ⟨g, 0, none⟩) k cap)) := HO3.out.setCell _ _ (.inl (by simp))
 have xh4 : (W3.setCell ⟨x, 3, none⟩ (.slice (some ⟨g, 0, none⟩) k cap)).heap[x]? = some (.cells #[.int .i64 (T.id : Int), .int .i64 (T.begin : Int), .int .i64 (L : Int), .slice (some ⟨g, 0, none⟩) k cap] 75 (0, 0)) := by
  rw [heap_setCell_same W3 x 3 _ _ _ HXH3.out]; rfl
 have g4 : (W3.setCell ⟨x, 3, none⟩ (.slice (some ⟨g, 0, none⟩) k cap)).heap[g]? = some (.cells (cur.toList.take (k * 12) ++ zeroUp ++ cur.toList.drop (k * 12 + 12)).toArray 107 (0, 0)) := (heap_setCell_other W3 _ g _ hgx).trans HG3.out
 obtain ⟨W4, hW4⟩ : ∃ W4, W3.setCell ⟨x, 3, none⟩ (.slice (some ⟨g, 0, none⟩) k cap) = W4 := ⟨_, rfl⟩
 rw [hW4] at O4 xh4 g4 ⊢
 have t4 := HT2.out.drop1 (w' := W4) (k := k) hk HCU.out xh4 g4 (fun q hq n1 n2 => O4.block q (H2.out.lts (by simp [hq])) (by simp [n1, n2])) O4.size
 have h4 := H2.out.setTx (i := i) HX.out HT2a.out HU.out O4 (fun q hq => by
  simp only [List.mem_cons, List.not_mem_nil, or_false] at hq
  rcases hq with e | e
  · exact .inl e
  · exact .inr (by rw [e]; rfl)) t4 (fun q hq => hq) (fun q hq => .inl hq) (fun q hq => .inl hq) (fun q hq => ⟨cur, by injection hq with hq; rw [← hq]; exact HCU.out⟩)
 have hN4 : W4.heap[N]? = some (.cells #[.int .i64 (u.lsn : Int), .int .i64 3, .int .i64 0, .int .i64 0, .int .i64 (u.next : Int), .int .i64 (u.page : Int), .int .i64 (u.off : Int), .slice none 0 0, .slice (some ⟨gv, 0, none⟩) u.after.length cv, .slice none 0 0, .slice none 0 0, .int .i64 0] 107 (0, 0)) := (O4.block N (H2.out.lt (by simp)) (by simp only [List.mem_cons, List.not_mem_nil, or_false]; rintro (e | e); exact hxN e.symm; exact hgN e.symm)).trans HN2.out
 have x24 : W4.cell? ⟨x, 2, none⟩ = some (.int .i64 (L : Int)) := by rw [cell_of_row _ x 2 _ _ _ xh4]; rfl
 have HXT : Hid (x ∈ tb) := HT2.out.inX
 have hgv4 : SrcAt W4 gv 0 u.after := by
  obtain ⟨q, cc, a1, a2, a3, a4, a5, C, a6⟩ := HTX.out.byt k u _ hl e2
  injection a1 with a1
  injection a1 with a1
  injection a1 with a1
  subst a1
  have nx : ¬ gv = x := fun e => by rw [e, HTX.out.head] at a6; simp at a6
  have b1 : (w.alloc (.cells #[.int .i64 (u.lsn : Int), .int .i64 3, .int .i64 0, .int .i64 0, .int .i64 (u.next : Int), .int .i64 (u.page : Int), .int .i64 (u.off : Int), .slice none 0 0, .slice (some ⟨gv, 0, none⟩) u.after.length cv, .slice none 0 0, .slice none 0 0, .int .i64 0] 107)).heap[gv]? = w.heap[gv]? := HB1.out.block gv (by have := (Array.getElem?_eq_some_iff.1 a6).1; have := HNE.out; omega)
  have b2 : W2.heap[gv]? = w.heap[gv]? := (HKT.out gv a4 nx).trans b1
  have ng : ¬ gv = g := fun e => by have := HCU.out; rw [← e, b2, a6] at this; simp at this
  have b4 : W4.heap[gv]? = w.heap[gv]? := (O4.block gv ((Array.getElem?_eq_some_iff.1 (b2.trans a6)).1) (by simp [nx, ng])).trans b2
  exact HS6.out.of (by rw [HNE.out]; exact Nat.le_trans (Nat.le_of_lt (Array.getElem?_eq_some_iff.1 hN4).1) (Nat.le_refl _)) b4
 have hkx : Kept xs w W4 := ⟨by rw [HNE.out]; exact Nat.le_of_lt (Array.getElem?_eq_some_iff.1 hN4).1, fun q hq => (O4.block q (H2.out.lt (by simp [hq])) (by
  simp only [List.mem_cons, List.not_mem_nil, or_false]
  rintro (e | e)
  · exact H2.out.tbx x HT2.out.inX (by simp [← e, hq])
  · exact H2.out.tbx g (HT2.out.inU g rfl) (by simp [← e, hq]))).trans ((HK2.out.2 q (by simp [hq])).trans (HB1.out.block q (by have := H.out.lt hq; have := HNE.out; omega)))⟩
 have hby : ByteSrc w0 W4 (tb ++ (N :: xs)) gv 0 cv u.after := ⟨e3, by simp only [maxLen]; omega, .inl (by simp [HGT.out]), fun j v hv => by
  have := hgv4.2 j v hv
  rwa [Addr.add_mid] at this⟩
 have HI2 := hide (HI.out.setR { S.R with held := S.R.held ++ ({ u.rc with txn := (T.id : Int), prev := (T.last : Int) } : Enc.Rc).enc })
 have HCH := hide (fun d => change_ok (V := V) (h4.belowW (below_drewN _ W4 d)) HI2.out (by have := HWR.out; show S.pool.wr ≤ _; omega) 3 0 0 (u.next : Int) 0 none 0 0 gv 0 cv u.after (hby.belowW h4.below (below_drewN _ W4 d) (fun q hq => h4.lts (by simp only [List.mem_cons]; exact .inr hq))) u.page u.off L hp hn ho (by have := HL.out; omega) (by have := HL.out; omega) (by have h1 := (HI2.out.get (c := c) u.page hp).2.2.wr; have := HWR.out; exact Nat.le_trans h1 (by show S.pool.wr + 1 ≤ 1000000; omega)))
 have HKX := hide hkx
 clear h4 O4 t4 xh4 g4 hW4 hgv4 hkx hby HDL x33 f33
 go_wp2_with fail
 refine wp_region_held_drew (S := fun w' => w'.heap[N]? = some (.cells #[.int .i64 (u.lsn : Int), .int .i64 3, .int .i64 0, .int .i64 0, .int .i64 (u.next : Int), .int .i64 (u.page : Int), .int .i64 (u.off : Int), .slice none 0 0, .slice (some ⟨gv, 0, none⟩) u.after.length cv, .slice none 0 0, .slice none 0 0, .int .i64 0] 107 (0, 0)) ∧ w'.cell? ⟨x, 2, none⟩ = some (.int .i64 (L : Int))) (by kernel_rfl) ⟨hN4, x24⟩ (fun hH => ?_)
 refine take_to 0 40 (.pointer (some ⟨s, 0, none⟩)) rfl (by kernel_rfl) (by kernel_rfl) (by kernel_rfl) (fun _ _ _ h => h) rfl (by rfl) (fun w hw => by rfl) hH ?_
 simp only [Act.put, zA, zB, zC]
 refine take_to 1 41 (.pointer (some ⟨N, 1, none⟩)) rfl (by kernel_rfl) (by kernel_rfl) (by kernel_rfl) (fun _ _ _ h => h) rfl (by rfl) (fun w hw => by rfl) hH ?_
 simp only [Act.put, zA, zB, zC]
 refine take_to 2 42 (.agg #[.int .i64 3, .int .i64 0, .int .i64 0, .int .i64 (u.next : Int), .int .i64 (u.page : Int), .int .i64 (u.off : Int), .slice none 0 0, .slice (some ⟨gv, 0, none⟩) u.after.length cv, .slice none 0 0, .slice none 0 0, .int .i64 0]) rfl (by kernel_rfl) (by kernel_rfl) (by kernel_rfl) (fun _ _ _ h => h) rfl (by rfl) (fun w hw => op_load _ _ 69 (.tmp 41) rfl (.pointer (some ⟨N, 1, none⟩)) _ rfl (run_load69_up w N _ _ _ _ _ _ _ _ _ _ _ _ hw.1)) hH ?_
 simp only [Act.put, zA, zB, zC]
 refine take_to 3 43 (.pointer (some ⟨x, 0, none⟩)) rfl (by kernel_rfl) (by kernel_rfl) (by kernel_rfl) (fun _ _ _ h => h) rfl (by rfl) (fun w hw => by rfl) hH ?_
 simp only [Act.put, zA, zB, zC]
 refine take_to 4 44 (.pointer (some ⟨x, 0, none⟩)) rfl (by kernel_rfl) (by kernel_rfl) (by kernel_rfl) (fun _ _ _ h => h) rfl (by rfl) (fun w hw => by rfl) hH ?_
 simp only [Act.put, zA, zB, zC]
 refine take_to 5 45 (.pointer (some ⟨x, 2, none⟩)) rfl (by kernel_rfl) (by kernel_rfl) (by kernel_rfl) (fun _ _ _ h => h) rfl (by rfl) (fun w hw => by rfl) hH ?_
 simp only [Act.put, zA, zB, zC]
 refine take_to 6 46 (.int .i64 (L : Int)) rfl (by kernel_rfl) (by kernel_rfl) (by kernel_rfl) (fun _ _ _ h => h) rfl (by rfl) (fun w hw => op_load _ _ 3 (.tmp 45) rfl (.pointer (some ⟨x, 2, none⟩)) _ rfl (run_loadAny w x 2 3 _ Tryz.isAgg3 hw.2)) hH ?_
 simp only [Act.put, zA, zB, zC]
 refine step_call3_to 7 47 63 rfl (by kernel_rfl) rfl (by rfl) (.tmp 40) (.tmp 42) (.tmp 46) _ rfl _ _ _ rfl rfl rfl Tryz.enters63 (HCH.out 1) ?_
 rintro e W5 ⟨rfl, pl, h5, hI5, hR5, hw5, hl5, hK5⟩
 have hS5 : W5.heap[N]? = some (.cells #[.int .i64 (u.lsn : Int), .int .i64 3, .int .i64 0, .int .i64 0, .int .i64 (u.next : Int), .int .i64 (u.page : Int), .int .i64 (u.off : Int), .slice none 0 0, .slice (some ⟨gv, 0, none⟩) u.after.length cv, .slice none 0 0, .slice none 0 0, .int .i64 0] 107 (0, 0)) ∧ W5.cell? ⟨x, 2, none⟩ = some (.int .i64 (L : Int)) := ⟨(hK5.2 N (by simp)).trans hN4, (World.cell?_of_block (a := ⟨x, 2, none⟩) (hK5.2 x (by simp [HXT.out]))).trans x24⟩
 refine ⟨_, rfl, hS5, ?_⟩
 simp only [Act.put, zA, zB, zC]
 refine step_to 8 4 (.int .i64 0) W5 rfl (by kernel_rfl) rfl (by rfl) (rfl) hS5 ?_
 simp only [Act.put, zA, zB, zC]
 refine wpAnyH_done (by kernel_rfl) ?_ _
 go_wp2
 go_ret
 refine ⟨rfl, pl, uvs.set i (.slice (some ⟨g, 0, none⟩) k cap), ?_, ?_, ?_, hw5, hl5, ?_⟩
 rotate_left
 · rw [HL.out]; exact hI5
 · exact hR5
 · exact HKX.out.trans ⟨hK5.1, fun q hq => hK5.2 q (by simp [hq])⟩
 · have := (h5.mind (ys := xs) (fun k hk => by simp [hk]))
   rw [HL.out]
   simp only [List.set_set] at this
   exact this
end
end Go.Proofs.YteeembildppgmaaGreat
