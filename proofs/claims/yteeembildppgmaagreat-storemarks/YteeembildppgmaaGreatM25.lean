/- A part of it: SWrite SDel SScope SEnd. -/
import Derived.Test.YteeembildppgmaaGreatM24
import Derived.LaidEqlPtr
import Derived.Lib.SliceRun
import Derived.Deep.RegionLaw
import Derived.WalkMore
import Derived.ScopeJumps
namespace Go.Proofs.YteeembildppgmaaGreat
open Go.RowKit
set_option linter.unusedVariables false
set_option linter.unusedSimpArgs false
theorem run_neq_ptr_same {P : Program} {tp te : TypeId} {j : TypeInfo} (w : World) (a : Addr) (hp : P.underlying tp = some (.pointer te)) (hte : P.info? te = some j) :
    (binOp .neq tp (.pointer (some a)) (.pointer (some a))).run P w = .ok (.bool false) w := by
  have h : ∀ d : Nat, (Op.equalIn (d + 1) tp (.pointer (some a)) (.pointer (some a))).run P w = .ok true w := fun d => by
    simp [Op.equalIn, run_underlying hp, sizeOf, typeInfo, hte, run_sameAddr_same]
  simp only [binOp]
  simp [Op.equal, Op.maxDepth, h 9999]
theorem Tryz.size75 : ∃ j, Tryz.prog.info? 75 = some j ∧ j.size ≠ 0 := by
  have h : (Tryz.prog.info? 75).map (fun j => j.size) = some 4 := by kernel_rfl
  cases hj : Tryz.prog.info? 75 with
  | none => rw [hj] at h; cases h
  | some j => rw [hj] at h; exact ⟨j, rfl, by simp at h; omega⟩
theorem rng_block {w : World} {g : Nat} {bs : List UInt8} {t : TypeId} {fr : Nat × Nat} (h : w.heap[g]? = some (.cells (secCells bs).toArray t fr)) : w.rangeAt g 0 (secCells bs) := fun j v hv => by
  have := (SrcAt.block h).2 j v hv
  rwa [Addr.add_mid] at this
theorem run_strAt (w : World) (g o n c : Nat) (bs : List UInt8) (hl : bs.length = n) (h : w.rangeAt g o (secCells bs)) : (convert 36 9 (.slice (some ⟨g, o, none⟩) n c)).run Tryz.prog w = .ok (.string (strOf bs)) w := by
  rw [run_convert_bytes_string w 36 9 5 _ _ _ Tryz.underlying36 Tryz.underlying5 Tryz.underlying9]
  have hload : (loadCells ⟨g, o, none⟩ n).run Tryz.prog w = .ok ((bs.map fun b => (b.toNat : Int)).map (Value.int .u8)).toArray w := by
    have := run_loadCells_list (P := Tryz.prog) w ⟨g, o, none⟩ (secCells bs) (fun j v hv => by rw [Addr.add_mid]; exact h j v hv)
    rw [length_secCells, hl] at this
    rw [this]
    simp [secCells, bcell]
  rw [run_bytesToString w _ _ _ _ hload, foldl_push]
  simp [strOf]
set_option maxHeartbeats 400000 in
theorem equal_any (w : World) (g o n c g2 o2 m d : Nat) (A B : List UInt8) (hA : A.length = n) (hB : B.length = m) (h1 : w.rangeAt g o (secCells A)) (h2 : w.rangeAt g2 o2 (secCells B)) :
    Calls Tryz.prog 35 #[.slice (some ⟨g, o, none⟩) n c, .slice (some ⟨g2, o2, none⟩) m d] w fun e w' => e = .returned (.bool (decide (A = B))) ∧ w' = w := by
  have r1 := run_strAt w g o n c A hA h1
  have r2 := run_strAt w g2 o2 m d B hB h2
  have hq := beq_str A B
  clear h1 h2
  generalize (strOf A) = sA at *
  generalize (strOf B) = sB at *
  go_enter Tryz.func35, Tryz.ntmps35
  go_wp2
  go_ret
  exact ⟨by rw [← hq]; first | rfl | skip, rfl⟩
section
variable {w0 w w' : World} {s : Nat} {c : Cf} {xs tb : List Nat} {ov : Value} {ps : List Nat} {uvs : List Value} {S : St} {V : Nat → List UInt8}
set_option maxHeartbeats 400000 in
theorem spages_ok (h : StIs w0 w s c xs tb ov ps uvs S) : Calls Tryz.prog 44 #[.pointer (some ⟨s, 0, none⟩)] w fun e w' => e = .returned (.int .i64 (c.n : Int)) ∧ w' = w := by
  have c3 := h.c3
  clear h
  go_enter Tryz.func44, Tryz.ntmps44
  go_wp2
  go_ret
  exact ⟨rfl, rfl⟩
set_option maxHeartbeats 1000000 in
theorem sread_ok (h : StIs w0 w s c xs tb ov ps uvs S) (hi : PInv c.n S.pool V) (hwr : S.pool.wr ≤ 1000000) (pg off n : Nat) (hp : pg < c.n) (hn : 1 ≤ n) (ho : off + n ≤ 504) :
    Calls Tryz.prog 24 #[.pointer (some ⟨s, 0, none⟩), .int .i64 (pg : Int), .int .i64 (off : Int), .int .i64 (n : Int)] w fun e w' => ∃ g, e = .returned (.tuple #[.slice (some ⟨g, 0, none⟩) n n, .int .i64 0]) ∧ w.heap.size ≤ g ∧
      w'.heap[g]? = some (.cells (secCells (((V pg).drop (8 + off)).take n)).toArray 5 (0, 0)) ∧ StIs w0 w' s c (g :: xs) tb ov ps uvs { S with pool := (cGet c S.pool pg).2.2 } ∧ Kept (s :: (tb ++ xs)) w w' := by
  have c10 := h.c10
  have HHAS := hide (shas_any h (pg : Int) (off : Int) (n : Int) (by omega))
  have hhas : hasB c.n (pg : Int) (off : Int) (n : Int) = true := decide_eq_true (by omega)
  rw [hhas] at HHAS
  have HG := hide (sget_ok h hi hwr pg off n hp hn ho)
  clear h hi hhas
  go_enter Tryz.func24, Tryz.ntmps24
  go_wp2_with (first
    | (go_at_call 32; refine HHAS.out.mono ?_; rintro e w' ⟨rfl, hw⟩; have hw := hw.symm; subst hw)
    | (go_at_call 34; refine HG.out.mono ?_; rintro e w2 ⟨g, rfl, hg, hb, h2, hK2⟩; have H2 := hide (And.intro hg (And.intro hb (And.intro h2 hK2))); clear hg hb h2 hK2))
  go_ret2
  exact ⟨g, rfl, H2.out⟩
set_option maxHeartbeats 1000000 in
set_option maxRecDepth 100000 in
theorem busy_one (h : StIs w0 w s c xs tb ov ps uvs S) (h1 : S.txs.length = 1) (x : Nat) (hx : ps[0]? = some x) (pg off n : Int) :
    Calls Tryz.prog 33 #[.pointer (some ⟨s, 0, none⟩), .pointer (some ⟨x, 0, none⟩), .int .i64 pg, .int .i64 off, .int .i64 n] w fun e w' => e = .returned (.bool false) ∧ Below w.heap.size w w' := by
  obtain ⟨T, hT⟩ : ∃ T, S.txs[0]? = some T := ⟨_, List.getElem?_eq_getElem (by omega)⟩
  obtain ⟨g, y, uv, vs, cc, hov, hy, hu, t, hcell⟩ := h.txAt 0 T hT
  rw [hx] at hy
  cases hy
  rw [h1] at hov
  subst hov
  have c4 := h.c4
  have hsl : s < w.heap.size := h.lts (by simp)
  have hgl : g < w.heap.size := World.block_lt_of_cell? w _ hcell
  have hb3 : Below w.heap.size w (((w.alloc (.cells #[.int .i64 pg] 3)).alloc (.cells #[.int .i64 off] 3)).alloc (.cells #[.int .i64 n] 3)) := (((Below.refl _ w).alloc (Nat.le_refl _) _).alloc (by simp) _).alloc (by simp; omega) _
  have d4 := (hb3.cell (p := ⟨s, 4, none⟩) hsl).trans c4
  have dg := (hb3.cell (p := ⟨g, 0, none⟩) hgl).trans hcell
  have HB3 := hide hb3
  have hne : ∀ W : World, (binOp .neq 72 (.pointer (some ⟨x, 0, none⟩)) (.pointer (some ⟨x, 0, none⟩))).run Tryz.prog W = .ok (.bool false) W := fun W => by
    obtain ⟨j, hj, _⟩ := Tryz.size75
    exact run_neq_ptr_same W ⟨x, 0, none⟩ Tryz.underlying72 hj
  clear h t hu hT hx h1 hb3 c4 hcell
  go_enter Tryz.func33, Tryz.ntmps33
  go_wp2
  refine wp_loop_rounds 2 ?_
  rw [rounds_succ]
  go_wp2
  rw [rounds_succ]
  go_wp2
  go_ret
  exact ⟨rfl, HB3.out⟩
set_option maxHeartbeats 2000000 in
set_option maxRecDepth 100000 in
theorem swrite_eq (h : StIs w0 w s c xs tb ov ps uvs S) {i x : Nat} {T : Tn} {uv : Value} (hx : ps[i]? = some x) (hT : S.txs[i]? = some T) (hu : uvs[i]? = some uv) (hno : ∀ (j : Nat) U, j < i → S.txs[j]? = some U → U.id ≠ T.id) (hi : PInv c.n S.pool V) (hwr : S.pool.wr + 3 ≤ 1000000) (t : Int) (ht : t = (T.id : Int)) (pg off n ga oa ca : Nat) (af : List UInt8) (hal : af.length = n)
    (hby : ByteSrc w0 w xs ga oa ca af) (hp : pg < c.n) (hn : 1 ≤ n) (ho : off + n ≤ 504) (hb : S.res ≤ 1000000000) (hroom : 192 + 3 * n + S.res + 2048 ≤ S.R.room) (hid : T.id ≤ 1000000000000) (hla : T.last ≤ 4398046511104)
    (hbz : Calls Tryz.prog 33 #[.pointer (some ⟨s, 0, none⟩), .pointer (some ⟨x, 0, none⟩), .int .i64 (pg : Int), .int .i64 (off : Int), .int .i64 (n : Int)] w fun e w' => e = .returned (.bool false) ∧ Below w.heap.size w w')
    (hq : ((V pg).drop (8 + off)).take n = af) :
    Calls Tryz.prog 13 #[.pointer (some ⟨s, 0, none⟩), .int .i64 t, .int .i64 (pg : Int), .int .i64 (off : Int), .slice (some ⟨ga, oa, none⟩) n ca] w fun e w' => e = .returned (.int .i64 0) ∧ ∃ pl, StAt w0 w' s c xs { S with pool := pl } ∧ PInv c.n pl V ∧ RS S.R pl.fo.1 ∧ pl.wr ≤ S.pool.wr + 1 ∧ pl.fs.length = S.pool.fs.length ∧ Kept xs w w' := by
  have HF := hide (sfind_ok h hx hT hno t ht)
  have HHAS := hide (shas_any h (pg : Int) (off : Int) (n : Int) (by omega))
  have hhas : hasB c.n (pg : Int) (off : Int) (n : Int) = true := decide_eq_true (by omega)
  rw [hhas] at HHAS
  have HBZ := hide hbz
  have HG : Hid (∀ W, Below w.heap.size w W → Calls Tryz.prog 34 #[.pointer (some ⟨s, 0, none⟩), .int .i64 (pg : Int), .int .i64 (off : Int), .int .i64 (n : Int)] W fun e w' => ∃ g, e = .returned (.tuple #[.slice (some ⟨g, 0, none⟩) n n, .int .i64 0]) ∧ W.heap.size ≤ g ∧
      w'.heap[g]? = some (.cells (secCells (((V pg).drop (8 + off)).take n)).toArray 5 (0, 0)) ∧ StIs w0 w' s c (g :: xs) tb ov ps uvs { S with pool := (cGet c S.pool pg).2.2 } ∧ Kept (s :: (tb ++ xs)) W w') := fun W hW => sget_ok (h.belowW hW) hi (by omega) pg off n hp hn ho
  have hv5 := hi.v5 pg hp
  have hbl : (((V pg).drop (8 + off)).take n).length = n := by simp; omega
  obtain ⟨-, -, hs⟩ := hi.get pg hp
  have HS := hide hs
  have HBL := hide hbl
  have HQ := hide hq
  have HAL := hide hal
  have HBY := hide hby
  have HH := hide h
  have HKX := hide hx
  have HKT := hide hT
  have HKU := hide hu
  have HWR := hide hwr
  have HB := hide hb
  have HRM := hide hroom
  have hn0 : ((n : Int) == 0) = false := by simp; omega
  clear h hx hT hu hno hi hwr ht hal hby hb hroom hbz hq hhas hv5 hbl hs
  go_enter Tryz.func13, Tryz.ntmps13
  go_wp2_with (first
    | (go_at_call 31; refine HF.out.mono ?_; rintro e w' ⟨rfl, hw⟩; have hw := hw.symm; subst hw)
    | (go_at_call 32; refine HHAS.out.mono ?_; rintro e w' ⟨rfl, hw⟩; have hw := hw.symm; subst hw)
    | (go_at_call 33; refine HBZ.out.mono ?_; rintro e w1 ⟨rfl, hw1⟩; have HW1 := hide hw1; clear hw1)
    | (go_at_call 34; refine (HG.out w1 HW1.out).mono ?_; rintro e w2 ⟨g, rfl, hg, hb, h2, hK2⟩
       have HE0 := equal_any w2 g 0 n n ga oa n ca _ af HBL.out HAL.out (rng_block hb) ((HBY.out.belowW HH.out.below HW1.out (fun k hk => HH.out.lt hk)).keep (HH.out.belowW HW1.out).below h2.below (fun k hk => hK2.2 k (by simp [hk])) hK2.1).rd
       rw [decide_eq_true HQ.out] at HE0
       have HE := hide HE0
       have HG2 := hide hg
       have HB2 := hide hb
       have HH2 := hide h2
       have HK2 := hide hK2
       clear hg hb h2 hK2 HE0)
    | (go_at_call 35; refine HE.out.mono ?_; rintro e w' ⟨rfl, hw⟩; have hw := hw.symm; subst hw)
    | fail)
  go_ret
  refine ⟨rfl, _, (HH2.out.mind (fun k hk => by simp [hk])).at, HS.out.inv, HS.out.rs, HS.out.wr, HS.out.len, ?_⟩
  exact Kept.trans ⟨HW1.out.size, fun k hk => HW1.out.block k (HH.out.lt hk)⟩ (HK2.out.mono (fun k hk => by simp [hk]))
set_option maxHeartbeats 2000000 in
set_option maxRecDepth 100000 in
theorem swrite_ne (h : StIs w0 w s c xs tb ov ps uvs S) {i x : Nat} {T : Tn} {uv : Value} (hx : ps[i]? = some x) (hT : S.txs[i]? = some T) (hu : uvs[i]? = some uv) (hno : ∀ (j : Nat) U, j < i → S.txs[j]? = some U → U.id ≠ T.id) (hi : PInv c.n S.pool V) (hwr : S.pool.wr + 3 ≤ 1000000) (t : Int) (ht : t = (T.id : Int)) (pg off n ga oa ca : Nat) (af : List UInt8) (hal : af.length = n)
    (hby : ByteSrc w0 w xs ga oa ca af) (hp : pg < c.n) (hn : 1 ≤ n) (ho : off + n ≤ 504) (hb : S.res ≤ 1000000000) (hroom : 192 + 3 * n + S.res + 2048 ≤ S.R.room) (hid : T.id ≤ 1000000000000) (hla : T.last ≤ 4398046511104)
    (hbz : Calls Tryz.prog 33 #[.pointer (some ⟨s, 0, none⟩), .pointer (some ⟨x, 0, none⟩), .int .i64 (pg : Int), .int .i64 (off : Int), .int .i64 (n : Int)] w fun e w' => e = .returned (.bool false) ∧ Below w.heap.size w w')
    (hq : ((V pg).drop (8 + off)).take n ≠ af) :
    Calls Tryz.prog 13 #[.pointer (some ⟨s, 0, none⟩), .int .i64 t, .int .i64 (pg : Int), .int .i64 (off : Int), .slice (some ⟨ga, oa, none⟩) n ca] w fun e w' => e = .returned (.int .i64 0) ∧ ∃ pl, StAt w0 w' s c xs { S with pool := pl, txs := S.txs.set i { T with last := S.R.tail + 1, ups := T.ups ++ [⟨S.R.tail + 1, T.last, pg, off, ((V pg).drop (8 + off)).take n⟩] } } ∧
      PInv c.n pl (fun q => if q = pg then patch (patch (V pg) 0 (be8 (S.R.tail + 1))) (8 + off) af else V q) ∧ RS { S.R with held := S.R.held ++ ({ updRc pg off (((V pg).drop (8 + off)).take n) af with txn := (T.id : Int), prev := (T.last : Int) } : Enc.Rc).enc } pl.fo.1 ∧ pl.wr ≤ S.pool.wr + 3 ∧ pl.fs.length = S.pool.fs.length ∧ Kept xs w w' := by
  have HF := hide (sfind_ok h hx hT hno t ht)
  have HHAS := hide (shas_any h (pg : Int) (off : Int) (n : Int) (by omega))
  have hhas : hasB c.n (pg : Int) (off : Int) (n : Int) = true := decide_eq_true (by omega)
  rw [hhas] at HHAS
  have HBZ := hide hbz
  have HG : Hid (∀ W, Below w.heap.size w W → Calls Tryz.prog 34 #[.pointer (some ⟨s, 0, none⟩), .int .i64 (pg : Int), .int .i64 (off : Int), .int .i64 (n : Int)] W fun e w' => ∃ g, e = .returned (.tuple #[.slice (some ⟨g, 0, none⟩) n n, .int .i64 0]) ∧ W.heap.size ≤ g ∧
      w'.heap[g]? = some (.cells (secCells (((V pg).drop (8 + off)).take n)).toArray 5 (0, 0)) ∧ StIs w0 w' s c (g :: xs) tb ov ps uvs { S with pool := (cGet c S.pool pg).2.2 } ∧ Kept (s :: (tb ++ xs)) W w') := fun W hW => sget_ok (h.belowW hW) hi (by omega) pg off n hp hn ho
  have hv5 := hi.v5 pg hp
  have hbl : (((V pg).drop (8 + off)).take n).length = n := by simp; omega
  obtain ⟨-, -, hs⟩ := hi.get pg hp
  have HS := hide hs
  have HBL := hide hbl
  have HQ := hide hq
  have HAL := hide hal
  have HBY := hide hby
  have HH := hide h
  have HKX := hide hx
  have HKT := hide hT
  have HKU := hide hu
  have HWR := hide hwr
  have HB := hide hb
  have HRM := hide hroom
  have hn0 : ((n : Int) == 0) = false := by simp; omega
  clear h hx hT hu hno hi hwr ht hal hby hb hroom hbz hq hhas hv5 hbl hs
  go_enter Tryz.func13, Tryz.ntmps13
  go_wp2_with (first
    | (go_at_call 31; refine HF.out.mono ?_; rintro e w' ⟨rfl, hw⟩; have hw := hw.symm; subst hw)
    | (go_at_call 32; refine HHAS.out.mono ?_; rintro e w' ⟨rfl, hw⟩; have hw := hw.symm; subst hw)
    | (go_at_call 33; refine HBZ.out.mono ?_; rintro e w1 ⟨rfl, hw1⟩; have HW1 := hide hw1; clear hw1)
    | (go_at_call 34; refine (HG.out w1 HW1.out).mono ?_; rintro e w2 ⟨g, rfl, hg, hb, h2, hK2⟩
       have HE0 := equal_any w2 g 0 n n ga oa n ca _ af HBL.out HAL.out (rng_block hb) ((HBY.out.belowW HH.out.below HW1.out (fun k hk => HH.out.lt hk)).keep (HH.out.belowW HW1.out).below h2.below (fun k hk => hK2.2 k (by simp [hk])) hK2.1).rd
       rw [decide_eq_false HQ.out] at HE0
       have HE := hide HE0
       have HG2 := hide hg
       have HB2 := hide hb
       have HH2 := hide h2
       have HK2 := hide hK2
       clear hg hb h2 hK2 HE0)
    | (go_at_call 35; refine HE.out.mono ?_; rintro e w' ⟨rfl, hw⟩; have hw := hw.symm; subst hw)
    | (go_at_call 36
       have hgw := HW1.out.size
       refine (update_ok g HH2.out HKX.out HKT.out HKU.out HS.out.inv (by have := HS.out.wr; have := HWR.out; show (cGet c S.pool pg).2.2.wr + 2 ≤ _; omega) pg off n ga oa ca _ af HBL.out HAL.out HB2.out (fun hm => by have := HH.out.lt hm; have := HG2.out; omega) (by have := HH.out.below.size; have := HG2.out; omega)
         ((HBY.out.belowW HH.out.below HW1.out (fun k hk => HH.out.lt hk)).keep (HH.out.belowW HW1.out).below HH2.out.below (fun k hk => HK2.out.2 k (by simp [hk])) HK2.out.1) hp hn ho HB.out (by show _ ≤ Rg.room (cGet c S.pool pg).2.2.fo.1; rw [HS.out.rs.room]; exact HRM.out) hid hla).mono ?_
       rintro e w3 ⟨rfl, pl, h3⟩
       have H3 := hide h3
       clear h3))
  go_ret
  obtain ⟨a1, a2, a3, a4, a5, a6⟩ := H3.out
  have e1 : St.R { S with pool := (cGet c S.pool pg).2.2 } = (cGet c S.pool pg).2.2.fo.1 := rfl
  have e2 := HS.out.rs
  have e3 : (cGet c S.pool pg).2.2.fo.1.tail = S.R.tail := e2.tail
  rw [e1, e3] at a1
  rw [e1, e3] at a2
  rw [e1] at a3
  refine ⟨rfl, pl, a1, a2, ?_, ?_, ?_, ?_⟩
  · obtain ⟨f, hf⟩ := e2
    obtain ⟨f2, hf2⟩ := a3
    refine ⟨f2, ?_⟩
    rw [hf2, hf]
    rfl
  · have := HS.out.wr
    have e : ({ S with pool := (cGet c S.pool pg).2.2 } : St).pool.wr = (cGet c S.pool pg).2.2.wr := rfl
    omega
  · exact a5.trans HS.out.len
  · exact Kept.trans ⟨HW1.out.size, fun k hk => HW1.out.block k (HH.out.lt hk)⟩ ((HK2.out.mono (fun k hk => by simp [hk])).trans a6)
end
end Go.Proofs.YteeembildppgmaaGreat
namespace Go.Proofs.YteeembildppgmaaGreat
open Go.RowKit
set_option linter.unusedVariables false
set_option linter.unusedSimpArgs false
def zeroUp : List Value := [.int .i64 0, .int .i64 0, .int .i64 0, .int .i64 0, .int .i64 0, .int .i64 0, .int .i64 0, .slice none 0 0, .slice none 0 0, .slice none 0 0, .slice none 0 0, .int .i64 0]
theorem Tryz.zero107 : ∀ w, (zeroValue 107).run Tryz.prog w = .ok (.agg zeroUp.toArray) w := fun w => by kernel_rfl
theorem run_clear_up (w : World) (ty : TypeId) (b k c : Nat) (cur : Array Value) (hg : w.heap[b]? = some (.cells cur 107 (0, 0))) (hl : k * 12 + 12 ≤ cur.size) :
    (Builtin.clear_ #[73] ty #[.slice (some ⟨b, k * 12, none⟩) 1 c]).run Tryz.prog w = .ok (.tuple #[]) (w.setRow b (cur.toList.take (k * 12) ++ zeroUp ++ cur.toList.drop (k * 12 + 12)).toArray) := by
  have hz : (Builtin.zeroCells (Value.agg #[.int .i64 0, .int .i64 0, .int .i64 0, .int .i64 0, .int .i64 0, .int .i64 0, .int .i64 0, .slice none 0 0, .slice none 0 0, .slice none 0 0, .slice none 0 0, .int .i64 0]).cells 1).toList = zeroUp := by kernel_rfl
  have hst := run_storeCells_at (P := Tryz.prog) b (k * 12) 107 zeroUp 0 cur w hg (by show k * 12 + 0 + 12 ≤ _; omega) (by
    intro v hv
    simp only [zeroUp, List.mem_cons, List.not_mem_nil, or_false] at hv
    rcases hv with rfl | rfl | rfl | rfl | rfl | rfl | rfl | rfl | rfl | rfl | rfl | rfl <;> rfl)
  rw [Nat.add_zero] at hst
  simp [Builtin.clear_, run_underlying Tryz.underlying73, Tryz.zero107, hz, hst]
  try rfl
set_option maxHeartbeats 1000000 in
set_option maxRecDepth 100000 in
theorem delete_last (w : World) (b k cap : Nat) (cur : Array Value) (hg : w.heap[b]? = some (.cells cur 107 (0, 0))) (hc : k + 1 ≤ cap) (hm0 : cap ≤ maxLen) (hsz : cur.size = cap * 12) :
    Calls Tryz.prog 67 #[.slice (some ⟨b, 0, none⟩) (k + 1) cap, .int .i64 (k : Int), .int .i64 ((k : Int) + 1)] w fun e w' => e = .returned (.slice (some ⟨b, 0, none⟩) k cap) ∧ w' = (w.drewN 1).setRow b (cur.toList.take (k * 12) ++ zeroUp ++ cur.toList.drop (k * 12 + 12)).toArray := by
  have hm : cap ≤ 9223372036854775807 := by simp only [maxLen] at hm0; omega
  clear hm0
  have HCL : ∀ ty c, (Builtin.clear_ #[73] ty #[.slice (some ⟨b, k * 12, none⟩) 1 c]).run Tryz.prog w.drew = .ok (.tuple #[]) (w.drew.setRow b (cur.toList.take (k * 12) ++ zeroUp ++ cur.toList.drop (k * 12 + 12)).toArray) := fun ty c => run_clear_up w.drew ty b k c cur hg (by omega)
  obtain ⟨i0, hi0, hz0, hz1, hz2⟩ : ∃ i, Tryz.prog.info? 107 = some i ∧ i.size = 12 ∧ True ∧ True := by
    have h := Tryz.info107
    cases hj : Tryz.prog.info? 107 with
    | none => rw [hj] at h; cases h
    | some j => rw [hj] at h; simp at h; exact ⟨j, rfl, h.2.1, trivial, trivial⟩
  obtain ⟨A, hA⟩ : ∃ A : Addr, (if cap = k + 1 then some (⟨b, 0, none⟩ : Addr) else some ⟨b, (k + 1) * 12, none⟩) = some A := by
    by_cases h : cap = k + 1
    · exact ⟨_, by rw [if_pos h]⟩
    · exact ⟨_, by rw [if_neg h]⟩
  have hk : k ≤ cap := by omega
  have hk1 : (0 : Int) ≤ (k : Int) + 1 := by omega
  clear hg
  go_enter Tryz.func67, Tryz.ntmps67
  go_wp2_with fail
  go_region_law (refine step_append_room rfl (.tmp 22) (.tmp 25) 73 rfl 107 i0 12 Tryz.underlying73 hi0 hz0 b 0 k cap (by simp [Act.eval, Act.put]) A 0 (cap - (k + 1)) [] (by simp [Act.eval, Act.put]) rfl (by simp) (by simp) (by omega) (by simp) ?_; rw [Enc.setCells_nil])
  go_wp2
  go_ret
  exact ⟨rfl, by rw [List.append_assoc]; rfl⟩
end Go.Proofs.YteeembildppgmaaGreat
namespace Go.Proofs.YteeembildppgmaaGreat
open Go.RowKit
set_option linter.unusedVariables false
set_option linter.unusedSimpArgs false
def jump2 (l m : Nat) (J K : Act → World → Prop) (Q : Exit → Act → World → Prop) : Exit → Act → World → Prop
  | .goto l', a, w => (l' = l ∧ J a w) ∨ (l' = m ∧ K a w)
  | e, a, w => Q e a w
section
variable {P : Program} {a : Act} {w : World} {Q : Exit → Act → World → Prop}
theorem wp_scope_two {c r0 r1 : Code} (l m : Nat) (J K : Act → World → Prop) (μ : Act → World → Nat) (hf0 : findLabel c l = some r0) (hf1 : findLabel c m = some r1)
    (first : c.wp P (jump2 l m J K Q) a w)
    (pass0 : ∀ a w, J a w → r0.wp P (jump2 l m (fun a' w' => J a' w' ∧ μ a' w' < μ a w) K Q) a w)
    (pass1 : ∀ a w, K a w → r1.wp P (Exit.noGoto Q) a w) : (Code.scope c).wp P Q a w := by
  intro b k cs
  have hg0 : gotoIn l (.inScope c :: k) = some (.code r0 :: .inScope c :: k) := by simp [gotoIn, hf0]
  have hg1 : gotoIn m (.inScope c :: k) = some (.code r1 :: .inScope c :: k) := by simp [gotoIn, hf1]
  have key1 : ∀ a w, K a w → ∃ e a' w', Q e a' w' ∧ Arrives P (lone (b.at a (.code r1 :: .inScope c :: k)) cs w) b k cs e a' w' := by
    intro a w hK
    obtain ⟨e, a₁, w₁, hq, harr⟩ := pass1 a w hK b (.inScope c :: k) cs
    cases e with
    | normal => exact ⟨.normal, a₁, w₁, hq, Steps.trans harr (.one step_inScope)⟩
    | exit id => exact ⟨.exit id, a₁, w₁, hq, fun k' hk => harr k' (by simp [exitTo, hk])⟩
    | goto l' => exact hq.elim
    | ret => exact ⟨_, a₁, w₁, hq, harr⟩
    | panic ch => exact ⟨_, a₁, w₁, hq, harr⟩
    | outgrown => exact ⟨_, a₁, w₁, hq, harr⟩
  have key0 : ∀ n a w, μ a w = n → J a w → ∃ e a' w', Q e a' w' ∧ Arrives P (lone (b.at a (.code r0 :: .inScope c :: k)) cs w) b k cs e a' w' := by
    intro n
    induction n using Nat.strongRecOn with
    | _ n ih =>
      intro a w hn hJ
      obtain ⟨e, a₁, w₁, hq, harr⟩ := pass0 a w hJ b (.inScope c :: k) cs
      cases e with
      | normal => exact ⟨.normal, a₁, w₁, hq, Steps.trans harr (.one step_inScope)⟩
      | exit id => exact ⟨.exit id, a₁, w₁, hq, fun k' hk => harr k' (by simp [exitTo, hk])⟩
      | goto l' =>
        rcases hq with ⟨rfl, hJ', hlt⟩ | ⟨rfl, hK'⟩
        · obtain ⟨e₂, a₂, w₂, hq₂, harr₂⟩ := ih _ (by omega) a₁ w₁ rfl hJ'
          exact ⟨e₂, a₂, w₂, hq₂, .of_steps (harr _ hg0) harr₂⟩
        · obtain ⟨e₂, a₂, w₂, hq₂, harr₂⟩ := key1 a₁ w₁ hK'
          exact ⟨e₂, a₂, w₂, hq₂, .of_steps (harr _ hg1) harr₂⟩
      | ret => exact ⟨_, a₁, w₁, hq, harr⟩
      | panic ch => exact ⟨_, a₁, w₁, hq, harr⟩
      | outgrown => exact ⟨_, a₁, w₁, hq, harr⟩
  obtain ⟨e, a₁, w₁, hq, harr⟩ := first b (.inScope c :: k) cs
  cases e with
  | normal => exact ⟨.normal, a₁, w₁, hq, .head step_scope (Steps.trans harr (.one step_inScope))⟩
  | exit id => exact ⟨.exit id, a₁, w₁, hq, fun k' hk => .head step_scope (harr k' (by simp [exitTo, hk]))⟩
  | goto l' =>
    rcases hq with ⟨rfl, hJ'⟩ | ⟨rfl, hK'⟩
    · obtain ⟨e₂, a₂, w₂, hq₂, harr₂⟩ := key0 _ a₁ w₁ rfl hJ'
      exact ⟨e₂, a₂, w₂, hq₂, .of_steps (.head step_scope (harr _ hg0)) harr₂⟩
    · obtain ⟨e₂, a₂, w₂, hq₂, harr₂⟩ := key1 a₁ w₁ hK'
      exact ⟨e₂, a₂, w₂, hq₂, .of_steps (.head step_scope (harr _ hg1)) harr₂⟩
  | ret => exact ⟨_, a₁, w₁, hq, .of_steps (.one step_scope) harr⟩
  | panic ch => exact ⟨_, a₁, w₁, hq, .of_steps (.one step_scope) harr⟩
  | outgrown => exact ⟨_, a₁, w₁, hq, .of_steps (.one step_scope) harr⟩
end
end Go.Proofs.YteeembildppgmaaGreat
namespace Go.Proofs.YteeembildppgmaaGreat
open Go.RowKit
set_option linter.unusedVariables false
set_option linter.unusedSimpArgs false
theorem end1_same (w : World) (x B : Nat) (hB : w.cell? ⟨B, 0, none⟩ = some (.pointer (some ⟨x, 0, none⟩))) :
    Calls Tryz.prog 70 #[.pointer (some ⟨x, 0, none⟩), .pointer (some ⟨B, 0, none⟩)] w fun e w' => e = .returned (.bool true) ∧ w' = w := by
  have hne : ∀ W : World, (binOp .eql 72 (.pointer (some ⟨x, 0, none⟩)) (.pointer (some ⟨x, 0, none⟩))).run Tryz.prog W = .ok (.bool true) W := fun W => by
    obtain ⟨j, hj, _⟩ := Tryz.size75
    exact run_eql_ptr_same W ⟨x, 0, none⟩ Tryz.underlying72 hj
  go_enter Tryz.func70, Tryz.ntmps70
  go_wp2
  go_ret
  exact ⟨rfl, rfl⟩
set_option maxHeartbeats 1000000 in
theorem indexOne (w : World) (g cap x B : Nat) (h0 : w.cell? ⟨g, 0, none⟩ = some (.pointer (some ⟨x, 0, none⟩))) (hB : w.cell? ⟨B, 0, none⟩ = some (.pointer (some ⟨x, 0, none⟩))) :
    Calls Tryz.prog 102 #[.slice (some ⟨g, 0, none⟩) 1 cap, .func (.func 70) #[] #[.pointer (some ⟨B, 0, none⟩)]] w fun e w' => e = .returned (.int .i64 0) ∧ w' = w := by
  have H1 := hide (end1_same w x B hB)
  clear hB
  go_enter Tryz.func102, Tryz.ntmps102
  go_wp2
  refine wp_loop_rounds 2 ?_
  rw [rounds_succ]
  go_wp2_with (go_at_call 70; refine H1.out.mono ?_; rintro e w' ⟨rfl, hw⟩; have hw := hw.symm; subst hw)
  go_ret
  exact ⟨rfl, rfl⟩
set_option maxHeartbeats 1000000 in
set_option maxRecDepth 100000 in
theorem deleteOne (w : World) (g cap x B : Nat) (h0 : w.cell? ⟨g, 0, none⟩ = some (.pointer (some ⟨x, 0, none⟩))) (hB : w.cell? ⟨B, 0, none⟩ = some (.pointer (some ⟨x, 0, none⟩))) (hf : w.frozen? ⟨g, 0, none⟩ = false) (hc : 1 ≤ cap) (hm0 : cap ≤ maxLen) :
    Calls Tryz.prog 69 #[.slice (some ⟨g, 0, none⟩) 1 cap, .func (.func 70) #[] #[.pointer (some ⟨B, 0, none⟩)]] w fun e w' => e = .returned (.slice (some ⟨g, 0, none⟩) 0 cap) ∧ w' = w.setCell ⟨g, 0, none⟩ (.pointer none) := by
  have H1 := hide (indexOne w g cap x B h0 hB)
  have hm : cap ≤ 9223372036854775807 := by simp only [maxLen] at hm0; omega
  have HCL : ∀ ty, (Builtin.clear_ #[63] ty #[.slice (some ⟨g, 0, none⟩) 1 cap]).run Tryz.prog w = .ok (.tuple #[]) (w.setCell ⟨g, 0, none⟩ (.pointer none)) := fun ty => by
    have := Lib.run_clear_slice (P := Tryz.prog) w 63 72 ty (.pointer none) Tryz.underlying63 (fun w => by kernel_rfl) rfl rfl g 0 1 cap (by omega) (fun j hj => by
      obtain rfl : j = 0 := by omega
      rw [h0]; rfl) (fun j hj => by
      obtain rfl : j = 0 := by omega
      exact hf)
    exact this
  clear hB hm0 h0 hf
  go_enter Tryz.func69, Tryz.ntmps69
  go_wp2_with (go_at_call 102; refine H1.out.mono ?_; rintro e w' ⟨rfl, hw⟩; have hw := hw.symm; subst hw)
  refine wp_loop_rounds 1 ?_
  rw [rounds_succ]
  go_wp2
  go_ret
  exact ⟨rfl, rfl⟩
end Go.Proofs.YteeembildppgmaaGreat
