/- A part of it: SMkW SMkIn SArF SFull SUpdF. -/
import Derived.Test.YteeembildppgmaaGreatM0
import Derived.Test.YteeembildppgmaaGreatM38
import Derived.Test.YteeembildppgmaaGreatM10
import Derived.Test.YteeembildppgmaaGreatM28
import Derived.Deep.DeepCutAuto
import Derived.ProofKit
import Derived.OpenShut
import Derived.Below
import Derived.Deep.Grids
import Derived.Deep.CutBlock
namespace Go.Proofs.YteeembildppgmaaGreat
open Go.RowKit
set_option linter.unusedVariables false
set_option linter.unusedSimpArgs false
theorem i64_and255 (n : Int) : bits .and .i64 n 255 = n % 256 := by
 have h127 : (BitVec.ofInt 64 255).toNat = 2 ^ 8 - 1 := by decide
 have key : (BitVec.ofInt 64 n &&& BitVec.ofInt 64 255).toNat = (n % ((2 ^ 64 : Nat) : Int)).toNat % 2 ^ 8 := by
  rw [BitVec.toNat_and, BitVec.toNat_ofInt, h127, Nat.and_two_pow_sub_one_eq_mod]
 show IntKind.i64.wrap ((BitVec.ofInt 64 n &&& BitVec.ofInt 64 255).toNat : Nat) = n % 256
 rw [key, IntKind.wrap_i64]
 omega
theorem op_and3 (ρ : Operand → Value) (o : Oper) (x y : Operand) (tt : TypeId) (ho : o.op = .binOp .and 3 x y tt) (n : Int) (hx : ρ x = .int .i64 n) (hy : ρ y = .int .i64 255) {w : World} : (execOp ρ o).run Tryz.prog w = .ok (.value (.int .i64 (n % 256))) w := by
 have hu := Tryz.underlying3
 rw [← i64_and255]
 unfold execOp
 simp only [ho, hx, hy]
 simp [go_sem, hu, Op.intBits, bits]
structure WOp (w : World) (b o k : Nat) (P F : Int) (da : Option Addr) (dn dc : Nat) (bs : List UInt8) : Prop where
 cP : w.cell? ⟨b, o + k * 7 + 2, none⟩ = some (.int .i64 P)
 cF : w.cell? ⟨b, o + k * 7 + 3, none⟩ = some (.int .i64 F)
 cD : w.cell? ⟨b, o + k * 7 + 6, none⟩ = some (.slice da dn dc)
 len : bs.length = dn
 cap : dn ≤ dc
 max : dc ≤ maxLen
 rd : 0 < dn → ∃ g o', da = some ⟨g, o', none⟩ ∧ g < w.heap.size ∧ w.rangeAt g o' (secCells bs)
def IsW (w : World) (a : Option Addr) (len : Nat) : Prop :=
 len ≤ 9223372036854775807 ∧ ∀ k, k < len → ∃ b o P F da dn dc bs, a = some ⟨b, o, none⟩ ∧ b < w.heap.size ∧ WOp w b o k P F da dn dc bs
theorem secCells_take (bs : List UInt8) (n : Nat) : secCells (bs.take n) = (secCells bs).take n := by unfold secCells; rw [List.map_take]
theorem WOp.first {w : World} {b o k : Nat} {P F : Int} {da : Option Addr} {dn dc : Nat} {bs : List UInt8} (h : WOp w b o k P F da dn dc bs) (hd : 60 < dn) : ∃ g o', da = some ⟨g, o', none⟩ ∧ g < w.heap.size ∧ w.rangeAt g o' (secCells (bs.take 60)) := by
 obtain ⟨g, o', e, hg, hr⟩ := h.rd (by omega)
 refine ⟨g, o', e, hg, fun j v hv => hr j v ?_⟩
 rw [secCells_take] at hv
 by_cases hj : j < 60
 · rwa [List.getElem?_take_of_lt hj] at hv
 · rw [List.getElem?_take_eq_none (by omega)] at hv
   cases hv
theorem rng_keep {w0 w : World} {g o : Nat} {vs : List Value} (h : w0.rangeAt g o vs) (hg : g < w0.heap.size) (hb : Below w0.heap.size w0 w) : w.rangeAt g o vs := fun j v hv => (hb.cell (p := ⟨g, _, none⟩) hg).trans (h j v hv)
theorem step_call5_to {P : Program} {ops : Array Oper} {Q : Exit → Act → World → Prop} {md : Region.Mode} {S : World → Prop} {o : Oper} {fuel : Nat} {listed : Array Bool} {a : Act} {w : World} {R : Ending → World → Prop} (j dst f : Nat) (hj : ops[j]? = some o)
 (hr : Region.ready md ops listed = [j]) (hd : o.dst = some dst) (hw : Region.wanted o (yielded ops a.tmps) = true) (x y z u v : Operand) (ts : Array TypeId) (hop : o.op = Op.call { callee := Callee.value (Operand.func f), args := #[x, y, z, u, v], argTypes := ts })
 (vx vy vz vu vv : Value) (hx : a.eval x = vx) (hy : a.eval y = vy) (hz : a.eval z = vz) (hu : a.eval u = vu) (hv : a.eval v = vv) (hcf : ∀ args w, (callFunc f args).run P w = .ok (.enter f args) w) (hc : Calls P f #[vx, vy, vz, vu, vv] w R)
 (hK : ∀ e w', R e w' → ∃ v, e = .returned v ∧ S w' ∧ wpAnyH P md ops Q S fuel (listed.setIfInBounds j true) (a.put (some dst) v) w') : wpAnyH P md ops Q S (fuel + 1) listed a w := by
 refine step_by j hj hr (fun K hK' => ?_)
 rw [if_pos hw]
 have hrun : (execOp a.eval o).run P w = .ok (.enter f #[vx, vy, vz, vu, vv]) w := by
  have hff : a.eval (.func f) = .func (.func f) #[] #[] := rfl
  unfold execOp
  simp [hop, resolve, hff, Deferred.ofValue, invoke, hx, hy, hz, hu, hv]
  exact hcf _ _
 unfold Oper.wp
 rw [hrun, Oper.upon_enter]
 refine hc.mono ?_
 intro e w' hR
 obtain ⟨v, rfl, hS, hW⟩ := hK e w' hR
 show K (a.put o.dst v) w'
 rw [hd]
 exact hK' _ _ hS hW
theorem Tryz.enters13m (args : Array Value) (w : World) : (callFunc 13 args).run Tryz.prog w = .ok (.enter 13 args) w := by kernel_rfl
theorem run_index22 (w : World) (b o n cap i : Nat) (h : i < n) : (Instr.indexAt 22 (.slice (some ⟨b, o, none⟩) n cap) (.int .i64 (i : Int))).run Tryz.prog w = .ok (.pointer (some ⟨b, o + i * 7, none⟩)) w := by
 have hu := Tryz.underlying22
 have hs : ∀ w, (sizeOf 38).run Tryz.prog w = .ok 7 w := fun w => by kernel_rfl
 have h1 : (i : Int) < (n : Int) := by omega
 simp [go_sem, hu, hs, h1, Addr.add]
end Go.Proofs.YteeembildppgmaaGreat
namespace Go.Proofs.YteeembildppgmaaGreat
open Go.ChangeShapes Go.WideShapes Go.ChangeAt Go.RowKit
set_option linter.unusedVariables false
set_option linter.unusedSimpArgs false
theorem bcell_nat (n : Nat) (h : n < 256) : bcell (UInt8.ofNat n) = .int .u8 (n : Int) := by
 unfold bcell
 rw [UInt8.toNat_ofNat', Nat.mod_eq_of_lt (by omega)]
def bytesOfInts (zs : List Int) : List UInt8 := zs.map fun n => UInt8.ofNat n.toNat
theorem bytes_cell (zs : List Int) (hz : ∀ n ∈ zs, (Lit.int .u8 n).wf = true) (j : Nat) (u : Value) (hu : (secCells (bytesOfInts zs))[j]? = some u) : j < zs.length ∧ u = .int .u8 (zs.getD j 0) := by
 simp only [secCells, bytesOfInts, List.getElem?_map, Option.map_map] at hu
 cases hj : zs[j]? with
 | none => simp [hj] at hu
 | some n =>
   have hlt : j < zs.length := (List.getElem?_eq_some_iff.1 hj).1
   refine ⟨hlt, ?_⟩
   have hn : zs.getD j 0 = n := by simp [hj]
   rw [hn]
   have hw := hz n (List.mem_of_getElem? hj)
   have hw2 : (0 : Int) ≤ n ∧ n ≤ 255 := by
    have h : (decide (IntKind.u8.min ≤ n) && decide (n ≤ IntKind.u8.max)) = true := hw
    rw [Bool.and_eq_true, decide_eq_true_eq, decide_eq_true_eq] at h
    exact h
   simp [hj] at hu
   rw [← hu, bcell_nat _ (by omega)]
   congr 1
   omega
theorem Tryz.cells5m : Tryz.prog.cellsOf 5 = 1 := by kernel_rfl
theorem bytes_of1 {H : Type} {enc : TypeId × Value → H} {w : World} {held : Bool} {fuel : Nat} {v : Value} {x : DataW H × List MemPlace} (h : DataW.trod enc Tryz.prog w 0 (fun _ => true) held fuel 36 [v] = some x) :
 ∃ da dn dc bs, v = .slice da dn dc ∧ bs.length = dn ∧ dn ≤ dc ∧ dc ≤ maxLen ∧ (0 < dn → ∃ g o', da = some ⟨g, o', none⟩ ∧ g < w.heap.size ∧ w.rangeAt g o' (secCells bs)) := by
 rcases ChangeShapes.open_ints Tryz.underlying36 Tryz.underlying5 Tryz.cells5m h with ⟨hcs, hx⟩ | ⟨y, l, c, zs, hcs, _, hl, hm, hz, hx, hcell, hwz⟩
 · simp at hcs
   subst hcs
   exact ⟨none, 0, 0, [], rfl, rfl, Nat.le_refl _, Nat.zero_le _, fun h => by omega⟩
 · simp at hcs
   subst hcs
   simp at hz
   have hlen : (bytesOfInts (zs.take l)).length = l := by simp [bytesOfInts]; omega
   refine ⟨some y, l, c, bytesOfInts (zs.take l), rfl, hlen, hl, hm, fun h0 => ?_⟩
   obtain ⟨b, o, sp⟩ := y
   have hsp : sp = none := by simpa [Addr.add] using World.cell?_spot (hcell 0 (by omega))
   subst hsp
   have h00 := hcell 0 (by omega)
   rw [Addr.add_mid] at h00
   refine ⟨b, o, rfl, World.block_lt_of_cell? w _ h00, fun j u hu => ?_⟩
   obtain ⟨hj, rfl⟩ := bytes_cell _ (fun n hn => hwz n (List.mem_of_mem_take hn)) j u hu
   rw [List.length_take] at hj
   have := hcell j (by omega)
   rw [Addr.add_mid] at this
   rw [this]
   congr 2
   simp only [List.getD_eq_getElem?_getD, List.getElem?_take]
   rw [if_pos (by omega)]
set_option maxRecDepth 100000 in
theorem writes_of {H : Type} {enc : TypeId × Value → H} {W : World} {held : Bool} {fuel : Nat} {a : Option Addr} {len cap : Nat} {x : DataW H × List MemPlace}
 (h : DataW.trod enc Tryz.prog W 0 (fun _ => true) held fuel 22 [.slice a len cap] = some x) : IsW W a len := by
 rcases Deep.open_slice Tryz.underlying22 h with ⟨hcs, _⟩ | ⟨a', len', cap', m, n, D, Pl, hcs, hb, hl, hm, hmm, _, hx⟩
 · simp at hcs
   obtain ⟨rfl, rfl, rfl⟩ := hcs
   exact ⟨by omega, fun k hk => by omega⟩
 · simp at hcs
   obtain ⟨rfl, rfl, rfl⟩ := hcs
   simp only [if_true] at hmm
   subst hmm
   refine ⟨by simp only [maxLen] at hm; omega, fun k hk => ?_⟩
   have h7 : Tryz.prog.cellsOf 38 = 7 := by kernel_rfl
   have h3 : Tryz.prog.cellsOf 3 = 1 := by kernel_rfl
   have h36 : Tryz.prog.cellsOf 36 = 1 := by kernel_rfl
   obtain ⟨cs, hc, ht⟩ := hx k (by omega)
   rw [h7] at hc
   obtain ⟨_, hlen, hcell⟩ := World.cells?_some hc
   obtain ⟨xs, n', _, _, _, hxl, hf⟩ := DataW.trod_struct Tryz.underlying38 ht
   match cs, hlen with
   | [v0, v1, v2, v3, v4, v5, v6], _ =>
     have g2 := hf 2 _ rfl
     have g3 := hf 3 _ rfl
     have g6 := hf 6 _ rfl
     have hs : ∀ i, i < 7 → ∃ y, xs[i]? = some y := fun i hi => ⟨_, List.getElem?_eq_getElem (by rw [hxl]; exact hi)⟩
     obtain ⟨y2, e2⟩ := hs 2 (by omega)
     obtain ⟨y3, e3⟩ := hs 3 (by omega)
     obtain ⟨y6, e6⟩ := hs 6 (by omega)
     rw [e2] at g2
     rw [e3] at g3
     rw [e6] at g6
     simp [h3] at g2 g3
     simp [h3, h36] at g6
     obtain ⟨i2, q2, _, w2⟩ := DataW.trod_int Tryz.underlying3 g2
     obtain ⟨i3, q3, _, w3⟩ := DataW.trod_int Tryz.underlying3 g3
     obtain ⟨da, dn, dc, bs, q6, r1, r2, r3, r4⟩ := bytes_of1 g6
     obtain ⟨b, o, sp⟩ := a'
     have hsp : sp = none := by
      obtain ⟨cs0, hc0, _⟩ := hx 0 (by omega)
      rw [h7] at hc0
      obtain ⟨_, hl0, hcl⟩ := World.cells?_some hc0
      have h00 := (hcl 0 (by omega)).trans (List.getElem?_eq_getElem (by omega))
      simpa [Addr.add] using World.cell?_spot h00
     subst hsp
     simp only [List.cons.injEq, and_true] at q2 q3
     subst q2 q3 q6
     have hcl : ∀ j, j < 7 → W.cell? ⟨b, o + k * 7 + j, none⟩ = [v0, v1, .int .i64 i2, .int .i64 i3, v4, v5, .slice da dn dc][j]? := fun j hj => by
      have := hcell j hj
      rw [Addr.add_mid, Addr.add_mid] at this
      exact this
     refine ⟨b, o, i2, i3, da, dn, dc, bs, rfl, ?_, ⟨hcl 2 (by omega), hcl 3 (by omega), hcl 6 (by omega), r1, r2, r3, r4⟩⟩
     exact World.block_lt_of_cell? W _ (hcl 2 (by omega))
end Go.Proofs.YteeembildppgmaaGreat
namespace Go.Proofs.YteeembildppgmaaGreat
open Go.RowKit
set_option linter.unusedVariables false
set_option linter.unusedSimpArgs false
section
variable {w0 w w' : World} {s : Nat} {c : Cf} {xs tb : List Nat} {ov : Value} {ps : List Nat} {uvs : List Value} {S : St} {V : Nat → List UInt8}
set_option maxHeartbeats 1000000 in
set_option maxRecDepth 100000 in
theorem area5_ok (h : StIs w0 w s c xs tb ov ps uvs S) (hi : PInv c.n S.pool V) (hwr : S.pool.wr + 5 ≤ 1000000) (hn : 5 ≤ c.n) :
 Calls Tryz.prog 12 #[.pointer (some ⟨s, 0, none⟩), .int .i64 5] w fun e w' => e = .returned (.tuple #[.string (strOf (areaN (dat V) 5)), .bool true]) ∧ Rdd w0 w w' s c xs tb ov ps uvs S V 5 := by
 have HR0 : Hid (Rdd w0 w w s c xs tb ov ps uvs S V 0) := ⟨⟨S.pool, h, hi, RS.refl _, Nat.le_refl _, rfl⟩, ⟨Nat.le_refl _, fun k hk => rfl⟩⟩
 have HV : Hid (∀ p, p < 5 → (dat V p).length = 504) := fun p hp => by
  unfold dat
  rw [List.length_drop, hi.v5 p (by omega)]
 clear h hi
 go_enter Tryz.func12, Tryz.ntmps12
 go_wp2
 go_loopw [7, 6] (fun i a wr => ∃ j : Nat, j ≤ 5 ∧ i = .int .i64 (j : Int) ∧ a = .string (strOf (areaN (dat V) j)) ∧ Hid (Rdd w0 w wr s c xs tb ov ps uvs S V j)) (fun i _ _ => 5 - (intOf i).toNat)
 case atStart => exact ⟨0, by omega, rfl, rfl, HR0.out⟩
 case round =>
  obtain ⟨j, hj, rfl, rfl, HR⟩ := hrel
  by_cases hj3 : j < 5
  · have HRD := hide (HR.out.read (by omega) j (by omega))
    have HVJ := hide (HV.out j hj3)
    have HAP := hide (strOf_append (areaN (dat V) j) (dat V j))
    have HAN := hide (areaN_succ (dat V) j)
    have hsz : ¬ (9223372036854775807 < (strOf (areaN (dat V) j)).size + (strOf (dat V j)).size) := by
     rw [size_strOf, size_strOf, len_areaN HV.out j (by omega), HV.out j hj3]
     omega
    go_wp2_with (go_at_call 24; refine HRD.out.mono ?_; rintro e W1 ⟨g, rfl, hg, hr1⟩; have HR1 := hide hr1; have hcv : (convert 36 9 (.slice (some ⟨g, 0, none⟩) 504 504)).run Tryz.prog W1 = .ok (.string (strOf (dat V j))) W1 := run_strAt W1 g 0 504 504 (dat V j) HVJ.out (rng_block hg); clear hg hr1 HRD)
    go_roundw
    case rel =>
     refine ⟨j + 1, by omega, by go_num, ?_, HR1.out⟩
     rw [HAN.out, ← HAP.out]
    case measure => simp [intOf]; omega
  · have hje : j = 5 := by omega
    subst hje
    go_wp2
    go_ret2
    exact ⟨rfl, HR.out⟩
end
end Go.Proofs.YteeembildppgmaaGreat
namespace Go.Proofs.YteeembildppgmaaGreat
open Go.RowKit
set_option linter.unusedVariables false
set_option linter.unusedSimpArgs false
theorem Tryz.isAgg63f : ∀ w, (isAgg 63).run Tryz.prog w = .ok false w := fun w => by kernel_rfl
theorem Tryz.isAgg61f : ∀ w, (isAgg 61).run Tryz.prog w = .ok false w := fun w => by kernel_rfl
theorem Tryz.enters86f (args : Array Value) (w : World) : (callFunc 86 args).run Tryz.prog w = .ok (.enter 86 args) w := by kernel_rfl
theorem Tryz.enters87f (args : Array Value) (w : World) : (callFunc 87 args).run Tryz.prog w = .ok (.enter 87 args) w := by kernel_rfl
theorem op_gtr3f (ρ : Operand → Value) (o : Oper) (x y : Operand) (tt : TypeId) (ho : o.op = .binOp .gtr 3 x y tt) (n m : Int) (hx : ρ x = .int .i64 n) (hy : ρ y = .int .i64 m) (b : Bool) (hb : decide (m < n) = b) {w : World} : (execOp ρ o).run Tryz.prog w = .ok (.value (.bool b)) w := by
 have hu := Tryz.underlying3
 unfold execOp
 simp only [ho, hx, hy]
 simp [go_sem, hu, hb]
theorem op_eql3f (ρ : Operand → Value) (o : Oper) (x y : Operand) (tt : TypeId) (ho : o.op = .binOp .eql 3 x y tt) (n m : Int) (hx : ρ x = .int .i64 n) (hy : ρ y = .int .i64 m) (b : Bool) (hb : (n == m) = b) {w : World} : (execOp ρ o).run Tryz.prog w = .ok (.value (.bool b)) w := by
 have hu := Tryz.underlying3
 unfold execOp
 simp only [ho, hx, hy]
 simp [go_sem, hu, hb]
section
variable {w0 w w' : World} {s : Nat} {c : Cf} {xs tb : List Nat} {ov : Value} {ps : List Nat} {uvs : List Value} {S : St}
set_option maxHeartbeats 400000 in
theorem oldest_ok (h : StIs w0 w s c xs tb ov ps uvs S) (T : Tn) (hT : S.txs[0]? = some T) (hb : 1 ≤ T.begin) (hB : T.begin ≤ 4398046511104) :
 Calls Tryz.prog 86 #[.pointer (some ⟨s, 0, none⟩)] w fun e w' => e = .returned (.int .i64 ((T.begin - 1 : Nat) : Int)) ∧ w' = w := by
 obtain ⟨g, x, uv, vs, cc, hov, hx, hu, t, hcell⟩ := h.txAt 0 T hT
 have c4 := h.c4
 rw [hov] at c4
 have x1 : w.cell? ⟨x, 1, none⟩ = some (.int .i64 (T.begin : Int)) := by rw [cell_of_row w x 1 _ _ _ t.head]; rfl
 have hlt := (List.getElem?_eq_some_iff.1 hT).1
 have hwr : IntKind.i64.wrap ((T.begin : Int) - 1) = ((T.begin - 1 : Nat) : Int) := by rw [IntKind.wrap_i64]; omega
 clear h hov hx hu t hT
 generalize S.txs.length = n at *
 go_enter Tryz.func86, Tryz.ntmps86
 go_wp2
 go_ret
 exact ⟨by first | rfl | rw [hwr], rfl⟩
set_option maxHeartbeats 1000000 in
set_option maxRecDepth 100000 in
theorem pinned_true (h : StIs w0 w s c xs tb ov ps uvs S) (T : Tn) (hT : S.txs[0]? = some T) (hb : T.begin = S.R.start + 1) (hB : T.begin ≤ 4398046511104) :
 Calls Tryz.prog 54 #[.pointer (some ⟨s, 0, none⟩)] w fun e w' => e = .returned (.bool true) ∧ Below w.heap.size w w' := by
 have hd := h.belowW (below_drewN w.heap.size w 1)
 obtain ⟨g, x, uv, vs, cc, hov, hx, hu, t, hcell⟩ := hd.txAt 0 T hT
 have c4 := hd.c4
 rw [hov] at c4
 have c1 := hd.c1
 have hlt := (List.getElem?_eq_some_iff.1 hT).1
 have HOL := hide (oldest_ok hd T hT (by omega) hB)
 obtain ⟨bl, vs2, gp, D, hpx, hy⟩ := hd.asRing
 have HSTA := hide (start_any hy.rg)
 rw [show T.begin - 1 = S.R.start by omega] at HOL
 have HSTA : Hid (Calls Tryz.prog 87 #[.pointer (some ⟨c.r, 0, none⟩)] (w.drewN 1) fun e w' => e = .returned (.int .i64 ((S.R.start : Nat) : Int)) ∧ w' = w.drewN 1) := HSTA.out
 clear h hd hov hx hu t hT hy hpx hcell
 generalize S.txs.length = n at *
 generalize S.R.start = st at *
 go_enter Tryz.func54, Tryz.ntmps54
 go_upto_region 1 with fail
 refine wp_region_held_drew (S := fun w' => w' = w.drewN 1) (by kernel_rfl) rfl (fun hH => ?_)
 refine take_to 0 3 (.pointer (some ⟨s, 0, none⟩)) rfl (by kernel_rfl) (by kernel_rfl) (by kernel_rfl) (fun _ _ _ h => h) rfl (by rfl) (fun w' hw => by rfl) hH ?_
 simp only [Act.put, zA, zB, zC]
 refine take_to 1 4 (.pointer (some ⟨s, 0, none⟩)) rfl (by kernel_rfl) (by kernel_rfl) (by kernel_rfl) (fun _ _ _ h => h) rfl (by rfl) (fun w' hw => by rfl) hH ?_
 simp only [Act.put, zA, zB, zC]
 refine take_to 2 5 (.pointer (some ⟨s, 4, none⟩)) rfl (by kernel_rfl) (by kernel_rfl) (by kernel_rfl) (fun _ _ _ h => h) rfl (by rfl) (fun w' hw => by rfl) hH ?_
 simp only [Act.put, zA, zB, zC]
 refine take_to 3 6 (.slice (some ⟨g, 0, none⟩) n cc) rfl (by kernel_rfl) (by kernel_rfl) (by kernel_rfl) (fun _ _ _ h => h) rfl (by rfl) (fun w' hw => op_load _ _ 63 (.tmp 5) rfl (.pointer (some ⟨_, _, none⟩)) _ rfl (run_loadAny w' _ _ 63 _ Tryz.isAgg63f (hw ▸ c4))) hH ?_
 simp only [Act.put, zA, zB, zC]
 refine take_to 4 7 (.int .i64 (n : Int)) rfl (by kernel_rfl) (by kernel_rfl) (by kernel_rfl) (fun _ _ _ h => h) rfl (by rfl) (fun w' hw => op_len _ _ (.tmp 6) 63 72 Tryz.underlying63 rfl _ _ _ rfl) hH ?_
 simp only [Act.put, zA, zB, zC]
 refine take_to 5 8 (.bool true) rfl (by kernel_rfl) (by kernel_rfl) (by kernel_rfl) (fun _ _ _ h => h) rfl (by rfl) (fun w' hw => op_gtr3f _ _ (.tmp 7) (.const (.int .i64 0)) _ rfl _ _ rfl rfl true (by simp; omega)) hH ?_
 simp only [Act.put, zA, zB, zC]
 refine take_to 6 9 (.bool true) rfl (by kernel_rfl) (by kernel_rfl) (by kernel_rfl) (fun _ _ _ h => h) rfl (by rfl) (fun w' hw => by rfl) hH ?_
 simp only [Act.put, zA, zB, zC]
 refine take_to 7 10 (.pointer (some ⟨s, 0, none⟩)) rfl (by kernel_rfl) (by kernel_rfl) (by kernel_rfl) (fun _ _ _ h => h) rfl (by rfl) (fun w' hw => by rfl) hH ?_
 simp only [Act.put, zA, zB, zC]
 refine take_to 9 12 (.pointer (some ⟨s, 0, none⟩)) rfl (by kernel_rfl) (by kernel_rfl) (by kernel_rfl) (fun _ _ _ h => h) rfl (by rfl) (fun w' hw => by rfl) hH ?_
 simp only [Act.put, zA, zB, zC]
 refine take_to 10 13 (.pointer (some ⟨s, 0, none⟩)) rfl (by kernel_rfl) (by kernel_rfl) (by kernel_rfl) (fun _ _ _ h => h) rfl (by rfl) (fun w' hw => by rfl) hH ?_
 simp only [Act.put, zA, zB, zC]
 refine take_to 11 14 (.pointer (some ⟨s, 1, none⟩)) rfl (by kernel_rfl) (by kernel_rfl) (by kernel_rfl) (fun _ _ _ h => h) rfl (by rfl) (fun w' hw => by rfl) hH ?_
 simp only [Act.put, zA, zB, zC]
 refine take_to 12 15 (.pointer (some ⟨c.r, 0, none⟩)) rfl (by kernel_rfl) (by kernel_rfl) (by kernel_rfl) (fun _ _ _ h => h) rfl (by rfl) (fun w' hw => op_load _ _ 61 (.tmp 14) rfl (.pointer (some ⟨_, _, none⟩)) _ rfl (run_loadAny w' _ _ 61 _ Tryz.isAgg61f (hw ▸ c1))) hH ?_
 simp only [Act.put, zA, zB, zC]
 refine step_call1_to 8 11 86 rfl (by kernel_rfl) rfl (by rfl) (.tmp 10) _ rfl _ rfl Tryz.enters86f HOL.out ?_
 rintro e w1 ⟨rfl, hw1⟩
 refine ⟨_, rfl, hw1, ?_⟩
 simp only [Act.put, zA, zB, zC]
 subst hw1
 refine step_call1_to 13 16 87 rfl (by kernel_rfl) rfl (by rfl) (.tmp 15) _ rfl _ rfl Tryz.enters87f HSTA.out ?_
 rintro e w2 ⟨rfl, hw2⟩
 refine ⟨_, rfl, hw2, ?_⟩
 simp only [Act.put, zA, zB, zC]
 refine take_to 14 17 (.bool true) rfl (by kernel_rfl) (by kernel_rfl) (by kernel_rfl) (fun _ _ _ h => h) rfl (by rfl) (fun w' hw => op_eql3f _ _ (.tmp 11) (.tmp 16) _ rfl _ _ rfl rfl true (by simp)) hw2 ?_
 simp only [Act.put, zA, zB, zC]
 refine take_to 15 18 (.bool true) rfl (by kernel_rfl) (by kernel_rfl) (by kernel_rfl) (fun _ _ _ h => h) rfl (by rfl) (fun w' hw => by rfl) hw2 ?_
 simp only [Act.put, zA, zB, zC]
 subst hw2
 refine step_to 16 2 (.bool true) _ rfl (by kernel_rfl) rfl (by rfl) (by rfl) rfl ?_
 simp only [Act.put, zA, zB, zC]
 refine wpAnyH_done (by kernel_rfl) ?_ _
 have HEND := hide (below_drewN w.heap.size w 1)
 go_wp2
 go_ret
 exact ⟨rfl, HEND.out⟩
set_option maxHeartbeats 400000 in
theorem makeRoom_full (h : StIs w0 w s c xs tb ov ps uvs S) (hb : S.res ≤ 1000000000) (n : Nat) (hn : n ≤ 1000000) (hf : ¬ (n + S.res + 2048 ≤ S.R.room)) (T : Tn) (hT : S.txs[0]? = some T) (hbg : T.begin = S.R.start + 1) (hB : T.begin ≤ 4398046511104) :
 Calls Tryz.prog 28 #[.pointer (some ⟨s, 0, none⟩), .int .i64 (n : Int)] w fun e w' => e = .returned (.int .i64 60) ∧ Below w.heap.size w w' := by
 have HF : Hid (∀ W, Below w.heap.size w W → Calls Tryz.prog 53 #[.pointer (some ⟨s, 0, none⟩), .int .i64 (n : Int)] W fun e w' => e = .returned (.bool false) ∧ Below W.heap.size W w') := fun W hW => by
  have := fits_any (h.belowW hW) hb n hn
  rw [decide_eq_false hf] at this
  exact this
 have HP : Hid (∀ W, Below w.heap.size w W → Calls Tryz.prog 54 #[.pointer (some ⟨s, 0, none⟩)] W fun e w' => e = .returned (.bool true) ∧ Below W.heap.size W w') := fun W hW => pinned_true (h.belowW hW) T hT hbg hB
 clear h hf hb hT
 go_enter Tryz.func28, Tryz.ntmps28
 go_wp2_with (first
  | (go_at_call 53; refine (HF.out w (Below.refl _ _)).mono ?_; rintro e w2 ⟨rfl, hb2⟩; have HB2 := hide hb2; clear hb2)
  | (go_at_call 54; refine (HP.out w2 HB2.out).mono ?_; rintro e w3 ⟨rfl, hb3⟩; have HB3 := hide (HB2.out.trans (hb3.mono HB2.out.size)); clear hb3)
  | (go_at_call 53; refine (HF.out w3 HB3.out).mono ?_; rintro e w4 ⟨rfl, hb4⟩; have HB4 := hide (HB3.out.trans (hb4.mono HB3.out.size)); clear hb4))
 go_ret
 exact ⟨rfl, HB4.out⟩
end
end Go.Proofs.YteeembildppgmaaGreat
namespace Go.Proofs.YteeembildppgmaaGreat
open Go.RowKit
set_option linter.unusedVariables false
set_option linter.unusedSimpArgs false
section
variable {w0 w w' : World} {s : Nat} {c : Cf} {xs tb : List Nat} {ov : Value} {ps : List Nat} {uvs : List Value} {S : St} {V : Nat → List UInt8}
set_option maxHeartbeats 4000000 in
set_option maxRecDepth 100000 in
theorem update_full (gb : Nat) (h : StIs w0 w s c (gb :: xs) tb ov ps uvs S) {i x : Nat} {T : Tn} {uv : Value} (hx : ps[i]? = some x) (hT : S.txs[i]? = some T) (hu : uvs[i]? = some uv) (pg off n ga oa ca : Nat) (bf af : List UInt8) (hbl : bf.length = n) (hal : af.length = n)
 (hgb : w.heap[gb]? = some (.cells (secCells bf).toArray 5 (0, 0))) (hgx : gb ∉ xs) (hgb0 : w0.heap.size ≤ gb) (hby : ByteSrc w0 w xs ga oa ca af) (hp : pg < c.n) (hn : 1 ≤ n) (ho : off + n ≤ 504) (hb : S.res ≤ 1000000000) (hroom : ¬ (192 + 3 * n + S.res + 2048 ≤ S.R.room)) (T0 : Tn) (hT0 : S.txs[0]? = some T0) (hbg : T0.begin = S.R.start + 1) (hB : T0.begin ≤ 4398046511104) (hid : T.id ≤ 1000000000000) (hla : T.last ≤ 4398046511104) :
 Calls Tryz.prog 36 #[.pointer (some ⟨s, 0, none⟩), .pointer (some ⟨x, 0, none⟩), .agg #[.int .i64 2, .int .i64 0, .int .i64 0, .int .i64 0, .int .i64 (pg : Int), .int .i64 (off : Int), .slice (some ⟨gb, 0, none⟩) n n, .slice (some ⟨ga, oa, none⟩) n ca, .slice none 0 0, .slice none 0 0, .int .i64 0]] w fun e w' => e = .returned (.int .i64 60) ∧ Below w.heap.size w w' := by
 obtain ⟨vs, t⟩ := h.tx i x T uv hx hT hu
 obtain ⟨ua, uc, rfl⟩ := t.uvlen
 have hb1 : Below w.heap.size w (w.alloc (.cells #[.int .i64 2, .int .i64 0, .int .i64 0, .int .i64 0, .int .i64 (pg : Int), .int .i64 (off : Int), .slice (some ⟨gb, 0, none⟩) n n, .slice (some ⟨ga, oa, none⟩) n ca, .slice none 0 0, .slice none 0 0, .int .i64 0] 69)) := (Below.refl _ w).alloc (Nat.le_refl _) _
 have hq1 : (w.alloc (.cells #[.int .i64 2, .int .i64 0, .int .i64 0, .int .i64 0, .int .i64 (pg : Int), .int .i64 (off : Int), .slice (some ⟨gb, 0, none⟩) n n, .slice (some ⟨ga, oa, none⟩) n ca, .slice none 0 0, .slice none 0 0, .int .i64 0] 69)).heap[w.heap.size]? = some (.cells #[.int .i64 2, .int .i64 0, .int .i64 0, .int .i64 0, .int .i64 (pg : Int), .int .i64 (off : Int), .slice (some ⟨gb, 0, none⟩) n n, .slice (some ⟨ga, oa, none⟩) n ca, .slice none 0 0, .slice none 0 0, .int .i64 0] 69 (0, 0)) := heap_alloc_new w _
 have hz1 : (w.alloc (.cells #[.int .i64 2, .int .i64 0, .int .i64 0, .int .i64 0, .int .i64 (pg : Int), .int .i64 (off : Int), .slice (some ⟨gb, 0, none⟩) n n, .slice (some ⟨ga, oa, none⟩) n ca, .slice none 0 0, .slice none 0 0, .int .i64 0] 69)).heap.size = w.heap.size + 1 := by simp
 have hxl : x < w.heap.size := h.lts (by simp [t.inX])
 have hgl : gb < w.heap.size := h.lt (by simp)
 have HX2 : Hid (∀ W, Below w.heap.size w W → W.cell? ⟨x, 2, none⟩ = some (.int .i64 (T.last : Int))) := fun W hW => (hW.cell (p := ⟨x, 2, none⟩) hxl).trans t.c2
 have hml : T.ups.length ≤ 1000000000 := by
  have h1 := length_resU T.ups
  have h2 : T.res ≤ S.res := by
   have h3 := sum_take Tn.res S.txs i T hT
   have h4 := sum_take_le Tn.res S.txs (i + 1)
   show _ ≤ resT S.txs
   unfold resT
   omega
  have h5 : T.res = 192 + resU T.ups := rfl
  omega
 have hst : S.R.tail + 1 < 4611686018427387904 := by
  obtain ⟨bl, vs2, gp, D, hpx, hy⟩ := h.asRing
  have h1 := hy.rg.wf.start
  have h2 := hy.rg.wf.held
  show S.R.start + S.R.held.length + 1 < _
  omega
 have HREC : Hid (∀ W, Below w.heap.size w W → Enc.RecVal W (.agg #[.int .i64 2, .int .i64 0, .int .i64 0, .int .i64 0, .int .i64 (pg : Int), .int .i64 (off : Int), .slice (some ⟨gb, 0, none⟩) n n, .slice (some ⟨ga, oa, none⟩) n ca, .slice none 0 0, .slice none 0 0, .int .i64 0]) (updRc pg off bf af)) := fun W hW =>
  ⟨_, _, _, _, rfl, sl_of_src (SrcAt.block ((hW.block gb hgl).trans hgb)) hbl (Nat.le_refl _) (by omega), sl_of_by (hby.belowW h.below hW (fun k hk => h.lt (by simp [hk]))) hal, Enc.Row.nil W, Enc.Row.nil W⟩
 have HREC2 : Hid (∀ W, Below w.heap.size w W → Enc.RecVal W (.agg #[.int .i64 3, .int .i64 0, .int .i64 0, .int .i64 (T.last : Int), .int .i64 (pg : Int), .int .i64 (off : Int), .slice none 0 0, .slice (some ⟨gb, 0, none⟩) n n, .slice none 0 0, .slice none 0 0, .int .i64 0]) (Up.rc ⟨0, T.last, pg, off, bf⟩)) := fun W hW =>
  ⟨_, _, _, _, rfl, Enc.Row.nil W, sl_of_src (SrcAt.block ((hW.block gb hgl).trans hgb)) hbl (Nat.le_refl _) (by omega), Enc.Row.nil W, Enc.Row.nil W⟩
 have hsz1 : (updRc pg off bf af).size = 96 + n + n := by show 96 + bf.length + af.length + 24 * 0 + 16 * 0 = _; omega
 have hsz2 : (Up.rc ⟨0, T.last, pg, off, bf⟩).size = 96 + n := by show 96 + 0 + bf.length + 24 * 0 + 16 * 0 = _; omega
 have HWF : Hid ((updRc pg off bf af).wf) := ⟨fun y hy => by
  simp only [Enc.Rc.head, updRc, List.mem_cons, List.not_mem_nil, or_false] at hy
  have := h.n8
  rcases hy with rfl | rfl | rfl | rfl | rfl | rfl <;> omega, by simp [updRc], by simp [updRc], by simp [updRc]⟩
 have HMK0 : Hid (∀ W, Below w.heap.size w W → Calls Tryz.prog 28 #[.pointer (some ⟨s, 0, none⟩), .int .i64 ((192 + 3 * n : Nat) : Int)] W fun e w' => e = .returned (.int .i64 60) ∧ Below W.heap.size W w') := fun W hW => makeRoom_full (h.belowW hW) hb (192 + 3 * n) (by omega) hroom T0 hT0 hbg hB
 have H := hide h
 have HT := hide hT
 have HX := hide hx
 have HU := hide hu
 have HTX := hide t
 have HBY := hide hby
 have HGB := hide hgb
 have HRM := hide hroom
 have HB1 := hide hb1
 have HQ1 := hide hq1
 have HZ1 := hide hz1
 have HS1 := hide hsz1
 have HS2 := hide hsz2
 have HBL := hide hbl
 have HAL0 := hide hal
 clear h hT hx hu t hby hgb hb1 hq1 hz1 hb hroom hsz1 hsz2 hbl hal
 go_enter Tryz.func36, Tryz.ntmps36
 go_wp2_with fail
 obtain ⟨W1, hW1⟩ : ∃ W1, w.alloc (.cells #[.int .i64 2, .int .i64 0, .int .i64 0, .int .i64 0, .int .i64 (pg : Int), .int .i64 (off : Int), .slice (some ⟨gb, 0, none⟩) n n, .slice (some ⟨ga, oa, none⟩) n ca, .slice none 0 0, .slice none 0 0, .int .i64 0] 69) = W1 := ⟨_, rfl⟩
 rw [hW1] at HB1 HQ1 HZ1 ⊢
 clear hW1
 obtain ⟨Q, hQ⟩ : ∃ Q, w.heap.size = Q := ⟨_, rfl⟩
 rw [hQ] at HQ1 HZ1 HB1 hxl hgl HX2 HREC HREC2 HMK0 ⊢
 have HQ := hide hQ
 clear hQ
 obtain ⟨Q2, hQ2⟩ : ∃ Q2, W1.heap.size = Q2 := ⟨_, rfl⟩
 obtain ⟨W2, hW2⟩ : ∃ W2, (W1.drewN 1).alloc (.cells Enc.zeroCells11 69) = W2 := ⟨_, rfl⟩
 have b2 : Below W1.heap.size W1 W2 := by rw [← hW2]; exact (below_drewN _ W1 1).alloc (Nat.le_refl _) _
 have g2 : W2.heap[Q2]? = some (.cells Enc.zeroCells11 69 (0, 0)) := by rw [← hW2, ← hQ2]; exact heap_alloc_new (W1.drewN 1) _
 obtain ⟨W3, hW3⟩ : ∃ W3, W2.setRow Q2 #[.int .i64 3, .int .i64 0, .int .i64 0, .int .i64 (T.last : Int), .int .i64 (pg : Int), .int .i64 (off : Int), .slice none 0 0, .slice (some ⟨gb, 0, none⟩) n n, .slice none 0 0, .slice none 0 0, .int .i64 0] = W3 := ⟨_, rfl⟩
 have HST : Hid ((Instr.storeAt 69 (.pointer (some ⟨Q2, 0, none⟩)) (.agg #[.int .i64 3, .int .i64 0, .int .i64 0, .int .i64 (T.last : Int), .int .i64 (pg : Int), .int .i64 (off : Int), .slice none 0 0, .slice (some ⟨gb, 0, none⟩) n n, .slice none 0 0, .slice none 0 0, .int .i64 0])).run Tryz.prog W2 = .ok () W3) := by
  show _ = _
  rw [← hW3]
  exact Enc.run_store69 W2 Q2 _ _ rfl rfl (all_oneCell_toArray (by
   intro v hv
   simp only [List.mem_cons, List.not_mem_nil, or_false] at hv
   rcases hv with rfl | rfl | rfl | rfl | rfl | rfl | rfl | rfl | rfl | rfl | rfl <;> rfl)) g2
 have HAL : Hid (∀ (ρ : Operand → Value) (o : Oper), o.op = .alloc 69 → (execOp ρ o).run Tryz.prog (W1.drewN 1) = .ok (.value (.pointer (some ⟨Q2, 0, none⟩))) W2) := fun ρ o h1 => by
  rw [← hW2, ← hQ2]
  unfold execOp
  simp only [h1]
  kernel_rfl
 have b3 : Below W1.heap.size W1 W3 := by rw [← hW3]; exact below_setRow b2 (by omega) _
 have g3 : W3.heap[Q2]? = some (.cells #[.int .i64 3, .int .i64 0, .int .i64 0, .int .i64 (T.last : Int), .int .i64 (pg : Int), .int .i64 (off : Int), .slice none 0 0, .slice (some ⟨gb, 0, none⟩) n n, .slice none 0 0, .slice none 0 0, .int .i64 0] 69 (0, 0)) := by rw [← hW3]; exact setRow_heap _ _ _ _ _ _ g2
 have z2 : Q < Q2 := by have := HZ1.out; omega
 have hQ3 : W3.heap[Q]? = some (.cells #[.int .i64 2, .int .i64 0, .int .i64 0, .int .i64 0, .int .i64 (pg : Int), .int .i64 (off : Int), .slice (some ⟨gb, 0, none⟩) n n, .slice (some ⟨ga, oa, none⟩) n ca, .slice none 0 0, .slice none 0 0, .int .i64 0] 69 (0, 0)) := (b3.block Q (by omega)).trans HQ1.out
 have hQ21 : W2.heap[Q]? = some (.cells #[.int .i64 2, .int .i64 0, .int .i64 0, .int .i64 0, .int .i64 (pg : Int), .int .i64 (off : Int), .slice (some ⟨gb, 0, none⟩) n n, .slice (some ⟨ga, oa, none⟩) n ca, .slice none 0 0, .slice none 0 0, .int .i64 0] 69 (0, 0)) := (b2.block Q (by omega)).trans HQ1.out
 have B3 : Below Q w W3 := HB1.out.trans (b3.mono (by omega))
 have B2' : Below Q w W2 := HB1.out.trans (b2.mono (by omega))
 have hS1 : W1.cell? ⟨x, 2, none⟩ = some (.int .i64 (T.last : Int)) ∧ W1.cell? ⟨Q, 4, none⟩ = some (.int .i64 (pg : Int)) ∧ W1.cell? ⟨Q, 5, none⟩ = some (.int .i64 (off : Int)) ∧ W1.cell? ⟨Q, 6, none⟩ = some (.slice (some ⟨gb, 0, none⟩) n n) := ⟨HX2.out W1 HB1.out, by rw [cell_of_row W1 Q 4 _ _ _ HQ1.out]; rfl, by rw [cell_of_row W1 Q 5 _ _ _ HQ1.out]; rfl, by rw [cell_of_row W1 Q 6 _ _ _ HQ1.out]; rfl⟩
 have hS2 : W2.cell? ⟨x, 2, none⟩ = some (.int .i64 (T.last : Int)) ∧ W2.cell? ⟨Q, 4, none⟩ = some (.int .i64 (pg : Int)) ∧ W2.cell? ⟨Q, 5, none⟩ = some (.int .i64 (off : Int)) ∧ W2.cell? ⟨Q, 6, none⟩ = some (.slice (some ⟨gb, 0, none⟩) n n) := ⟨HX2.out W2 B2', by rw [cell_of_row W2 Q 4 _ _ _ hQ21]; rfl, by rw [cell_of_row W2 Q 5 _ _ _ hQ21]; rfl, by rw [cell_of_row W2 Q 6 _ _ _ hQ21]; rfl⟩
 have hS3 : W3.cell? ⟨x, 2, none⟩ = some (.int .i64 (T.last : Int)) ∧ W3.cell? ⟨Q, 4, none⟩ = some (.int .i64 (pg : Int)) ∧ W3.cell? ⟨Q, 5, none⟩ = some (.int .i64 (off : Int)) ∧ W3.cell? ⟨Q, 6, none⟩ = some (.slice (some ⟨gb, 0, none⟩) n n) := ⟨HX2.out W3 B3, by rw [cell_of_row W3 Q 4 _ _ _ hQ3]; rfl, by rw [cell_of_row W3 Q 5 _ _ _ hQ3]; rfl, by rw [cell_of_row W3 Q 6 _ _ _ hQ3]; rfl⟩
 refine wp_region_held_drew (S := fun w' => w'.cell? ⟨x, 2, none⟩ = some (.int .i64 (T.last : Int)) ∧ w'.cell? ⟨Q, 4, none⟩ = some (.int .i64 (pg : Int)) ∧ w'.cell? ⟨Q, 5, none⟩ = some (.int .i64 (off : Int)) ∧ w'.cell? ⟨Q, 6, none⟩ = some (.slice (some ⟨gb, 0, none⟩) n n)) (by kernel_rfl) hS1 (fun hH => ?_)
 refine take_to 0 10 (.pointer (some ⟨x, 0, none⟩)) rfl (by kernel_rfl) (by kernel_rfl) (by kernel_rfl) (fun _ _ _ h => h) rfl (by rfl) (fun w hw => by rfl) hH ?_
 simp only [Act.put, zA, zB, zC]
 refine take_to 1 11 (.pointer (some ⟨x, 0, none⟩)) rfl (by kernel_rfl) (by kernel_rfl) (by kernel_rfl) (fun _ _ _ h => h) rfl (by rfl) (fun w hw => by rfl) hH ?_
 simp only [Act.put, zA, zB, zC]
 refine take_to 2 12 (.pointer (some ⟨x, 2, none⟩)) rfl (by kernel_rfl) (by kernel_rfl) (by kernel_rfl) (fun _ _ _ h => h) rfl (by rfl) (fun w hw => by rfl) hH ?_
 simp only [Act.put, zA, zB, zC]
 refine take_to 3 13 (.int .i64 (T.last : Int)) rfl (by kernel_rfl) (by kernel_rfl) (by kernel_rfl) (fun _ _ _ h => h) rfl (by rfl) (fun w hw => op_load _ _ 3 (.tmp 12) rfl (.pointer (some ⟨x, 2, none⟩)) _ rfl (run_loadAny w x 2 3 _ Tryz.isAgg3 hw.1)) hH ?_
 simp only [Act.put, zA, zB, zC]
 refine take_to 4 14 (.pointer (some ⟨Q, 4, none⟩)) rfl (by kernel_rfl) (by kernel_rfl) (by kernel_rfl) (fun _ _ _ h => h) rfl (by rfl) (fun w hw => by rfl) hH ?_
 simp only [Act.put, zA, zB, zC]
 refine take_to 5 15 (.int .i64 (pg : Int)) rfl (by kernel_rfl) (by kernel_rfl) (by kernel_rfl) (fun _ _ _ h => h) rfl (by rfl) (fun w hw => op_load _ _ 3 (.tmp 14) rfl (.pointer (some ⟨Q, 4, none⟩)) _ rfl (run_loadAny w Q 4 3 _ Tryz.isAgg3 hw.2.1)) hH ?_
 simp only [Act.put, zA, zB, zC]
 refine take_to 6 16 (.pointer (some ⟨Q, 5, none⟩)) rfl (by kernel_rfl) (by kernel_rfl) (by kernel_rfl) (fun _ _ _ h => h) rfl (by rfl) (fun w hw => by rfl) hH ?_
 simp only [Act.put, zA, zB, zC]
 refine take_to 7 17 (.int .i64 (off : Int)) rfl (by kernel_rfl) (by kernel_rfl) (by kernel_rfl) (fun _ _ _ h => h) rfl (by rfl) (fun w hw => op_load _ _ 3 (.tmp 16) rfl (.pointer (some ⟨Q, 5, none⟩)) _ rfl (run_loadAny w Q 5 3 _ Tryz.isAgg3 hw.2.2.1)) hH ?_
 simp only [Act.put, zA, zB, zC]
 refine take_to 8 18 (.pointer (some ⟨Q, 6, none⟩)) rfl (by kernel_rfl) (by kernel_rfl) (by kernel_rfl) (fun _ _ _ h => h) rfl (by rfl) (fun w hw => by rfl) hH ?_
 simp only [Act.put, zA, zB, zC]
 refine take_to 9 19 (.slice (some ⟨gb, 0, none⟩) n n) rfl (by kernel_rfl) (by kernel_rfl) (by kernel_rfl) (fun _ _ _ h => h) rfl (by rfl) (fun w hw => op_load _ _ 36 (.tmp 18) rfl (.pointer (some ⟨Q, 6, none⟩)) _ rfl (run_loadAny w Q 6 36 _ Tryz.isAgg36 hw.2.2.2)) hH ?_
 simp only [Act.put, zA, zB, zC]
 refine take_to 10 20 (.agg #[.int .i64 3, .int .i64 0, .int .i64 0, .int .i64 (T.last : Int), .int .i64 (pg : Int), .int .i64 (off : Int), .slice none 0 0, .slice (some ⟨gb, 0, none⟩) n n, .slice none 0 0, .slice none 0 0, .int .i64 0]) rfl (by kernel_rfl) (by kernel_rfl) (by kernel_rfl) (fun _ _ _ h => h) rfl (by rfl) (fun w hw => by kernel_rfl) hH ?_
 simp only [Act.put, zA, zB, zC]
 refine step_to 11 7 (.pointer (some ⟨Q2, 0, none⟩)) W2 rfl (by kernel_rfl) rfl (by rfl) (HAL.out _ _ rfl) hS2 ?_
 simp only [Act.put, zA, zB, zC]
 refine step_store_to 12 W3 rfl (by kernel_rfl) rfl (by rfl) 69 (.tmp 7) (.tmp 20) rfl (.pointer (some ⟨Q2, 0, none⟩)) (.agg #[.int .i64 3, .int .i64 0, .int .i64 0, .int .i64 (T.last : Int), .int .i64 (pg : Int), .int .i64 (off : Int), .slice none 0 0, .slice (some ⟨gb, 0, none⟩) n n, .slice none 0 0, .slice none 0 0, .int .i64 0]) rfl rfl HST.out hS3 ?_
 refine wpAnyH_done (by kernel_rfl) ?_ _
 have lt3 : Q2 < W3.heap.size := (Array.getElem?_eq_some_iff.1 g3).1
 have hK3 : ∀ W, Below W3.heap.size W3 W → W.heap[Q]? = some (.cells #[.int .i64 2, .int .i64 0, .int .i64 0, .int .i64 0, .int .i64 (pg : Int), .int .i64 (off : Int), .slice (some ⟨gb, 0, none⟩) n n, .slice (some ⟨ga, oa, none⟩) n ca, .slice none 0 0, .slice none 0 0, .int .i64 0] 69 (0, 0)) ∧ W.heap[Q2]? = some (.cells #[.int .i64 3, .int .i64 0, .int .i64 0, .int .i64 (T.last : Int), .int .i64 (pg : Int), .int .i64 (off : Int), .slice none 0 0, .slice (some ⟨gb, 0, none⟩) n n, .slice none 0 0, .slice none 0 0, .int .i64 0] 69 (0, 0)) := fun W hW => ⟨(hW.block Q (by omega)).trans hQ3, (hW.block Q2 lt3).trans g3⟩
 have HB3 := hide B3
 have HSZ1 := hide (fun d => Enc.size_any (HREC.out (W3.drewN d) (B3.trans (below_drewN Q W3 d))) (by rw [HS1.out]; omega))
 have HSZ2 := hide (fun W (hW : Below W3.heap.size W3 W) => Enc.size_any (HREC2.out W (B3.trans (hW.mono (by have := B3.size; have := HQ.out; omega)))) (by rw [HS2.out]; omega))
 have HMK := hide (fun W (hW : Below W3.heap.size W3 W) => HMK0.out W (B3.trans (hW.mono (by have := B3.size; have := HQ.out; omega))))
 rw [HS1.out] at HSZ1
 rw [HS2.out] at HSZ2
 have hadd : IntKind.i64.wrap (((96 + n + n : Nat) : Int) + ((96 + n : Nat) : Int)) = ((192 + 3 * n : Nat) : Int) := by rw [IntKind.wrap_i64]; omega
 have HQ2E := hide hQ2
 clear hS1 hS2 hS3 hH hW2 hW3 b2 b3 g2 HST HAL B2' hQ21 HMK0 hQ2
 go_wp2_with fail
 refine wp_region_held_drew (S := fun w' => w'.heap[Q]? = some (.cells #[.int .i64 2, .int .i64 0, .int .i64 0, .int .i64 0, .int .i64 (pg : Int), .int .i64 (off : Int), .slice (some ⟨gb, 0, none⟩) n n, .slice (some ⟨ga, oa, none⟩) n ca, .slice none 0 0, .slice none 0 0, .int .i64 0] 69 (0, 0)) ∧ w'.heap[Q2]? = some (.cells #[.int .i64 3, .int .i64 0, .int .i64 0, .int .i64 (T.last : Int), .int .i64 (pg : Int), .int .i64 (off : Int), .slice none 0 0, .slice (some ⟨gb, 0, none⟩) n n, .slice none 0 0, .slice none 0 0, .int .i64 0] 69 (0, 0))) (by kernel_rfl) ⟨hQ3, g3⟩ (fun hH => ?_)
 refine take_to 0 21 (.pointer (some ⟨s, 0, none⟩)) rfl (by kernel_rfl) (by kernel_rfl) (by kernel_rfl) (fun _ _ _ h => h) rfl (by rfl) (fun w hw => by rfl) hH ?_
 simp only [Act.put, zA, zB, zC]
 refine take_to 1 22 (.agg #[.int .i64 2, .int .i64 0, .int .i64 0, .int .i64 0, .int .i64 (pg : Int), .int .i64 (off : Int), .slice (some ⟨gb, 0, none⟩) n n, .slice (some ⟨ga, oa, none⟩) n ca, .slice none 0 0, .slice none 0 0, .int .i64 0]) rfl (by kernel_rfl) (by kernel_rfl) (by kernel_rfl) (fun _ _ _ h => h) rfl (by rfl) (fun w hw => op_load _ _ 69 (.tmp 5) rfl (.pointer (some ⟨Q, 0, none⟩)) _ rfl (Enc.run_load69 w Q _ rfl hw.1)) hH ?_
 simp only [Act.put, zA, zB, zC]
 refine take_to 3 24 (.agg #[.int .i64 3, .int .i64 0, .int .i64 0, .int .i64 (T.last : Int), .int .i64 (pg : Int), .int .i64 (off : Int), .slice none 0 0, .slice (some ⟨gb, 0, none⟩) n n, .slice none 0 0, .slice none 0 0, .int .i64 0]) rfl (by kernel_rfl) (by kernel_rfl) (by kernel_rfl) (fun _ _ _ h => h) rfl (by rfl) (fun w hw => op_load _ _ 69 (.tmp 7) rfl (.pointer (some ⟨Q2, 0, none⟩)) _ rfl (Enc.run_load69 w Q2 _ rfl hw.2)) hH ?_
 simp only [Act.put, zA, zB, zC]
 refine step_call1_to 2 23 29 rfl (by kernel_rfl) rfl (by rfl) (.tmp 22) _ rfl _ rfl Tryz.enters29 (HSZ1.out 1) ?_
 rintro e W4 ⟨rfl, hW4⟩
 have b4 : Below W3.heap.size W3 W4 := by rw [hW4]; exact (below_drewN _ W3 1).alloc (Nat.le_refl _) _
 have hS4 := hK3 W4 b4
 clear hW4
 refine ⟨_, rfl, hS4, ?_⟩
 simp only [Act.put, zA, zB, zC]
 refine step_call1_to 4 25 29 rfl (by kernel_rfl) rfl (by rfl) (.tmp 24) _ rfl _ rfl Tryz.enters29 (HSZ2.out W4 b4) ?_
 rintro e W5 ⟨rfl, hW5⟩
 have b5 : Below W3.heap.size W3 W5 := b4.trans ((by rw [hW5]; exact (Below.refl _ W4).alloc (Nat.le_refl _) _ : Below W4.heap.size W4 W5).mono b4.size)
 have hS5 := hK3 W5 b5
 clear hW5
 refine ⟨_, rfl, hS5, ?_⟩
 simp only [Act.put, zA, zB, zC]
 refine step_to 5 26 (.int .i64 ((192 + 3 * n : Nat) : Int)) W5 rfl (by kernel_rfl) rfl (by rfl) (op_add3 _ _ _ _ _ rfl ((96 + n + n : Nat) : Int) ((96 + n : Nat) : Int) rfl rfl _ hadd) hS5 ?_
 simp only [Act.put, zA, zB, zC]
 refine step_call2_to 6 27 28 rfl (by kernel_rfl) rfl (by rfl) (.tmp 21) (.tmp 26) _ rfl _ _ rfl rfl Tryz.enters28 (HMK.out W5 b5) ?_
 rintro e W6 ⟨rfl, hb6⟩
 have b6 : Below W3.heap.size W3 W6 := b5.trans (hb6.mono b5.size)
 have hS6 := hK3 W6 b6
 refine ⟨_, rfl, hS6, ?_⟩
 simp only [Act.put, zA, zB, zC]
 refine step_to 7 8 (.int .i64 60) W6 rfl (by kernel_rfl) rfl (by rfl) (rfl) hS6 ?_
 simp only [Act.put, zA, zB, zC]
 refine wpAnyH_done (by kernel_rfl) ?_ _
 have B6 : Below Q w W6 := HB3.out.trans (b6.mono (by have := HB3.out.size; have := HQ.out; omega))
 have hQ6 := hS6.1
 have hQ26 := hS6.2
 have HEND := hide B6
 clear hS6 b6 b5 b4 hb6 hS5 hS4
 go_wp2
 go_ret
 exact ⟨rfl, by rw [HQ.out]; exact HEND.out⟩
end
end Go.Proofs.YteeembildppgmaaGreat
