/- hold. -/
import Derived.Test.YtffjdjbjkjefoaaHldP
namespace Go.Proofs.Ytffjdjbjkjefoaa
open Go.RowKit Go.WideAt
set_option linter.unusedVariables false
set_option linter.unusedSimpArgs false

theorem Try.info9 : (Try.prog.info? 9).map (fun i => (i.zero, i.size, i.bytes)) = some (some (.string ⟨#[]⟩), 1, 16) := by kernel_rfl
theorem clone_any (s : List UInt8) (hs : NameOk s) (w : World) : Calls Try.prog 30 #[scell s] w fun e w' => e = .returned (scell s) ∧ Below w.heap.size w w' := by
  have HC := hide (Try.stringslite_Clone (strOf s) w (by show s.toArray.size ≤ _; rw [List.size_toArray]; exact hs))
  go_enter Try.func30, Try.ntmps30
  go_wp2_with (go_at_call 43; refine HC.out.mono ?_; rintro e w' ⟨rfl, hw⟩)
  go_ret
  exact ⟨rfl, hw⟩
theorem buildStr (x : ByteArray) (w : World) : (Instr.buildSlice 61 1 #[(0, .string x)]).run Try.prog w = .ok (.slice (some ⟨w.heap.size, 0, none⟩) 1 1) (w.alloc (.cells #[.string x] 9)) := by
  kernel_rfl
theorem run_append_name {w : World} {base : Nat} {v : Value} {n : Nat} {xs : List Value} (h : w.ownsRow base 9 1 v n xs) (ty g : Nat) (u : Value) (hu : u.oneCell' = true) (hg : w.heap[g]? = some (.cells #[u] 9 (0, 0))) (hn : n < 5864062014805) (hb : base ≤ w.heap.size) :
    ∃ v' w', (Builtin.append_ #[61, 61] ty #[v, .slice (some ⟨g, 0, none⟩) 1 1]).run Try.prog w = .ok v' w' ∧ w'.ownsRow base 9 1 v' (n + 1) (xs ++ [u]) ∧ w.grownBy w' v.ownBlock ∧ (v'.ownBlock = v.ownBlock ∨ v'.ownBlock = some w.heap.size) := by
  obtain ⟨i, hi, hz⟩ := Option.map_eq_some_iff.1 Try.info9
  simp only [Prod.mk.injEq] at hz
  obtain ⟨hz, hsize, hby⟩ := hz
  have hmax : n + 1 ≤ maxLen := by simp only [maxLen]; omega
  obtain ⟨v', w', h1, h2, h3, h4, h5⟩ := run_append_own_at (P := Try.prog) w base 61 ty 9 i _ 1 16 Try.underlying61 hi hz hsize hby rfl (by omega) v n xs h ⟨g, 0, none⟩ 1 1 [u] (by simp) (fun j x hx => by
    cases j with
    | zero =>
      simp at hx
      subst hx
      rw [Addr.add_mid, cell_row hg]
      rfl
    | succ j => simp at hx) (by simpa using hu) hmax (by omega) hb
  exact ⟨v', w', h1, h2, h3, h5⟩
theorem TabIs.lookOf {w : World} {base : Nat} {B : Tb} {m : Held} {N : Nat} (h : TabIs w base B m N) {x : Int} (hx : In64 x) : (Instr.lookup 54 (.map (some B.bf)) (.int .i64 x) false).run Try.prog w = .ok ((B.of x).getD (.slice none 0 0)) w := h.hof.look keyed3 Try.underlying54 (zero61 w) (key3 hx)
theorem TabIs.row {w : World} {base : Nat} {B : Tb} {m : Held} {N : Nat} (h : TabIs w base B m N) (x : Int) : w.ownsRow base 9 1 ((B.of x).getD (.slice none 0 0)) (B.nm x).length ((B.nm x).map scell) := by
  cases hx : B.of x with
  | none =>
    rw [h.nrow x hx]
    exact ⟨rfl, .inl ⟨rfl, rfl⟩⟩
  | some v => exact h.rows x v hx
theorem op_append (ρ : Operand → Value) (o : Oper) (x y : Operand) (t : TypeId) (ho : o.op = .call { callee := .builtin .append, args := #[x, y], argTypes := #[t, t] }) (px py v : Value) (hx : ρ x = px) (hy : ρ y = py) {P : Program} {w w' : World} (hr : (Builtin.append_ #[t, t] o.type #[px, py]).run P w = .ok v w') : (execOp ρ o).run P w = .ok (.value v) w' := by
  unfold execOp
  simp [ho, hx, hy, resolve, invoke, builtin, hr, Result.andThen]
theorem op_bslice (ρ : Operand → Value) (o : Oper) (t : TypeId) (x : Operand) (ho : o.op = .buildSlice t 1 #[(0, x)]) (px v : Value) (hx : ρ x = px) {P : Program} {w w' : World} (hr : (Instr.buildSlice t 1 #[(0, px)]).run P w = .ok v w') : (execOp ρ o).run P w = .ok (.value v) w' := by
  unfold execOp
  simp [ho, hx, hr, Result.andThen]
/-- Two operations that come up together: one reads, one makes memory. -/
theorem step_two {P : Program} {ops : Array Oper} {Q : Exit → Act → World → Prop} {md : Region.Mode} {S : World → Prop} {oi oj : Oper} {fuel : Nat} {listed : Array Bool} {a : Act} {w : World} (i j di dj : Nat) (v1 v2 : Value) (w2 : World) (hi : ops[i]? = some oi) (hj : ops[j]? = some oj)
    (hij : i ≠ j) (hdd : di ≠ dj) (hr : Region.ready md ops listed = [i, j]) (hr1 : Region.ready md ops (listed.setIfInBounds i true) = [j]) (hr2 : Region.ready md ops (listed.setIfInBounds j true) = [i])
    (hd1 : oi.dst = some di) (hd2 : oj.dst = some dj) (w1a : Region.wanted oi (yielded ops a.tmps) = true) (w1b : Region.wanted oj (yielded ops (a.put (some di) v1).tmps) = true) (w2a : Region.wanted oj (yielded ops a.tmps) = true) (w2b : Region.wanted oi (yielded ops (a.put (some dj) v2).tmps) = true)
    (y1 : (execOp a.eval oi).run P w = .ok (.value v1) w) (y2 : (execOp (a.put (some di) v1).eval oj).run P w = .ok (.value v2) w2) (y3 : (execOp a.eval oj).run P w = .ok (.value v2) w2) (y4 : (execOp (a.put (some dj) v2).eval oi).run P w2 = .ok (.value v1) w2)
    (hS : S w) (hS2 : S w2) (h : wpAnyH P md ops Q S fuel ((listed.setIfInBounds i true).setIfInBounds j true) ((a.put (some di) v1).put (some dj) v2) w2) : wpAnyH P md ops Q S (fuel + 2) listed a w := by
  refine wpAnyH_ready hr (by simp) (AllReadyH.cons hi (fun K hK => ?_) (AllReadyH.cons hj (fun K hK => ?_) AllReadyH.nil))
  · rw [if_pos w1a]
    unfold Oper.wp
    rw [y1, Oper.upon_value, hd1]
    exact hK.out _ _ hS (fun _ => step_to j dj v2 w2 hj hr1 hd2 w1b y2 hS2 h)
  · rw [if_pos w2a]
    unfold Oper.wp
    rw [y3, Oper.upon_value, hd2]
    refine hK.out _ _ hS2 (fun _ => step_to i di v1 w2 hi hr2 hd1 w2b y4 hS2 ?_)
    have e1 : (listed.setIfInBounds j true).setIfInBounds i true = (listed.setIfInBounds i true).setIfInBounds j true := Array.setIfInBounds_comm _ _ hij.symm
    have e2 : (a.put (some dj) v2).put (some di) v1 = (a.put (some di) v1).put (some dj) v2 := by
      simp only [Act.put]
      rw [Array.setIfInBounds_comm _ _ hdd.symm]
    rw [e1, e2]
    exact h
theorem eqlMap (x : Nat) (w : World) : (binOp .eql 63 (.map (some x)) (.map none)).run Try.prog w = .ok (.bool false) w := by kernel_rfl
theorem eqlNil (w : World) : (binOp .eql 63 (.map none) (.map none)).run Try.prog w = .ok (.bool true) w := by kernel_rfl
set_option maxHeartbeats 2000000 in
set_option maxRecDepth 100000 in
theorem hold_any {w : World} {base : Nat} {B : Tb} {m : Held} {N : Nat} (hT : TabIs w base B m N) (hN : N < 281474976710656) {id : Int} (hid : In64 id) {s : List UInt8} (hs : NameOk s) {md : Int} (hmd : isMode md = true) (hL : m id s = none → (B.nm id).length < 5864062014805) :
    Calls Try.prog 29 #[.pointer (some ⟨B.t, 0, none⟩), .int .i64 id, scell s, .int .i64 md] w fun e w' => e = .returned (.tuple #[]) ∧ ∃ B', TabIs w' base B' (updH m id s md) (N + 1) ∧ Moves B B' w w' := by
  have HT := hide hT
  have HN := hide hL
  have HNM : Hid (N < maxLen) := by
    have : 281474976710656 ≤ maxLen := by decide
    exact Nat.lt_of_lt_of_le hN this
  have HCL := hide (clone_any s hs)
  have c0 := hT.cells0
  have HL0 := hide (hT.lookOn hs)
  have HL1 := hide (hT.lookInOk s hid)
  clear hT hN hL
  cases hm : m id s with
  | some h0 =>
    obtain ⟨b, hb⟩ : ∃ b, B.on s = some b := by
      cases hb : B.on s with
      | none => rw [HT.out.non s hb id] at hm; cases hm
      | some b => exact ⟨b, rfl⟩
    have HHB := hide hb
    rw [hm] at HL1
    have HLX : Hid ((Instr.lookup 53 (.map (some B.bo)) (scell s) false).run Try.prog w = .ok (.map (some b)) w) := by
      have := HL0.out
      unfold onV at this
      rwa [hb] at this
    obtain ⟨w6, q1, q2, q3⟩ := (HT.out.inner s b hb).store keyed3 Try.underlying63 HNM.out (key3 hid) (.int .i64 md)
    rw [updH_inner] at q2
    have hL1 : (Instr.lookup 63 (.map (some b)) (.int .i64 id) true).run Try.prog w = .ok (.tuple #[.int .i64 h0, .bool true]) w := by
      have := HL1.out
      unfold onV at this
      rwa [hb] at this
    have HL2 := hide hL1
    have HQ2 := hide q2
    have HQ3 := hide q3
    clear q2 q3 hL1 HL1 HL0
    have heq := eqlMap b w
    go_enter Try.func29, Try.ntmps29
    go_wp2_with (first
      | (refine wpList_look rfl 53 _ _ false rfl _ _ _ rfl rfl HLX.out ?_)
      | (refine wpList_look rfl 63 _ _ true rfl _ _ _ rfl rfl HL2.out ?_)
      | (refine wpList_update rfl 63 _ _ _ rfl _ _ _ w6 rfl rfl rfl q1 ?_))
    go_end0
    refine ⟨rfl, B, HT.out.set hid hs hmd (by rw [hm]; simp) HHB.out HQ2.out HQ3.out, ?_⟩
    exact ⟨HQ3.out.os, HQ3.out.tape, HQ3.out.output, HQ3.out.size, rfl, fun k hk hn => HQ3.out.block k hk (by intro e; injection e with e; exact hn (.inr (.inr (.inl ⟨s, by rw [e]; exact HHB.out⟩)))), fun k hk => .inl hk⟩
  | none =>
    rw [hm] at HL1
    have HHM := hide hm
    clear hm
    go_enter Try.func29, Try.ntmps29
    go_upto_region 3 with (first
      | (refine wpList_look rfl 53 _ _ false rfl _ _ _ rfl rfl HL0.out ?_)
      | (refine wpList_look rfl 63 _ _ true rfl _ _ _ rfl rfl HL1.out ?_)
      | (go_at_call 30; refine (HCL.out _).mono ?_; rintro e w1 ⟨rfl, hw1⟩; have HW1 := hide hw1; clear hw1))
    have HT1 : Hid (TabIs w1 base B m N) := HT.out.belowW HW1.out
    refine wp_region_held_drew (S := fun w' => w'.cell? ⟨B.t, 1, none⟩ = some (.map (some B.bf))) (by kernel_rfl) (HT1.out.belowW (below_drewN _ _ 1)).cells1 (fun hH => ?_)
    refine take_to 0 25 (.pointer (some ⟨B.t, 0, none⟩)) rfl (by kernel_rfl) (by kernel_rfl) (by kernel_rfl) (fun _ _ _ h => h) rfl (by rfl) (fun w hw => by rfl) hH ?_
    simp only [Act.put, List.setIfInBounds_toArray, List.set_cons_zero, List.set_cons_succ]
    refine take_to 1 26 (.pointer (some ⟨B.t, 0, none⟩)) rfl (by kernel_rfl) (by kernel_rfl) (by kernel_rfl) (fun _ _ _ h => h) rfl (by rfl) (fun w hw => by rfl) hH ?_
    simp only [Act.put, List.setIfInBounds_toArray, List.set_cons_zero, List.set_cons_succ]
    refine take_to 2 27 (.pointer (some ⟨B.t, 1, none⟩)) rfl (by kernel_rfl) (by kernel_rfl) (by kernel_rfl) (fun _ _ _ h => h) rfl (by rfl) (fun w hw => by rfl) hH ?_
    simp only [Act.put, List.setIfInBounds_toArray, List.set_cons_zero, List.set_cons_succ]
    refine take_to 3 28 (.map (some B.bf)) rfl (by kernel_rfl) (by kernel_rfl) (by kernel_rfl) (fun _ _ _ h => h) rfl (by rfl) (fun w hw => op_load _ _ 54 (.tmp 27) rfl (.pointer (some ⟨B.t, 1, none⟩)) _ rfl (run_loadAny w B.t 1 54 _ Try.isAgg54 hw)) hH ?_
    simp only [Act.put, List.setIfInBounds_toArray, List.set_cons_zero, List.set_cons_succ]
    refine take_to 4 29 (.int .i64 id) rfl (by kernel_rfl) (by kernel_rfl) (by kernel_rfl) (fun _ _ _ h => h) rfl (by rfl) (fun w hw => by rfl) hH ?_
    simp only [Act.put, List.setIfInBounds_toArray, List.set_cons_zero, List.set_cons_succ]
    refine take_to 5 30 (.pointer (some ⟨B.t, 0, none⟩)) rfl (by kernel_rfl) (by kernel_rfl) (by kernel_rfl) (fun _ _ _ h => h) rfl (by rfl) (fun w hw => by rfl) hH ?_
    simp only [Act.put, List.setIfInBounds_toArray, List.set_cons_zero, List.set_cons_succ]
    refine take_to 6 31 (.pointer (some ⟨B.t, 0, none⟩)) rfl (by kernel_rfl) (by kernel_rfl) (by kernel_rfl) (fun _ _ _ h => h) rfl (by rfl) (fun w hw => by rfl) hH ?_
    simp only [Act.put, List.setIfInBounds_toArray, List.set_cons_zero, List.set_cons_succ]
    refine take_to 7 32 (.pointer (some ⟨B.t, 1, none⟩)) rfl (by kernel_rfl) (by kernel_rfl) (by kernel_rfl) (fun _ _ _ h => h) rfl (by rfl) (fun w hw => by rfl) hH ?_
    simp only [Act.put, List.setIfInBounds_toArray, List.set_cons_zero, List.set_cons_succ]
    refine take_to 8 33 (.map (some B.bf)) rfl (by kernel_rfl) (by kernel_rfl) (by kernel_rfl) (fun _ _ _ h => h) rfl (by rfl) (fun w hw => op_load _ _ 54 (.tmp 32) rfl (.pointer (some ⟨B.t, 1, none⟩)) _ rfl (run_loadAny w B.t 1 54 _ Try.isAgg54 hw)) hH ?_
    simp only [Act.put, List.setIfInBounds_toArray, List.set_cons_zero, List.set_cons_succ]
    refine take_to 9 34 (.int .i64 id) rfl (by kernel_rfl) (by kernel_rfl) (by kernel_rfl) (fun _ _ _ h => h) rfl (by rfl) (fun w hw => by rfl) hH ?_
    simp only [Act.put, List.setIfInBounds_toArray, List.set_cons_zero, List.set_cons_succ]
    refine take_to 11 36 (scell s) rfl (by kernel_rfl) (by kernel_rfl) (by kernel_rfl) (fun _ _ _ h => h) rfl (by rfl) (fun w hw => by rfl) hH ?_
    simp only [Act.put, List.setIfInBounds_toArray, List.set_cons_zero, List.set_cons_succ]
    have hT2 : TabIs w1.drew base B m N := HT1.out.belowW (below_drewN _ _ 1)
    have hB2 : Below w.heap.size w w1.drew := HW1.out.trans ((below_drewN _ _ 1))
    generalize w1.drew = w2 at *
    obtain ⟨v0, hv0⟩ : ∃ v0, (B.of id).getD (.slice none 0 0) = v0 := ⟨_, rfl⟩
    have hrow2 := hT2.row id
    have hlk2 := hT2.lookOf hid
    have hnl := hT2.names_le id
    rw [hv0] at hrow2 hlk2
    have hbs := buildStr (strOf s) w2
    obtain ⟨w3, hw3⟩ : ∃ w3, w2.alloc (.cells #[.string (strOf s)] 9) = w3 := ⟨_, rfl⟩
    have hB3 : Below w2.heap.size w2 w3 := by rw [← hw3]; exact (Below.refl _ _).alloc (Nat.le_refl _) _
    have hnew : w3.heap[w2.heap.size]? = some (.cells #[.string (strOf s)] 9 (0, 0)) := by rw [← hw3]; exact heap_alloc_new _ _
    rw [hw3] at hbs
    have hT3 := hT2.belowW hB3
    have hrow3 := hT3.row id
    rw [hv0] at hrow3
    have hlk3 := hT3.lookOf hid
    rw [hv0] at hlk3
    have hbase : base ≤ w3.heap.size := Nat.le_of_lt (Nat.lt_of_le_of_lt hT3.low.1 (hT3.lt (.inl rfl)))
    obtain ⟨v4, w4, a1, a2, a3, a4⟩ := run_append_name hrow3 61 w2.heap.size (.string (strOf s)) rfl hnew (HN.out HHM.out) hbase
    have hvm : ∀ kk k n f, MapV w3 kk k n f → some k ≠ v0.ownBlock := fun kk k n f hM e => by
      obtain ⟨C, hC⟩ := row_block hrow3 e.symm
      exact map_ne_cells hM hC rfl
    have hvt : some B.t ≠ v0.ownBlock := fun e => by
      obtain ⟨C, hC⟩ := row_block hrow3 e.symm
      rw [hT3.cell] at hC
      cases hC
    have hof4 := hT3.hof.stay (w' := w4) (a3.block _ hT3.hof.lt (hvm _ _ _ _ hT3.hof))
    obtain ⟨w5, b1, b2, b3⟩ := hof4.store keyed3 Try.underlying54 HNM.out (key3 hid) v4
    have hbft : B.bf ≠ B.t := map_ne_cells hT3.hof hT3.cell
    have ht4 : w4.heap[B.t]? = some (.cells #[.map (some B.bo), .map (some B.bf)] 56 (0, 0)) := (a3.block _ (hT3.lt (.inl rfl)) hvt).trans hT3.cell
    have ht5 : w5.heap[B.t]? = some (.cells #[.map (some B.bo), .map (some B.bf)] 56 (0, 0)) := (b3.block _ (lt_of_heap ht4) (by intro e; injection e with e; exact hbft e.symm)).trans ht4
    have hc4 : w4.cell? ⟨B.t, 1, none⟩ = some (.map (some B.bf)) := by rw [cell_row ht4]; rfl
    have hc5 : w5.cell? ⟨B.t, 1, none⟩ = some (.map (some B.bf)) := by rw [cell_row ht5]; rfl
    refine step_two 10 12 35 37 v0 (.slice (some ⟨w2.heap.size, 0, none⟩) 1 1) w3 rfl rfl (by decide) (by decide) (by kernel_rfl) (by kernel_rfl) (by kernel_rfl) rfl rfl (by rfl) (by rfl) (by rfl) (by rfl)
      (op_lookup _ _ 54 (.tmp 33) (.tmp 34) false rfl _ _ _ rfl rfl hlk2) (op_bslice _ _ 61 (.tmp 36) rfl _ _ rfl hbs) (op_bslice _ _ 61 (.tmp 36) rfl _ _ rfl hbs) (op_lookup _ _ 54 (.tmp 33) (.tmp 34) false rfl _ _ _ rfl rfl hlk3) hT2.cells1 hT3.cells1 ?_
    simp only [Act.put, List.setIfInBounds_toArray, List.set_cons_zero, List.set_cons_succ]
    refine step_to 13 38 v4 w4 rfl (by kernel_rfl) rfl (by rfl) (op_append _ _ (.tmp 35) (.tmp 37) 61 rfl _ _ _ rfl rfl a1) hc4 ?_
    simp only [Act.put, List.setIfInBounds_toArray, List.set_cons_zero, List.set_cons_succ]
    refine step_map_to 14 w5 rfl (by kernel_rfl) rfl (by rfl) 54 (.tmp 28) (.tmp 29) (.tmp 38) rfl _ _ _ rfl rfl rfl b1 hc5 ?_
    refine wpAnyH_done (by kernel_rfl) ?_ _
    have c5 : w5.cell? ⟨B.t, 0, none⟩ = some (.map (some B.bo)) := by rw [cell_row ht5]; rfl
    have ho5 : Off (B.bf :: B.bo :: v0.ownBlock.toList) w w5 := (((Off.of_below hB2 _).trans (Off.of_below hB3 []) (by simp)).grown a3 (fun k e => .inl (by rw [e]; simp))).grown b3 (fun k e => .inl (by injection e with e; rw [e]; simp))
    have hmv5 : ∀ kk k n f, MapV w3 kk k n f → k ≠ B.bf → MapV w5 kk k n f := fun kk k n f hM hk => (hM.stay (w' := w4) (a3.block _ hM.lt (hvm _ _ _ _ hM))).stay (b3.block _ (Nat.lt_of_lt_of_le hM.lt a3.size) (by intro e; injection e with e; exact hk e))
    have hon5 := hmv5 _ _ _ _ hT3.hon hT3.two
    have hin5 : ∀ b, B.on s = some b → MapV w5 3 b N (ofI fun x => (m x s).map (Value.int .i64)) := fun b hb => hmv5 _ _ _ _ (hT3.inner s b hb) (hT3.apart s b hb).2
    have hrow5 : w5.ownsRow base 9 1 v4 ((B.nm id).length + 1) ((B.nm id).map scell ++ [scell s]) := owns_stay a2 fun k hk => b3.block k (a2.lt k hk).2 (by
      intro e
      injection e with e
      obtain ⟨C, hC⟩ := row_block a2 hk
      exact map_ne_cells hof4 hC e.symm)
    have hv5 : ∀ g, v4.ownBlock = some g → (∃ v0, B.of id = some v0 ∧ v0.ownBlock = some g) ∨ w.heap.size ≤ g := fun g hg => by
      rcases a4 with a4 | a4
      · rw [a4] at hg
        refine .inl ⟨v0, ?_, hg⟩
        cases hx : B.of id with
        | none => rw [hx] at hv0; subst hv0; cases hg
        | some v => rw [hx] at hv0; exact congrArg some hv0
      · rw [a4] at hg
        injection hg with hg
        have := hB2.size
        have := hB3.size
        omega
    have hfp : ∀ (b k : Nat), k ≠ B.bf → k ≠ B.bo → k ≠ b → (∀ v0, B.of id = some v0 → v0.ownBlock ≠ some k) → k ∉ b :: B.bf :: B.bo :: v0.ownBlock.toList := fun b k k1 k2 k3 k4 hk => by
      rcases List.mem_cons.1 hk with h | hk
      · exact k3 h
      · rcases List.mem_cons.1 hk with h | hk
        · exact k1 h
        · rcases List.mem_cons.1 hk with h | hk
          · exact k2 h
          · have hk' : v0.ownBlock = some k := by simpa using hk
            cases hx : B.of id with
            | none => rw [hx] at hv0; subst hv0; cases hk'
            | some v => rw [hx] at hv0; subst hv0; exact k4 _ hx hk'
    have hof5 : MapV w5 3 B.bf (N + 1) (ofI fun x => if x = id then some v4 else B.of x) := by rw [← ofI_upd]; exact b2
    have HOF := hide hof5
    have HON := hide hon5
    have HIN := hide hin5
    have HROW := hide hrow5
    have HV := hide hv5
    have HFP := hide hfp
    have HO := hide ho5
    have hsz5 : w.heap.size ≤ w5.heap.size := ho5.size
    have hbw5 : base ≤ w5.heap.size := by
      have := HT.out.low.1
      have := HT.out.lt (.inl rfl)
      omega
    clear hof5 hon5 hin5 hrow5 hv5 hfp ho5 hmv5 hc5 hc4 ht5 ht4 hbft b1 b2 b3 hof4 hvt hvm a1 a2 a3 a4 hbase hlk3 hrow3 hT3 hnew hB3 hw3 hbs hnl hlk2 hrow2 hT2 hB2 hH HL0 HL1 HW1 HT1 hv0
    cases hb : B.on s with
    | some b =>
      have HHB := hide hb
      have HLX : Hid ((Instr.lookup 53 (.map (some B.bo)) (scell s) false).run Try.prog w5 = .ok (.map (some b)) w5) := by
        have := HON.out.look keyed9 Try.underlying53 (zero63 w5) (key9 hs.max)
        unfold Hid scell
        rw [this]
        show Result.ok (((B.on s).map fun b => Value.map (some b)).getD (.map none)) w5 = _
        rw [hb]
        rfl
      obtain ⟨w6, q1, q2, q3⟩ := (HIN.out b hb).store keyed3 Try.underlying63 HNM.out (key3 hid) (.int .i64 md)
      rw [updH_inner] at q2
      have HQ2 := hide q2
      have HQ3 := hide q3
      have heq := eqlMap b w5
      clear q2 q3 hb
      go_wp2_with (first
        | (refine wpList_look rfl 53 _ _ false rfl _ _ _ rfl rfl HLX.out ?_)
        | (refine wpList_update rfl 63 _ _ _ rfl _ _ _ w6 rfl rfl rfl q1 ?_))
      go_end0
      have hb := HHB.out
      have hap := HT.out.apart s b hb
      have hbl6 : ∀ k, k < w5.heap.size → k ≠ b → w6.heap[k]? = w5.heap[k]? := fun k hk hn => HQ3.out.block k hk (by intro e; injection e with e; exact hn e)
      have ho6 : Off (b :: B.bf :: B.bo :: v0.ownBlock.toList) w w6 := (HO.out.mono (fun i hi => List.mem_cons_of_mem _ hi)).grown HQ3.out (fun k e => .inl (by injection e with e; rw [e]; simp))
      have hbl : ∀ k, k < w.heap.size → k ≠ B.bf → k ≠ B.bo → k ≠ b → (∀ v0, B.of id = some v0 → v0.ownBlock ≠ some k) → w6.heap[k]? = w.heap[k]? := fun k hk k1 k2 k3 k4 => ho6.block k hk (HFP.out b k k1 k2 k3 k4)
      refine ⟨rfl, B.with1 id s b v4, HT.out.held hid hs hmd HHM.out (.inl hb) HQ2.out (HOF.out.stay (hbl6 _ HOF.out.lt (Ne.symm hap.2))) ?_ (owns_stay HROW.out fun k hk => hbl6 k (HROW.out.lt k hk).2 (fun e => ?_)) HV.out hbl, moves_held HT.out ho6.os ho6.tape ho6.output ho6.size (.inl hb) HV.out hbl⟩
      · refine ((HON.out.mono (Nat.le_succ N)).stay (hbl6 _ HON.out.lt (Ne.symm hap.1))).ext fun kl hk => ?_
        cases kl with
        | string t =>
          show (B.on t).map _ = (if t = s then some b else B.on t).map _
          by_cases e : t = s
          · subst e; rw [if_pos rfl, hb]
          · rw [if_neg e]
        | _ => rfl
      · obtain ⟨C, hC⟩ := row_block HROW.out hk
        exact map_ne_cells (HIN.out b hb) hC e.symm
    | none =>
      have HHB := hide hb
      have HLX : Hid ((Instr.lookup 53 (.map (some B.bo)) (scell s) false).run Try.prog w5 = .ok (.map none) w5) := by
        have := HON.out.look keyed9 Try.underlying53 (zero63 w5) (key9 hs.max)
        unfold Hid scell
        rw [this]
        show Result.ok (((B.on s).map fun b => Value.map (some b)).getD (.map none)) w5 = _
        rw [hb]
        rfl
      have hmm := @run_makeMap Try.prog
      have hB6 : Below w5.heap.size w5 (w5.alloc (.map #[] 0)) := (Below.refl _ _).alloc (Nat.le_refl _) _
      have hM6 := MapV.made w5 3
      have hon6 := HON.out.stay (hB6.block _ HON.out.lt)
      obtain ⟨w7, r1, r2, r3⟩ := hon6.store keyed9 Try.underlying53 HNM.out (key9 hs.max) (.map (some w5.heap.size))
      rw [ofS_upd] at r2
      have hbo : B.bo < w5.heap.size := HON.out.lt
      have hM7 := hM6.stay (w' := w7) (r3.block _ hM6.lt (by intro e; injection e with e; omega))
      obtain ⟨w8, q1, q2, q3⟩ := hM7.store keyed3 Try.underlying63 (Nat.lt_of_le_of_lt (Nat.zero_le _) HNM.out) (key3 hid) (.int .i64 md)
      have HLY : Hid ((Instr.lookup 53 (.map (some B.bo)) (scell s) false).run Try.prog w7 = .ok (.map (some w5.heap.size)) w7) := by
        have := r2.look keyed9 Try.underlying53 (zero63 w7) (key9 hs.max)
        unfold Hid scell
        rw [this]
        show Result.ok ((if s = s then some (Value.map (some w5.heap.size)) else _).getD (.map none)) w7 = _
        rw [if_pos rfl]
        rfl
      have hc6 : (w5.alloc (.map #[] 0)).cell? ⟨B.t, 0, none⟩ = some (.map (some B.bo)) := (hB6.cell (p := ⟨B.t, 0, none⟩) (World.block_lt_of_cell? _ _ c5)).trans c5
      have htbo : B.t ≠ B.bo := fun e => map_ne_cells HT.out.hon HT.out.cell e.symm
      have c7 : w7.cell? ⟨B.t, 0, none⟩ = some (.map (some B.bo)) := (World.cell?_of_block (a := ⟨B.t, 0, none⟩) (r3.block B.t (World.block_lt_of_cell? _ _ hc6) (by intro e; injection e with e; exact htbo e))).trans hc6
      have HR2 := hide r2
      have HR3 := hide r3
      have HQ2 := hide q2
      have HQ3 := hide q3
      have HB6 := hide hB6
      have heq := eqlNil w5
      clear r2 r3 q2 q3 hb hB6 hM6 hon6 hM7 htbo
      go_wp2_with (first
        | (refine wpList_look rfl 53 _ _ false rfl _ _ _ rfl rfl HLX.out ?_)
        | (refine wpList_look rfl 53 _ _ false rfl _ _ _ rfl rfl HLY.out ?_)
        | (refine wpList_update rfl 53 _ _ _ rfl _ _ _ w7 rfl rfl rfl r1 ?_)
        | (refine wpList_update rfl 63 _ _ _ rfl _ _ _ w8 rfl rfl rfl q1 ?_))
      go_end0
      have hb := HHB.out
      obtain ⟨b, hbe⟩ : ∃ b, w5.heap.size = b := ⟨_, rfl⟩
      have hbl8 : ∀ k, k < w5.heap.size → k ≠ B.bo → w8.heap[k]? = w5.heap[k]? := fun k hk hn =>
        (HQ3.out.block k (Nat.lt_of_lt_of_le (Nat.lt_of_lt_of_le hk HB6.out.size) HR3.out.size) (by intro e; injection e with e; omega)).trans ((HR3.out.block k (Nat.lt_of_lt_of_le hk HB6.out.size) (by intro e; injection e with e; exact hn e)).trans (HB6.out.block k hk))
      have ho8 : Off (b :: B.bf :: B.bo :: v0.ownBlock.toList) w w8 := (((HO.out.mono (fun i hi => List.mem_cons_of_mem _ hi)).trans (Off.of_below HB6.out []) (by simp)).grown HR3.out (fun k e => .inl (by injection e with e; rw [e]; simp))).grown HQ3.out (fun k e => .inl (by injection e with e; rw [← e, hbe]; simp))
      have hbl : ∀ k, k < w.heap.size → k ≠ B.bf → k ≠ B.bo → k ≠ b → (∀ v0, B.of id = some v0 → v0.ownBlock ≠ some k) → w8.heap[k]? = w.heap[k]? := fun k hk k1 k2 k3 k4 => ho8.block k hk (HFP.out b k k1 k2 k3 k4)
      have hbb : B.on s = some b ∨ B.on s = none ∧ w.heap.size ≤ b ∧ base ≤ b := .inr ⟨hb, by omega, by omega⟩
      have hq8 : MapV w8 3 b (N + 1) (ofI fun x => (updH m id s md x s).map (Value.int .i64)) := by
        rw [← hbe]
        refine (HQ2.out.mono (by omega)).ext fun kl hk => ?_
        rw [← updH_inner]
        unfold updV
        by_cases e : kl = .int .i64 id
        · rw [if_pos e, if_pos e]
        · rw [if_neg e, if_neg e]
          cases kl with
          | int q x =>
            cases q <;> first | rfl | (show none = (m x s).map _; rw [HT.out.non s hb x]; rfl)
          | _ => rfl
      have hr8 : MapV w8 9 B.bo (N + 1) (ofS fun t => ((B.with1 id s b v4).on t).map fun b => .map (some b)) := by
        refine (HR2.out.stay (HQ3.out.block _ HR2.out.lt (by intro e; injection e with e; omega))).ext fun kl hk => ?_
        cases kl with
        | string t =>
          show (if t = s then some (Value.map (some w5.heap.size)) else (B.on t).map _) = (if t = s then some b else B.on t).map _
          by_cases e : t = s
          · rw [if_pos e, if_pos e, hbe]; rfl
          · rw [if_neg e, if_neg e]
        | _ => rfl
      refine ⟨rfl, B.with1 id s b v4, HT.out.held hid hs hmd HHM.out hbb hq8 (HOF.out.stay (hbl8 _ HOF.out.lt (Ne.symm HT.out.two))) hr8 (owns_stay HROW.out fun k hk => hbl8 k (HROW.out.lt k hk).2 (fun e => ?_)) HV.out hbl, moves_held HT.out ho8.os ho8.tape ho8.output ho8.size hbb HV.out hbl⟩
      obtain ⟨C, hC⟩ := row_block HROW.out hk
      exact map_ne_cells HON.out hC e.symm
end Go.Proofs.Ytffjdjbjkjefoaa
