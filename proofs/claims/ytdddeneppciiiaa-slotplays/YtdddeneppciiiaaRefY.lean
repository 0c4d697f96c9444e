/- The document's answer: a page's bytes. -/
import Derived.Test.YtdddeneppciiiaaRefB
import Derived.Deep.CutBlock
namespace Go.Proofs.Ytdddeneppciiiaa
open Go.RowKit
set_option linter.unusedVariables false
set_option linter.unusedSimpArgs false

def lenOfV : Value → Nat
  | .slice _ n _ => n
  | _ => 0
theorem byteCells_strOf (s : List UInt8) : byteCells (strOf s) = secCells s := rfl
/-- A string's bytes appended to nothing. -/
theorem run_append_str (w : World) (ty : TypeId) (s : List UInt8) (hs : s.length ≤ 100000) : ∃ v' w', (Builtin.append_ #[23, 9] ty #[.slice none 0 0, .string (strOf s)]).run Try.prog w = .ok v' w' ∧ w'.ownsRow w.heap.size 5 1 v' s.length (secCells s) ∧ Below w.heap.size w w' := by
  obtain ⟨i, hi, hz⟩ := Option.map_eq_some_iff.1 Try.info5
  simp only [Prod.mk.injEq] at hz
  obtain ⟨hz, hsize, hby⟩ := hz
  have hsrc : Src Try.prog i.size 9 (.string (strOf s)) s.length (secCells s) w := by
    have := Src.ofString (P := Try.prog) w Try.underlying9 (strOf s)
    rw [strOf_size, byteCells_strOf] at this
    rw [hsize]
    exact this
  by_cases h0 : s.length = 0
  · have hs0 : s = [] := List.eq_nil_of_length_eq_zero h0
    subst hs0
    refine ⟨.slice none 0 0, w, ?_, World.ownsRow_nil _ _ _ _, Below.refl _ _⟩
    have hc : (Builtin.firstCells i.size 0 (.string ByteArray.empty)).run Try.prog w = .ok #[] w := hsrc.cells
    have e : strOf [] = ByteArray.empty := rfl
    rw [e]
    simp [Builtin.append_, run_underlying Try.underlying23, run_underlying Try.underlying9, sizeOf, typeInfo, hi, hc, Builtin.lenOf]
  · have hold : (Builtin.firstCells i.size 0 (.slice none 0 0)).run Try.prog w.drew = .ok ([] : List Value).toArray w.drew := by simp [Builtin.firstCells]
    have hr := run_append_grow_src (P := Try.prog) w 23 9 ty 5 i (.int .u8 0) Try.underlying23 hi hz none 0 0 [] hold (.string (strOf s)) s.length (secCells s) hsrc (by omega) (by omega) (by rw [hby]; simp [Builtin.nextslicecap]; split <;> omega)
    refine ⟨_, _, hr, ?_, ?_⟩
    · have hge := grownCap_ge w (0 + s.length) 0 5
      have hcm : grownCap w (0 + s.length) 0 5 ≤ maxLen := grownCap_le_maxLen w (0 + s.length) 0 5 (by simp only [maxLen]; omega)
      rw [Nat.zero_add] at *
      refine ⟨by rw [length_secCells]; omega, .inr ⟨w.heap.size, _, _, rfl, Nat.le_refl _, heap_alloc_new w.drew _, hge, hcm, ?_, ?_⟩⟩
      · simp only [List.nil_append, Array.size_append, List.size_toArray, size_zeroCells, length_secCells]
        show s.length + (grownCap w s.length 0 5 - s.length) * 1 = _
        omega
      · simp only [List.nil_append, Array.toList_append, Nat.mul_one]
        rw [List.take_left' (by rw [length_secCells])]
    · exact ⟨rfl, rfl, rfl, by simp, fun k hk => Below.heap_alloc w.drew _ k hk⟩
theorem wpList_append_str {ops : Array Oper} {rest : List Oper} {o : Oper} {a : Act} {w : World} {Q : Exit → Act → World → Prop}
    (hg : o.guard = none) (s x : Operand) (hop : o.op = Op.call { callee := Callee.builtin Builtin.append, args := #[s, x], argTypes := #[23, 9] })
    (t : List UInt8) (hs : a.eval s = .slice none 0 0) (hy : a.eval x = .string (strOf t)) (ht : t.length ≤ 100000)
    (hK : ∀ v' w', w'.ownsRow w.heap.size 5 1 v' t.length (secCells t) → Below w.heap.size w w' → wpList Try.prog ops Q rest (a.put o.dst v') w') :
    wpList Try.prog ops Q (o :: rest) a w := by
  refine wpList_plain hg fun K hK' => ?_
  obtain ⟨v', w', hrun, r1, r2⟩ := run_append_str w o.type t ht
  unfold Oper.wp
  simp [execOp, hop, resolve, invoke, builtin, hs, hy, hrun, Result.andThen]
  exact hK' _ _ (hK v' w' r1 r2)
theorem Two.third {w0 w w' : World} {u v v8 : Value} {A B s : List UInt8} (h : Two w0 w u v A B) (ho : w'.ownsRow w.heap.size 5 1 v8 s.length (secCells s)) (hb : Below w.heap.size w w') : Two w0 w' u v8 A s :=
  ⟨h.below.trans (hb.mono h.below.size), owns_below h.one hb (Nat.le_refl _), owns_mono ho h.below.size, fun k hk hn => by
    have h1 := (h.one.lt k hk).2
    have h2 := (ho.lt k hn).1
    omega⟩
theorem Two.sl2 {w0 w : World} {u v : Value} {A B : List UInt8} (h : Two w0 w u v A B) : Sl w v B := Row.of_owns h.two
theorem Two.sl1 {w0 w : World} {u v : Value} {A B : List UInt8} (h : Two w0 w u v A B) : Sl w u A := Row.of_owns h.one
theorem Two.new {w0 w : World} {u : Value} {A : List UInt8} (hb : Below w0.heap.size w0 w) (h : w.ownsRow w0.heap.size 5 1 u A.length (secCells A)) : Two w0 w u (.slice none 0 0) A [] :=
  ⟨hb, h, World.ownsRow_nil _ _ _ _, fun k _ hn => by simp [Value.ownBlock] at hn⟩
/-- An append as one step of a region that draws. -/
theorem step_append_two {ops : Array Oper} {Q : Exit → Act → World → Prop} {md : Region.Mode} {S : World → Prop} {o : Oper} {fuel : Nat} {listed : Array Bool} {a : Act} {w : World} (j dst : Nat) (hj : ops[j]? = some o)
    (hr : Region.ready md ops listed = [j]) (hdst : o.dst = some dst) (hgd : o.guard = none) (s x : Operand) (hop : o.op = Op.call { callee := Callee.builtin Builtin.append, args := #[s, x], argTypes := #[23, 23] })
    (w0 : World) (u v y : Value) (A B C : List UInt8) (hs : a.eval s = u) (hy : a.eval x = y) (h : Two w0 w u v A B) (hx : Sl w y C) (hl : A.length + C.length ≤ 100000)
    (hK : ∀ u' w', Two w0 w' u' v (A ++ C) B → w.grownBy w' u.ownBlock → S w' ∧ wpAnyH Try.prog md ops Q S fuel (listed.setIfInBounds j true) (a.put (some dst) u') w') :
    wpAnyH Try.prog md ops Q S (fuel + 1) listed a w := by
  refine step_by j hj hr (fun K hK' => ?_)
  have hw : Region.wanted o (yielded ops a.tmps) = true := by simp [Region.wanted, hgd]
  rw [if_pos hw]
  obtain ⟨v', w', hrun, r1, r2, r3⟩ := run_append_two w w0.heap.size o.type u A.length (secCells A) h.one y C.length (secCells C) hx (length_secCells C) (one_secCells C) (by omega) h.below.size
  have hE : (execOp a.eval o).run Try.prog w = .ok (.value v') w' := by
    simp [execOp, hop, resolve, invoke, builtin, hs, hy, hrun, Result.andThen]
  unfold Oper.wp
  rw [hE, Oper.upon_value, hdst]
  have := hK v' w' (h.grow r1 r2 r3) r2
  exact hK' _ _ this.1 this.2
set_option maxHeartbeats 4000000 in
set_option maxRecDepth 100000 in
theorem rbytes_any {w : World} {ao : Option Addr} {c : Nat} {S : List Slt} (h : RSAt w (.slice ao S.length c) S) (nx : Nat) (hnx : nx < 4294967296) (hs : tsize S ≤ 504) :
    Calls Try.prog 33 #[.agg #[.int .i64 (nx : Int), .slice ao S.length c]] w fun e w' => ∃ v', e = .returned v' ∧ Sl w' v' (encN S.length nx S) ∧ Below w.heap.size w w' := by
  have hc2 : c ≤ 9223372036854775807 := by
    obtain ⟨ao', c', e, h1, h2⟩ := h.len
    injection e with e1 e2 e3
    simp only [maxLen] at h2
    omega
  have hL : 4 * S.length ≤ 504 := by unfold tsize at hs; omega
  have HTS : Hid (∀ k, k ≤ S.length → tsize (S.take k) ≤ 504) := fun k hk => Nat.le_trans (tsize_take_le S k hk) hs
  have HLN : Hid (∀ k, k < S.length → S.take (k + 1) = S.take k ++ [S.getD k none]) := fun k hk => by rw [List.take_succ_eq_append_getElem hk]; simp [hk]
  have HTK : Hid (∀ k, k ≤ S.length → (S.take k).length = k) := fun k hk => by rw [List.length_take]; omega
  have HTL : Hid (S.take S.length = S) := List.take_length
  have HBL : Hid (∀ k, k ≤ S.length → 6 + 4 * k + blen (S.take k) ≤ 504) := fun k hk => by have := HTS.out k hk; unfold tsize at this; rw [HTK.out k hk] at this; exact this
  have HTZ : Hid (tsize S = 6 + 4 * S.length + blen S) := rfl
  obtain ⟨w0, hw0⟩ : ∃ w0, w.alloc (.cells #[.int .i64 (nx : Int), .slice ao S.length c] 67) = w0 := ⟨_, rfl⟩
  have hbw : Below w.heap.size w w0 := by rw [← hw0]; exact (Below.refl _ _).alloc (Nat.le_refl _) _
  have hbox : w0.heap[w.heap.size]? = some (.cells #[.int .i64 (nx : Int), .slice ao S.length c] 67 (0, 0)) := by rw [← hw0]; exact heap_alloc_new w _
  have HRS := hide (h.below hbw)
  have HBW := hide hbw
  have HBOX := hide hbox
  have hbsz := lt_of_heap hbox
  clear h hbw hbox
  generalize hL0 : S.length = L at *
  go_enter Try.func33, Try.ntmps33
  go_upto_region 1 with fail
  try rw [hw0]
  clear hw0
  generalize hbs : w.heap.size = b at *
  have c0 : w0.cell? ⟨b, 0, none⟩ = some (.int .i64 (nx : Int)) := by rw [cell_row HBOX.out]; rfl
  have c1 : w0.cell? ⟨b, 1, none⟩ = some (.slice ao L c) := by rw [cell_row HBOX.out]; rfl
  refine wp_region_held_drew (S := fun w' => w'.cell? ⟨b, 0, none⟩ = some (.int .i64 (nx : Int)) ∧ w'.cell? ⟨b, 1, none⟩ = some (.slice ao L c)) (by kernel_rfl) ⟨c0, c1⟩ (fun hH => ?_)
  refine take_to 0 9 (.pointer (some ⟨b, 1, none⟩)) rfl (by kernel_rfl) (by kernel_rfl) (by kernel_rfl) (fun _ _ _ h => h) rfl (by rfl) (fun w hw => by rfl) hH ?_
  simp only [Act.put, List.setIfInBounds_toArray, List.set_cons_zero, List.set_cons_succ]
  refine take_to 1 10 (.slice ao L c) rfl (by kernel_rfl) (by kernel_rfl) (by kernel_rfl) (fun _ _ _ h => h) rfl (by rfl) (fun w hw => op_load _ _ 65 (.tmp 9) rfl (.pointer (some ⟨b, 1, none⟩)) _ rfl (run_loadAny w b 1 65 _ Try.isAgg65 hw.2)) hH ?_
  simp only [Act.put, List.setIfInBounds_toArray, List.set_cons_zero, List.set_cons_succ]
  refine take_to 2 11 (.int .i64 (L : Int)) rfl (by kernel_rfl) (by kernel_rfl) (by kernel_rfl) (fun _ _ _ h => h) rfl (by rfl) (fun w hw => op_len _ _ (.tmp 10) 65 71 Try.underlying65 rfl ao L c rfl) hH ?_
  simp only [Act.put, List.setIfInBounds_toArray, List.set_cons_zero, List.set_cons_succ]
  refine take_to 4 13 (.pointer (some ⟨b, 0, none⟩)) rfl (by kernel_rfl) (by kernel_rfl) (by kernel_rfl) (fun _ _ _ h => h) rfl (by rfl) (fun w hw => by rfl) hH ?_
  simp only [Act.put, List.setIfInBounds_toArray, List.set_cons_zero, List.set_cons_succ]
  refine take_to 5 14 (.int .i64 (nx : Int)) rfl (by kernel_rfl) (by kernel_rfl) (by kernel_rfl) (fun _ _ _ h => h) rfl (by rfl) (fun w hw => op_load _ _ 3 (.tmp 13) rfl (.pointer (some ⟨b, 0, none⟩)) _ rfl (run_loadAny w b 0 3 _ Try.isAgg3 hw.1)) hH ?_
  simp only [Act.put, List.setIfInBounds_toArray, List.set_cons_zero, List.set_cons_succ]
  refine step_call1_to 3 12 43 rfl (by kernel_rfl) rfl (by rfl) (.tmp 11) _ rfl _ rfl Try.enters43 (show Calls Try.prog 43 _ w0.drew (fun e w' => e = .returned (.slice (some ⟨w0.heap.size, 0, none⟩) 2 2) ∧ Blk w' w0.heap.size (be 2 L) ∧ Below w0.heap.size w0.drew w') from two_any L w0.drew (by omega)) ?_
  rintro e V1 ⟨rfl, hk1, hb1'⟩
  have hb1 : Below w0.heap.size w0 V1 := ⟨hb1'.os, hb1'.tape, hb1'.output, hb1'.size, hb1'.block⟩
  have s1 : V1.cell? ⟨b, 0, none⟩ = some (.int .i64 (nx : Int)) ∧ V1.cell? ⟨b, 1, none⟩ = some (.slice ao L c) := ⟨(hb1.cell hbsz).trans c0, (hb1.cell hbsz).trans c1⟩
  refine ⟨_, rfl, s1, ?_⟩
  simp only [Act.put, List.setIfInBounds_toArray, List.set_cons_zero, List.set_cons_succ]
  refine step_call1_to 6 15 44 rfl (by kernel_rfl) rfl (by rfl) (.tmp 14) _ rfl _ rfl Try.enters44 (four_any nx V1 (by omega)) ?_
  rintro e V2 ⟨rfl, hk2, hb2⟩
  have hz2 : w0.heap.size ≤ V1.heap.size := hb1.size
  have s2 : V2.cell? ⟨b, 0, none⟩ = some (.int .i64 (nx : Int)) ∧ V2.cell? ⟨b, 1, none⟩ = some (.slice ao L c) := ⟨(hb2.cell (show b < _ by omega)).trans s1.1, (hb2.cell (show b < _ by omega)).trans s1.2⟩
  have hk1' : Blk V2 w0.heap.size (be 2 L) := (hb2.block _ (lt_of_heap hk1)).trans hk1
  have hT : Two w0 V2 (.slice (some ⟨w0.heap.size, 0, none⟩) 2 2) (.slice none 0 0) (be 2 L) [] := Two.new (hb1.trans (hb2.mono hz2)) (own_blk (w0 := w0) hk1' (Nat.le_refl _) (by simp [length_be]))
  have hX : Sl V2 (.slice (some ⟨V1.heap.size, 0, none⟩) 4 4) (be 4 nx) := blk_sl hk2 (by simp [length_be])
  refine ⟨_, rfl, s2, ?_⟩
  simp only [Act.put, List.setIfInBounds_toArray, List.set_cons_zero, List.set_cons_succ]
  refine step_append_two 7 16 rfl (by kernel_rfl) rfl rfl (.tmp 12) (.tmp 15) rfl w0 _ _ _ _ _ _ rfl rfl hT hX (by simp [length_be]) (fun u3 V3 hT3 hg3 => ?_)
  have s3 : V3.cell? ⟨b, 0, none⟩ = some (.int .i64 (nx : Int)) ∧ V3.cell? ⟨b, 1, none⟩ = some (.slice ao L c) := ⟨(hT3.below.cell hbsz).trans c0, (hT3.below.cell hbsz).trans c1⟩
  refine ⟨s3, ?_⟩
  simp only [Act.put, List.setIfInBounds_toArray, List.set_cons_zero, List.set_cons_succ]
  refine step_to 8 3 (u3) V3 rfl (by kernel_rfl) rfl (by rfl) (rfl) s3 ?_
  simp only [Act.put, List.setIfInBounds_toArray, List.set_cons_zero, List.set_cons_succ]
  refine wpAnyH_done (by kernel_rfl) ?_ _
  have HT3 := hide hT3
  have HC := fun (W : World) (hb : Below w0.heap.size w0 W) => hide (show W.cell? ⟨b, 1, none⟩ = some (.slice ao L c) from (hb.cell hbsz).trans c1)
  clear hT3 hT hX hk1 hk1' hk2 hb1 hb1' hb2 hz2 s1 s2 s3 hg3 hH c0 c1
  go_wp2
  go_loopw [6, 3, 4, 5] (fun i u t v wr => ∃ k at' : Nat, k ≤ L ∧ i = .int .i64 (k : Int) ∧ t = .int .i64 (at' : Int) ∧ at' + blen (S.take k) = 504 ∧ Two w0 wr u v (be 2 L ++ be 4 nx ++ tab 504 (S.take k)) (body (S.take k))) (fun i _ _ _ _ => L - (intOf i).toNat)
  case atStart => exact ⟨0, 504, Nat.zero_le _, rfl, rfl, by simp [blen], by simpa [tab, body] using HT3.out⟩
  case round =>
    obtain ⟨k, at', hk, rfl, rfl, hat, hT⟩ := hrel
    have HTT := hide hT
    have HAT := hide hat
    have x1 := (HC wr hT.below).out
    have hla : (be 2 L ++ be 4 nx ++ tab 504 (S.take k)).length = 6 + 4 * k := by
      simp only [List.length_append, length_be, length_tab, HTK.out k hk]
    have hlb : (body (S.take k)).length = blen (S.take k) := length_body _
    have hbk := HBL.out k hk
    have HLA := hide hla
    have HLB := hide hlb
    have Hbk := hide hbk
    clear hT hat HT3 hla hlb hbk
    by_cases hlt : k < L
    · obtain ⟨g, o, hao, k1, k2⟩ := (HRS.out.below HTT.out.below).get k (by omega)
      have hg := World.block_lt_of_cell? wr _ k1
      subst hao
      have HE := hide (HLN.out k hlt)
      have HB1 := hide (HBL.out (k + 1) (by omega))
      cases hd : S.getD k none with
      | none =>
        rw [hd] at k1 k2
        rw [hd] at HE
        have HY1 : Hid (blen (S.take (k + 1)) = blen (S.take k)) := by rw [Hid, HE.out, blen_append]; simp [blen, slen]
        have HY2 : Hid (tab 504 (S.take (k + 1)) = tab 504 (S.take k) ++ [0, 0, 0, 0]) := by rw [Hid, HE.out, tab_append]; rfl
        have HY3 : Hid (body (S.take (k + 1)) = body (S.take k)) := by rw [Hid, HE.out, body_snoc]; rfl
        have k2 : wr.cell? ⟨g, o + k * 2 + 1, none⟩ = some (.string (strOf [])) := k2
        clear hd HE hL0
        go_upto_region 9 with fail
        have HTA := hide (HTT.out.belowW ((Below.refl _ _).alloc (Nat.le_refl _) (.cells #[.bool false, .string (strOf [])] 71)))
        clear k1 k2 x1 hg
        generalize wr.alloc (.cells #[.bool false, .string (strOf [])] 71) = W2 at *
        have hb4 := build4 0 0 0 0 W2
        have HTB := hide (HTA.out.belowW ((Below.refl _ _).alloc (Nat.le_refl _) (.cells #[.int .u8 0, .int .u8 0, .int .u8 0, .int .u8 0] 5)))
        have HX : Hid (Sl (W2.alloc (.cells #[.int .u8 0, .int .u8 0, .int .u8 0, .int .u8 0] 5)) (.slice (some ⟨W2.heap.size, 0, none⟩) 4 4) [0, 0, 0, 0]) := blk_sl (X := [0, 0, 0, 0]) (heap_alloc_new W2 _) (by simp)
        go_wp2_with (refine wpList_append_two rfl (.tmp 32) (.tmp 33) rfl w0 _ _ _ _ _ _ rfl rfl HTB.out HX.out (by rw [HLA.out]; simp; omega) ?_; intro u' W3 hT3 hg3)
        go_roundw
        case rel =>
          refine ⟨k + 1, at', by omega, by go_num, rfl, by rw [HY1.out]; exact HAT.out, ?_⟩
          rw [HY2.out, HY3.out, ← List.append_assoc]
          exact hT3
        case measure => simp [intOf]; omega
      | some d =>
        rw [hd] at k1 k2
        rw [hd] at HE
        have HY1 : Hid (blen (S.take (k + 1)) = blen (S.take k) + d.length) := by rw [Hid, HE.out, blen_append]; simp [blen, slen]
        have HY2 : Hid (tab 504 (S.take (k + 1)) = tab 504 (S.take k) ++ (be 2 (504 - blen (S.take k) - d.length) ++ be 2 (d.length + 1))) := by rw [Hid, HE.out, tab_append]; simp [tab]
        have HY3 : Hid (body (S.take (k + 1)) = d ++ body (S.take k)) := by rw [Hid, HE.out, body_snoc]; rfl
        have k2 : wr.cell? ⟨g, o + k * 2 + 1, none⟩ = some (.string (strOf d)) := k2
        have k1 : wr.cell? ⟨g, o + k * 2, none⟩ = some (.bool true) := k1
        have hds := strOf_size d
        obtain ⟨lo, hlo⟩ : ∃ lo, lo + d.length = at' := ⟨at' - d.length, by have := HAT.out; have := HB1.out; rw [HY1.out] at this; omega⟩
        have HLO : Hid (504 - blen (S.take k) - d.length = lo) := by have := HAT.out; rw [Hid]; omega
        have hlo5 : lo ≤ 504 := by have := HAT.out; omega
        have HDL : Hid (d.length ≤ 504) := by have := HAT.out; rw [Hid]; omega
        have hdl := HDL.out
        clear hd HE hL0
        have hsub : (at' : Int) - (d.length : Int) = (lo : Int) := by omega
        go_upto_region 11 with fail
        have HTA := hide (HTT.out.belowW ((Below.refl _ _).alloc (Nat.le_refl _) (.cells #[.bool true, .string (strOf d)] 71)))
        have hr2 : (wr.alloc (.cells #[.bool true, .string (strOf d)] 71)).heap[wr.heap.size]? = some (.cells #[.bool true, .string (strOf d)] 71 (0, 0)) := heap_alloc_new wr _
        clear k1 k2 x1 hg
        generalize wr.alloc (.cells #[.bool true, .string (strOf d)] 71) = W2 at *
        generalize wr.heap.size = rb at *
        have HTW := hide (two_any lo W2 (by omega))
        have HR2 := hide hr2
        clear hr2
        go_wp2_with fail
        refine HTW.out.mono ?_
        rintro e W3 ⟨rfl, hk3, hb3⟩
        have HT3 := hide (HTA.out.belowW hb3)
        have HX3 : Hid (Sl W3 (.slice (some ⟨W2.heap.size, 0, none⟩) 2 2) (be 2 lo)) := blk_sl hk3 (by simp [length_be])
        have HR3 := hide ((hb3.block _ (lt_of_heap HR2.out)).trans HR2.out)
        clear HTW hk3 hb3
        go_upto_region 12 with (refine wpList_append_two rfl (.tmp 40) (.tmp 42) rfl w0 _ _ _ _ _ _ rfl rfl HT3.out HX3.out (by rw [HLA.out]; simp [length_be]; omega) ?_; intro u4 W4 hT4 hg4)
        have HR4 := hide (grown_rec HT3.out.one hg4 HR3.out (by decide))
        have z4 : W4.cell? ⟨rb, 1, none⟩ = some (.string (strOf d)) := by rw [cell_row HR4.out]; rfl
        have HT4 := hide hT4
        have HTW := hide (two_any (d.length + 1) W4 (by omega))
        clear hT4 hg4 HX3 HT3 HR3 HR2 HTA
        have hd1 : ((d.length : Nat) : Int) + 1 = ((d.length + 1 : Nat) : Int) := by omega
        have HD1 := hide hd1
        clear hd1
        rw [← HD1.out] at HTW
        go_wp2_with fail
        refine HTW.out.mono ?_
        rintro e W5 ⟨rfl, hk5, hb5⟩
        have HT5 := hide (HT4.out.belowW hb5)
        have HX5 : Hid (Sl W5 (.slice (some ⟨W4.heap.size, 0, none⟩) 2 2) (be 2 (d.length + 1))) := blk_sl hk5 (by simp [length_be])
        have HR5 := hide ((hb5.block _ (lt_of_heap HR4.out)).trans HR4.out)
        clear HTW hk5 hb5 z4
        go_upto_region 14 with (refine wpList_append_two rfl (.tmp 44) (.tmp 49) rfl w0 _ _ _ _ _ _ rfl rfl HT5.out HX5.out (by rw [List.length_append, HLA.out]; simp [length_be]; omega) ?_; intro u6 W6 hT6 hg6)
        have HR6 := hide (grown_rec HT5.out.one hg6 HR5.out (by decide))
        have z6 : W6.cell? ⟨rb, 1, none⟩ = some (.string (strOf d)) := by rw [cell_row HR6.out]; rfl
        have HT6 := hide hT6
        clear hT6 hg6 HX5 HT5 HR5 HR4 HT4
        go_upto_region 15 with (refine wpList_append_str rfl (.tmp 51) (.tmp 53) rfl d rfl rfl (by omega) ?_; intro v8 W7 ho7 hb7)
        have HT7 := hide (HT6.out.third ho7 hb7)
        have HS7 := hide (HT6.out.sl2.belowW hb7)
        clear ho7 hb7 z6 HR6 HT6
        go_wp2_with (refine wpList_append_two rfl (.tmp 55) (.tmp 56) rfl w0 _ _ _ _ _ _ rfl rfl HT7.out.swap HS7.out (by rw [HLB.out]; have := Hbk.out; omega) ?_; intro u9 W9 hT9 hg9)
        go_roundw
        case rel =>
          refine ⟨k + 1, lo, by omega, by go_num, rfl, by rw [HY1.out]; have := HAT.out; omega, ?_⟩
          rw [HY2.out, HY3.out, HLO.out, ← List.append_assoc, ← List.append_assoc]
          exact hT9.swap
        case measure => simp [intOf]; omega
    · have hkL : k = L := by omega
      subst hkL
      rw [HTL.out] at HTT HLA HLB
      clear hL0
      go_wp2
      have hbb := Hbk.out
      rw [HTL.out] at hbb
      have hzz : tsize S = 6 + 4 * k + blen S := HTZ.out
      generalize hA0 : be 2 k ++ be 4 nx ++ tab 504 S = A0 at *
      obtain ⟨ub, cb, e2, _, _⟩ := HTT.out.sl2.len
      rw [HLB.out] at e2
      subst e2
      go_loopw [3] (fun u wx => ∃ (j : Nat) (ua : Option Addr) (ca : Nat), j ≤ 504 - tsize S ∧ u = .slice ua (6 + 4 * k + j) ca ∧ Two w0 wx u (.slice ub (blen S) cb) (A0 ++ List.replicate j 0) (body S)) (fun u _ => 504 - (lenOfV u))
      case atStart =>
        obtain ⟨ua, ca, e1, _, _⟩ := HTT.out.sl1.len
        rw [HLA.out] at e1
        exact ⟨0, ua, ca, Nat.zero_le _, by simpa using e1, by simpa using HTT.out⟩
      case round =>
        obtain ⟨j, ua, ca, hj, rfl, hT⟩ := hrel
        have HT := hide hT
        clear hT HTT
        by_cases hlt2 : j < 504 - tsize S
        · have hlI : ((6 + 4 * k + j : Nat) : Int) < 504 - ((blen S : Nat) : Int) := by omega
          have hb1 := build1 0
          have HTB : Hid (∀ W, Two w0 W (.slice ua (6 + 4 * k + j) ca) (.slice ub (blen S) cb) (A0 ++ List.replicate j 0) (body S) → Two w0 (W.alloc (.cells #[.int .u8 0] 5)) (.slice ua (6 + 4 * k + j) ca) (.slice ub (blen S) cb) (A0 ++ List.replicate j 0) (body S)) := fun W h => h.belowW ((Below.refl _ _).alloc (Nat.le_refl _) _)
          have HX : Hid (∀ W : World, Sl (W.alloc (.cells #[.int .u8 0] 5)) (.slice (some ⟨W.heap.size, 0, none⟩) 1 1) [0]) := fun W => blk_sl (X := [0]) (heap_alloc_new W _) (by simp)
          have HLL : Hid ((A0 ++ List.replicate j (0 : UInt8)).length = 6 + 4 * k + j) := by rw [Hid, List.length_append, HLA.out, List.length_replicate]
          have hj5 : j ≤ 504 := by omega
          go_wp2_with (refine wpList_append_two rfl (.tmp 64) (.tmp 65) rfl w0 _ _ _ _ _ _ rfl rfl (HTB.out _ HT.out) (HX.out _) (by rw [HLL.out]; simp; omega) ?_; intro u' W3 hT3 hg3)
          go_roundw
          case rel =>
            obtain ⟨ua', ca', e3, _, _⟩ := hT3.sl1.len
            rw [List.length_append, HLL.out] at e3
            refine ⟨j + 1, ua', ca', by omega, by rw [e3]; rfl, ?_⟩
            rw [List.replicate_succ', ← List.append_assoc]
            exact hT3
          case measure =>
            obtain ⟨ua', ca', e3, _, _⟩ := hT3.sl1.len
            rw [List.length_append, HLL.out] at e3
            subst e3
            simp [lenOfV]
            omega
        · have hje : j = 504 - tsize S := by omega
          have hlI : ¬ (((6 + 4 * k + j : Nat) : Int) < 504 - ((blen S : Nat) : Int)) := by omega
          have HLL : Hid ((A0 ++ List.replicate j (0 : UInt8)).length = 6 + 4 * k + j) := by rw [Hid, List.length_append, HLA.out, List.length_replicate]
          have HJE := hide hje
          have HZB : Hid (6 + 4 * k + j + (body S).length ≤ 100000) := by rw [Hid, HLB.out]; omega
          clear hje
          go_wp2_with (refine wpList_append_two rfl (.tmp 67) (.tmp 68) rfl w0 _ _ _ _ _ _ rfl rfl HT.out HT.out.sl2 (by rw [HLL.out]; exact HZB.out) ?_; intro u' W3 hT3 hg3)
          go_ret
          refine ⟨_, rfl, ?_, HBW.out.trans (hT3.below.mono (by have := HBW.out.size; omega))⟩
          have := hT3.sl1
          rw [← hA0, HJE.out] at this
          exact this
end Go.Proofs.Ytdddeneppciiiaa
