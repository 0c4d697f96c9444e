/- A part of it: EEncN EEnc. -/
import Derived.Test.YteeembildppgmaaGreatM17
import Derived.Laws.MakeOwn
namespace Go.Proofs.YteeembildppgmaaGreat.Enc
open Go.RowKit
set_option linter.unusedVariables false
set_option linter.unusedSimpArgs false
structure Keeps (base : Nat) (w w' : World) : Prop where
 os : w'.os = w.os
 tape : w'.tape = w.tape
 output : w'.output = w.output
 size : w.heap.size ≤ w'.heap.size
 block : ∀ k, k < w.heap.size → (k < base ∨ ∃ C t fr, w.heap[k]? = some (.cells C t fr) ∧ t ≠ 5) → w'.heap[k]? = w.heap[k]?
theorem Keeps.refl (base : Nat) (w : World) : Keeps base w w := ⟨rfl, rfl, rfl, Nat.le_refl _, fun _ _ _ => rfl⟩
theorem Keeps.trans {base : Nat} {a b c : World} (h : Keeps base a b) (k : Keeps base b c) : Keeps base a c :=
 ⟨k.os.trans h.os, k.tape.trans h.tape, k.output.trans h.output, Nat.le_trans h.size k.size, fun i hi hp => by
  have e := h.block i hi hp
  refine (k.block i (Nat.lt_of_lt_of_le hi h.size) ?_).trans e
  rcases hp with hp | ⟨C, t, fr, hc, ht⟩
  · exact .inl hp
  · exact .inr ⟨C, t, fr, e.trans hc, ht⟩⟩
theorem Keeps.below {base : Nat} {a b : World} (h : Keeps base a b) (hb : base ≤ a.heap.size) : Below base a b :=
 ⟨h.os, h.tape, h.output, h.size, fun k hk => h.block k (by omega) (.inl hk)⟩
theorem Keeps.of_below {base : Nat} {a b : World} (h : Below a.heap.size a b) : Keeps base a b := ⟨h.os, h.tape, h.output, h.size, fun k hk _ => h.block k hk⟩
theorem Keeps.alloc {base : Nat} (a : World) (o : Obj) : Keeps base a (a.alloc o) := Keeps.of_below ((Below.refl _ _).alloc (Nat.le_refl _) _)
theorem Keeps.drew {base : Nat} (a : World) : Keeps base a a.drew := ⟨rfl, rfl, rfl, Nat.le_refl _, fun _ _ _ => rfl⟩
theorem Keeps.grown {base : Nat} {a b : World} {v : Value} {n : Nat} {xs : List Value} (ho : a.ownsRow base 5 1 v n xs) (h : a.grownBy b v.ownBlock) : Keeps base a b :=
 ⟨h.os, h.tape, h.output, h.size, fun k hk hp => h.block k hk (fun e => by
  rcases hp with hp | ⟨C, t, fr, hc, ht⟩
  · have := (ho.lt k e.symm).1; omega
  · exact owns_ne ho hc ht e.symm)⟩
theorem Keeps.cells {base : Nat} {a b : World} (h : Keeps base a b) {g : Nat} {C : Array Value} {t : TypeId} {fr : Nat × Nat} (hg : a.heap[g]? = some (.cells C t fr)) (ht : t ≠ 5) : b.heap[g]? = some (.cells C t fr) :=
 (h.block g (lt_of_heap hg) (.inr ⟨C, t, fr, hg, ht⟩)).trans hg

theorem wpList_max {P : Program} {ops : Array Oper} {rest : List Oper} {o : Oper} {a : Act} {w : World} {Q : Exit → Act → World → Prop} (hg : o.guard = none) (x y : Operand) (ts : Array TypeId)
 (hop : o.op = Op.call { callee := Callee.builtin Builtin.max, args := #[x, y], argTypes := ts }) (i j k : Int) (hx : a.eval x = .int .i64 i) (hy : a.eval y = .int .i64 j) (hk : (if j > i then j else i) = k)
 (h : wpList P ops Q rest (a.put o.dst (.int .i64 k)) w) : wpList P ops Q (o :: rest) a w := by
 refine wpList_plain hg fun K hK' => ?_
 unfold Oper.wp
 have hr := run_max_int2 (P := P) (w := w) ts o.type .i64 .i64 i j
 rw [hk] at hr
 simp [execOp, hop, resolve, invoke, builtin, hx, hy, hr, Result.andThen]
 exact hK' _ _ h
theorem num_get (x : Int) (k : Nat) (h : k < 8) : (num x)[k]'(by rw [length_num]; exact h) = UInt8.ofNat (x.toNat / 256 ^ (7 - k) % 256) := be8_get _ _ h
theorem bcell_ofNat (x : Nat) (h : x < 256) : bcell (UInt8.ofNat x) = .int .u8 (x : Int) := by
 unfold bcell
 rw [UInt8.toNat_ofNat', Nat.mod_eq_of_lt h]
theorem num_cell (x : Int) (k : Nat) (h : k < 8) : bcell ((num x)[k]'(by rw [length_num]; exact h)) = Value.int .u8 (((x.toNat : Nat) : Int) / 2 ^ (8 * (7 - k)) % 256) := by
 rw [num_get x k h, bcell_ofNat _ (Nat.mod_lt _ (by omega))]
 congr 1
 have e : (2 : Int) ^ (8 * (7 - k)) = ((256 ^ (7 - k) : Nat) : Int) := by
  rw [Int.pow_mul]
  simp
 rw [e, ← Int.natCast_ediv]
 omega
theorem row_new (w : World) (v : Value) (t : TypeId) : Row (w.alloc (.cells #[v] t)) (.slice (some ⟨w.heap.size, 0, none⟩) 1 1) 1 [v] :=
 ⟨_, _, rfl, Nat.le_refl _, by simp only [maxLen]; omega, fun _ => ⟨w.heap.size, 0, rfl, fun i u hu => by
  rw [Nat.zero_add, cell_row (heap_alloc_new w _)]; simpa using hu⟩⟩
theorem encNums_snoc (l : List Int) (x : Int) : encNums (l ++ [x]) = encNums l ++ num x := by simp [encNums]

set_option maxHeartbeats 2000000 in
theorem addNumbers_any {base : Nat} {w : World} {v : Value} {bs : List UInt8} {g : Nat} {l : List Int} (hown : w.ownsRow base 5 1 v bs.length (secCells bs)) (hbase : base ≤ w.heap.size) (hg : w.heap[g]? = some (.cells (intCells l).toArray 3 (0, 0)))
 (hl : l.length ≤ 100) (hlen : bs.length ≤ 1000000000000) (hwf : ∀ x ∈ l, -9223372036854775808 ≤ x ∧ x ≤ 9223372036854775807) :
 Calls Tryz.prog 90 #[v, .slice (some ⟨g, 0, none⟩) l.length l.length] w fun e w' => ∃ v', e = .returned v' ∧ w'.ownsRow base 5 1 v' (bs ++ encNums l).length (secCells (bs ++ encNums l)) ∧ Keeps base w w' := by
 obtain ⟨av, cv, rfl⟩ := owns_len hown
 have HO := hide hown
 have HG := hide hg
 have HB := hide hbase
 have HWF := hide hwf
 clear hown hg hbase hwf
 go_enter Tryz.func90, Tryz.ntmps90
 go_wp2
 go_loopw [0, 11] (fun b i wr => ∃ j : Nat, j ≤ l.length ∧ i = .int .i64 j ∧ wr.ownsRow base 5 1 b (bs ++ encNums (l.take j)).length (secCells (bs ++ encNums (l.take j))) ∧ Keeps base w wr) (fun _ i _ => l.length - (intOf i).toNat)
 case atStart => exact ⟨0, by omega, rfl, by simpa [encNums] using HO.out, Keeps.refl _ _⟩
 case round =>
  obtain ⟨j, hj, rfl, ho, hk⟩ := hrel
  by_cases hlt : j < l.length
  · have hcell : wr.cell? ⟨g, j, none⟩ = some (.int .i64 (l.getD j 0)) := by
     rw [cell_row (hk.cells HG.out (by decide))]
     simp [intCells, icell, hlt]
    have HO1 := hide ho
    have HK := hide hk
    clear ho hk
    obtain ⟨x, hx⟩ : ∃ x, l.getD j 0 = x := ⟨_, rfl⟩
    rw [hx] at hcell
    have HX := hide hx
    clear hx
    have hxw : -9223372036854775808 ≤ x ∧ x ≤ 9223372036854775807 := by
     have := HWF.out (l.getD j 0) (by simp [hlt])
     rw [HX.out] at this
     exact this
    have HMX : Hid ((if (0 : Int) > x then 0 else x) = ((x.toNat : Nat) : Int)) := by show _ = _; split <;> omega
    have hm1 : ((x.toNat : Nat) : Int) ≤ 9223372036854775807 := by omega
    have HLB : Hid ((bs ++ encNums (l.take j)).length ≤ 1000000001000) := by show _ ≤ _; rw [List.length_append, length_encNums, List.length_take]; omega
    have HT : Hid (bs ++ encNums (l.take (j + 1)) = (bs ++ encNums (l.take j)) ++ num x) := by
     show _ = _
     have e : l[j] = x := by have := HX.out; simpa [hlt] using this
     rw [List.take_succ_eq_append_getElem hlt, encNums_snoc, e, List.append_assoc]
    clear hxw
    generalize bs ++ encNums (l.take j) = B at *
    have HNUM : Hid (∀ k (h : k < 8), bcell ((num x)[k]'(by rw [length_num]; exact h)) = Value.int .u8 (((x.toNat : Nat) : Int) / 2 ^ (8 * (7 - k)) % 256)) := fun k h => num_cell x k h
    obtain ⟨m, hm⟩ : ∃ m, x.toNat = m := ⟨_, rfl⟩
    rw [hm] at HMX hm1 HNUM
    clear hm
    go_wp2_with (refine wpList_max rfl (.tmp 15) (.const (.int .i64 0)) #[3, 3] rfl _ _ (m : Int) rfl rfl HMX.out ?_)
    go_loopw [0, 18] (fun b i ws => ∃ k : Nat, k ≤ 8 ∧ i = .int .i64 k ∧ ws.ownsRow base 5 1 b (B.length + k) (secCells (B ++ (num x).take k)) ∧ Keeps base w ws) (fun _ i _ => 8 - (intOf i).toNat)
    case atStart => exact ⟨0, by omega, rfl, by simpa using HO1.out, HK.out⟩
    case round =>
     obtain ⟨k, hk8, rfl, ho, hk⟩ := hrel
     by_cases hk1 : k < 8
     · obtain ⟨ab, cb, rfl⟩ := owns_len ho
       have HO2 := hide ho
       have HK2 := hide hk
       clear ho hk
       have HOA : Hid ((wr.alloc (.cells #[.int .u8 ((m : Int) / 2 ^ (8 * (7 - k)) % 256)] 5)).ownsRow base 5 1 (.slice ab (B.length + k) cb) (B.length + k) (secCells (B ++ (num x).take k))) := owns_below HO2.out ((Below.refl _ wr).alloc (Nat.le_refl _) _) (Nat.le_refl _)
       have HN1 : Hid ((B.length + k + 1) * 1 ≤ 140737488355328) := by have := HLB.out; show _ ≤ _; omega
       have HN2 : Hid (B.length + k + 1 ≤ 140737488355328) := by have := HLB.out; show _ ≤ _; omega
       have HBS : Hid (base ≤ (wr.alloc (.cells #[.int .u8 ((m : Int) / 2 ^ (8 * (7 - k)) % 256)] 5)).heap.size) := by
        have := HK2.out.size
        have := HB.out
        show _ ≤ _
        simp
        omega
       go_wp2_with (first
        | (refine wpList_append_row rfl (.tmp 21) (.tmp 28) 36 rfl base 5 _ 1 1 Tryz.underlying36 Tryz.info5 rfl (by omega) _ _ _ _ 1 [.int .u8 ((m : Int) / 2 ^ (8 * (7 - k)) % 256)] rfl rfl HOA.out (row_new _ _ _) rfl (by simp [Value.oneCell']) HN1.out HN2.out HBS.out ?_
           intro v2 w2 ho2 hg2
           obtain ⟨a2, c2, hv2⟩ := owns_len ho2
           have HO3 := hide ho2
           have HG2 := hide hg2
           clear ho2 hg2
           subst hv2))
       go_roundw
       case rel =>
        refine ⟨k + 1, by omega, by go_num, ?_, (HK2.out.trans (Keeps.alloc _ _)).trans (Keeps.grown HOA.out HG2.out)⟩
        have e : secCells (B ++ (num x).take (k + 1)) = secCells (B ++ (num x).take k) ++ [.int .u8 ((m : Int) / 2 ^ (8 * (7 - k)) % 256)] := by
         rw [List.take_succ_eq_append_getElem (by rw [length_num]; exact hk1), ← List.append_assoc, secCells_append, ← HNUM.out k hk1]
         rfl
        rw [e]
        exact HO3.out
       case measure => simp [intOf]; omega
     · have hk9 : k = 8 := by omega
       subst hk9
       have HO2 := hide ho
       have HK2 := hide hk
       clear ho hk
       go_wp2
       go_roundw
       case rel =>
        refine ⟨j + 1, by omega, by go_num, ?_, HK2.out⟩
        rw [HT.out, List.length_append, length_num]
        have := HO2.out
        rw [List.take_of_length_le (by rw [length_num]; exact Nat.le_refl _)] at this
        exact this
       case measure => simp [intOf]; omega
  · have hjl : j = l.length := by omega
    subst hjl
    rw [List.take_length] at ho
    have HO1 := hide ho
    have HK := hide hk
    obtain ⟨ab, cb, rfl⟩ := owns_len ho
    clear ho hk
    go_wp2
    go_ret
    exact ⟨_, rfl, HO1.out, HK.out⟩

set_option maxHeartbeats 1000000 in
theorem addBytes_any {w0 w : World} {v vm : Value} {bs more : List UInt8} (hown : w.ownsRow w0.heap.size 5 1 v bs.length (secCells bs)) (hB : Below w0.heap.size w0 w) (hm : Sl w0 vm more) (hlen : bs.length ≤ 1000000000000) (hlm : more.length ≤ 1000000000000) :
 Calls Tryz.prog 91 #[v, vm] w fun e w' => ∃ v', e = .returned v' ∧ w'.ownsRow w0.heap.size 5 1 v' (bs ++ encBytes more).length (secCells (bs ++ encBytes more)) ∧ Keeps w0.heap.size w w' := by
 obtain ⟨av, cv, rfl⟩ := owns_len hown
 obtain ⟨am, cm, rfl, q1, q2⟩ := hm.len
 simp only [maxLen] at q2
 have hb1 : Below w.heap.size w (w.alloc (.cells #[.int .i64 (more.length : Int)] 3)) := (Below.refl _ w).alloc (Nat.le_refl _) _
 have HC := hide (addNumbers_any (g := w.heap.size) (l := [(more.length : Int)]) (owns_below hown hb1 (Nat.le_refl _)) (Nat.le_trans hB.size hb1.size) (heap_alloc_new w _) (by simp) hlen (by simp; omega))
 have HM := hide hm
 have HB := hide hB
 have HS := hide hb1.size
 clear hown hm hb1 hB
 go_enter Tryz.func91, Tryz.ntmps91
 go_wp2_with fail
 refine HC.out.mono ?_
 rintro e w1 ⟨v1, rfl, ho1, hk1⟩
 have hk0 : Keeps w0.heap.size w w1 := (Keeps.alloc w _).trans hk1
 have HROW : Hid (Row w1 (.slice am more.length cm) more.length (secCells more)) := HM.out.below (HB.out.trans (hk0.below HB.out.size)) (Nat.le_refl _)
 have HK0 := hide hk0
 have HO1 := hide ho1
 obtain ⟨a1, c1, hv1⟩ := owns_len ho1
 have hl1 : (bs ++ encNums [(more.length : Int)]).length = bs.length + 8 := by rw [List.length_append, length_encNums]; rfl
 rw [hl1] at hv1
 have HN1 : Hid ((bs ++ encNums [(more.length : Int)]).length + more.length ≤ 140737488355328) := by show _ ≤ _; omega
 have HN2 : Hid (((bs ++ encNums [(more.length : Int)]).length + more.length) * 1 ≤ 140737488355328) := by show _ ≤ _; omega
 have HL : Hid ((secCells more).length = more.length * 1) := by show _ = _; rw [length_secCells]; omega
 have HBS : Hid (w0.heap.size ≤ w1.heap.size) := Nat.le_trans HB.out.size hk0.size
 have HE : Hid (bs ++ encBytes more = (bs ++ encNums [(more.length : Int)]) ++ more) := by show _ = _; simp [encBytes, encNums]
 subst hv1
 clear HC hk0 ho1 hk1 hl1
 generalize bs ++ encNums [(more.length : Int)] = B at *
 go_wp2_with (first
  | (refine wpList_append_row rfl (.tmp 9) (.tmp 10) 36 rfl w0.heap.size 5 _ 1 1 Tryz.underlying36 Tryz.info5 rfl (by omega) _ _ _ _ _ _ rfl rfl HO1.out HROW.out HL.out (one_secCells _) HN2.out HN1.out HBS.out ?_
     intro v2 w2 ho2 hg2
     obtain ⟨a2, c2, hv2⟩ := owns_len ho2
     have HO3 := hide ho2
     have HG2 := hide hg2
     clear ho2 hg2
     subst hv2))
 go_ret
 refine ⟨_, rfl, ?_, HK0.out.trans (Keeps.grown HO1.out HG2.out)⟩
 rw [HE.out, secCells_append, List.length_append]
 exact HO3.out
end Go.Proofs.YteeembildppgmaaGreat.Enc
namespace Go.Proofs.YteeembildppgmaaGreat.Enc
open Go.RowKit
set_option linter.unusedVariables false
set_option linter.unusedSimpArgs false
structure EncAt (w wk : World) (q : Nat) (C : Array Value) (v : Value) (B : List UInt8) : Prop where
 below : Below w.heap.size w wk
 rec_ : wk.heap[q]? = some (.cells C 69 (0, 0))
 own : wk.ownsRow w.heap.size 5 1 v B.length (secCells B)
theorem EncAt.keeps {w a b : World} {q : Nat} {C : Array Value} {v v' : Value} {B B' : List UInt8} (h : EncAt w a q C v B) (hk : Keeps w.heap.size a b) (ho : b.ownsRow w.heap.size 5 1 v' B'.length (secCells B')) : EncAt w b q C v' B' :=
 ⟨h.below.trans (hk.below h.below.size), hk.cells h.rec_ (by decide), ho⟩
theorem EncAt.alloc {w a : World} {q : Nat} {C : Array Value} {v : Value} {B : List UInt8} (h : EncAt w a q C v B) (o : Obj) : EncAt w (a.alloc o) q C v B :=
 h.keeps (Keeps.alloc a o) (owns_below h.own ((Below.refl _ a).alloc (Nat.le_refl _) _) (Nat.le_refl _))
theorem EncAt.nums {w a : World} {q : Nat} {C : Array Value} {v : Value} {B : List UInt8} (h : EncAt w a q C v B) (l : List Int) (hl : l.length ≤ 100) (hlen : B.length ≤ 1000000000000) (hwf : ∀ x ∈ l, -9223372036854775808 ≤ x ∧ x ≤ 9223372036854775807) :
 Calls Tryz.prog 90 #[v, .slice (some ⟨a.heap.size, 0, none⟩) l.length l.length] (a.alloc (.cells (intCells l).toArray 3)) fun e w' => ∃ v', e = .returned v' ∧ EncAt w w' q C v' (B ++ encNums l) := by
 have h' := h.alloc (.cells (intCells l).toArray 3)
 refine (addNumbers_any h'.own h'.below.size (heap_alloc_new _ _) hl hlen hwf).mono ?_
 rintro e w' ⟨v', rfl, ho, hk⟩
 exact ⟨v', rfl, h'.keeps hk ho⟩
theorem EncAt.bytes {w a : World} {q : Nat} {C : Array Value} {v vm : Value} {B more : List UInt8} (h : EncAt w a q C v B) (hm : Sl w vm more) (hlen : B.length ≤ 1000000000000) (hlm : more.length ≤ 1000000000000) :
 Calls Tryz.prog 91 #[v, vm] a fun e w' => ∃ v', e = .returned v' ∧ EncAt w w' q C v' (B ++ encBytes more) := by
 refine (addBytes_any h.own h.below hm hlen hlm).mono ?_
 rintro e w' ⟨v', rfl, ho, hk⟩
 exact ⟨v', rfl, h.keeps hk ho⟩
theorem EncAt.len {w a : World} {q : Nat} {C : Array Value} {v : Value} {B : List UInt8} (h : EncAt w a q C v B) : ∃ ao c, v = .slice ao B.length c := owns_len h.own
theorem makeCap (n : Nat) (hn : n ≤ 1000000000000) (w : World) : (Instr.makeSlice 36 (.int .i64 0) (.int .i64 (n : Int))).run Tryz.prog w = .ok (.slice (some ⟨w.heap.size, 0, none⟩) 0 n) (w.alloc (.cells (madeCells #[.int .u8 0] n) 5)) := by
 obtain ⟨i, hi, hz, hsz, hby⟩ := Tryz.info5'
 have h := run_make (P := Tryz.prog) w 36 5 i (.int .u8 0) Tryz.underlying36 hi hz .i64 .i64 0 (n : Int) (by omega) (by omega) (by rw [hby]; omega) (by omega)
 rw [h, hsz]
 simp [Value.cells]
theorem size_madeCells (n : Nat) : (madeCells #[Value.int .u8 0] n).size = n := by simp [madeCells]
theorem txCells_get (l : List (Int × Int × Int)) (j : Nat) (h : j < l.length) : (txCells l)[j * 3]? = some (.int .i64 (l.getD j (0, 0, 0)).1) ∧ (txCells l)[j * 3 + 1]? = some (.int .i64 (l.getD j (0, 0, 0)).2.1) ∧ (txCells l)[j * 3 + 2]? = some (.int .i64 (l.getD j (0, 0, 0)).2.2) := by
 induction l generalizing j with
 | nil => simp at h
 | cons x r ih =>
   have e : txCells (x :: r) = [icell x.1, icell x.2.1, icell x.2.2] ++ txCells r := by simp [txCells]
   cases j with
   | zero => rw [e]; exact ⟨rfl, rfl, rfl⟩
   | succ j =>
     have := ih j (by simpa using h)
     rw [e]
     refine ⟨?_, ?_, ?_⟩
     · rw [List.getElem?_append_right (by simp; omega), show (j + 1) * 3 - [icell x.1, icell x.2.1, icell x.2.2].length = j * 3 by simp; omega]; exact this.1
     · rw [List.getElem?_append_right (by simp; omega), show (j + 1) * 3 + 1 - [icell x.1, icell x.2.1, icell x.2.2].length = j * 3 + 1 by simp; omega]; exact this.2.1
     · rw [List.getElem?_append_right (by simp; omega), show (j + 1) * 3 + 2 - [icell x.1, icell x.2.1, icell x.2.2].length = j * 3 + 2 by simp; omega]; exact this.2.2
theorem dtCells_get (l : List (Int × Int)) (j : Nat) (h : j < l.length) : (dtCells l)[j * 2]? = some (.int .i64 (l.getD j (0, 0)).1) ∧ (dtCells l)[j * 2 + 1]? = some (.int .i64 (l.getD j (0, 0)).2) := by
 induction l generalizing j with
 | nil => simp at h
 | cons x r ih =>
   have e : dtCells (x :: r) = [icell x.1, icell x.2] ++ dtCells r := by simp [dtCells]
   cases j with
   | zero => rw [e]; exact ⟨rfl, rfl⟩
   | succ j =>
     have := ih j (by simpa using h)
     rw [e]
     refine ⟨?_, ?_⟩
     · rw [List.getElem?_append_right (by simp; omega), show (j + 1) * 2 - [icell x.1, icell x.2].length = j * 2 by simp; omega]; exact this.1
     · rw [List.getElem?_append_right (by simp; omega), show (j + 1) * 2 + 1 - [icell x.1, icell x.2].length = j * 2 + 1 by simp; omega]; exact this.2
theorem tx_at {w : World} {ao : Option Addr} {n c : Nat} {l : List (Int × Int × Int)} (h : Row w (.slice ao n c) l.length (txCells l)) (j : Nat) (hj : j < l.length) :
 ∃ g o, ao = some ⟨g, o, none⟩ ∧ g < w.heap.size ∧ w.cell? ⟨g, o + j * 3, none⟩ = some (.int .i64 (l.getD j (0, 0, 0)).1) ∧ w.cell? ⟨g, o + j * 3 + 1, none⟩ = some (.int .i64 (l.getD j (0, 0, 0)).2.1) ∧ w.cell? ⟨g, o + j * 3 + 2, none⟩ = some (.int .i64 (l.getD j (0, 0, 0)).2.2) := by
 obtain ⟨ao', c', e, h1, h2, h3⟩ := h
 injection e with e1 e2 e3
 subst e1
 obtain ⟨g, o, rfl, hr⟩ := h3 (fun h0 => by have := length_txCells l; rw [h0] at this; simp at this; omega)
 obtain ⟨k0, k1, k2⟩ := txCells_get l j hj
 have r0 := hr _ _ k0
 exact ⟨g, o, rfl, World.block_lt_of_cell? w _ r0, r0, hr _ _ k1, hr _ _ k2⟩
theorem dt_at {w : World} {ao : Option Addr} {n c : Nat} {l : List (Int × Int)} (h : Row w (.slice ao n c) l.length (dtCells l)) (j : Nat) (hj : j < l.length) :
 ∃ g o, ao = some ⟨g, o, none⟩ ∧ g < w.heap.size ∧ w.cell? ⟨g, o + j * 2, none⟩ = some (.int .i64 (l.getD j (0, 0)).1) ∧ w.cell? ⟨g, o + j * 2 + 1, none⟩ = some (.int .i64 (l.getD j (0, 0)).2) := by
 obtain ⟨ao', c', e, h1, h2, h3⟩ := h
 injection e with e1 e2 e3
 subst e1
 obtain ⟨g, o, rfl, hr⟩ := h3 (fun h0 => by have := length_dtCells l; rw [h0] at this; simp at this; omega)
 obtain ⟨k0, k1⟩ := dtCells_get l j hj
 have r0 := hr _ _ k0
 exact ⟨g, o, rfl, World.block_lt_of_cell? w _ r0, r0, hr _ _ k1⟩
structure Rc.wf (R : Rc) : Prop where
 head : ∀ x ∈ R.head, -9223372036854775808 ≤ x ∧ x ≤ 9223372036854775807
 txns : ∀ t ∈ R.txns, ∀ x ∈ [t.1, t.2.1, t.2.2], -9223372036854775808 ≤ x ∧ x ≤ 9223372036854775807
 dirty : ∀ t ∈ R.dirty, ∀ x ∈ [t.1, t.2], -9223372036854775808 ≤ x ∧ x ≤ 9223372036854775807
 count : -9223372036854775808 ≤ R.count ∧ R.count ≤ 9223372036854775807
theorem encTxs_snoc (l : List (Int × Int × Int)) (x : Int × Int × Int) : encTxs (l ++ [x]) = encTxs l ++ encNums [x.1, x.2.1, x.2.2] := by simp [encTxs, encTx]
theorem encDts_snoc (l : List (Int × Int)) (x : Int × Int) : encDts (l ++ [x]) = encDts l ++ encNums [x.1, x.2] := by simp [encDts, encDt]
theorem enc_parts (R : Rc) : encNums [(R.size : Int) - 8, R.kind, R.txn, R.prev, R.next, R.page, R.off] ++ encBytes R.before ++ encBytes R.after ++ encNums [(R.txns.length : Int)] ++ encTxs R.txns ++ encNums [(R.dirty.length : Int)] ++ encDts R.dirty ++ encNums [R.count] = R.enc := by
 have h : (R.size : Int) - 8 = ((R.body.length : Nat) : Int) := by
  rw [length_body]
  have : 96 ≤ R.size := by simp only [Rc.size]; omega
  omega
 rw [h]
 simp [Rc.enc, Rc.body, Rc.head, encNums]

set_option maxHeartbeats 4000000 in
theorem encode_any {w : World} {V : Value} {R : Rc} (hV : RecVal w V R) (hs : R.size ≤ 100000000000) (hwf : R.wf) :
 Calls Tryz.prog 58 #[V] w fun e w' => ∃ v, e = .returned v ∧ w'.ownsRow w.heap.size 5 1 v R.enc.length (secCells R.enc) ∧ Below w.heap.size w w' := by
 have hv0 := hV
 obtain ⟨vb, va, vt, vd, rfl, h1, h2, h3, h4⟩ := hV
 obtain ⟨ab, cb, rfl, b1, b2⟩ := h1.len
 obtain ⟨aa, ca, rfl, a1, a2⟩ := h2.len
 obtain ⟨at', ct, rfl, t1, t2⟩ := h3.len
 obtain ⟨ad, cd, rfl, d1, d2⟩ := h4.len
 have hs' : 96 + R.before.length + R.after.length + 24 * R.txns.length + 16 * R.dirty.length ≤ 100000000000 := hs
 simp only [maxLen] at b2 a2 t2 d2
 have HS := hide (size_any (hv0.below ((Below.refl w.heap.size w).alloc (Nat.le_refl _) (.cells (recCells R (.slice ab R.before.length cb) (.slice aa R.after.length ca) (.slice at' R.txns.length ct) (.slice ad R.dirty.length cd)) 69)) (Nat.le_refl _)) (by omega))
 have HSS := hide hs'
 have HRS : Hid (R.size = 96 + R.before.length + R.after.length + 24 * R.txns.length + 16 * R.dirty.length) := rfl
 have hsz1 : (R.size : Int) ≤ 100000000000 := by omega
 have hsz0 : (96 : Int) ≤ (R.size : Int) := by have := HRS.out; omega
 have H1 := hide h1
 have H2 := hide h2
 have H3 := hide h3
 have H4 := hide h4
 have HWF := hide hwf
 have hmk := makeCap R.size (by omega)
 clear hv0 h1 h2 h3 h4 hs hs' hwf
 unfold recCells at *
 generalize hN : R.size = N at *
 have HN := hide hN
 clear hN
 go_enter Tryz.func58, Tryz.ntmps58
 go_wp2_with fail
 refine HS.out.mono ?_
 rintro e w2 ⟨rfl, hw2⟩
 have hB2 : Below w.heap.size w w2 := by rw [hw2]; exact ((Below.refl _ w).alloc (Nat.le_refl _) _).alloc (by simp) _
 have hq2 : w2.heap[w.heap.size]? = some (.cells #[.int .i64 R.kind, .int .i64 R.txn, .int .i64 R.prev, .int .i64 R.next, .int .i64 R.page, .int .i64 R.off, .slice ab R.before.length cb, .slice aa R.after.length ca, .slice at' R.txns.length ct, .slice ad R.dirty.length cd, .int .i64 R.count] 69 (0, 0)) := by
  rw [hw2, Below.heap_alloc _ _ _ (by simp)]; exact heap_alloc_new _ _
 clear hw2 HS
 obtain ⟨q, hq⟩ : ∃ q, w.heap.size = q := ⟨_, rfl⟩
 rw [hq] at hq2 ⊢
 have HQ := hide hq
 clear hq
 have A3 : EncAt w (w2.alloc (.cells (madeCells #[.int .u8 0] N) 5)) q #[.int .i64 R.kind, .int .i64 R.txn, .int .i64 R.prev, .int .i64 R.next, .int .i64 R.page, .int .i64 R.off, .slice ab R.before.length cb, .slice aa R.after.length ca, .slice at' R.txns.length ct, .slice ad R.dirty.length cd, .int .i64 R.count] (.slice (some ⟨w2.heap.size, 0, none⟩) 0 N) [] :=
  ⟨hB2.alloc hB2.size _, by rw [Below.heap_alloc _ _ _ (lt_of_heap hq2)]; exact hq2, World.ownsRow_made w2 _ N hB2.size (by simp only [maxLen]; omega) (by rw [size_madeCells, Nat.mul_one])⟩
 have hwh := HWF.out.head
 have HC4 := hide (A3.nums [(N : Int) - 8, R.kind, R.txn, R.prev, R.next, R.page, R.off] (by simp) (by simp) (by
  intro x hx
  rcases List.mem_cons.1 hx with rfl | hx
  · omega
  · exact hwh x hx))
 rw [show (w2.alloc (.cells (madeCells #[Value.int .u8 0] N) 5)).heap.size = w2.heap.size + 1 by simp] at HC4
 have k20 : w2.cell? ⟨q, 0, none⟩ = some (.int .i64 R.kind) := by rw [cell_row hq2]; rfl
 have k21 : w2.cell? ⟨q, 1, none⟩ = some (.int .i64 R.txn) := by rw [cell_row hq2]; rfl
 have k22 : w2.cell? ⟨q, 2, none⟩ = some (.int .i64 R.prev) := by rw [cell_row hq2]; rfl
 have k23 : w2.cell? ⟨q, 3, none⟩ = some (.int .i64 R.next) := by rw [cell_row hq2]; rfl
 have k24 : w2.cell? ⟨q, 4, none⟩ = some (.int .i64 R.page) := by rw [cell_row hq2]; rfl
 have k25 : w2.cell? ⟨q, 5, none⟩ = some (.int .i64 R.off) := by rw [cell_row hq2]; rfl
 have hql := lt_of_heap hq2
 clear hq2 hB2 A3 hwh
 go_wp2_with fail
 refine HC4.out.mono ?_
 rintro e w4 ⟨v4, rfl, A4⟩
 clear HC4 k20 k21 k22 k23 k24 k25 hmk hql
 rw [List.nil_append] at A4
 have HL4 : Hid ((encNums [(N : Int) - 8, R.kind, R.txn, R.prev, R.next, R.page, R.off]).length = 56) := by show _ = _; rw [length_encNums]; rfl
 obtain ⟨a4, c4, hv4⟩ := A4.len
 have k46 : w4.cell? ⟨q, 6, none⟩ = some (.slice ab R.before.length cb) := by rw [cell_row A4.rec_]; rfl
 have HC5 := hide (A4.bytes H1.out (by rw [HL4.out]; omega) (by have := HSS.out; omega))
 subst hv4
 clear A4
 generalize hB4 : encNums [(N : Int) - 8, R.kind, R.txn, R.prev, R.next, R.page, R.off] = B4 at *
 have HB4 := hide hB4
 clear hB4
 go_wp2_with fail
 refine HC5.out.mono ?_
 rintro e w5 ⟨v5, rfl, A5⟩
 clear HC5 k46
 have HL5 : Hid ((B4 ++ encBytes R.before).length = 64 + R.before.length) := by show _ = _; rw [List.length_append, HL4.out, encBytes, List.length_append, length_num]; omega
 obtain ⟨a5, c5, hv5⟩ := A5.len
 have k57 : w5.cell? ⟨q, 7, none⟩ = some (.slice aa R.after.length ca) := by rw [cell_row A5.rec_]; rfl
 have HC6 := hide (A5.bytes H2.out (by rw [HL5.out]; have := HSS.out; omega) (by have := HSS.out; omega))
 subst hv5
 clear A5
 generalize hB5 : B4 ++ encBytes R.before = B5 at *
 have HB5 := hide hB5
 clear hB5
 go_wp2_with fail
 refine HC6.out.mono ?_
 rintro e w6 ⟨v6, rfl, A6⟩
 clear HC6 k57
 have HL6 : Hid ((B5 ++ encBytes R.after).length = 72 + R.before.length + R.after.length) := by show _ = _; rw [List.length_append, HL5.out, encBytes, List.length_append, length_num]; omega
 obtain ⟨a6, c6, hv6⟩ := A6.len
 have k68 : w6.cell? ⟨q, 8, none⟩ = some (.slice at' R.txns.length ct) := by rw [cell_row A6.rec_]; rfl
 have HC7 := hide (A6.nums [(R.txns.length : Int)] (by simp) (by rw [HL6.out]; have := HSS.out; omega) (by have := HSS.out; simp; omega))
 subst hv6
 clear A6
 generalize hB6 : B5 ++ encBytes R.after = B6 at *
 have HB6 := hide hB6
 clear hB6
 go_wp2_with fail
 refine HC7.out.mono ?_
 rintro e w7 ⟨v7, rfl, A7⟩
 clear HC7 k68
 have HL7 : Hid ((B6 ++ encNums [(R.txns.length : Int)]).length = 80 + R.before.length + R.after.length) := by show _ = _; rw [List.length_append, HL6.out, length_encNums]; simp; omega
 obtain ⟨a7, c7, hv7⟩ := A7.len
 have k78 : w7.cell? ⟨q, 8, none⟩ = some (.slice at' R.txns.length ct) := by rw [cell_row A7.rec_]; rfl
 have HA7 := hide A7
 subst hv7
 clear A7
 generalize hB7 : B6 ++ encNums [(R.txns.length : Int)] = B7 at *
 have HB7 := hide hB7
 clear hB7
 have ht62 : (R.txns.length : Int) ≤ 100000000000 := by have := HSS.out; omega
 go_wp2
 go_loopw [4, 47] (fun b i wr => ∃ j : Nat, j ≤ R.txns.length ∧ i = .int .i64 j ∧ EncAt w wr q #[.int .i64 R.kind, .int .i64 R.txn, .int .i64 R.prev, .int .i64 R.next, .int .i64 R.page, .int .i64 R.off, .slice ab R.before.length cb, .slice aa R.after.length ca, .slice at' R.txns.length ct, .slice ad R.dirty.length cd, .int .i64 R.count] b (B7 ++ encTxs (R.txns.take j))) (fun _ i _ => R.txns.length - (intOf i).toNat)
 case atStart => exact ⟨0, by omega, rfl, by simpa [encTxs] using HA7.out⟩
 case round =>
  obtain ⟨j, hj, rfl, A⟩ := hrel
  obtain ⟨aj, cj, hvj⟩ := A.len
  subst hvj
  by_cases hlt : j < R.txns.length
  · obtain ⟨gt, ot, eat, hgt, t0, t1', t2'⟩ := tx_at H3.out j hlt
    subst eat
    have x0 := ((A.below).cell (p := ⟨gt, ot + j * 3, none⟩) hgt).trans t0
    have x1 := ((A.below).cell (p := ⟨gt, ot + j * 3 + 1, none⟩) hgt).trans t1'
    have x2 := ((A.below).cell (p := ⟨gt, ot + j * 3 + 2, none⟩) hgt).trans t2'
    have HLJ : Hid ((B7 ++ encTxs (R.txns.take j)).length ≤ 1000000000000) := by show _ ≤ _; rw [List.length_append, HL7.out, length_encTxs, List.length_take]; have := HSS.out; omega
    have hwx := HWF.out.txns (R.txns.getD j (0, 0, 0)) (by simp [hlt])
    have HE : Hid (B7 ++ encTxs (R.txns.take (j + 1)) = (B7 ++ encTxs (R.txns.take j)) ++ encNums [(R.txns.getD j (0, 0, 0)).1, (R.txns.getD j (0, 0, 0)).2.1, (R.txns.getD j (0, 0, 0)).2.2]) := by
     show _ = _
     have e : R.txns.getD j (0, 0, 0) = R.txns[j] := by simp [hlt]
     rw [e, List.take_succ_eq_append_getElem hlt, encTxs_snoc, List.append_assoc]
    generalize R.txns.getD j (0, 0, 0) = X at *
    obtain ⟨xa, xb, xc⟩ := X
    have HC := hide ((A.alloc (.cells #[.int .i64 xa, .int .i64 xb, .int .i64 xc] 140)).nums [xa, xb, xc] (by simp) HLJ.out hwx)
    rw [show (wr.alloc (.cells #[.int .i64 xa, .int .i64 xb, .int .i64 xc] 140)).heap.size = wr.heap.size + 1 by simp] at HC
    have hgr : gt < wr.heap.size := Nat.lt_of_lt_of_le hgt A.below.size
    clear A t0 t1' t2' hwx HA7 HLJ
    generalize B7 ++ encTxs (R.txns.take j) = B8 at *
    go_wp2_with fail
    refine HC.out.mono ?_
    rintro e w8 ⟨v8, rfl, A8⟩
    obtain ⟨a8, c8, hv8⟩ := A8.len
    have HA8 := hide A8
    clear A8 HC x0 x1 x2
    generalize (B8 ++ encNums [xa, xb, xc]).length = L8 at hv8
    subst hv8
    go_wp2
    go_roundw
    case rel => exact ⟨j + 1, by omega, by go_num, by rw [HE.out]; exact HA8.out⟩
    case measure => simp [intOf]; omega
  · have hjn : j = R.txns.length := by omega
    subst hjn
    rw [List.take_length] at A
    have HL8 : Hid ((B7 ++ encTxs R.txns).length = 80 + R.before.length + R.after.length + 24 * R.txns.length) := by show _ = _; rw [List.length_append, HL7.out, length_encTxs]
    have k89 : wr.cell? ⟨q, 9, none⟩ = some (.slice ad R.dirty.length cd) := by rw [cell_row A.rec_]; rfl
    have HC8 := hide (A.nums [(R.dirty.length : Int)] (by simp) (by rw [HL8.out]; have := HSS.out; omega) (by have := HSS.out; simp; omega))
    rw [List.take_length]
    clear A HA7
    generalize hB8 : B7 ++ encTxs R.txns = B8 at *
    have HB8 := hide hB8
    clear hB8
    have hd62 : (R.dirty.length : Int) ≤ 100000000000 := by have := HSS.out; omega
    go_wp2_with fail
    refine HC8.out.mono ?_
    rintro e w9 ⟨v9, rfl, A9⟩
    clear HC8 k89
    have HL9 : Hid ((B8 ++ encNums [(R.dirty.length : Int)]).length = 88 + R.before.length + R.after.length + 24 * R.txns.length) := by show _ = _; rw [List.length_append, HL8.out, length_encNums]; simp; omega
    obtain ⟨a9, c9, hv9⟩ := A9.len
    have k99 : w9.cell? ⟨q, 9, none⟩ = some (.slice ad R.dirty.length cd) := by rw [cell_row A9.rec_]; rfl
    have HA9 := hide A9
    subst hv9
    clear A9
    generalize hB9 : B8 ++ encNums [(R.dirty.length : Int)] = B9 at *
    have HB9 := hide hB9
    clear hB9
    go_wp2
    go_loopw [4, 70] (fun b i wr => ∃ j : Nat, j ≤ R.dirty.length ∧ i = .int .i64 j ∧ EncAt w wr q #[.int .i64 R.kind, .int .i64 R.txn, .int .i64 R.prev, .int .i64 R.next, .int .i64 R.page, .int .i64 R.off, .slice ab R.before.length cb, .slice aa R.after.length ca, .slice at' R.txns.length ct, .slice ad R.dirty.length cd, .int .i64 R.count] b (B9 ++ encDts (R.dirty.take j))) (fun _ i _ => R.dirty.length - (intOf i).toNat)
    case atStart => exact ⟨0, by omega, rfl, by simpa [encDts] using HA9.out⟩
    case round =>
     obtain ⟨j, hj, rfl, A⟩ := hrel
     obtain ⟨aj, cj, hvj⟩ := A.len
     subst hvj
     by_cases hlt : j < R.dirty.length
     · obtain ⟨gt, ot, eat, hgt, t0, t1'⟩ := dt_at H4.out j hlt
       subst eat
       have x0 := ((A.below).cell (p := ⟨gt, ot + j * 2, none⟩) hgt).trans t0
       have x1 := ((A.below).cell (p := ⟨gt, ot + j * 2 + 1, none⟩) hgt).trans t1'
       have HLJ : Hid ((B9 ++ encDts (R.dirty.take j)).length ≤ 1000000000000) := by show _ ≤ _; rw [List.length_append, HL9.out, length_encDts, List.length_take]; have := HSS.out; omega
       have hwx := HWF.out.dirty (R.dirty.getD j (0, 0)) (by simp [hlt])
       have HE : Hid (B9 ++ encDts (R.dirty.take (j + 1)) = (B9 ++ encDts (R.dirty.take j)) ++ encNums [(R.dirty.getD j (0, 0)).1, (R.dirty.getD j (0, 0)).2]) := by
        show _ = _
        have e : R.dirty.getD j (0, 0) = R.dirty[j] := by simp [hlt]
        rw [e, List.take_succ_eq_append_getElem hlt, encDts_snoc, List.append_assoc]
       generalize R.dirty.getD j (0, 0) = X at *
       obtain ⟨xa, xb⟩ := X
       have HC := hide ((A.alloc (.cells #[.int .i64 xa, .int .i64 xb] 142)).nums [xa, xb] (by simp) HLJ.out hwx)
       rw [show (wr.alloc (.cells #[.int .i64 xa, .int .i64 xb] 142)).heap.size = wr.heap.size + 1 by simp] at HC
       have hgr : gt < wr.heap.size := Nat.lt_of_lt_of_le hgt A.below.size
       clear A t0 t1' hwx HA9 HLJ
       generalize B9 ++ encDts (R.dirty.take j) = B10 at *
       go_wp2_with fail
       refine HC.out.mono ?_
       rintro e w10 ⟨v10, rfl, A10⟩
       obtain ⟨a10, c10, hv10⟩ := A10.len
       have HA10 := hide A10
       clear A10 HC x0 x1
       generalize (B10 ++ encNums [xa, xb]).length = L10 at hv10
       subst hv10
       go_wp2
       go_roundw
       case rel => exact ⟨j + 1, by omega, by go_num, by rw [HE.out]; exact HA10.out⟩
       case measure => simp [intOf]; omega
     · have hjn : j = R.dirty.length := by omega
       subst hjn
       rw [List.take_length] at A
       have HL10 : Hid ((B9 ++ encDts R.dirty).length = 88 + R.before.length + R.after.length + 24 * R.txns.length + 16 * R.dirty.length) := by show _ = _; rw [List.length_append, HL9.out, length_encDts]
       have k10 : wr.cell? ⟨q, 10, none⟩ = some (.int .i64 R.count) := by rw [cell_row A.rec_]; rfl
       have hwc := HWF.out.count
       have HC10 := hide (A.nums [R.count] (by simp) (by rw [HL10.out]; have := HSS.out; omega) (by simpa using hwc))
       rw [List.take_length]
       clear A HA9 hwc
       generalize hB10 : B9 ++ encDts R.dirty = B10 at *
       have HB10 := hide hB10
       clear hB10
       go_wp2_with fail
       refine HC10.out.mono ?_
       rintro e w11 ⟨v11, rfl, A11⟩
       obtain ⟨a11, c11, hv11⟩ := A11.len
       have HA11 := hide A11
       clear A11 HC10 k10
       generalize (B10 ++ encNums [R.count]).length = L11 at hv11
       subst hv11
       go_wp2
       go_ret
       refine ⟨_, rfl, ?_, HA11.out.below⟩
       have h := HA11.out.own
       have e : B10 ++ encNums [R.count] = R.enc := by
        rw [← HB10.out, ← HB9.out, ← HB8.out, ← HB7.out, ← HB6.out, ← HB5.out, ← HB4.out, ← HN.out]
        exact enc_parts R
       rw [e] at h
       exact h
end Go.Proofs.YteeembildppgmaaGreat.Enc
