/- Numbers and bytes behind an owned row of bytes: addNumbers, addBytes. -/
import Derived.Test.YtmfiafdhflaafaaDec
namespace Go.Proofs.Ytmfiafdhflaafaa
open Go.RowKit
set_option linter.unusedVariables false
set_option linter.unusedSimpArgs false

/-- Nothing below base, and nothing that is no row of bytes, has changed. -/
structure Keeps (base : Nat) (w w' : World) : Prop where
  os : w'.os = w.os
  tape : w'.tape = w.tape
  output : w'.output = w.output
  size : w.heap.size ≤ w'.heap.size
  block : ∀ k, k < w.heap.size → (k < base ∨ ∃ C t fr, w.heap[k]? = some (.cells C t fr) ∧ t ≠ 5) → w'.heap[k]? = w.heap[k]?
theorem Keeps.refl (base : Nat) (w : World) : Keeps base w w := ⟨rfl, rfl, rfl, Nat.le_refl _, fun _ _ _ => rfl⟩
theorem Keeps.trans {base : Nat} {a b c : World} (h : Keeps base a b) (k : Keeps base b c) : Keeps base a c :=
  ⟨k.os.trans h.os, k.tape.trans h.tape, k.output.trans h.output, Nat.le_trans h.size k.size, fun i hi hp => by
    have e := h.block i hi hp
    refine (k.block i (Nat.lt_of_lt_of_le hi h.size) ?_).trans e
    rcases hp with hp | ⟨C, t, fr, hc, ht⟩
    · exact .inl hp
    · exact .inr ⟨C, t, fr, e.trans hc, ht⟩⟩
theorem Keeps.below {base : Nat} {a b : World} (h : Keeps base a b) (hb : base ≤ a.heap.size) : Below base a b :=
  ⟨h.os, h.tape, h.output, h.size, fun k hk => h.block k (by omega) (.inl hk)⟩
theorem Keeps.of_below {base : Nat} {a b : World} (h : Below a.heap.size a b) : Keeps base a b := ⟨h.os, h.tape, h.output, h.size, fun k hk _ => h.block k hk⟩
theorem Keeps.alloc {base : Nat} (a : World) (o : Obj) : Keeps base a (a.alloc o) := Keeps.of_below ((Below.refl _ _).alloc (Nat.le_refl _) _)
theorem Keeps.drew {base : Nat} (a : World) : Keeps base a a.drew := ⟨rfl, rfl, rfl, Nat.le_refl _, fun _ _ _ => rfl⟩
theorem Keeps.grown {base : Nat} {a b : World} {v : Value} {n : Nat} {xs : List Value} (ho : a.ownsRow base 5 1 v n xs) (h : a.grownBy b v.ownBlock) : Keeps base a b :=
  ⟨h.os, h.tape, h.output, h.size, fun k hk hp => h.block k hk (fun e => by
    rcases hp with hp | ⟨C, t, fr, hc, ht⟩
    · have := (ho.lt k e.symm).1; omega
    · exact owns_ne ho hc ht e.symm)⟩
theorem Keeps.cells {base : Nat} {a b : World} (h : Keeps base a b) {g : Nat} {C : Array Value} {t : TypeId} {fr : Nat × Nat} (hg : a.heap[g]? = some (.cells C t fr)) (ht : t ≠ 5) : b.heap[g]? = some (.cells C t fr) :=
  (h.block g (lt_of_heap hg) (.inr ⟨C, t, fr, hg, ht⟩)).trans hg

theorem wpList_max {P : Program} {ops : Array Oper} {rest : List Oper} {o : Oper} {a : Act} {w : World} {Q : Exit → Act → World → Prop} (hg : o.guard = none) (x y : Operand) (ts : Array TypeId)
    (hop : o.op = Op.call { callee := Callee.builtin Builtin.max, args := #[x, y], argTypes := ts }) (i j k : Int) (hx : a.eval x = .int .i64 i) (hy : a.eval y = .int .i64 j) (hk : (if j > i then j else i) = k)
    (h : wpList P ops Q rest (a.put o.dst (.int .i64 k)) w) : wpList P ops Q (o :: rest) a w := by
  refine wpList_plain hg fun K hK' => ?_
  unfold Oper.wp
  have hr := run_max_int2 (P := P) (w := w) ts o.type .i64 .i64 i j
  rw [hk] at hr
  simp [execOp, hop, resolve, invoke, builtin, hx, hy, hr, Result.andThen]
  exact hK' _ _ h
theorem num_get (x : Int) (k : Nat) (h : k < 8) : (num x)[k]'(by rw [length_num]; exact h) = UInt8.ofNat (x.toNat / 256 ^ (7 - k) % 256) := be8_get _ _ h
theorem bcell_ofNat (x : Nat) (h : x < 256) : bcell (UInt8.ofNat x) = .int .u8 (x : Int) := by
  unfold bcell
  rw [UInt8.toNat_ofNat', Nat.mod_eq_of_lt h]
theorem num_cell (x : Int) (k : Nat) (h : k < 8) : bcell ((num x)[k]'(by rw [length_num]; exact h)) = Value.int .u8 (((x.toNat : Nat) : Int) / 2 ^ (8 * (7 - k)) % 256) := by
  rw [num_get x k h, bcell_ofNat _ (Nat.mod_lt _ (by omega))]
  congr 1
  have e : (2 : Int) ^ (8 * (7 - k)) = ((256 ^ (7 - k) : Nat) : Int) := by
    rw [Int.pow_mul]
    simp
  rw [e, ← Int.natCast_ediv]
  omega
theorem Try.built23 (x : Int) (w : World) : (Instr.buildSlice 23 1 #[(0, .int .u8 x)]).run Try.prog w = .ok (.slice (some ⟨w.heap.size, 0, none⟩) 1 1) (w.alloc (.cells #[.int .u8 x] 5)) := by kernel_rfl
theorem row_new (w : World) (v : Value) (t : TypeId) : Row (w.alloc (.cells #[v] t)) (.slice (some ⟨w.heap.size, 0, none⟩) 1 1) 1 [v] :=
  ⟨_, _, rfl, Nat.le_refl _, by simp only [maxLen]; omega, fun _ => ⟨w.heap.size, 0, rfl, fun i u hu => by
    rw [Nat.zero_add, cell_row (heap_alloc_new w _)]; simpa using hu⟩⟩
theorem encNums_snoc (l : List Int) (x : Int) : encNums (l ++ [x]) = encNums l ++ num x := by simp [encNums]

set_option maxHeartbeats 2000000 in
theorem addNumbers_any {base : Nat} {w : World} {v : Value} {bs : List UInt8} {g : Nat} {l : List Int} (hown : w.ownsRow base 5 1 v bs.length (secCells bs)) (hbase : base ≤ w.heap.size) (hg : w.heap[g]? = some (.cells (intCells l).toArray 3 (0, 0)))
    (hl : l.length ≤ 100) (hlen : bs.length ≤ 1000000000000) (hwf : ∀ x ∈ l, -9223372036854775808 ≤ x ∧ x ≤ 9223372036854775807) :
    Calls Try.prog 18 #[v, .slice (some ⟨g, 0, none⟩) l.length l.length] w fun e w' => ∃ v', e = .returned v' ∧ w'.ownsRow base 5 1 v' (bs ++ encNums l).length (secCells (bs ++ encNums l)) ∧ Keeps base w w' := by
  obtain ⟨av, cv, rfl⟩ := owns_len hown
  have HO := hide hown
  have HG := hide hg
  have HB := hide hbase
  have HWF := hide hwf
  clear hown hg hbase hwf
  go_enter Try.func18, Try.ntmps18
  go_wp2
  go_loopw [0, 11] (fun b i wr => ∃ j : Nat, j ≤ l.length ∧ i = .int .i64 j ∧ wr.ownsRow base 5 1 b (bs ++ encNums (l.take j)).length (secCells (bs ++ encNums (l.take j))) ∧ Keeps base w wr) (fun _ i _ => l.length - (intOf i).toNat)
  case atStart => exact ⟨0, by omega, rfl, by simpa [encNums] using HO.out, Keeps.refl _ _⟩
  case round =>
    obtain ⟨j, hj, rfl, ho, hk⟩ := hrel
    by_cases hlt : j < l.length
    · have hcell : wr.cell? ⟨g, j, none⟩ = some (.int .i64 (l.getD j 0)) := by
        rw [cell_row (hk.cells HG.out (by decide))]
        simp [intCells, icell, hlt]
      have HO1 := hide ho
      have HK := hide hk
      clear ho hk
      obtain ⟨x, hx⟩ : ∃ x, l.getD j 0 = x := ⟨_, rfl⟩
      rw [hx] at hcell
      have HX := hide hx
      clear hx
      have hxw : -9223372036854775808 ≤ x ∧ x ≤ 9223372036854775807 := by
        have := HWF.out (l.getD j 0) (by simp [hlt])
        rw [HX.out] at this
        exact this
      have HMX : Hid ((if (0 : Int) > x then 0 else x) = ((x.toNat : Nat) : Int)) := by show _ = _; split <;> omega
      have hm1 : ((x.toNat : Nat) : Int) ≤ 9223372036854775807 := by omega
      have HLB : Hid ((bs ++ encNums (l.take j)).length ≤ 1000000001000) := by show _ ≤ _; rw [List.length_append, length_encNums, List.length_take]; omega
      have HT : Hid (bs ++ encNums (l.take (j + 1)) = (bs ++ encNums (l.take j)) ++ num x) := by
        show _ = _
        have e : l[j] = x := by have := HX.out; simpa [hlt] using this
        rw [List.take_succ_eq_append_getElem hlt, encNums_snoc, e, List.append_assoc]
      clear hxw
      generalize bs ++ encNums (l.take j) = B at *
      have HNUM : Hid (∀ k (h : k < 8), bcell ((num x)[k]'(by rw [length_num]; exact h)) = Value.int .u8 (((x.toNat : Nat) : Int) / 2 ^ (8 * (7 - k)) % 256)) := fun k h => num_cell x k h
      obtain ⟨m, hm⟩ : ∃ m, x.toNat = m := ⟨_, rfl⟩
      rw [hm] at HMX hm1 HNUM
      clear hm
      go_wp2_with (refine wpList_max rfl (.tmp 15) (.const (.int .i64 0)) #[3, 3] rfl _ _ (m : Int) rfl rfl HMX.out ?_)
      go_loopw [0, 18] (fun b i ws => ∃ k : Nat, k ≤ 8 ∧ i = .int .i64 k ∧ ws.ownsRow base 5 1 b (B.length + k) (secCells (B ++ (num x).take k)) ∧ Keeps base w ws) (fun _ i _ => 8 - (intOf i).toNat)
      case atStart => exact ⟨0, by omega, rfl, by simpa using HO1.out, HK.out⟩
      case round =>
        obtain ⟨k, hk8, rfl, ho, hk⟩ := hrel
        by_cases hk1 : k < 8
        · obtain ⟨ab, cb, rfl⟩ := owns_len ho
          have HO2 := hide ho
          have HK2 := hide hk
          clear ho hk
          have HOA : Hid ((wr.alloc (.cells #[.int .u8 ((m : Int) / 2 ^ (8 * (7 - k)) % 256)] 5)).ownsRow base 5 1 (.slice ab (B.length + k) cb) (B.length + k) (secCells (B ++ (num x).take k))) := owns_below HO2.out ((Below.refl _ wr).alloc (Nat.le_refl _) _) (Nat.le_refl _)
          have HN1 : Hid ((B.length + k + 1) * 1 ≤ 140737488355328) := by have := HLB.out; show _ ≤ _; omega
          have HN2 : Hid (B.length + k + 1 ≤ 140737488355328) := by have := HLB.out; show _ ≤ _; omega
          have HBS : Hid (base ≤ (wr.alloc (.cells #[.int .u8 ((m : Int) / 2 ^ (8 * (7 - k)) % 256)] 5)).heap.size) := by
            have := HK2.out.size
            have := HB.out
            show _ ≤ _
            simp
            omega
          go_wp2_with (first
            | (refine wpList_append_row rfl (.tmp 21) (.tmp 28) 23 rfl base 5 _ 1 1 Try.underlying23 Try.info5 rfl (by omega) _ _ _ _ 1 [.int .u8 ((m : Int) / 2 ^ (8 * (7 - k)) % 256)] rfl rfl HOA.out (row_new _ _ _) rfl (by simp [Value.oneCell']) HN1.out HN2.out HBS.out ?_
               intro v2 w2 ho2 hg2
               obtain ⟨a2, c2, hv2⟩ := owns_len ho2
               have HO3 := hide ho2
               have HG2 := hide hg2
               clear ho2 hg2
               subst hv2))
          go_roundw
          case rel =>
            refine ⟨k + 1, by omega, by go_num, ?_, (HK2.out.trans (Keeps.alloc _ _)).trans (Keeps.grown HOA.out HG2.out)⟩
            have e : secCells (B ++ (num x).take (k + 1)) = secCells (B ++ (num x).take k) ++ [.int .u8 ((m : Int) / 2 ^ (8 * (7 - k)) % 256)] := by
              rw [List.take_succ_eq_append_getElem (by rw [length_num]; exact hk1), ← List.append_assoc, secCells_append, ← HNUM.out k hk1]
              rfl
            rw [e]
            exact HO3.out
          case measure => simp [intOf]; omega
        · have hk9 : k = 8 := by omega
          subst hk9
          have HO2 := hide ho
          have HK2 := hide hk
          clear ho hk
          go_wp2
          go_roundw
          case rel =>
            refine ⟨j + 1, by omega, by go_num, ?_, HK2.out⟩
            rw [HT.out, List.length_append, length_num]
            have := HO2.out
            rw [List.take_of_length_le (by rw [length_num]; exact Nat.le_refl _)] at this
            exact this
          case measure => simp [intOf]; omega
    · have hjl : j = l.length := by omega
      subst hjl
      rw [List.take_length] at ho
      have HO1 := hide ho
      have HK := hide hk
      obtain ⟨ab, cb, rfl⟩ := owns_len ho
      clear ho hk
      go_wp2
      go_ret
      exact ⟨_, rfl, HO1.out, HK.out⟩

set_option maxHeartbeats 1000000 in
theorem addBytes_any {w0 w : World} {v vm : Value} {bs more : List UInt8} (hown : w.ownsRow w0.heap.size 5 1 v bs.length (secCells bs)) (hB : Below w0.heap.size w0 w) (hm : Sl w0 vm more) (hlen : bs.length ≤ 1000000000000) (hlm : more.length ≤ 1000000000000) :
    Calls Try.prog 19 #[v, vm] w fun e w' => ∃ v', e = .returned v' ∧ w'.ownsRow w0.heap.size 5 1 v' (bs ++ encBytes more).length (secCells (bs ++ encBytes more)) ∧ Keeps w0.heap.size w w' := by
  obtain ⟨av, cv, rfl⟩ := owns_len hown
  obtain ⟨am, cm, rfl, q1, q2⟩ := hm.len
  simp only [maxLen] at q2
  have hb1 : Below w.heap.size w (w.alloc (.cells #[.int .i64 (more.length : Int)] 3)) := (Below.refl _ w).alloc (Nat.le_refl _) _
  have HC := hide (addNumbers_any (g := w.heap.size) (l := [(more.length : Int)]) (owns_below hown hb1 (Nat.le_refl _)) (Nat.le_trans hB.size hb1.size) (heap_alloc_new w _) (by simp) hlen (by simp; omega))
  have HM := hide hm
  have HB := hide hB
  have HS := hide hb1.size
  clear hown hm hb1 hB
  go_enter Try.func19, Try.ntmps19
  go_wp2_with fail
  refine HC.out.mono ?_
  rintro e w1 ⟨v1, rfl, ho1, hk1⟩
  have hk0 : Keeps w0.heap.size w w1 := (Keeps.alloc w _).trans hk1
  have HROW : Hid (Row w1 (.slice am more.length cm) more.length (secCells more)) := HM.out.below (HB.out.trans (hk0.below HB.out.size)) (Nat.le_refl _)
  have HK0 := hide hk0
  have HO1 := hide ho1
  obtain ⟨a1, c1, hv1⟩ := owns_len ho1
  have hl1 : (bs ++ encNums [(more.length : Int)]).length = bs.length + 8 := by rw [List.length_append, length_encNums]; rfl
  rw [hl1] at hv1
  have HN1 : Hid ((bs ++ encNums [(more.length : Int)]).length + more.length ≤ 140737488355328) := by show _ ≤ _; omega
  have HN2 : Hid (((bs ++ encNums [(more.length : Int)]).length + more.length) * 1 ≤ 140737488355328) := by show _ ≤ _; omega
  have HL : Hid ((secCells more).length = more.length * 1) := by show _ = _; rw [length_secCells]; omega
  have HBS : Hid (w0.heap.size ≤ w1.heap.size) := Nat.le_trans HB.out.size hk0.size
  have HE : Hid (bs ++ encBytes more = (bs ++ encNums [(more.length : Int)]) ++ more) := by show _ = _; simp [encBytes, encNums]
  subst hv1
  clear HC hk0 ho1 hk1 hl1
  generalize bs ++ encNums [(more.length : Int)] = B at *
  go_wp2_with (first
    | (refine wpList_append_row rfl (.tmp 9) (.tmp 10) 23 rfl w0.heap.size 5 _ 1 1 Try.underlying23 Try.info5 rfl (by omega) _ _ _ _ _ _ rfl rfl HO1.out HROW.out HL.out (one_secCells _) HN2.out HN1.out HBS.out ?_
       intro v2 w2 ho2 hg2
       obtain ⟨a2, c2, hv2⟩ := owns_len ho2
       have HO3 := hide ho2
       have HG2 := hide hg2
       clear ho2 hg2
       subst hv2))
  go_ret
  refine ⟨_, rfl, ?_, HK0.out.trans (Keeps.grown HO1.out HG2.out)⟩
  rw [HE.out, secCells_append, List.length_append]
  exact HO3.out
end Go.Proofs.Ytmfiafdhflaafaa
