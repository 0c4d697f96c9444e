/- ValueOrder: what one pair must keep, and the three pairs that do. -/
import Derived.Test.YtigafjdacllohaaDoorLes
import Derived.Test.YtigafjdacllohaaDoorAwk
namespace Go.Proofs.YtigafjdacllohaaDoor
open Go.RowKit
set_option linter.unusedVariables false
set_option linter.unusedSimpArgs false

def cnt (c : Int) : Nat → Int
  | 0 => 0
  | k + 1 => cnt c k + (if (k = 0 ∨ k = 2 ∨ k = 4) ∧ holdsB (9 + (k : Int)) c = true then 1 else 0)
theorem cnt_six (c : Int) : cnt c 6 = 1 := by
  rcases Int.lt_trichotomy c 0 with h | h | h
  · have h1 : ¬ c = 0 := by omega
    have h2 : ¬ 0 < c := by omega
    simp [cnt, holdsB, h, h1, h2]
  · simp [cnt, holdsB, h]
  · have h1 : ¬ c = 0 := by omega
    have h2 : ¬ c < 0 := by omega
    simp [cnt, holdsB, h, h1, h2]
theorem cnt_small (c : Int) : ∀ k, 0 ≤ cnt c k ∧ cnt c k ≤ k
  | 0 => by simp [cnt]
  | k + 1 => by
    have := cnt_small c k
    simp only [cnt]
    split <;> omega
theorem holds_ge (c : Int) : holdsB 14 c = !holdsB 11 c := by
  by_cases h : c < 0
  · have h2 : ¬ 0 ≤ c := by omega
    simp [holdsB, h, h2]
  · have h2 : 0 ≤ c := by omega
    simp [holdsB, h, h2]
theorem holds_ne (c : Int) : holdsB 10 c = !holdsB 9 c := by
  simp [holdsB, bne]
structure Pair (A B N : Vl) : Prop where
  same : A.ty = B.ty
  some : A.ty ≠ 0
  next : N.ty ≠ 0
  other : A.ty ≠ N.ty
  wa : A.wf
  wb : B.wf
  la : 2 * A.t.length + 20 ≤ 500000000
  lb : 2 * B.t.length + 20 ≤ 500000000
  less : holdsB 11 (cmpV A B) = Op.bytesLess (enc A) (enc B)
theorem Pair.op {A B N : Vl} (h : Pair A B N) {op : Int} (ho : 9 ≤ op ∧ op ≤ 14) : lessP op A B = (bV (holdsB op (cmpV A B)), 0) := by
  have hc : isCmp op = true := decide_eq_true ho
  have h0 : ¬ (A.ty = 0 ∨ B.ty = 0) := by have := h.same; have := h.some; omega
  unfold lessP
  rw [if_neg (by simp [hc]), if_neg h0, if_neg (by simpa using h.same)]
theorem Pair.null (A : Vl) {op : Int} (ho : 9 ≤ op ∧ op ≤ 14) : lessP op A Vl.zero = (Vl.zero, 0) := by
  have hc : isCmp op = true := decide_eq_true ho
  unfold lessP
  rw [if_neg (by simp [hc]), if_pos (.inr rfl)]
theorem Pair.step {A B N : Vl} (h : Pair A B N) : lessP 9 A N = (Vl.zero, 160) := by
  have h0 : ¬ (A.ty = 0 ∨ N.ty = 0) := by have := h.next; have := h.some; omega
  unfold lessP
  rw [if_neg (by decide), if_neg h0, if_pos h.other]
theorem less_clean {A B : Vl} (ha : A.wf) (hb : B.wf) (ca : clean A = A) (cb : clean B = B) : holdsB 11 (cmpV A B) = Op.bytesLess (enc A) (enc B) := by
  have h := stand ha hb
  rw [ca, cb] at h
  have e : holdsB 11 (cmpV A B) = decide (cmpV A B < 0) := rfl
  rw [e]
  rcases h with ⟨h1, h2⟩ | ⟨h1, h2⟩ | ⟨h1, h2⟩
  · rw [h2.less.1]; exact decide_eq_true h1
  · rw [h2, less_irrefl]; rw [h2] at h1; exact decide_eq_false (by omega)
  · rw [h2.less.2]; exact decide_eq_false (by omega)
theorem wf_bV (b : Bool) : (bV b).wf := by unfold Vl.wf bV; simp
theorem wf_tV (t : List UInt8) : (tV t).wf := by unfold Vl.wf tV; simp
def six (a b : Int) (s t : List UInt8) (p q : Bool) : List Vl := [nV a, nV b, tV s, tV t, bV p, bV q]
def nextI (i : Nat) : Nat := if i = 2 then 0 else i + 1
theorem six_pair (a b : Int) (s t : List UInt8) (p q : Bool) (ha : (-9223372036854775808 ≤ a ∧ a ≤ 9223372036854775807)) (hb : (-9223372036854775808 ≤ b ∧ b ≤ 9223372036854775807)) (hs : 2 * s.length + 20 ≤ 500000000) (ht : 2 * t.length + 20 ≤ 500000000) (i : Nat) (hi : i < 3) :
    Pair ((six a b s t p q).getD (i * 2) Vl.zero) ((six a b s t p q).getD (i * 2 + 1) Vl.zero) ((six a b s t p q).getD (nextI i * 2) Vl.zero) := by
  have wa : (nV a).wf := ⟨by simp [nV], ha⟩
  have wb : (nV b).wf := ⟨by simp [nV], hb⟩
  rcases (by omega : i = 0 ∨ i = 1 ∨ i = 2) with rfl | rfl | rfl
  · exact ⟨rfl, by show (1 : Int) ≠ 0; decide, by show (2 : Int) ≠ 0; decide, by show (1 : Int) ≠ 2; decide, wa, wb, by show 2 * 0 + 20 ≤ 500000000; decide, by show 2 * 0 + 20 ≤ 500000000; decide, less_clean wa wb rfl rfl⟩
  · exact ⟨rfl, by show (2 : Int) ≠ 0; decide, by show (3 : Int) ≠ 0; decide, by show (2 : Int) ≠ 3; decide, wf_tV s, wf_tV t, hs, ht, less_clean (wf_tV s) (wf_tV t) rfl rfl⟩
  · exact ⟨rfl, by show (3 : Int) ≠ 0; decide, by show (1 : Int) ≠ 0; decide, by show (3 : Int) ≠ 1; decide, wf_bV p, wf_bV q, by show 2 * 0 + 20 ≤ 500000000; decide, by show 2 * 0 + 20 ≤ 500000000; decide, less_clean (wf_bV p) (wf_bV q) rfl rfl⟩
theorem Tryd.underlying28' : Tryd.prog.underlying 28 = some (.slice 25) := by kernel_rfl
theorem run_index28 (w : World) (b o n cap i : Nat) (h : i < n) : (Instr.indexAt 28 (.slice (some ⟨b, o, none⟩) n cap) (.int .i64 (i : Int))).run Tryd.prog w = .ok (.pointer (some ⟨b, o + i * 8, none⟩)) w := by
  have hu := Tryd.underlying28'
  have hs : ∀ w, (sizeOf 25).run Tryd.prog w = .ok 8 w := fun w => by kernel_rfl
  simp [go_sem, hu, hs, h]
theorem run_index28z (w : World) (b n cap i : Nat) (h : i < n) : (Instr.indexAt 28 (.slice (some ⟨b, 0, none⟩) n cap) (.int .i64 (i : Int))).run Tryd.prog w = .ok (.pointer (some ⟨b, i * 8, none⟩)) w := by
  have h1 := run_index28 w b 0 n cap i h
  rwa [Nat.zero_add] at h1
theorem run_index25_0 (w : World) (b o : Nat) : (Instr.indexAt 25 (.pointer (some ⟨b, o, none⟩)) (.int .i64 0)).run Tryd.prog w = .ok (.pointer (some ⟨b, o, none⟩)) w := by
  kernel_rfl
theorem run_index25_1 (w : World) (b o : Nat) : (Instr.indexAt 25 (.pointer (some ⟨b, o, none⟩)) (.int .i64 1)).run Tryd.prog w = .ok (.pointer (some ⟨b, o + 4, none⟩)) w := by
  kernel_rfl
theorem op_lss9 (ρ : Operand → Value) (o : Oper) (x y : Operand) (tt : TypeId) (ho : o.op = .binOp .lss 9 x y tt) (s t : List UInt8) (hx : ρ x = .string (strOf s)) (hy : ρ y = .string (strOf t)) (b : Bool) (hb : Op.bytesLess s t = b) {w : World} : (execOp ρ o).run Tryd.prog w = .ok (.value (.bool b)) w := by
  have hu := Tryd.underlying9
  unfold execOp
  simp only [ho, hx, hy]
  simp [go_sem, hu, strOf_toList, hb]
theorem op_beq4 (ρ : Operand → Value) (o : Oper) (x y : Operand) (tt : TypeId) (ho : o.op = .binOp .eql 4 x y tt) (p q : Bool) (hx : ρ x = .bool p) (hy : ρ y = .bool q) (b : Bool) (hb : (p == q) = b) {w : World} : (execOp ρ o).run Tryd.prog w = .ok (.value (.bool b)) w := by
  have hu := Tryd.underlying4
  unfold execOp
  simp only [ho, hx, hy]
  simp [go_sem, hu, hb]
theorem op_bne4 (ρ : Operand → Value) (o : Oper) (x y : Operand) (tt : TypeId) (ho : o.op = .binOp .neq 4 x y tt) (p q : Bool) (hx : ρ x = .bool p) (hy : ρ y = .bool q) (b : Bool) (hb : (p != q) = b) {w : World} : (execOp ρ o).run Tryd.prog w = .ok (.value (.bool b)) w := by
  have hu := Tryd.underlying4
  unfold execOp
  simp only [ho, hx, hy]
  subst hb
  simp [go_sem, hu]
  cases p <;> cases q <;> rfl
theorem op_bool3 (w : World) (p : Nat) (V : Vl) (h : Box w p V) : (Instr.loadAt 4 (.pointer (some ⟨p, 3, none⟩))).run Tryd.prog w = .ok (.bool V.b) w :=
  run_loadAny w p 3 4 _ Tryd.isAgg4 h.cells.2.2.2
theorem six_at (W : World) (a b : Int) (s t : List UInt8) (p q : Bool) : VsAt (W.alloc (.cells #[.int .i64 1, .int .i64 a, .string { data := #[] }, .bool false, .int .i64 1, .int .i64 b, .string { data := #[] }, .bool false, .int .i64 2, .int .i64 0, .string (strOf s), .bool false, .int .i64 2, .int .i64 0, .string (strOf t), .bool false, .int .i64 3, .int .i64 0, .string { data := #[] }, .bool p, .int .i64 3, .int .i64 0, .string { data := #[] }, .bool q] 25)) (.slice (some ⟨W.heap.size, 0, none⟩) 6 6) (six a b s t p q) := by
  refine ⟨_, _, rfl, Nat.le_refl _, by simp [maxLen], fun _ => ⟨_, _, rfl, fun j u hu => ?_⟩⟩
  rw [Nat.zero_add, cell_row (heap_alloc_new W _)]
  have e : vsCells (six a b s t p q) = [.int .i64 1, .int .i64 a, .string { data := #[] }, .bool false, .int .i64 1, .int .i64 b, .string { data := #[] }, .bool false, .int .i64 2, .int .i64 0, .string (strOf s), .bool false, .int .i64 2, .int .i64 0, .string (strOf t), .bool false, .int .i64 3, .int .i64 0, .string { data := #[] }, .bool p, .int .i64 3, .int .i64 0, .string { data := #[] }, .bool q] := rfl
  rw [e] at hu
  simpa using hu
theorem VsAt.at6 {W : World} {g : Nat} {l : List Vl} (h : VsAt W (.slice (some ⟨g, 0, none⟩) 6 6) l) (hl : l.length = 6) (i : Nat) (hi : i < 6) : CellsAt W g (0 + i * 4) (l.getD i Vl.zero) := by
  obtain ⟨g', o, e, hC⟩ := h.get i (by omega)
  cases e
  exact hC
structure B6 (w : World) (p11 p12 p19 p21 p23 p25 : Nat) (A B : Vl) (x y z u : Bool) : Prop where
  a : Box w p11 A
  b : Box w p12 B
  x : Box w p19 (bV x)
  y : Box w p21 (bV y)
  z : Box w p23 (bV z)
  u : Box w p25 (bV u)
theorem B6.belowW {w w' : World} {p11 p12 p19 p21 p23 p25 : Nat} {A B : Vl} {x y z u : Bool} (h : B6 w p11 p12 p19 p21 p23 p25 A B x y z u) (hb : Below w.heap.size w w') : B6 w' p11 p12 p19 p21 p23 p25 A B x y z u :=
  ⟨h.a.belowW hb, h.b.belowW hb, h.x.belowW hb, h.y.belowW hb, h.z.belowW hb, h.u.belowW hb⟩
theorem wpAnyH_strong {P : Program} {ops : Array Oper} {Q : Exit → Act → World → Prop} {md : Region.Mode} {S S' : World → Prop} (hS : ∀ w, S' w → S w) : ∀ (fuel : Nat) (listed : Array Bool) (a : Act) (w : World), wpAnyH P md ops Q S' fuel listed a w → wpAnyH P md ops Q S fuel listed a w
  | 0, _, _, _, h => h
  | fuel + 1, _, _, _, h => ⟨h.1, fun i hi => wpOp_mono (fun a' w' h' => ⟨hS _ h'.1, wpAnyH_strong hS fuel _ a' w' h'.2⟩) (h.2 i hi)⟩
end Go.Proofs.YtigafjdacllohaaDoor
