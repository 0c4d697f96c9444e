/- A part of it: Plain Make Small Rep Newest Read Write. -/
import Derived.WalkKit
import Derived.Test.YteeembildppgmaaGreatRows
import Derived.WalkSpells
import Derived.WalkLawsBesides
import Derived.Deep.MidRow
import Derived.Deep.OwnRows
import Derived.Laws.CopyOwn
import Derived.Deep.RegionHeld
import Derived.Deep.RegionHeldLaw
namespace Go.Proofs.YteeembildppgmaaGreat
open Go.RowKit
set_option linter.unusedVariables false
set_option linter.unusedSimpArgs false
theorem hide {p : Prop} (h : p) : Hid p := h
def bcell (b : UInt8) : Value := .int .u8 (b.toNat : Int)
def byteOf (x : Int) : UInt8 := UInt8.ofNat (x % 256).toNat
def sec (a b : Int) : List UInt8 := (List.range 128).map fun i : Nat => byteOf (a * (i : Int) + b)
def zeros : List UInt8 := List.replicate 128 0
theorem length_zeros : zeros.length = 128 := by simp [zeros]
def secPart (a b : Int) (k : Nat) : Array Value := (((List.range 128).map fun i : Nat => if i < k then bcell (byteOf (a * (i : Int) + b)) else bcell 0)).toArray
theorem size_secPart (a b : Int) (k : Nat) : (secPart a b k).size = 128 := by simp [secPart]
theorem secPart_zero (a b : Int) : secPart a b 0 = (zeros.map bcell).toArray := by
 unfold secPart zeros
 rw [List.map_replicate]
 refine congrArg List.toArray (List.eq_replicate_iff.2 ⟨by simp, fun x hx => ?_⟩)
 obtain ⟨i, _, rfl⟩ := List.mem_map.1 hx
 rfl
end Go.Proofs.YteeembildppgmaaGreat
namespace Go.Proofs.YteeembildppgmaaGreat
open Go.RowKit
set_option linter.unusedVariables false
set_option linter.unusedSimpArgs false
theorem Tryz.info5 : (Tryz.prog.info? 5).map (fun i => (i.zero, i.size, i.bytes)) = some (some (.int .u8 0), 1, 1) := by kernel_rfl
theorem made128 : madeCells #[.int .u8 0] 128 = (zeros.map bcell).toArray := by kernel_rfl
theorem make128 (w : World) : (Instr.makeSlice 36 (.int .i64 128) (.int .i64 128)).run Tryz.prog w = .ok (.slice (some ⟨w.heap.size, 0, none⟩) 128 128) (w.alloc (.cells (secPart 0 0 0) 5)) := by
 have h := run_make_row' (P := Tryz.prog) 36 5 (.int .u8 0) 1 Tryz.underlying36 Tryz.info5 rfl .i64 .i64 128 (by omega) (by omega) w
 rw [made128, ← secPart_zero 0 0] at h
 exact h

def Tryz.zeroRow (n : Nat) : Array Value := (List.replicate (n * 128) (bcell 0)).toArray
theorem Tryz.info94 : (Tryz.prog.info? 94).map (fun i => (i.zero, i.size, i.bytes)) = some (some (.agg (zeros.map bcell).toArray), 128, 128) := by kernel_rfl
theorem made_same (c : Value) (m n : Nat) (hm : 0 < m) : madeCells (List.replicate m c).toArray n = (List.replicate n c).toArray := by
 apply Array.ext
 · simp [madeCells]
 · intro i h1 h2
   have hlt : i % m < m := Nat.mod_lt _ hm
   simp only [madeCells, Array.getElem_map, Array.getElem_range, List.size_toArray, List.length_replicate, List.getElem_toArray, List.getElem_replicate]
   rw [getElem!_pos _ _ (by simpa using hlt)]
   simp
theorem made_zeros (n : Nat) : madeCells (zeros.map bcell).toArray n = (List.replicate n (bcell 0)).toArray := by
 unfold zeros
 rw [List.map_replicate]
 exact made_same _ _ _ (by omega)
theorem makeRow (n : Int) (w : World) (h1 : 1 ≤ n) (h2 : n ≤ 8192) : (Instr.makeSlice 89 (.int .i64 n) (.int .i64 n)).run Tryz.prog w = .ok (.slice (some ⟨w.heap.size, 0, none⟩) n.toNat n.toNat) (w.alloc (.cells (Tryz.zeroRow n.toNat) 94)) := by
 obtain ⟨i, hi, hz⟩ := Option.map_eq_some_iff.1 Tryz.info94
 simp only [Prod.mk.injEq] at hz
 obtain ⟨hz, hs, hb⟩ := hz
 have h := run_make (P := Tryz.prog) w 89 94 i _ Tryz.underlying89 hi hz .i64 .i64 n n (by omega) (by omega) (by rw [hb]; omega) (by omega)
 rw [h, hs]
 unfold Tryz.zeroRow
 rw [← made_zeros]
 rfl

set_option maxHeartbeats 400000 in
set_option maxRecDepth 100000 in
theorem new_any (n : Int) (w : World) (h1 : 1 ≤ n) (h2 : n ≤ 8192) :
 Calls Tryz.prog 27 #[.int .i64 n] w fun e w' => e = .returned (.tuple #[.pointer (some ⟨w.heap.size + 1, 0, none⟩), .int .i64 0]) ∧
  w' = (w.alloc (.cells (Tryz.zeroRow n.toNat) 94)).alloc (.cells #[.slice (some ⟨w.heap.size, 0, none⟩) n.toNat n.toNat, .slice none 0 0, .int .i64 (-1), .bool false, .int .i64 0] 92) := by
 have hmk := fun w => makeRow n w h1 h2
 go_enter Tryz.func27, Tryz.ntmps27
 go_wp2
 go_ret2
 exact ⟨rfl, rfl⟩

end Go.Proofs.YteeembildppgmaaGreat
namespace Go.Proofs.YteeembildppgmaaGreat
open Go.RowKit
set_option linter.unusedVariables false
set_option linter.unusedSimpArgs false
set_option maxHeartbeats 400000 in
theorem size_any (p : Nat) (w : World) (ao : Option Addr) (n c : Nat) (h1 : w.cell? ⟨p, 0, none⟩ = some (.slice ao n c)) :
 Calls Tryz.prog 47 #[.pointer (some ⟨p, 0, none⟩)] w fun e w' => e = .returned (.int .i64 n) ∧ w' = w := by
 go_enter Tryz.func47, Tryz.ntmps47
 go_wp2
 go_ret
 exact ⟨rfl, rfl⟩



set_option maxHeartbeats 400000 in
theorem has_yes (p : Nat) (i : Int) (w : World) (ao : Option Addr) (n c : Nat) (h0 : w.cell? ⟨p, 0, none⟩ = some (.slice ao n c)) (hi : 0 ≤ i) (hn : i < n) :
 Calls Tryz.prog 45 #[.pointer (some ⟨p, 0, none⟩), .int .i64 i] w fun e w' => e = .returned (.bool true) ∧ w' = w := by
 go_enter Tryz.func45, Tryz.ntmps45
 go_wp2
 go_ret
 exact ⟨rfl, rfl⟩

set_option maxHeartbeats 400000 in
theorem has_no (p : Nat) (i : Int) (w : World) (ao : Option Addr) (n c : Nat) (h0 : w.cell? ⟨p, 0, none⟩ = some (.slice ao n c)) (hi : i < 0 ∨ (n : Int) ≤ i) :
 Calls Tryz.prog 45 #[.pointer (some ⟨p, 0, none⟩), .int .i64 i] w fun e w' => e = .returned (.bool false) ∧ w' = w := by
 by_cases h : 0 ≤ i
 · have hn : (n : Int) ≤ i := by omega
   have hd : decide (i < (n : Int)) = false := by simpa using hn
   clear hi
   go_enter Tryz.func45, Tryz.ntmps45
   go_wp2
   go_ret
   exact ⟨rfl, rfl⟩
 · clear hi
   go_enter Tryz.func45, Tryz.ntmps45
   go_wp2
   go_ret
   exact ⟨rfl, rfl⟩

set_option maxHeartbeats 400000 in
theorem burn_dies (p : Nat) (w : World) (u : Value) (h2 : w.cell? ⟨p, 2, none⟩ = some (.int .i64 0)) (h3 : w.cell? ⟨p, 3, none⟩ = some u) (f3 : w.frozen? ⟨p, 3, none⟩ = false) :
 Calls Tryz.prog 145 #[.pointer (some ⟨p, 0, none⟩)] w fun e w' => e = .returned (.bool false) ∧ w' = w.setCell ⟨p, 3, none⟩ (.bool true) := by
 go_enter Tryz.func145, Tryz.ntmps145
 go_wp2
 go_ret
 exact ⟨rfl, rfl⟩

set_option maxHeartbeats 400000 in
theorem burn_less (p : Nat) (w : World) (k : Int) (hk : 0 < k) (hk' : k ≤ 9223372036854775807) (h2 : w.cell? ⟨p, 2, none⟩ = some (.int .i64 k)) (f2 : w.frozen? ⟨p, 2, none⟩ = false) :
 Calls Tryz.prog 145 #[.pointer (some ⟨p, 0, none⟩)] w fun e w' => e = .returned (.bool true) ∧ w' = w.setCell ⟨p, 2, none⟩ (.int .i64 (k - 1)) := by
 have hz : (k == 0) = false := beq_eq_false_iff_ne.2 (by omega)
 go_enter Tryz.func145, Tryz.ntmps145
 go_wp2
 go_ret
 exact ⟨rfl, rfl⟩

set_option maxHeartbeats 400000 in
theorem burn_none (p : Nat) (w : World) (k : Int) (hk : k < 0) (h2 : w.cell? ⟨p, 2, none⟩ = some (.int .i64 k)) :
 Calls Tryz.prog 145 #[.pointer (some ⟨p, 0, none⟩)] w fun e w' => e = .returned (.bool true) ∧ w' = w := by
 have hz : (k == 0) = false := beq_eq_false_iff_ne.2 (by omega)
 go_enter Tryz.func145, Tryz.ntmps145
 go_wp2
 go_ret
 exact ⟨rfl, rfl⟩

end Go.Proofs.YteeembildppgmaaGreat
namespace Go.Proofs.YteeembildppgmaaGreat
open Go.RowKit
set_option linter.unusedVariables false
set_option linter.unusedSimpArgs false
theorem flat_length {α : Type} (m : Nat) : ∀ X : List (List α), (∀ x ∈ X, x.length = m) → X.flatten.length = X.length * m
 | [], _ => by simp
 | x :: r, h => by
   rw [List.flatten_cons, List.length_append, flat_length m r (fun y hy => h y (by simp [hy])), h x (by simp), List.length_cons, Nat.add_mul]
   omega
theorem flat_get {α : Type} (m : Nat) : ∀ (X : List (List α)) (_ : ∀ x ∈ X, x.length = m) (i : Nat) (hi : i < X.length) (j : Nat) (_ : j < m), X.flatten[i * m + j]? = X[i][j]?
 | [], _, i, hi, _, _ => by simp at hi
 | x :: r, h, 0, _, j, hj => by
   rw [List.flatten_cons, Nat.zero_mul, Nat.zero_add, List.getElem?_append_left (by rw [h x (by simp)]; exact hj)]
   rfl
 | x :: r, h, i + 1, hi, j, hj => by
   have hx : x.length = m := h x (by simp)
   rw [List.flatten_cons, List.getElem?_append_right (by rw [hx, Nat.add_mul]; omega), hx, show (i + 1) * m + j - m = i * m + j by rw [Nat.add_mul]; omega,
    flat_get m r (fun y hy => h y (by simp [hy])) i (by simpa using hi) j hj]
   rfl
theorem flat_take {α : Type} (m : Nat) : ∀ (X : List (List α)) (_ : ∀ x ∈ X, x.length = m) (i : Nat), X.flatten.take (i * m) = (X.take i).flatten
 | [], _, i => by simp
 | x :: r, _, 0 => by simp
 | x :: r, h, i + 1 => by
   have hx : x.length = m := h x (by simp)
   rw [List.flatten_cons, List.take_succ_cons, List.flatten_cons, Nat.add_mul, Nat.one_mul, ← flat_take m r (fun y hy => h y (by simp [hy])) i]
   rw [List.take_append, hx, List.take_of_length_le (by omega)]
   congr 2
   omega
theorem flat_drop {α : Type} (m : Nat) : ∀ (X : List (List α)) (_ : ∀ x ∈ X, x.length = m) (i : Nat), X.flatten.drop (i * m) = (X.drop i).flatten
 | [], _, i => by simp
 | x :: r, _, 0 => by simp
 | x :: r, h, i + 1 => by
   have hx : x.length = m := h x (by simp)
   rw [List.flatten_cons, List.drop_succ_cons, Nat.add_mul, Nat.one_mul, ← flat_drop m r (fun y hy => h y (by simp [hy])) i]
   rw [List.drop_append, hx, List.drop_of_length_le (by omega), List.nil_append]
   congr 1
   omega
theorem flat_set {α : Type} (m : Nat) (X : List (List α)) (h : ∀ x ∈ X, x.length = m) (i : Nat) (hi : i < X.length) (v : List α) (hv : v.length = m) :
 X.flatten.take (i * m) ++ v ++ X.flatten.drop (i * m + v.length) = (X.set i v).flatten := by
 rw [hv, flat_take m X h, show i * m + m = (i + 1) * m by rw [Nat.add_mul]; omega, flat_drop m X h, List.set_eq_take_append_cons_drop, if_pos hi]
 simp

theorem Tryz.size94 {s : List Value} (h : s.length = 128) : (Tryz.prog.info? 94).map (·.size) = some s.length := by rw [h]; kernel_rfl
theorem Tryz.size94' {s : Array Value} (h : s.size = 128) : (Tryz.prog.info? 94).map (·.size) = some s.size := by rw [h]; kernel_rfl
theorem Tryz.size97 {s : List Value} (h : s.length = 129) : (Tryz.prog.info? 97).map (·.size) = some s.length := by rw [h]; kernel_rfl
theorem Tryz.size97' {s : Array Value} (h : s.size = 129) : (Tryz.prog.info? 97).map (·.size) = some s.size := by rw [h]; kernel_rfl

structure Dv where
 L : List (List UInt8)
 W : List (Nat × List UInt8)
 fuse : Int
 dead : Bool
 calls : Int

def secCells (s : List UInt8) : List Value := s.map bcell
def rowCells (L : List (List UInt8)) : List Value := (L.map secCells).flatten
def entOf (x : Nat × List UInt8) : List Value := .int .i64 (x.1 : Int) :: secCells x.2
def entCells (W : List (Nat × List UInt8)) : List Value := (W.map entOf).flatten
theorem length_secCells (s : List UInt8) : (secCells s).length = s.length := by simp [secCells]
theorem one_secCells (s : List UInt8) : ∀ v ∈ secCells s, v.oneCell' = true := by
 intro v hv
 obtain ⟨b, _, rfl⟩ := List.mem_map.1 hv
 rfl
theorem one_entOf (x : Nat × List UInt8) : ∀ v ∈ entOf x, v.oneCell' = true := by
 intro v hv
 rcases List.mem_cons.1 hv with rfl | hv
 · rfl
 · exact one_secCells _ v hv

structure Dv.wf (D : Dv) : Prop where
 pos : 1 ≤ D.L.length
 max : D.L.length ≤ 8192
 sec : ∀ s ∈ D.L, s.length = 128
 ent : ∀ x ∈ D.W, x.1 < D.L.length ∧ x.2.length = 128
 lo : -9223372036854775808 ≤ D.fuse
 hi : D.fuse ≤ 9223372036854775807

theorem Dv.wf.rows {D : Dv} (h : D.wf) : ∀ x ∈ D.L.map secCells, x.length = 128 := by
 intro x hx
 obtain ⟨s, hs, rfl⟩ := List.mem_map.1 hx
 rw [length_secCells, h.sec s hs]
theorem Dv.wf.ents {D : Dv} (h : D.wf) : ∀ x ∈ D.W.map entOf, x.length = 129 := by
 intro x hx
 obtain ⟨s, hs, rfl⟩ := List.mem_map.1 hx
 simp [entOf, length_secCells, (h.ent s hs).2]

structure Off (fp : List Nat) (w w' : World) : Prop where
 os : w'.os = w.os
 tape : w'.tape = w.tape
 output : w'.output = w.output
 size : w.heap.size ≤ w'.heap.size
 block : ∀ k, k < w.heap.size → k ∉ fp → w'.heap[k]? = w.heap[k]?

theorem Off.refl (fp : List Nat) (w : World) : Off fp w w := ⟨rfl, rfl, rfl, Nat.le_refl _, fun _ _ _ => rfl⟩
theorem Off.trans {fp fp' : List Nat} {a b c : World} (h : Off fp a b) (k : Off fp' b c) (hfp : ∀ i ∈ fp', i ∈ fp ∨ a.heap.size ≤ i) : Off fp a c :=
 ⟨k.os.trans h.os, k.tape.trans h.tape, k.output.trans h.output, Nat.le_trans h.size k.size, fun i hi hn =>
  (k.block i (Nat.lt_of_lt_of_le hi h.size) (fun hm => by rcases hfp i hm with h1 | h1; exact hn h1; omega)).trans (h.block i hi hn)⟩
theorem Off.mono {fp fp' : List Nat} {a b : World} (h : Off fp a b) (hs : ∀ i ∈ fp, i ∈ fp') : Off fp' a b :=
 ⟨h.os, h.tape, h.output, h.size, fun k hk hn => h.block k hk (fun hm => hn (hs k hm))⟩
theorem Off.below {fp : List Nat} {a b : World} (h : Off fp a b) {B : Nat} (hB : B ≤ a.heap.size) (hf : ∀ k ∈ fp, B ≤ k) : Below B a b :=
 ⟨h.os, h.tape, h.output, h.size, fun k hk => h.block k (by omega) (fun hm => by have := hf k hm; omega)⟩
theorem Off.of_below {a b : World} (h : Below a.heap.size a b) (fp : List Nat) : Off fp a b :=
 ⟨h.os, h.tape, h.output, h.size, fun k hk _ => h.block k hk⟩
theorem Off.alloc {fp : List Nat} {a w : World} (h : Off fp a w) (o : Obj) : Off fp a (w.alloc o) :=
 ⟨h.os, h.tape, h.output, by have := h.size; simp; omega, fun k hk hn => (Below.heap_alloc _ _ _ (Nat.lt_of_lt_of_le hk h.size)).trans (h.block k hk hn)⟩
theorem Off.drew {fp : List Nat} {a w : World} (h : Off fp a w) : Off fp a w.drew := ⟨h.os, h.tape, h.output, h.size, h.block⟩
theorem Off.setCell {fp : List Nat} {a w : World} (h : Off fp a w) (p : Addr) (u : Value) (hp : p.block ∈ fp ∨ a.heap.size ≤ p.block) : Off fp a (w.setCell p u) :=
 ⟨h.os, h.tape, h.output, by have := h.size; simpa [World.setCell] using this, fun k hk hn => (Below.heap_setCell _ _ _ _ (fun e => by subst e; rcases hp with hp | hp; exact hn hp; omega)).trans (h.block k hk hn)⟩
theorem Off.setRow {fp : List Nat} {a w : World} (h : Off fp a w) (g : Nat) (cs : Array Value) (hp : g ∈ fp ∨ a.heap.size ≤ g) : Off fp a (w.setRow g cs) :=
 ⟨h.os, h.tape, h.output, by have := h.size; simpa [World.setRow] using this, fun k hk hn => (setRow_other w g k cs (fun e => by subst e; rcases hp with hp | hp; exact hn hp; omega)).trans (h.block k hk hn)⟩
theorem Off.grown {fp : List Nat} {a w w' : World} {row : Option Nat} (h : Off fp a w) (hg : w.grownBy w' row) (hr : ∀ k, row = some k → k ∈ fp ∨ a.heap.size ≤ k) : Off fp a w' :=
 ⟨hg.os.trans h.os, hg.tape.trans h.tape, hg.output.trans h.output, Nat.le_trans h.size hg.size, fun k hk hn =>
  (hg.block k (Nat.lt_of_lt_of_le hk h.size) (fun e => by rcases hr k e.symm with h1 | h1; exact hn h1; omega)).trans (h.block k hk hn)⟩

theorem owns_of_block {w w' : World} {e : TypeId} {size : Nat} {v : Value} {n : Nat} {xs : List Value} (h : w.ownsRow 0 e size v n xs) (hb : ∀ k, v.ownBlock = some k → w'.heap[k]? = w.heap[k]?) : w'.ownsRow 0 e size v n xs := by
 refine ⟨h.1, ?_⟩
 rcases h.2 with hn | ⟨g, cap, cur, rfl, hb', hgg, rest⟩
 · exact .inl hn
 · exact .inr ⟨g, cap, cur, rfl, hb', by rw [hb g rfl]; exact hgg, rest⟩

structure DevIs (w : World) (p : Nat) (fp : List Nat) (D : Dv) (lb lcap : Nat) (cv : Value) : Prop where
 wf : D.wf
 head : w.heap[p]? = some (.cells #[.slice (some ⟨lb, 0, none⟩) D.L.length lcap, cv, .int .i64 D.fuse, .bool D.dead, .int .i64 D.calls] 92 (0, 0))
 row : w.ownsRow 0 94 128 (.slice (some ⟨lb, 0, none⟩) D.L.length lcap) D.L.length (rowCells D.L)
 cache : w.ownsRow 0 97 129 cv D.W.length (entCells D.W)
 ne1 : p ≠ lb
 ne2 : cv.ownBlock ≠ some p
 ne3 : cv.ownBlock ≠ some lb
 inP : p ∈ fp
 inL : lb ∈ fp
 inC : ∀ k, cv.ownBlock = some k → k ∈ fp
 lim : ∀ k ∈ fp, k < w.heap.size
def DevAt (w : World) (p : Nat) (fp : List Nat) (D : Dv) : Prop := ∃ lb lcap cv, DevIs w p fp D lb lcap cv

section
variable {w w' : World} {p lb lcap : Nat} {fp : List Nat} {D : Dv} {cv : Value}
theorem DevIs.c0 (h : DevIs w p fp D lb lcap cv) : w.cell? ⟨p, 0, none⟩ = some (.slice (some ⟨lb, 0, none⟩) D.L.length lcap) := by rw [cell_of_row w p 0 _ _ _ h.head]; rfl
theorem DevIs.c1 (h : DevIs w p fp D lb lcap cv) : w.cell? ⟨p, 1, none⟩ = some cv := by rw [cell_of_row w p 1 _ _ _ h.head]; rfl
theorem DevIs.c2 (h : DevIs w p fp D lb lcap cv) : w.cell? ⟨p, 2, none⟩ = some (.int .i64 D.fuse) := by rw [cell_of_row w p 2 _ _ _ h.head]; rfl
theorem DevIs.c3 (h : DevIs w p fp D lb lcap cv) : w.cell? ⟨p, 3, none⟩ = some (.bool D.dead) := by rw [cell_of_row w p 3 _ _ _ h.head]; rfl
theorem DevIs.c4 (h : DevIs w p fp D lb lcap cv) : w.cell? ⟨p, 4, none⟩ = some (.int .i64 D.calls) := by rw [cell_of_row w p 4 _ _ _ h.head]; rfl
theorem DevIs.fz (h : DevIs w p fp D lb lcap cv) (o : Nat) : w.frozen? ⟨p, o, none⟩ = false := frozen_of_row w p o _ _ h.head
theorem DevIs.lt (h : DevIs w p fp D lb lcap cv) : p < w.heap.size := (Array.getElem?_eq_some_iff.1 h.head).1
theorem DevIs.ltL (h : DevIs w p fp D lb lcap cv) : lb < w.heap.size := (h.row.lt lb rfl).2
theorem DevIs.ltC (h : DevIs w p fp D lb lcap cv) : ∀ k, cv.ownBlock = some k → k < w.heap.size := fun k hk => (h.cache.lt k hk).2
theorem DevIs.stay (h : DevIs w p fp D lb lcap cv) (hs : w.heap.size ≤ w'.heap.size) (hb : ∀ k, (k = p ∨ k = lb ∨ cv.ownBlock = some k) → w'.heap[k]? = w.heap[k]?) : DevIs w' p fp D lb lcap cv :=
 ⟨h.wf, by rw [hb p (.inl rfl)]; exact h.head, owns_of_block h.row (fun k hk => hb k (.inr (.inl (by simpa [Value.ownBlock] using hk.symm)))), owns_of_block h.cache (fun k hk => hb k (.inr (.inr hk))), h.ne1, h.ne2, h.ne3, h.inP, h.inL, h.inC, fun k hk => Nat.lt_of_lt_of_le (h.lim k hk) hs⟩
theorem DevIs.below (h : DevIs w p fp D lb lcap cv) (hb : Below w.heap.size w w') : DevIs w' p fp D lb lcap cv :=
 h.stay hb.size fun k hk => hb.block k (by rcases hk with rfl | rfl | hk; exact h.lt; exact h.ltL; exact h.ltC k hk)
theorem DevIs.apart (h : DevIs w p fp D lb lcap cv) {fq : List Nat} (ho : Off fq w w') (hd : ∀ k ∈ fp, k ∉ fq) : DevIs w' p fp D lb lcap cv :=
 h.stay ho.size fun k hk => by
  rcases hk with rfl | rfl | hk
  · exact ho.block _ h.lt (hd _ h.inP)
  · exact ho.block _ h.ltL (hd _ h.inL)
  · exact ho.block _ (h.ltC k hk) (hd _ (h.inC k hk))
theorem DevAt.apart (h : DevAt w p fp D) {fq : List Nat} (ho : Off fq w w') (hd : ∀ k ∈ fp, k ∉ fq) : DevAt w' p fp D :=
 let ⟨_, _, _, x⟩ := h; ⟨_, _, _, x.apart ho hd⟩
theorem DevAt.below (h : DevAt w p fp D) (hb : Below w.heap.size w w') : DevAt w' p fp D :=
 let ⟨_, _, _, x⟩ := h; ⟨_, _, _, x.below hb⟩
theorem DevIs.more (h : DevIs w p fp D lb lcap cv) {fq : List Nat} (hs : ∀ k ∈ fp, k ∈ fq) (hl : ∀ k ∈ fq, k < w.heap.size) : DevIs w p fq D lb lcap cv :=
 ⟨h.wf, h.head, h.row, h.cache, h.ne1, h.ne2, h.ne3, hs _ h.inP, hs _ h.inL, fun k hk => hs _ (h.inC k hk), hl⟩
theorem DevIs.heads (h : DevIs w p fp D lb lcap cv) (j : Nat) (v : Value) (D' : Dv) (hL : D'.L = D.L) (hW : D'.W = D.W) (hf : D'.wf)
 (hc : (#[.slice (some ⟨lb, 0, none⟩) D.L.length lcap, cv, .int .i64 D.fuse, .bool D.dead, .int .i64 D.calls] : Array Value).setIfInBounds j v = #[.slice (some ⟨lb, 0, none⟩) D.L.length lcap, cv, .int .i64 D'.fuse, .bool D'.dead, .int .i64 D'.calls]) :
 DevIs (w.setCell ⟨p, j, none⟩ v) p fp D' lb lcap cv := by
 have hh := heap_setCell_same w p j _ _ v h.head
 rw [hc] at hh
 refine ⟨hf, by rw [hL]; exact hh, ?_, ?_, h.ne1, h.ne2, h.ne3, h.inP, h.inL, h.inC, fun k hk => by simpa [World.setCell] using h.lim k hk⟩
 · rw [hL]
   exact owns_of_block h.row (fun k hk => heap_setCell_other w _ k v (fun e => h.ne1 (by simp [Value.ownBlock] at hk e; omega)))
 · rw [hW]
   exact owns_of_block h.cache (fun k hk => heap_setCell_other w _ k v (fun e => h.ne2 (by rw [hk]; exact congrArg some e)))
theorem DevIs.form (h : DevIs w p fp D lb lcap cv) : (cv = .slice none 0 0 ∧ D.W = []) ∨ ∃ cb c, cv = .slice (some ⟨cb, 0, none⟩) D.W.length c := by
 rcases h.cache.2 with ⟨h1, h2⟩ | ⟨g, cap, cur, h1, _⟩
 · exact .inl ⟨h1, List.eq_nil_of_length_eq_zero h2⟩
 · exact .inr ⟨g, cap, h1⟩
theorem rangeAt_of_cells {w : World} {g o m : Nat} {xs ys : List Value} (hx : ∀ j u, xs[j]? = some u → w.cell? ((⟨g, 0, none⟩ : Addr).add j) = some u) (hy : ys.length = m) (hg : ∀ j, j < m → xs[o + j]? = ys[j]?) : w.rangeAt g o ys := by
 intro j v hv
 have hj : j < m := by rw [← hy]; exact (List.getElem?_eq_some_iff.1 hv).1
 have := hx (o + j) v (by rw [hg j hj]; exact hv)
 rwa [Addr.add_mid, Nat.zero_add] at this
theorem src_of_block {w : World} {g : Nat} {t : TypeId} {fr : Nat × Nat} {X : List Value} (h : w.heap[g]? = some (.cells X.toArray t fr)) : ∀ j v, X[j]? = some v → w.cell? ((⟨g, 0, none⟩ : Addr).add j) = some v := fun j v hv => by
 rw [Addr.add_mid, Nat.zero_add, cell_of_row w g j _ _ _ h]
 simpa using hv
theorem DevIs.secAt (h : DevIs w p fp D lb lcap cv) (i : Nat) (hi : i < D.L.length) : w.rangeAt lb (i * 128) (secCells D.L[i]) := by
 have hr := h.wf.rows
 refine rangeAt_of_cells (m := 128) (h.row.cells rfl) (by rw [length_secCells]; exact h.wf.sec _ (List.getElem_mem hi)) (fun j hj => ?_)
 unfold rowCells
 rw [flat_get 128 _ hr i (by simpa using hi) j hj]
 simp
theorem DevIs.entAt {cb c : Nat} (h : DevIs w p fp D lb lcap (.slice (some ⟨cb, 0, none⟩) D.W.length c)) (i : Nat) (hi : i < D.W.length) : w.rangeAt cb (i * 129) (entOf D.W[i]) := by
 have hr := h.wf.ents
 refine rangeAt_of_cells (m := 129) (h.cache.cells rfl) (by simp [entOf, length_secCells, (h.wf.ent _ (List.getElem_mem hi)).2]) (fun j hj => ?_)
 unfold entCells
 rw [flat_get 129 _ hr i (by simpa using hi) j hj]
 simp
theorem DevIs.entAt0 {cb c : Nat} (h : DevIs w p fp D lb lcap (.slice (some ⟨cb, 0, none⟩) D.W.length c)) (i : Nat) (hi : i < D.W.length) : w.cell? ⟨cb, i * 129, none⟩ = some (.int .i64 (D.W[i].1 : Int)) :=
 h.entAt i hi 0 _ rfl
theorem DevIs.entAt1 {cb c : Nat} (h : DevIs w p fp D lb lcap (.slice (some ⟨cb, 0, none⟩) D.W.length c)) (i : Nat) (hi : i < D.W.length) : w.rangeAt cb (i * 129 + 1) (secCells D.W[i].2) := fun j v hv => by
 have := h.entAt i hi (j + 1) v (by simpa [entOf] using hv)
 rwa [show i * 129 + 1 + j = i * 129 + (j + 1) by omega]
end
end Go.Proofs.YteeembildppgmaaGreat
namespace Go.Proofs.YteeembildppgmaaGreat
open Go.RowKit
set_option linter.unusedVariables false
set_option linter.unusedSimpArgs false
def Dv.newest (D : Dv) (i : Nat) : List UInt8 :=
 match D.W.reverse.find? (fun x => x.1 == i) with
 | some x => x.2
 | none => D.L.getD i []

def zeroSec : Array Value := (secCells zeros).toArray
def zeroEnt : Array Value := (entOf (0, zeros)).toArray
theorem Tryz.zero94 (w : World) : (zeroValue 94).run Tryz.prog w = .ok (.agg zeroSec) w := by kernel_rfl
theorem Tryz.zero97 (w : World) : (zeroValue 97).run Tryz.prog w = .ok (.agg zeroEnt) w := by kernel_rfl

theorem newest_hit (D : Dv) (i k : Nat) (hk : k < D.W.length) (h : D.W[k].1 = i) (hn : ∀ j (hj : j < D.W.length), k < j → D.W[j].1 ≠ i) : D.newest i = D.W[k].2 := by
 unfold Dv.newest
 have : D.W.reverse.find? (fun x => x.1 == i) = some D.W[k] := by
  rw [List.find?_eq_some_iff_getElem]
  refine ⟨by simp [h], D.W.length - 1 - k, by simp; omega, ?_, ?_⟩
  · rw [List.getElem_reverse]
    congr 1
    omega
  · intro j hj
    rw [List.getElem_reverse]
    have := hn (D.W.length - 1 - j) (by omega) (by omega)
    simpa using this
 rw [this]
theorem newest_miss (D : Dv) (i : Nat) (hi : i < D.L.length) (hn : ∀ j (hj : j < D.W.length), D.W[j].1 ≠ i) : D.newest i = D.L[i] := by
 unfold Dv.newest
 have : D.W.reverse.find? (fun x => x.1 == i) = none := by
  rw [List.find?_eq_none]
  intro x hx
  obtain ⟨j, hj, rfl⟩ := List.getElem_of_mem (List.mem_reverse.1 hx)
  simpa using hn j hj
 rw [this]
 simp [hi]

set_option maxHeartbeats 400000 in
set_option maxRecDepth 100000 in
theorem newest_some (p : Nat) (i : Nat) (w : World) (fp : List Nat) (D : Dv) (lb lcap cb c : Nat) (h : DevIs w p fp D lb lcap (.slice (some ⟨cb, 0, none⟩) D.W.length c)) (hi : i < D.L.length) (hm : D.W.length < 1000000) :
 Calls Tryz.prog 46 #[.pointer (some ⟨p, 0, none⟩), .int .i64 (i : Int)] w fun e w' => e = .returned (.agg (secCells (D.newest i)).toArray) ∧ Below w.heap.size w w' := by
 have k1 := h.c1
 have z94 := Tryz.zero94
 have hp := h.lt
 go_enter Tryz.func46, Tryz.ntmps46
 go_wp2
 obtain ⟨w1, hw1⟩ : ∃ w1, w1 = w.alloc (.cells zeroSec 94) := ⟨_, rfl⟩
 rw [← hw1]
 have hb : Below w.heap.size w w1 := by rw [hw1]; exact (Below.refl _ _).alloc (Nat.le_refl _) _
 have hg : w1.heap[w.heap.size]? = some (.cells zeroSec 94 (0, 0)) := by rw [hw1]; exact heap_alloc_new w _
 have h1 := h.below hb
 clear hw1 h k1 hp z94
 have k1 := h1.c1
 have k0 := h1.c0
 go_loop [5] (fun t => ∃ k : Int, -1 ≤ k ∧ k < D.W.length ∧ t = .int .i64 k ∧ ∀ j (hj : j < D.W.length), k < j → D.W[j].1 ≠ i) (fun t => (intOf t + 1).toNat)
 case atStart => exact ⟨D.W.length - 1, by omega, by omega, rfl, fun j hj h => by omega⟩
 case round =>
  obtain ⟨k, hk0, hk, rfl, hn⟩ := hrel
  by_cases hlt : 0 ≤ k
  · obtain ⟨m, rfl⟩ := Int.eq_ofNat_of_zero_le hlt
    have hm2 : m < D.W.length := by omega
    have e0 := h1.entAt0 m hm2
    have H1 := hide (h1.entAt1 m hm2)
    have HN := hide hn
    clear hn
    by_cases hat : D.W[m].1 = i
    · have HA := hide hat
      have hat' : (((D.W[m].1 : Nat) : Int) == (i : Int)) = true := by simp [hat]
      clear hat
      have HL : Hid ((secCells D.W[m].2).length = 128) := by
       show _ = _
       rw [length_secCells]; exact (h1.wf.ent _ (List.getElem_mem hm2)).2
      go_wp2_with (first
       | (refine wpList_load_mid rfl 94 _ rfl cb (m * 129 + 1) rfl (secCells D.W[m].2) _ H1.out Tryz.underlying94 rfl (Tryz.size94 HL.out) ?_)
       | (refine wpList_store_row rfl 94 _ _ rfl w.heap.size (secCells D.W[m].2).toArray rfl rfl 94 zeroSec hg (Tryz.size94' HL.out) HL.out.symm (all_oneCell_toArray (one_secCells _)) ?_))
      have hg2 := setRow_heap w1 w.heap.size zeroSec (secCells D.W[m].2).toArray 94 (0, 0) hg
      refine bodyPost_ret (v := .agg (secCells D.W[m].2).toArray) (results_cell_row Tryz.results46 _ _ w.heap.size 94 _ (0, 0) _ rfl hg2 Tryz.underlying94 rfl (Tryz.size94' HL.out)) rfl ⟨?_, below_setRow hb (Nat.le_refl _) _⟩
      rw [newest_hit D i m hm2 HA.out (fun j hj hlt => HN.out j hj (by omega))]
    · have hat' : (((D.W[m].1 : Nat) : Int) == (i : Int)) = false := beq_eq_false_iff_ne.2 (by omega)
      have HA := hide hat
      clear hat
      go_wp2
      go_round
      case rel => exact ⟨(m : Int) - 1, by omega, by omega, by go_num, fun j hj hjm => by
       by_cases e : j = m
       · subst e; exact HA.out
       · exact HN.out j hj (by omega)⟩
      case measure => simp [intOf]
  · have HN := hide hn
    clear hn
    have H1 := hide (h1.secAt i hi)
    have HL : Hid ((secCells D.L[i]).length = 128) := by
     show _ = _
     rw [length_secCells]; exact h1.wf.sec _ (List.getElem_mem hi)
    go_wp2_with (first
     | (refine wpList_load_mid rfl 94 _ rfl lb (i * 128) rfl (secCells D.L[i]) _ H1.out Tryz.underlying94 rfl (Tryz.size94 HL.out) ?_)
     | (refine wpList_store_row rfl 94 _ _ rfl w.heap.size (secCells D.L[i]).toArray rfl rfl 94 zeroSec hg (Tryz.size94' HL.out) HL.out.symm (all_oneCell_toArray (one_secCells _)) ?_))
    have hg2 := setRow_heap w1 w.heap.size zeroSec (secCells D.L[i]).toArray 94 (0, 0) hg
    refine bodyPost_ret (v := .agg (secCells D.L[i]).toArray) (results_cell_row Tryz.results46 _ _ w.heap.size 94 _ (0, 0) _ rfl hg2 Tryz.underlying94 rfl (Tryz.size94' HL.out)) rfl ⟨?_, below_setRow hb (Nat.le_refl _) _⟩
    rw [newest_miss D i hi (fun j hj => HN.out j hj (by omega))]

set_option maxHeartbeats 400000 in
set_option maxRecDepth 100000 in
theorem newest_nil (p : Nat) (i : Nat) (w : World) (fp : List Nat) (D : Dv) (lb lcap : Nat) (h : DevIs w p fp D lb lcap (.slice none 0 0)) (hW : D.W = []) (hi : i < D.L.length) :
 Calls Tryz.prog 46 #[.pointer (some ⟨p, 0, none⟩), .int .i64 (i : Int)] w fun e w' => e = .returned (.agg (secCells (D.newest i)).toArray) ∧ Below w.heap.size w w' := by
 have HF := hide (newest_miss D i hi (fun j hj => by rw [hW] at hj; simp at hj))
 clear hW
 have k1 := h.c1
 have z94 := Tryz.zero94
 have hp := h.lt
 go_enter Tryz.func46, Tryz.ntmps46
 go_wp2
 obtain ⟨w1, hw1⟩ : ∃ w1, w1 = w.alloc (.cells zeroSec 94) := ⟨_, rfl⟩
 rw [← hw1]
 have hb : Below w.heap.size w w1 := by rw [hw1]; exact (Below.refl _ _).alloc (Nat.le_refl _) _
 have hg : w1.heap[w.heap.size]? = some (.cells zeroSec 94 (0, 0)) := by rw [hw1]; exact heap_alloc_new w _
 have h1 := h.below hb
 clear hw1 h k1 hp z94
 have k1 := h1.c1
 have k0 := h1.c0
 go_loop [5] (fun t => t = .int .i64 (-1)) (fun t => (intOf t + 1).toNat)
 case atStart => rfl
 case round =>
  subst hrel
  have H1 := hide (h1.secAt i hi)
  have HL : Hid ((secCells D.L[i]).length = 128) := by
   show _ = _
   rw [length_secCells]; exact h1.wf.sec _ (List.getElem_mem hi)
  go_wp2_with (first
   | (refine wpList_load_mid rfl 94 _ rfl lb (i * 128) rfl (secCells D.L[i]) _ H1.out Tryz.underlying94 rfl (Tryz.size94 HL.out) ?_)
   | (refine wpList_store_row rfl 94 _ _ rfl w.heap.size (secCells D.L[i]).toArray rfl rfl 94 zeroSec hg (Tryz.size94' HL.out) HL.out.symm (all_oneCell_toArray (one_secCells _)) ?_))
  have hg2 := setRow_heap w1 w.heap.size zeroSec (secCells D.L[i]).toArray 94 (0, 0) hg
  refine bodyPost_ret (v := .agg (secCells D.L[i]).toArray) (results_cell_row Tryz.results46 _ _ w.heap.size 94 _ (0, 0) _ rfl hg2 Tryz.underlying94 rfl (Tryz.size94' HL.out)) rfl ⟨?_, below_setRow hb (Nat.le_refl _) _⟩
  rw [HF.out]

theorem newest_any (p : Nat) (i : Nat) (w : World) (fp : List Nat) (D : Dv) (lb lcap : Nat) (cv : Value) (h : DevIs w p fp D lb lcap cv) (hi : i < D.L.length) (hm : D.W.length < 1000000) :
 Calls Tryz.prog 46 #[.pointer (some ⟨p, 0, none⟩), .int .i64 (i : Int)] w fun e w' => e = .returned (.agg (secCells (D.newest i)).toArray) ∧ Below w.heap.size w w' := by
 rcases h.form with ⟨rfl, hW⟩ | ⟨cb, c, rfl⟩
 · exact newest_nil p i w fp D lb lcap h hW hi
 · exact newest_some p i w fp D lb lcap cb c h hi hm
theorem length_newest (D : Dv) (h : D.wf) (i : Nat) (hi : i < D.L.length) : (D.newest i).length = 128 := by
 unfold Dv.newest
 split
 · rename_i x hx
   exact (h.ent x (List.mem_reverse.1 (List.mem_of_find?_eq_some hx))).2
 · simp only [List.getD_eq_getElem?_getD, List.getElem?_eq_getElem hi, Option.getD_some]
   exact h.sec _ (List.getElem_mem hi)
end Go.Proofs.YteeembildppgmaaGreat
namespace Go.Proofs.YteeembildppgmaaGreat
open Go.RowKit
set_option linter.unusedVariables false
set_option linter.unusedSimpArgs false
set_option maxHeartbeats 400000 in
theorem read_dead (p : Nat) (i : Int) (w : World) (fp : List Nat) (D : Dv) (h : DevAt w p fp D) (hd : D.dead = true) :
 Calls Tryz.prog 18 #[.pointer (some ⟨p, 0, none⟩), .int .i64 i] w fun e w' => e = .returned (.tuple #[.slice none 0 0, .int .i64 50]) ∧ w' = w := by
 obtain ⟨lb, lcap, cv, h⟩ := h
 have k3 := h.c3
 rw [hd] at k3
 go_enter Tryz.func18, Tryz.ntmps18
 go_wp2
 go_ret2
 exact ⟨rfl, rfl⟩

set_option maxHeartbeats 400000 in
set_option maxRecDepth 100000 in
theorem read_ok (p : Nat) (i : Nat) (w : World) (fp : List Nat) (D : Dv) (h : DevAt w p fp D) (hd : D.dead = false) (hi : i < D.L.length) (hm : D.W.length < 1000000) :
 Calls Tryz.prog 18 #[.pointer (some ⟨p, 0, none⟩), .int .i64 (i : Int)] w fun e w' => ∃ g, e = .returned (.tuple #[.slice (some ⟨g, 0, none⟩) 128 128, .int .i64 0]) ∧ w.heap.size ≤ g ∧
  w'.heap[g]? = some (.cells (secCells (D.newest i)).toArray 5 (0, 0)) ∧ DevAt w' p fp { D with calls := wrap64 (D.calls + 1) } ∧ Off fp w w' := by
 obtain ⟨lb, lcap, cv, h⟩ := h
 have k3 := h.c3
 rw [hd] at k3
 clear hd
 have k4 := h.c4
 have f4 := h.fz 4
 have HN := hide (has_yes p i w _ _ _ h.c0 (by omega) (by omega))
 have hwf1 : Dv.wf { D with calls := wrap64 (D.calls + 1) } := ⟨h.wf.pos, h.wf.max, h.wf.sec, h.wf.ent, h.wf.lo, h.wf.hi⟩
 have h1 := h.heads 4 (.int .i64 (wrap64 (D.calls + 1))) { D with calls := wrap64 (D.calls + 1) } rfl rfl hwf1 rfl
 have HC := hide (newest_any p i _ fp _ lb lcap cv h1 hi hm)
 have HL : Hid ((secCells (D.newest i)).length = 128) := by
  show _ = _
  rw [length_secCells]; exact length_newest D h.wf i hi
 go_enter Tryz.func18, Tryz.ntmps18
 go_wp2_with (first | (go_at_call 45; refine HN.out.mono ?_; rintro e w' ⟨rfl, hw⟩; have hw := hw.symm; subst hw) | fail)
 refine HC.out.mono ?_
 rintro e w2 ⟨rfl, hb⟩
 have hO : Off fp w w2 := ((Off.refl fp w).setCell _ _ (.inl h.inP)).trans (Off.of_below hb []) (by simp)
 have h2 := h1.below hb
 have hs2 : w.heap.size ≤ w2.heap.size := hO.size
 clear HC HN k3 k4 f4 h1 h hb
 have z94 := Tryz.zero94
 have hmk := make128
 have hX : ((w2.alloc (.cells zeroSec 94)).setRow w2.heap.size (secCells (D.newest i)).toArray).heap[w2.heap.size]? = some (.cells (secCells (D.newest i)).toArray 94 (0, 0)) := setRow_heap _ _ _ _ _ _ (heap_alloc_new _ _)
 have hsz : ((w2.alloc (.cells zeroSec 94)).setRow w2.heap.size (secCells (D.newest i)).toArray).heap.size = w2.heap.size + 1 := by simp
 have FX := hide ((Below.heap_alloc ((w2.alloc (.cells zeroSec 94)).setRow w2.heap.size (secCells (D.newest i)).toArray) (.cells (secPart 0 0 0) 5) w2.heap.size (by omega)).trans hX)
 have FG : Hid ((((w2.alloc (.cells zeroSec 94)).setRow w2.heap.size (secCells (D.newest i)).toArray).alloc (.cells (secPart 0 0 0) 5)).heap[w2.heap.size + 1]? = some (.cells (secPart 0 0 0) 5 (0, 0))) := by
  show _ = _
  rw [← hsz]; exact heap_alloc_new _ _
 clear hX hsz
 go_wp2_with (first
  | (refine wpList_store_row rfl 94 _ _ rfl w2.heap.size (secCells (D.newest i)).toArray rfl rfl 94 zeroSec (heap_alloc_new _ _) (Tryz.size94' HL.out) HL.out.symm (all_oneCell_toArray (one_secCells _)) ?_)
  | (refine wpList_copy_own rfl _ _ 36 36 rfl 5 Tryz.underlying36 (by kernel_rfl) (w2.heap.size + 1) 0 128 128 ⟨w2.heap.size, 0, none⟩ 128 128 rfl rfl (secPart 0 0 0) 5 FG.out (secCells (D.newest i)) HL.out (src_of_block FX.out) (by rw [HL.out, size_secPart]; omega) (one_secCells _) ?_))
 have hdrop : List.drop (secCells (D.newest i)).length (secPart 0 0 0).toList = [] := by
  rw [HL.out]
  apply List.drop_of_length_le
  rw [Array.length_toList, size_secPart]
  omega
 rw [hdrop, List.append_nil]
 have hb : Below w2.heap.size w2 ((((w2.alloc (.cells zeroSec 94)).setRow w2.heap.size (secCells (D.newest i)).toArray).alloc (.cells (secPart 0 0 0) 5)).setRow (w2.heap.size + 1) (secCells (D.newest i)).toArray) :=
  below_setRow ((below_setRow ((Below.refl _ _).alloc (Nat.le_refl _) _) (Nat.le_refl _) _).alloc (by simp) _) (by omega) _
 go_ret2
 exact ⟨w2.heap.size + 1, rfl, by omega, setRow_heap _ _ _ _ _ _ FG.out, ⟨lb, lcap, cv, h2.below hb⟩, hO.trans (Off.of_below hb []) (by simp)⟩
end Go.Proofs.YteeembildppgmaaGreat
namespace Go.Proofs.YteeembildppgmaaGreat
open Go.RowKit
set_option linter.unusedVariables false
set_option linter.unusedSimpArgs false
set_option maxHeartbeats 400000 in
theorem write_dead (p : Nat) (i : Int) (ao : Option Addr) (n c : Nat) (w : World) (fp : List Nat) (D : Dv) (h : DevAt w p fp D) (hd : D.dead = true) :
 Calls Tryz.prog 113 #[.pointer (some ⟨p, 0, none⟩), .int .i64 i, .slice ao n c] w fun e w' => e = .returned (.int .i64 50) ∧ w' = w := by
 obtain ⟨lb, lcap, cv, h⟩ := h
 have k3 := h.c3
 rw [hd] at k3
 go_enter Tryz.func113, Tryz.ntmps113
 go_wp2
 go_ret
 exact ⟨rfl, rfl⟩

set_option maxHeartbeats 400000 in
theorem write_arg (p : Nat) (i : Int) (ao : Option Addr) (n c : Nat) (w : World) (fp : List Nat) (D : Dv) (h : DevAt w p fp D) (hd : D.dead = false) (hi : (i < 0 ∨ (D.L.length : Int) ≤ i) ∨ n ≠ 128) :
 Calls Tryz.prog 113 #[.pointer (some ⟨p, 0, none⟩), .int .i64 i, .slice ao n c] w fun e w' => e = .returned (.int .i64 1) ∧ w' = w := by
 obtain ⟨lb, lcap, cv, h⟩ := h
 have k3 := h.c3
 rw [hd] at k3
 by_cases hx : i < 0 ∨ (D.L.length : Int) ≤ i
 · have HN := hide (has_no p i w _ _ _ h.c0 hx)
   clear hx hi hd
   go_enter Tryz.func113, Tryz.ntmps113
   go_wp2_with (go_at_call 45; refine HN.out.mono ?_; rintro e w' ⟨rfl, hw⟩; have hw := hw.symm; subst hw)
   go_ret
   exact ⟨rfl, rfl⟩
 · have HN := hide (has_yes p i w _ _ _ h.c0 (by omega) (by omega))
   have hn : ((n : Int) != 128) = true := by rw [bne_iff_ne]; omega
   clear hx hi hd
   go_enter Tryz.func113, Tryz.ntmps113
   go_wp2_with (go_at_call 45; refine HN.out.mono ?_; rintro e w' ⟨rfl, hw⟩; have hw := hw.symm; subst hw)
   go_ret
   exact ⟨rfl, rfl⟩

set_option maxHeartbeats 400000 in
theorem write_burnt (p : Nat) (i : Nat) (ao : Option Addr) (c : Nat) (w : World) (fp : List Nat) (D : Dv) (h : DevAt w p fp D) (hd : D.dead = false) (hi : i < D.L.length) (hf : D.fuse = 0) :
 Calls Tryz.prog 113 #[.pointer (some ⟨p, 0, none⟩), .int .i64 i, .slice ao 128 c] w fun e w' => e = .returned (.int .i64 50) ∧ DevAt w' p fp { D with dead := true } ∧ Off fp w w' := by
 obtain ⟨lb, lcap, cv, h⟩ := h
 have k3 := h.c3
 rw [hd] at k3
 have k2 := h.c2
 rw [hf] at k2
 have hwf : Dv.wf { D with dead := true } := ⟨h.wf.pos, h.wf.max, h.wf.sec, h.wf.ent, h.wf.lo, h.wf.hi⟩
 have h1 := h.heads 3 (.bool true) { D with dead := true } rfl rfl hwf rfl
 have HN := hide (has_yes p i w _ _ _ h.c0 (by omega) (by omega))
 have HB := hide (burn_dies p w _ k2 h.c3 (h.fz 3))
 have hn : ((128 : Int) != 128) = false := rfl
 clear hd hf
 go_enter Tryz.func113, Tryz.ntmps113
 go_wp2_with (first | (go_at_call 45; refine HN.out.mono ?_; rintro e w' ⟨rfl, hw⟩; have hw := hw.symm; subst hw) | (go_at_call 145; refine HB.out.mono ?_; rintro e w' ⟨rfl, rfl⟩))
 go_ret
 exact ⟨rfl, ⟨lb, lcap, cv, h1⟩, (Off.refl fp w).setCell _ _ (.inl h.inP)⟩

def Dv.burnt (D : Dv) : Dv := { D with fuse := if 0 < D.fuse then D.fuse - 1 else D.fuse }
theorem burn_ok (p : Nat) (w : World) (fp : List Nat) (D : Dv) (lb lcap : Nat) (cv : Value) (h : DevIs w p fp D lb lcap cv) (hf : D.fuse ≠ 0) :
 Calls Tryz.prog 145 #[.pointer (some ⟨p, 0, none⟩)] w fun e w' => e = .returned (.bool true) ∧ DevIs w' p fp D.burnt lb lcap cv ∧ Off [p] w w' := by
 by_cases h0 : 0 < D.fuse
 · have hwf : Dv.wf D.burnt := ⟨h.wf.pos, h.wf.max, h.wf.sec, h.wf.ent, by have := h.wf.lo; simp [Dv.burnt, h0]; omega, by have := h.wf.hi; simp [Dv.burnt, h0]; omega⟩
   refine (burn_less p w _ h0 h.wf.hi h.c2 (h.fz 2)).mono ?_
   rintro e w' ⟨rfl, rfl⟩
   exact ⟨rfl, h.heads 2 _ D.burnt rfl rfl hwf (by simp [Dv.burnt, h0]), (Off.refl _ w).setCell _ _ (.inl (by simp))⟩
 · refine (burn_none p w _ (by omega) h.c2).mono ?_
   rintro e w' ⟨rfl, rfl⟩
   have : D.burnt = D := by simp [Dv.burnt, h0]
   rw [this]
   exact ⟨rfl, h, Off.refl _ _⟩
end Go.Proofs.YteeembildppgmaaGreat
