/- 'awake' answers true: what the document fixes of a ring. -/
import Derived.Test.YtkkmkcobmjdblaaRBoth
namespace Go.Proofs.Ytkkmkcobmjdblaa
open Go.RowKit
set_option linter.unusedVariables false
set_option linter.unusedSimpArgs false

theorem wpList_makeN {ops : Array Oper} {rest : List Oper} {o : Oper} {a : Act} {w : World} {Q : Exit → Act → World → Prop} (n : Nat) (hn : n ≤ 2000000) (hg : o.guard = none) (x y : Operand)
    (hop : o.op = Op.makeSlice 27 x y) (hx : a.eval x = .int .i64 (n : Int)) (hy : a.eval y = .int .i64 (n : Int))
    (h : ∀ W1, Hid (W1.heap[w.heap.size]? = some (.cells (secCells (zerosN n)).toArray 5 (0, 0))) → Below w.heap.size w W1 → wpList Try.prog ops Q rest (a.put o.dst (.slice (some ⟨w.heap.size, 0, none⟩) n n)) W1) : wpList Try.prog ops Q (o :: rest) a w := by
  refine wpList_plain hg fun K hK' => ?_
  unfold Oper.wp
  have hr := makeN n hn w
  simp [execOp, hop, hx, hy, hr, Result.andThen]
  exact hK' _ _ (h _ (show _ = _ from heap_alloc_new w _) ((Below.refl _ _).alloc (Nat.le_refl _) _))
theorem block_sl {w : World} {g n c : Nat} {bs : List UInt8} {t : TypeId} {fr : Nat × Nat} (h : w.heap[g]? = some (.cells (secCells bs).toArray t fr)) (hl : bs.length = n) : Sl w (.slice (some ⟨g, 0, none⟩) n c) bs :=
  .inr ⟨_, _, by rw [hl], fun j u hu => src_of_block h j u hu⟩

def awake0 : Rg := ⟨8, 4, 0, 0, [], false⟩
def awake1 : Rg := ⟨8, 4, 0, 0, zerosN 200, false⟩
def awake2 : Rg := ⟨8, 4, 0, 200, zerosN 200, false⟩
def awake3 : Rg := ⟨8, 4, 118, 200, (zerosN 200).drop 118, false⟩
theorem awake_open : Rg.opened (Dv.fresh 16) 8 4 0 = awake0 := by
  unfold Rg.opened
  rw [fresh_found 16 8 4 0 (by omega) (by omega)]
  rfl

theorem awake_room0 : awake0.room = 354 := by decide
theorem awake_room2 : awake2.room = 154 := by simp [Rg.room, Rg.tail, awake2, length_zerosN]
theorem awake_room3 : awake3.room = 272 := by simp [Rg.room, Rg.tail, awake3, length_zerosN]
theorem awake_tail2 : awake2.tail = 200 := by simp [Rg.tail, awake2, length_zerosN]

set_option maxHeartbeats 1000000 in
set_option maxRecDepth 100000 in
theorem awake_true (w : World) : Calls Try.prog 11 #[] w fun e w' => e = .returned (.bool true) ∧ Below w.heap.size w w' := by
  go_enter Try.func11, Try.ntmps11
  go_wp2_with fail
  refine (b_new 16 w (by omega) (by omega)).mono ?_
  rintro e w1 ⟨p, rfl, hD1⟩
  go_wp2_with fail
  refine (b_open 8 4 0 hD1 rfl (by simp [Dv.fresh]) (by simp [Dv.fresh]) (by omega) (by omega) (by omega)).mono ?_
  rw [awake_open]
  rintro e w2 ⟨q, rfl, hB2, _⟩
  clear hD1
  go_wp2_with fail
  refine (b_room hB2).mono ?_
  rw [awake_room0]
  rintro e w3 ⟨rfl, m3, rfl⟩
  have hB3 := hB2.drewN m3
  clear hB2
  go_wp2_with (first | (refine wpList_makeN 200 (by omega) rfl _ _ rfl rfl rfl ?_; intro W4 hG4 hB4))
  have hB5 := hB3.belowW hB4
  have hap := b_append (bs := zerosN 200) (ao := some ⟨w2.heap.size, 0, none⟩) (c := 200) hB5 rfl (by decide) (block_sl hG4.out (length_zerosN 200))
  rw [length_zerosN] at hap
  refine hap.mono ?_
  rintro e w5 ⟨rfl, hB6, _⟩
  have hB6 : Both w w5 q p [] awake1 (Dv.fresh 16) := hB6
  clear hap hB5 hB4 hG4 hB3
  go_wp2_with fail
  refine (b_flush hB6 (fresh_well 16 (by omega) (by omega)) (by simp [Dv.fresh]; decide) rfl rfl).mono ?_
  rintro e w6 ⟨rfl, D6, hB7, _, _, _, _, _, _⟩
  have hB7 : Both w w6 q p [] awake2 D6 := hB7
  clear hB6
  go_wp2_with fail
  refine (b_end hB7).mono ?_
  rintro e w7 ⟨rfl, hw7⟩
  have hw7 := hw7.symm
  subst hw7
  rw [show awake2.fin = 200 from rfl]
  go_wp2_with fail
  refine (b_tail hB7).mono ?_
  rw [awake_tail2]
  rintro e w8 ⟨rfl, m8, rfl⟩
  have hB8 := hB7.drewN m8
  clear hB7
  go_wp2_with fail
  refine (b_room hB8).mono ?_
  rw [awake_room2]
  rintro e w9 ⟨rfl, m9, rfl⟩
  have hB9 := hB8.drewN m9
  rw [World.drewN_drewN] at hB9
  clear hB8
  go_wp2_with fail
  refine (b_trim 118 hB9 (by decide) (by decide) (by decide)).mono ?_
  rintro e w10 ⟨rfl, hB10, _⟩
  have hB10 : Both w w10 q p [] awake3 D6 := hB10
  clear hB9
  go_wp2_with fail
  refine (b_start hB10).mono ?_
  rintro e w11 ⟨rfl, hw11⟩
  have hw11 := hw11.symm
  subst hw11
  rw [show awake3.start = 118 from rfl]
  go_wp2_with fail
  refine (b_room hB10).mono ?_
  rw [awake_room3]
  rintro e w12 ⟨rfl, m12, rfl⟩
  have hB12 := (hB10.drewN m12).below
  clear hB10
  go_wp2_with fail
  go_ret
  exact ⟨rfl, hB12⟩
end Go.Proofs.Ytkkmkcobmjdblaa
