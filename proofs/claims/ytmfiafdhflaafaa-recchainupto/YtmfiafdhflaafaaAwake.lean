/- What the document fixes: 'awake'. -/
import Derived.Test.YtmfiafdhflaafaaKind
namespace Go.Proofs.Ytmfiafdhflaafaa
open Go.RowKit
set_option linter.unusedVariables false
set_option linter.unusedSimpArgs false

theorem make7 (w : World) : (Instr.makeSlice 23 (.int .i64 7) (.int .i64 7)).run Try.prog w = .ok (.slice (some ⟨w.heap.size, 0, none⟩) 7 7) (w.alloc (.cells (secCells [0, 0, 0, 0, 0, 0, 0]).toArray 5)) := by
  obtain ⟨i, hi, hz, hsz, hby⟩ := Try.info5'
  have h := run_make (P := Try.prog) w 23 5 i (.int .u8 0) Try.underlying23 hi hz .i64 .i64 7 7 (by omega) (by omega) (by rw [hby]; omega) (by omega)
  rw [h, hsz]
  have e : madeCells (Value.int .u8 0).cells ((7 : Int).toNat * 1) = (secCells [0, 0, 0, 0, 0, 0, 0]).toArray := by kernel_rfl
  rw [e]
  rfl
theorem sl_block {w : World} {g : Nat} {bs : List UInt8} {t : TypeId} {fr : Nat × Nat} (h : w.heap[g]? = some (.cells (secCells bs).toArray t fr)) (hl : bs.length ≤ maxLen) : Sl w (.slice (some ⟨g, 0, none⟩) bs.length bs.length) bs :=
  ⟨_, _, rfl, Nat.le_refl _, hl, fun _ => ⟨g, 0, rfl, fun j u hu => by rw [Nat.zero_add, cell_row h]; simpa using hu⟩⟩
def one_rec : Rc := { Rc.zero with kind := 1 }
theorem wf_zero : Rc.zero.wf := ⟨by simp [Rc.zero, Rc.head], by simp [Rc.zero], by simp [Rc.zero], by simp [Rc.zero]⟩
theorem wf_one : one_rec.wf := ⟨by simp [one_rec, Rc.zero, Rc.head], by simp [one_rec, Rc.zero], by simp [one_rec, Rc.zero], by simp [one_rec, Rc.zero]⟩
theorem val_one (w : World) : RecVal w (.agg #[.int .i64 1, .int .i64 0, .int .i64 0, .int .i64 0, .int .i64 0, .int .i64 0, .slice none 0 0, .slice none 0 0, .slice none 0 0, .slice none 0 0, .int .i64 0]) one_rec :=
  ⟨_, _, _, _, rfl, Row.nil w, Row.nil w, Row.nil w, Row.nil w⟩
theorem val_zero (w : World) : RecVal w (.agg #[.int .i64 0, .int .i64 0, .int .i64 0, .int .i64 0, .int .i64 0, .int .i64 0, .slice none 0 0, .slice none 0 0, .slice none 0 0, .slice none 0 0, .int .i64 0]) Rc.zero := (RecOwn.zero 0 w).val
theorem kind3 : kindOf 3 = ⟨#[99, 108, 114]⟩ := rfl

set_option maxHeartbeats 2000000 in
theorem awake_true (w : World) : Calls Try.prog 9 #[] w fun e w' => e = .returned (.bool true) ∧ Below w.heap.size w w' := by
  have hmk := make7
  have HB0 : Hid (Below w.heap.size w (w.alloc (.cells (secCells [0, 0, 0, 0, 0, 0, 0]).toArray 5))) := (Below.refl _ w).alloc (Nat.le_refl _) _
  have hs0 : Sl (w.alloc (.cells (secCells [0, 0, 0, 0, 0, 0, 0]).toArray 5)) (.slice (some ⟨w.heap.size, 0, none⟩) 7 7) [0, 0, 0, 0, 0, 0, 0] := sl_block (bs := [0, 0, 0, 0, 0, 0, 0]) (heap_alloc_new w _) (by simp [maxLen])
  have HD := hide (decode_any hs0 (by simp))
  clear hs0
  go_enter Try.func9, Try.ntmps9
  go_wp2_with fail
  refine HD.out.mono ?_
  rintro e w1 ⟨hb1, he⟩
  rw [dec_few _ (by simp)] at he
  subst he
  have hB1 : Below w.heap.size w w1 := HB0.out.trans (hb1.mono (by simp))
  unfold zeroCells11
  have HB1 := hide hB1
  clear HD hb1 hmk hB1 HB0
  go_wp2_with (first
    | (go_at_call 15; refine (size_any (val_zero _) (by simp [Rc.size, Rc.zero])).mono ?_; rintro e w2 ⟨rfl, hw2⟩; have HW2 := hide hw2; clear hw2)
    | (go_at_call 10; refine (encode_any (val_one _) (by simp [Rc.size, Rc.zero, one_rec]) wf_one).mono ?_; rintro e w3 ⟨v3, rfl, ho3, hb3⟩; obtain ⟨a3, c3, hv3⟩ := owns_len ho3; rw [length_enc] at hv3; subst hv3; have HB3 := hide hb3; clear ho3 hb3)
    | (go_at_call 16; refine (kind_any 3 _).mono ?_; rintro e w4 ⟨rfl, hw4⟩; rw [kind3]; have HW4 := hide hw4; clear hw4))
  go_ret
  have h2 : Below w.heap.size w w2 := by rw [HW2.out]; exact (HB1.out.alloc HB1.out.size _).alloc (by have := HB1.out.size; simp; omega) _
  exact ⟨rfl, by rw [HW4.out]; exact h2.trans (HB3.out.mono h2.size)⟩
end Go.Proofs.Ytmfiafdhflaafaa
