/- awake: what the document fixes. -/
import Derived.Test.YtnbegpfbolkdiaaDoorWds
namespace Go.Proofs.YtnbegpfbolkdiaaDoor
set_option maxRecDepth 100000
open Go.RowKit
set_option linter.unusedVariables false
set_option linter.unusedSimpArgs false

def ex1 : List UInt8 := [83, 69, 76, 69, 67, 84, 32, 97, 60, 62, 39, 105, 116, 39, 39, 115, 39, 32, 45, 45, 32, 120]
def ex2 : List UInt8 := [97, 32, 33, 32, 98]
def exT : List Tk := [⟨1, [115, 101, 108, 101, 99, 116], 0, 0⟩, ⟨1, [97], 0, 7⟩, ⟨4, [60, 62], 0, 8⟩, ⟨3, [105, 116, 39, 115], 0, 10⟩, ⟨5, [], 0, 22⟩]
theorem ex1_words : wordsF ex1 = (exT, 0, 0) := by decide +kernel
theorem ex2_words : wordsF ex2 = ([], 180, 2) := by decide +kernel
set_option maxHeartbeats 4000000 in
theorem awake_any (w : World) (hr : Ready w) : Calls Tryd.prog 7 #[] w fun e w' => e = .returned (.bool true) ∧ Below w.heap.size w w' := by
  have H1 : Hid (∀ w, Ready w → Calls Tryd.prog 8 #[.string ⟨#[83, 69, 76, 69, 67, 84, 32, 97, 60, 62, 39, 105, 116, 39, 39, 115, 39, 32, 45, 45, 32, 120]⟩] w fun e w' => ∃ u, e = .returned (.tuple #[u, .int .i64 0, .int .i64 0]) ∧ Toks w w' u exT) := fun w hr => by
    have := words_any ⟨#[83, 69, 76, 69, 67, 84, 32, 97, 60, 62, 39, 105, 116, 39, 39, 115, 39, 32, 45, 45, 32, 120]⟩ w hr
    rw [show (⟨#[83, 69, 76, 69, 67, 84, 32, 97, 60, 62, 39, 105, 116, 39, 39, 115, 39, 32, 45, 45, 32, 120]⟩ : ByteArray).data.toList = ex1 from rfl] at this
    unfold WordsE at this
    rw [ex1_words] at this
    exact this
  have H2 : Hid (∀ w, Ready w → Calls Tryd.prog 8 #[.string ⟨#[97, 32, 33, 32, 98]⟩] w fun e w' => ∃ u, e = .returned (.tuple #[u, .int .i64 180, .int .i64 2]) ∧ Below w.heap.size w w') := fun w hr => by
    have := words_any ⟨#[97, 32, 33, 32, 98]⟩ w hr
    rw [show (⟨#[97, 32, 33, 32, 98]⟩ : ByteArray).data.toList = ex2 from rfl] at this
    unfold WordsE at this
    rw [ex2_words] at this
    refine this.mono ?_
    rintro e w' ⟨u, rfl, h⟩
    exact ⟨u, rfl, h.below⟩
  have HR := hide hr
  clear hr
  go_enter Tryd.func7, Tryd.ntmps7
  go_wp2_with fail
  refine (H1.out _ HR.out).mono ?_
  rintro e W1 ⟨u1, rfl, hT⟩
  have HT := hide hT
  clear hT
  go_wp2_with fail
  refine (H2.out _ (HR.out.below HT.out.below)).mono ?_
  rintro e W2 ⟨u2, rfl, hB⟩
  have HT2 := hide (HT.out.belowW hB)
  clear hB
  obtain ⟨ao, c, rfl, hc1, hc2⟩ := HT2.out.at.len
  obtain ⟨g, o, rfl, k0⟩ := HT2.out.at.get 0 (by decide)
  obtain ⟨g', o', e, k2⟩ := HT2.out.at.get 2 (by decide)
  simp only [Option.some.injEq, Addr.mk.injEq, and_true] at e
  obtain ⟨rfl, rfl⟩ := e
  obtain ⟨g', o', e, k3⟩ := HT2.out.at.get 3 (by decide)
  simp only [Option.some.injEq, Addr.mk.injEq, and_true] at e
  obtain ⟨rfl, rfl⟩ := e
  obtain ⟨g', o', e, k4⟩ := HT2.out.at.get 4 (by decide)
  simp only [Option.some.injEq, Addr.mk.injEq, and_true] at e
  obtain ⟨rfl, rfl⟩ := e
  have c0 := k0.c1
  have c2 := k2.c1
  have c3 := k3.c1
  have c4 := k4.c0
  simp only [exT, List.getD_cons_zero, List.getD_cons_succ, strOf] at c0 c2 c3 c4
  have h5 : exT.length = 5 := rfl
  simp only [h5] at hc1 ⊢
  have HB := HT2.out.below
  clear k0 k2 k3 k4
  go_wp2
  go_ret
  exact ⟨rfl, HB⟩
end Go.Proofs.YtnbegpfbolkdiaaDoor
