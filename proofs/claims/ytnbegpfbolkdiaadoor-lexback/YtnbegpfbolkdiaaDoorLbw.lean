/- LexBack: both ways. -/
import Derived.Test.YtnbegpfbolkdiaaDoorLbk
namespace Go.Proofs.YtnbegpfbolkdiaaDoor
open Go.RowKit
set_option linter.unusedVariables false
set_option linter.unusedSimpArgs false

theorem back_walk (s : ByteArray) (gap : Int) (w : World) (hr : Ready w) :
    Calls Tryd.prog 6 #[.string s, .int .i64 gap] w fun e w' => e = .returned (.bool true) ∧ Below w.heap.size w w' := by
  obtain ⟨⟨ts, er, pl⟩, hw⟩ : ∃ x, wordsF s.data.toList = x := ⟨_, rfl⟩
  rcases words_good hw with ⟨h0, rfl⟩ | ⟨rfl, us, q, rfl, hg, hpw, hul⟩
  · exact back_err s gap w hr er pl hw h0
  · exact back_ok s gap w hr us q pl hw hg hpw hul
end Go.Proofs.YtnbegpfbolkdiaaDoor
