/- The walk of RowWidths at every input. -/
import Derived.Test.YtplpchaceiogaaaDoorWdf
import Derived.Test.YtplpchaceiogaaaDoorWdt
import Derived.Test.YtplpchaceiogaaaDoorOpen
namespace Go.Proofs.YtplpchaceiogaaaDoor
open Go.RowKit
set_option linter.unusedVariables false
set_option linter.unusedSimpArgs false
set_option maxRecDepth 100000

def small (n : Int) : Prop := -9223372036854775808 ≤ n ∧ n ≤ 9223372036854775807
set_option maxHeartbeats 4000000 in
theorem widths_walk (m n : Int) (ix nl : Bool) (w : World) (hm : w.cell? ⟨0, 0, none⟩ = some (.int .i64 m)) :
    Calls Tryd.prog 3 #[.int .i64 n, .bool ix, .bool nl] w fun e w' => e = .returned (.bool true) ∧ Below w.heap.size w w' := by
  have HA := hide (awake_any m w hm)
  by_cases h0 : n < 0
  · clear hm
    go_enter Tryd.func3, Tryd.ntmps3
    go_wp2_with (go_at_call 9; refine HA.out.mono ?_; rintro e w8 ⟨rfl, hb8⟩; have HB8 := hide hb8; clear hb8)
    go_ret
    exact ⟨rfl, HB8.out⟩
  · by_cases h7 : 700 < n
    · clear hm
      go_enter Tryd.func3, Tryd.ntmps3
      go_wp2_with (go_at_call 9; refine HA.out.mono ?_; rintro e w8 ⟨rfl, hb8⟩; have HB8 := hide hb8; clear hb8)
      go_ret
      exact ⟨rfl, HB8.out⟩
    · obtain ⟨k, rfl⟩ := Int.eq_ofNat_of_zero_le (by omega : 0 ≤ n)
      cases nl
      · exact widths_f m k (by omega) ix w hm
      · exact widths_t m k (by omega) ix w hm
end Go.Proofs.YtplpchaceiogaaaDoor
