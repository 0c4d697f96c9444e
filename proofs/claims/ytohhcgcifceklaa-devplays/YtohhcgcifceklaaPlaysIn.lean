/- A script that came in. -/
import Derived.Test.YtohhcgcifceklaaPlaysOps
import Derived.Test.YtohhcgcifceklaaApart
namespace Go.Proofs.Ytohhcgcifceklaa
open Go.RowKit

/-- The k-th call of a script that came in. -/
structure OpAt (w : World) (b o k : Nat) (kind I A B S : Int) (ka : Option Addr) (kn kc : Nat) (ks : List Bool) : Prop where
  cells : w.rangeAt b (o + k * 6) [.int .i64 kind, .int .i64 I, .int .i64 A, .int .i64 B, .int .i64 S, .slice ka kn kc]
  keep : IsBools w ka kn kc ks
  lo : -9223372036854775808 ≤ A
  hi : A ≤ 9223372036854775807
def IsOps (w : World) (a : Option Addr) (len : Nat) : Prop :=
  len ≤ 9223372036854775807 ∧ ∀ k, k < len → ∃ b o, a = some ⟨b, o, none⟩ ∧ b < w.heap.size ∧ ∃ kind I A B S ka kn kc ks, OpAt w b o k kind I A B S ka kn kc ks

theorem Try.size33 : (Try.prog.info? 33).map (·.size) = some 6 := by kernel_rfl

end Go.Proofs.Ytohhcgcifceklaa
