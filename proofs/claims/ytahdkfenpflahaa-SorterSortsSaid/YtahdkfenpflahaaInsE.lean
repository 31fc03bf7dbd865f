/- The insertion sort on an empty block. -/
import Derived.Test.YtahdkfenpflahaaInsW
namespace Go.Proofs.Ytahdkfenpflahaa
set_option linter.unusedVariables false
open Go.ChangeShapes Go.WideShapes Go.ChangeAt Go.RowKit

theorem insertE_c (v f : Value) (a : Nat) (w : World) (ha : a ≤ 1048576) :
    Calls Try.prog 52 #[v, .int .i64 a, .int .i64 a, f] w fun e w' => e = .returned (.tuple #[]) ∧ w = w' := by
  have hx : ¬ ((a : Int) + 1 < a) := by omega
  go_enter Try.func52, Try.ntmps52
  go_wp2_with fail
  refine wp_loop_rounds 2 ?_
  rw [rounds_succ]
  go_wp2_with fail
  go_end0
  exact ⟨rfl, rfl⟩
end Go.Proofs.Ytahdkfenpflahaa
