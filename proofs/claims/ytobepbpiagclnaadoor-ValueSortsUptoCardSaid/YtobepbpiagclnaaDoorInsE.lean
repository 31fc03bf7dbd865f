/- The insertion sort on an empty block. -/
import Derived.Test.YtobepbpiagclnaaDoorInsW
namespace Go.Proofs.YtobepbpiagclnaaDoor
set_option linter.unusedVariables false
open Go.ChangeShapes Go.WideShapes Go.ChangeAt Go.RowKit

theorem insertE_c (v f : Value) (a : Nat) (w : World) (ha : a ≤ 1048576) :
    Calls Tryd.prog 38 #[v, .int .i64 a, .int .i64 a, f] w fun e w' => e = .returned (.tuple #[]) ∧ w = w' := by
  have hx : ¬ ((a : Int) + 1 < a) := by omega
  go_enter Tryd.func38, Tryd.ntmps38
  go_wp2_with fail
  refine wp_loop_rounds 2 ?_
  rw [rounds_succ]
  go_wp2_with fail
  go_end0
  exact ⟨rfl, rfl⟩
end Go.Proofs.YtobepbpiagclnaaDoor
