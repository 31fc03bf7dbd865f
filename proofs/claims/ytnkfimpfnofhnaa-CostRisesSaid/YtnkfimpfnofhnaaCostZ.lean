/- The statements on package cost, out of their walks: the costs are those of the document's reference; none falls where one of its numbers rises; sums and products turn; plans cost at least what is under them. -/
import Derived.Test.YtnkfimpfnofhnaaCostB
import Derived.Test.YtnkfimpfnofhnaaBulk
import Derived.Test.YtnkfimpfnofhnaaCostSaysFrame
import Derived.Test.YtnkfimpfnofhnaaCostRisesFrame
import Derived.Test.YtnkfimpfnofhnaaCostSumsFrame
import Derived.Test.YtnkfimpfnofhnaaCostPlansFrame
namespace Go.Proofs.Ytnkfimpfnofhnaa
set_option linter.unusedVariables false
open Go.ChangeShapes Go.WideShapes Go.ChangeAt Go.RowKit Go.Joins

theorem costSays_holds : Rows.CostSaysSaid := costSaysFrame.of_walk (by
  intro H enc W base v0 d0 p0 k0 h0
  obtain ⟨a, b, c, d, rfl, _⟩ := open_arr4 Try.underlying22 Try.underlying3 (by kernel_rfl) (by kernel_rfl) k0 h0
  exact says_w a b c d W)
theorem costRises_holds : Rows.CostRisesSaid := costRisesFrame.of_walk (by
  intro H enc W base v0 v1 v2 d0 d1 d2 p0 p1 p2 k0 h0 k1 h1 k2 h2
  obtain ⟨a, b, c, d, rfl, _⟩ := open_arr4 Try.underlying22 Try.underlying3 (by kernel_rfl) (by kernel_rfl) k0 h0
  obtain ⟨i, rfl, _, _, _⟩ := open_int Try.underlying3 k1 h1
  obtain ⟨m, rfl, _, _, _⟩ := open_int Try.underlying3 k2 h2
  exact rises_w a b c d i m W)
theorem costSums_holds : Rows.CostSumsSaid := costSumsFrame.of_walk (by
  intro H enc W base v0 v1 v2 d0 d1 d2 p0 p1 p2 k0 h0 k1 h1 k2 h2
  obtain ⟨a, rfl, _, _, _⟩ := open_int Try.underlying3 k0 h0
  obtain ⟨b, rfl, _, _, _⟩ := open_int Try.underlying3 k1 h1
  obtain ⟨c, rfl, _, _, _⟩ := open_int Try.underlying3 k2 h2
  exact sums_w a b c W)
theorem costPlans_holds : Rows.CostPlansSaid := costPlansFrame.of_walk (by
  intro H enc W base v0 v1 d0 d1 p0 p1 k0 h0 k1 h1
  obtain ⟨a, b, c, d, rfl, _⟩ := open_arr4 Try.underlying22 Try.underlying3 (by kernel_rfl) (by kernel_rfl) k0 h0
  obtain ⟨n, rfl, _, _, wn⟩ := open_int Try.underlying3 k1 h1
  exact plans_w a b c d n W (bounds_i64 wn))
end Go.Proofs.Ytnkfimpfnofhnaa
