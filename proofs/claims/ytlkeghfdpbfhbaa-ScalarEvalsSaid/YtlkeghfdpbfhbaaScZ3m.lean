/- The statement ScalarEvals. -/
import Derived.Test.YtlkeghfdpbfhbaaTmX
import Derived.Test.YtlkeghfdpbfhbaaScalarEvalsFrame
namespace Go.Proofs.Ytlkeghfdpbfhbaa
set_option linter.unusedVariables false
open Go.ChangeShapes Go.WideShapes Go.ChangeAt Go.RowKit Go.Joins Go.Deep

theorem scalarEvals_holds : Rows.ScalarEvalsSaid := scalarEvalsFrame.of_walk (by
  intro H enc W base v0 v1 d0 d1 p0 p1 k0 h0 k1 h1
  obtain ⟨x, t, D, rfl, ht⟩ := open_trmT k0 h0
  obtain ⟨A, n, c, ps, rfl, he⟩ := open_envT k1 h1
  exact evals_c A n c ps D x t W ht he)
end Go.Proofs.Ytlkeghfdpbfhbaa
