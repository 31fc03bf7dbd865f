/- The statement ScalarApplies. -/
import Derived.Test.YtlkeghfdpbfhbaaScW
import Derived.Test.YtlkeghfdpbfhbaaScZo
import Derived.Test.YtlkeghfdpbfhbaaScalarAppliesFrame
namespace Go.Proofs.Ytlkeghfdpbfhbaa
set_option linter.unusedVariables false
open Go.ChangeShapes Go.WideShapes Go.ChangeAt Go.RowKit Go.Joins Go.Deep
open Go.ChangeMaps (open_string)

theorem scalarApplies_holds : Rows.ScalarAppliesSaid := scalarAppliesFrame.of_walk (by
  intro H enc W base v0 v1 v2 d0 d1 d2 p0 p1 p2 k0 h0 k1 h1 k2 h2
  obtain ⟨op, rfl, _, _, _⟩ := open_int Try.underlying3 k0 h0
  obtain ⟨nm, rfl, _, _, _⟩ := open_string Try.underlying9 k1 h1
  obtain ⟨A, n, c, l, rfl, h⟩ := open_valsU k2 h2
  exact applies_c op nm A n c l W h)
end Go.Proofs.Ytlkeghfdpbfhbaa
