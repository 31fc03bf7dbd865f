/- The statement ScalarLists. -/
import Derived.Test.YtlkeghfdpbfhbaaScP
import Derived.Test.YtlkeghfdpbfhbaaScZo
import Derived.Test.YtlkeghfdpbfhbaaScalarListsFrame
namespace Go.Proofs.Ytlkeghfdpbfhbaa
set_option linter.unusedVariables false
open Go.ChangeShapes Go.WideShapes Go.ChangeAt Go.RowKit Go.Joins Go.Deep

theorem scalarLists_holds : Rows.ScalarListsSaid := scalarListsFrame.of_walk (by
  intro H enc W base v0 v1 v2 d0 d1 d2 p0 p1 p2 k0 h0 k1 h1 k2 h2
  obtain ⟨a, rfl⟩ := open_valU2 k0 h0
  obtain ⟨A, n, c, l, rfl, h⟩ := open_valsU k1 h1
  obtain ⟨b, rfl⟩ := open_valU2 k2 h2
  by_cases hn : n = 0 ∨ 20 < n
  · exact lists_out a b A n c hn W
  · exact lists_in a b A n c l h.len (by omega) (by omega) W h)
end Go.Proofs.Ytlkeghfdpbfhbaa
