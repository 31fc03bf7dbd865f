/- The statement on numbers put. -/
import Derived.Test.YtlfgfjljddjncaaDoorPutW
import Derived.Test.YtlfgfjljddjncaaDoorOctetPutsFrame
namespace Go.Proofs.YtlfgfjljddjncaaDoor
set_option linter.unusedVariables false
open Go.ChangeShapes Go.WideShapes Go.ChangeAt Go.RowKit Go.Joins

theorem octetPuts_holds : Rows.OctetPutsCardSaid := octetPutsFrame.card_of_walk (by
  intro H enc W base v0 v1 d0 d1 p0 p1 k0 h0 k1 h1 hL
  obtain ⟨a, rfl, _, _, wa⟩ := open_int Tryd.underlying3 k0 h0
  obtain ⟨z, rfl, _, _, _⟩ := open_int Tryd.underlying3 k1 h1
  have hb := bounds_i64 wa
  exact puts_w a z hb.1 hb.2 W (tabW_of hL))
end Go.Proofs.YtlfgfjljddjncaaDoor
