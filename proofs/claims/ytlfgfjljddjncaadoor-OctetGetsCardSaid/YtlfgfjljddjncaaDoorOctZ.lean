/- The statement on numbers got of bytes. -/
import Derived.Test.YtlfgfjljddjncaaDoorOctL
import Derived.Test.YtlfgfjljddjncaaDoorOctetGetsFrame
namespace Go.Proofs.YtlfgfjljddjncaaDoor
set_option linter.unusedVariables false
open Go.ChangeShapes Go.WideShapes Go.ChangeAt Go.RowKit Go.Joins
open Go.ChangeMaps (open_string)

theorem octetGets_holds : Rows.OctetGetsCardSaid := octetGetsFrame.card_of_walk (by
  intro H enc W base v0 v1 v2 d0 d1 d2 p0 p1 p2 k0 h0 k1 h1 k2 h2 hL
  obtain ⟨s, rfl, _, _, hm⟩ := open_string Tryd.underlying9 k0 h0
  obtain ⟨a, rfl, _, _, wa⟩ := open_int Tryd.underlying3 k1 h1
  obtain ⟨z, rfl, _, _, _⟩ := open_int Tryd.underlying3 k2 h2
  have hb := bounds_i64 wa
  unfold maxLen at hm
  exact gets_w s a z (by omega) hb.1 W (tabW_of hL))
end Go.Proofs.YtlfgfjljddjncaaDoor
