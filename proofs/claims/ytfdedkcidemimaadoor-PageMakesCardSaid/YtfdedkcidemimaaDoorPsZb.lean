/- The page of any kind, and any page with any log number or any link, are as the reference says: proved for every string of bytes and every number, under the door row of the laid table. -/
import Derived.Test.YtfdedkcidemimaaDoorPsB
import Derived.Test.YtfdedkcidemimaaDoorPageMakesFrame
namespace Go.Proofs.YtfdedkcidemimaaDoor
set_option linter.unusedVariables false
open Go.ChangeShapes Go.WideShapes Go.ChangeAt Go.RowKit Go.Joins
open Go.ChangeMaps (open_string)

theorem pageMakes_holds : Rows.PageMakesCardSaid := pageMakesFrame.card_of_walk (by
  intro H enc W base v0 v1 d0 d1 p0 p1 k0 h0 k1 h1 hL
  obtain ⟨p, rfl, _, _, hm⟩ := open_string Tryd.underlying9 k0 h0
  obtain ⟨a, rfl, _, _, wa⟩ := open_int Tryd.underlying3 k1 h1
  by_cases hp : p.size ≤ 600
  · exact makes_w p a W (tabW_of hL) hp
  · exact makes_big p a W (tabW_of hL) (by omega))
end Go.Proofs.YtfdedkcidemimaaDoor
