/- A change of a page is undone by the change the other way, byte by byte but for the sum, and the log number, the link and the kind stay: proved for every string of bytes, every slot and every record, under the door row of the laid table. -/
import Derived.Test.YtfdedkcidemimaaDoorPsD
import Derived.Test.YtfdedkcidemimaaDoorPageBackFrame
namespace Go.Proofs.YtfdedkcidemimaaDoor
set_option linter.unusedVariables false
open Go.ChangeShapes Go.WideShapes Go.ChangeAt Go.RowKit Go.Joins
open Go.ChangeMaps (open_string)

theorem pageBack_holds : Rows.PageBackCardSaid := pageBackFrame.card_of_walk (by
  intro H enc W base v0 v1 v2 d0 d1 d2 p0 p1 p2 k0 h0 k1 h1 k2 h2 hL
  obtain ⟨p, rfl, _, _, hm⟩ := open_string Tryd.underlying9 k0 h0
  obtain ⟨a, rfl, _, _, wa⟩ := open_int Tryd.underlying3 k1 h1
  obtain ⟨r, rfl, _, _, hmr⟩ := open_string Tryd.underlying9 k2 h2
  by_cases hp : p.size ≤ 600
  · by_cases hr : r.size ≤ 600
    · cases hn : rightB p with
      | false => exact back_no p a r W (tabW_of hL) hp hr hn
      | true => exact back_w p a r W (tabW_of hL) hp hr hn
    · exact back_big2 p a r W (tabW_of hL) hp (by omega)
  · exact back_big p a r W (tabW_of hL) (by omega))
end Go.Proofs.YtfdedkcidemimaaDoor
