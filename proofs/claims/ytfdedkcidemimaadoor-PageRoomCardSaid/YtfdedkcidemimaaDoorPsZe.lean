/- A record of just as many bytes as there is room for comes into the free slot, one of one more does not, and a byte that is another one is told by the sum: proved for every string of bytes, every place and every byte, under the door row of the laid table. -/
import Derived.Test.YtfdedkcidemimaaDoorPsE
import Derived.Test.YtfdedkcidemimaaDoorPageRoomFrame
namespace Go.Proofs.YtfdedkcidemimaaDoor
set_option linter.unusedVariables false
open Go.ChangeShapes Go.WideShapes Go.ChangeAt Go.RowKit Go.Joins
open Go.ChangeMaps (open_string)

theorem pageRoom_holds : Rows.PageRoomCardSaid := pageRoomFrame.card_of_walk (by
  intro H enc W base v0 v1 v2 d0 d1 d2 p0 p1 p2 k0 h0 k1 h1 k2 h2 hL
  obtain ⟨p, rfl, _, _, hm⟩ := open_string Tryd.underlying9 k0 h0
  obtain ⟨a, rfl, _, _, wa⟩ := open_int Tryd.underlying39 k1 h1
  obtain ⟨b, rfl, _, _, wb⟩ := open_int Tryd.underlying5 k2 h2
  have ha : 0 ≤ a ∧ a < 65536 := by
    simp [Lit.wf, IntKind.min, IntKind.max, IntKind.bits, IntKind.signed] at wa
    omega
  have hb : 0 ≤ b ∧ b < 256 := by
    simp [Lit.wf, IntKind.min, IntKind.max, IntKind.bits, IntKind.signed] at wb
    omega
  by_cases hp : p.size ≤ 600
  · cases hn : rightB p with
    | false => exact room_no p a b W (tabW_of hL) hp hn
    | true => exact room_w p a b W (tabW_of hL) hp hn ha hb
  · exact room_big p a b W (tabW_of hL) (by omega))
end Go.Proofs.YtfdedkcidemimaaDoor
