/- The statements on package num that need no text: numbers are counted as the document says, division, and the rings' laws. -/
import Derived.Test.YtnkfimpfnofhnaaDoorNumR
import Derived.Test.YtnkfimpfnofhnaaDoorNumLaid
import Derived.Test.YtnkfimpfnofhnaaDoorNumSaysFrame
import Derived.Test.YtnkfimpfnofhnaaDoorNumDividesFrame
import Derived.Test.YtnkfimpfnofhnaaDoorNumRingsFrame
namespace Go.Proofs.YtnkfimpfnofhnaaDoor
set_option linter.unusedVariables false
open Go.ChangeShapes Go.WideShapes Go.ChangeAt Go.RowKit Go.Joins

theorem numSays_holds : Rows.NumSaysCardSaid := numSaysFrame.card_of_walk (by
  intro H enc W base v0 v1 d0 d1 p0 p1 k0 h0 k1 h1 hL
  obtain ⟨a, rfl, _, _, _⟩ := open_int Tryd.underlying3 k0 h0
  obtain ⟨b, rfl, _, _, _⟩ := open_int Tryd.underlying3 k1 h1
  exact says_w a b W (numW_of hL))
theorem numDivides_holds : Rows.NumDividesCardSaid := numDividesFrame.card_of_walk (by
  intro H enc W base v0 v1 d0 d1 p0 p1 k0 h0 k1 h1 hL
  obtain ⟨a, rfl, _, _, _⟩ := open_int Tryd.underlying3 k0 h0
  obtain ⟨b, rfl, _, _, _⟩ := open_int Tryd.underlying3 k1 h1
  by_cases hb : both a b = true ∧ ¬ b = 0
  · exact divides_yes a b W (numW_of hL) hb.1 hb.2
  · refine divides_no a b W (numW_of hL) ?_
    rcases h : both a b
    · exact .inl rfl
    · exact .inr (Classical.byContradiction fun h0 => hb ⟨h, h0⟩))
theorem numRings_holds : Rows.NumRingsCardSaid := numRingsFrame.card_of_walk (by
  intro H enc W base v0 v1 v2 d0 d1 d2 p0 p1 p2 k0 h0 k1 h1 k2 h2 hL
  obtain ⟨a, rfl, _, _, _⟩ := open_int Tryd.underlying3 k0 h0
  obtain ⟨b, rfl, _, _, _⟩ := open_int Tryd.underlying3 k1 h1
  obtain ⟨c, rfl, _, _, _⟩ := open_int Tryd.underlying3 k2 h2
  exact rings_w a b c W (numW_of hL))
end Go.Proofs.YtnkfimpfnofhnaaDoor
