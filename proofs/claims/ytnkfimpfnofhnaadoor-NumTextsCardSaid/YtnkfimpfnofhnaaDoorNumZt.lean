/- The statement on the texts of numbers. -/
import Derived.Test.YtnkfimpfnofhnaaDoorNumTx
import Derived.Test.YtnkfimpfnofhnaaDoorNumLaid
import Derived.Test.YtnkfimpfnofhnaaDoorNumTextsFrame
namespace Go.Proofs.YtnkfimpfnofhnaaDoor
set_option linter.unusedVariables false
open Go.ChangeShapes Go.WideShapes Go.ChangeAt Go.RowKit Go.Joins

theorem numTexts_holds : Rows.NumTextsCardSaid := numTextsFrame.card_of_walk (by
  intro H enc W base v0 d0 p0 k0 h0 hL
  obtain ⟨a, rfl, _, _, wn⟩ := open_int Tryd.underlying3 k0 h0
  have hb := bounds_i64 wn
  exact texts_w a hb.1 hb.2 W (numW_of hL))
end Go.Proofs.YtnkfimpfnofhnaaDoor
