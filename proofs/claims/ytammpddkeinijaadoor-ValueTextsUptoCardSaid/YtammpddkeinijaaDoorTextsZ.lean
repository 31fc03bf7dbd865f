/- The statement ValueTexts. -/
import Derived.Test.YtammpddkeinijaaDoorTextsW
import Derived.Test.YtammpddkeinijaaDoorValueTextsFrame
namespace Go.Proofs.YtammpddkeinijaaDoor
set_option linter.unusedVariables false
open Go.ChangeShapes Go.WideShapes Go.ChangeAt Go.RowKit Go.Joins Go.Deep

theorem valueTexts_holds : Rows.ValueTextsUptoCardSaid := valueTextsFrame.card_of_walk (by
  intro H enc W base v0 v1 d0 d1 p0 p1 k0 h0 k1 h1 hL hS hk
  have hu := bulk_all hk
  simp only [Rows.uptoBulkAll] at hu
  obtain ⟨a, rfl, ha⟩ := open_valT k0 h0 (by omega)
  obtain ⟨b, rfl, hb⟩ := open_valT k1 h1 (by omega)
  exact texts_w a b W (valW_of hL hS) ha hb)
end Go.Proofs.YtammpddkeinijaaDoor
