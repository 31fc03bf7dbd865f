/- The statement ValueOrder. -/
import Derived.Test.YtammpddkeinijaaDoorOrderW
import Derived.Test.YtammpddkeinijaaDoorValueOrderFrame
namespace Go.Proofs.YtammpddkeinijaaDoor
set_option linter.unusedVariables false
open Go.ChangeShapes Go.WideShapes Go.ChangeAt Go.RowKit Go.Joins Go.Deep

theorem valueOrder_holds : Rows.ValueOrderUptoCardSaid := valueOrderFrame.card_of_walk (by
  intro H enc W base v0 v1 v2 d0 d1 d2 p0 p1 p2 k0 h0 k1 h1 k2 h2 hL hS hk
  have hu := bulk_all hk
  simp only [Rows.uptoBulkAll] at hu
  obtain ⟨a, rfl, ha⟩ := open_valT k0 h0 (by omega)
  obtain ⟨b, rfl, hb⟩ := open_valT k1 h1 (by omega)
  obtain ⟨c, rfl, hc⟩ := open_valT k2 h2 (by omega)
  exact order_w a b c W (valW_of hL hS) ha hb hc)
end Go.Proofs.YtammpddkeinijaaDoor
