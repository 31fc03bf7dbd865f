/- The statement on checksums, sealing and opening. -/
import Derived.Test.YtlfgfjljddjncaaDoorSumW
import Derived.Test.YtlfgfjljddjncaaDoorBulk
import Derived.Test.YtlfgfjljddjncaaDoorOctetSumsFrame
namespace Go.Proofs.YtlfgfjljddjncaaDoor
set_option linter.unusedVariables false
open Go.ChangeShapes Go.WideShapes Go.ChangeAt Go.RowKit Go.Joins
open Go.ChangeMaps (open_string)

theorem octetSums_holds : Rows.OctetSumsUptoCardSaid := octetSumsFrame.card_of_walk (by
  intro H enc W base v0 d0 p0 k0 h0 hL hk
  obtain ⟨s, rfl, rfl, _, _⟩ := open_string Tryd.underlying9 k0 h0
  have hu := bulk_all hk
  have hs := bulk_str (H := H) s
  simp only [Rows.uptoBulkAll] at hu
  exact sums_w s (by omega) W (tabW_of hL))
end Go.Proofs.YtlfgfjljddjncaaDoor
