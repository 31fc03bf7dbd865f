/- The statement on the numbers read from texts. -/
import Derived.Test.YtnkfimpfnofhnaaDoorNumRl
import Derived.Test.YtnkfimpfnofhnaaDoorNumLaid
import Derived.Test.YtnkfimpfnofhnaaDoorBulk
import Derived.Test.YtnkfimpfnofhnaaDoorNumReadsFrame
namespace Go.Proofs.YtnkfimpfnofhnaaDoor
set_option linter.unusedVariables false
open Go.ChangeShapes Go.WideShapes Go.ChangeAt Go.RowKit Go.Joins
open Go.ChangeMaps (open_string)

theorem numReads_holds : Rows.NumReadsUptoCardSaid := numReadsFrame.card_of_walk (by
  intro H enc W base v0 d0 p0 k0 h0 hL hk
  obtain ⟨s, rfl, rfl, _, _⟩ := open_string Tryd.underlying9 k0 h0
  have hb := bulk_all hk
  have hs := bulk_str (H := H) s
  have hm := bulk_mem (d := DataW.lit (H := H) (.string s.data.toList)) (l := [.lit (.string s.data.toList)]) (List.mem_singleton.2 rfl)
  exact reads_w s (by omega) W (numW_of hL))
end Go.Proofs.YtnkfimpfnofhnaaDoor
